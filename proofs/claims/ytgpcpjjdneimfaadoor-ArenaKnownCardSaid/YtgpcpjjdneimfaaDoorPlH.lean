/- ArenaPlays: the reference's Get. -/
import Derived.Test.YtgpcpjjdneimfaaDoorPlG
namespace Go.Proofs.YtgpcpjjdneimfaaDoor
open Go.ChangeShapes Go.WideShapes Go.ChangeAt Go.RowKit

/-- The node of a place, as the reference tells it: of the reference's own memory. -/
def RGetP (w : World) (F : Nat → Prop) (L : List Ar.Pl) (h : Int × Int) (e : Ending) (w' : World) : Prop :=
  Below w.heap.size w w' ∧ if Ar.has L h then ∃ p v, L[h.1.toNat]? = some p ∧ e = .returned (.tuple #[v.val p.nd.leaf, .int .i64 0]) ∧ NdIn w' F v p.nd else e = .returned (.tuple #[.agg #[.bool false, .slice none 0 0, .slice none 0 0, .slice none 0 0], .int .i64 110])
theorem get_made (w : World) (A : Option Addr) (n c : Nat) (x1 x2 : Int) : ∃ W a r s, ((w.alloc (.cells #[.slice A n c] 29)).alloc (.cells #[.int .i64 x1, .int .i64 x2] 51)).alloc (.cells #[.bool false, .slice none 0 0, .slice none 0 0, .slice none 0 0] 48) = W ∧ w.heap.size = a ∧ w.heap.size + 1 = r ∧ w.heap.size + 1 + 1 = s ∧ Below w.heap.size w W ∧ Blk W a 29 #[.slice A n c] ∧ Blk W r 51 #[.int .i64 x1, .int .i64 x2] ∧ Blk W s 48 #[.bool false, .slice none 0 0, .slice none 0 0, .slice none 0 0] := by
  have H1 := (Held.start w).new #[.slice A n c] 29
  have H2 := H1.new #[.int .i64 x1, .int .i64 x2] 51
  have H3 := H2.new #[.bool false, .slice none 0 0, .slice none 0 0, .slice none 0 0] 48
  simp only [show ∀ (X : World) (o : Obj), (X.alloc o).heap.size = X.heap.size + 1 from fun X o => by simp] at H3
  exact ⟨_, _, _, _, rfl, rfl, rfl, rfl, H3.1, H3.at_ (by simp), H3.at_ (by simp), H3.at_ (by simp)⟩
set_option maxRecDepth 100000 in
theorem refGet_any (w : World) (F : Nat → Prop) (A : Option Addr) (n c : Nat) (L : List Ar.Pl) (h : PlIn w F A n L) (x1 x2 : Int) : Calls Tryd.prog 14 #[.agg #[.slice A n c], .agg #[.int .i64 x1, .int .i64 x2]] w (RGetP w F L (x1, x2)) := by
  obtain ⟨W, a, r, s, hW, ha, hr, hs, hB, hbox, hhan, hnd⟩ := get_made w A n c x1 x2
  have hln := h.len
  have H := Lib.hid (And.intro hW (And.intro ha (And.intro hr (And.intro hs (And.intro hB (And.intro hbox (And.intro hhan (And.intro hnd (And.intro h hln)))))))))
  have a0 := hbox.cell 0
  have d0 := hhan.cell 0
  have d1 := hhan.cell 1
  simp only [List.getElem?_toArray, List.getElem?_cons_zero, List.getElem?_cons_succ] at a0 d0 d1
  have HC := Lib.hid (refHas_any W F A n c L (h.below hB) x1 x2)
  clear hW ha hr hs hB hbox hhan hnd h hln
  go_enter Tryd.func14, Tryd.ntmps14
  go_upto_region 1 with fail
  rw [H.out.1, H.out.2.2.2.1, H.out.2.2.1, H.out.2.1]
  go_wp2_with fail
  refine HC.out.mono ?_
  clear a0 d0 d1
  rintro e X ⟨rfl, bX⟩
  have hbox := H.out.2.2.2.2.2.1.below bX H.out.2.2.2.2.2.1.lt
  have hhan := H.out.2.2.2.2.2.2.1.below bX H.out.2.2.2.2.2.2.1.lt
  have hnd := H.out.2.2.2.2.2.2.2.1.below bX H.out.2.2.2.2.2.2.2.1.lt
  have hPl := ((H.out.2.2.2.2.2.2.2.2.1.mono (G := fun b => F b ∧ b < w.heap.size) (fun b hb hf => ⟨hf, hb⟩)).below H.out.2.2.2.2.1).below bX
  have hB := below_next H.out.2.2.2.2.1 bX
  have hs := H.out.2.2.2.1
  have y0 := hnd.cell 0
  have y1 := hnd.cell 1
  have y2 := hnd.cell 2
  have y3 := hnd.cell 3
  have f0 := hnd.frozen 0
  have f1 := hnd.frozen 1
  have f2 := hnd.frozen 2
  have f3 := hnd.frozen 3
  have a0 := hbox.cell 0
  have d0 := hhan.cell 0
  have d1 := hhan.cell 1
  simp only [List.getElem?_toArray, List.getElem?_cons_zero, List.getElem?_cons_succ] at a0 d0 d1 y0 y1 y2 y3
  cases hh : Ar.has L (x1, x2) with
  | false =>
    have HH := Lib.hid (And.intro hh (And.intro hnd (And.intro hB hs)))
    clear hh hbox hhan hnd hPl hB hs bX a0 d0 d1
    go_wp2_with fail
    change bodyPost _ _ _ _ _ (setNode X s 0 (.bool false) (.slice none 0 0) (.slice none 0 0) (.slice none 0 0))
    have hU := HH.out.2.1.node (.bool false) (.slice none 0 0) (.slice none 0 0) (.slice none 0 0)
    have hT : Turns (fun x => x = s) X (setNode X s 0 (.bool false) (.slice none 0 0) (.slice none 0 0) (.slice none 0 0)) := setNode_turn (Turns.refl _ _) 0 _ _ _ _ (fun _ => rfl)
    obtain ⟨U, hUe⟩ : ∃ U, setNode X s 0 (.bool false) (.slice none 0 0) (.slice none 0 0) (.slice none 0 0) = U := ⟨_, rfl⟩
    rw [hUe] at hU hT ⊢
    clear y0 y1 y2 y3 f0 f1 f2 f3
    have y0 := hU.cell 0
    have y1 := hU.cell 1
    have y2 := hU.cell 2
    have y3 := hU.cell 3
    simp only [List.getElem?_toArray, List.getElem?_cons_zero, List.getElem?_cons_succ] at y0 y1 y2 y3
    refine bodyPost_ret (v := .tuple #[.agg #[.bool false, .slice none 0 0, .slice none 0 0, .slice none 0 0], .int .i64 110]) ?_ rfl ⟨?_, ?_⟩
    · simp [results, Tryd.results14, go_sem, y0, y1, y2, y3]
    · have hs := HH.out.2.2.2
      exact ((Turns.of_below (F := fun x => w.heap.size ≤ x) HH.out.2.2.1).trans (hT.mono (by rintro x _ rfl; omega))).below (Nat.le_refl _) (fun x hx => hx)
    · rw [if_neg (by rw [HH.out.1]; decide)]
  | true =>
    obtain ⟨i, rfl⟩ : ∃ i : Nat, x1 = (i : Int) := by
      unfold Ar.has at hh
      rw [Bool.and_eq_true, decide_eq_true_eq] at hh
      exact Int.eq_ofNat_of_zero_le hh.1
    have hil : i < L.length := Ar.has_lt _ _ hh
    obtain ⟨p, hp⟩ : ∃ p, L[i]? = some p := ⟨_, List.getElem?_eq_getElem hil⟩
    have hln := H.out.2.2.2.2.2.2.2.2.2
    have i1 : (0 : Int) ≤ (i : Int) := by omega
    have i2 : (i : Int) < (n : Int) := by omega
    obtain ⟨b, off, v, rfl, hv, hc⟩ := hPl.at_ hp
    obtain ⟨A1, n1, c1, A2, n2, c2, A3, n3, c3⟩ := v
    have e2 := hc 2 (by omega)
    have e3 := hc 3 (by omega)
    have e4 := hc 4 (by omega)
    have e5 := hc 5 (by omega)
    simp only [rowP, List.getElem?_cons_zero, List.getElem?_cons_succ] at e2 e3 e4 e5
    obtain ⟨lf, hlf⟩ : ∃ lf, p.nd.leaf = lf := ⟨_, rfl⟩
    rw [hlf] at e2
    have HH := Lib.hid (And.intro hh (And.intro hnd (And.intro hB (And.intro hs (And.intro hp (And.intro hv hlf))))))
    clear hh hbox hhan hnd hPl hB hs bX hc hv hp hil hln d1 hlf
    go_wp2_with fail
    change bodyPost _ _ _ _ _ (setNode X s 0 (.bool lf) (.slice A1 n1 c1) (.slice A2 n2 c2) (.slice A3 n3 c3))
    have hU := HH.out.2.1.node (.bool lf) (.slice A1 n1 c1) (.slice A2 n2 c2) (.slice A3 n3 c3)
    have hT : Turns (fun x => x = s) X (setNode X s 0 (.bool lf) (.slice A1 n1 c1) (.slice A2 n2 c2) (.slice A3 n3 c3)) := setNode_turn (Turns.refl _ _) 0 _ _ _ _ (fun _ => rfl)
    obtain ⟨U, hUe⟩ : ∃ U, setNode X s 0 (.bool lf) (.slice A1 n1 c1) (.slice A2 n2 c2) (.slice A3 n3 c3) = U := ⟨_, rfl⟩
    rw [hUe] at hU hT ⊢
    clear y0 y1 y2 y3 f0 f1 f2 f3
    have y0 := hU.cell 0
    have y1 := hU.cell 1
    have y2 := hU.cell 2
    have y3 := hU.cell 3
    simp only [List.getElem?_toArray, List.getElem?_cons_zero, List.getElem?_cons_succ] at y0 y1 y2 y3
    obtain ⟨hh, hnd, hB, hs, hp, hv, hlf⟩ := HH.out
    refine bodyPost_ret (v := .tuple #[.agg #[.bool lf, .slice A1 n1 c1, .slice A2 n2 c2, .slice A3 n3 c3], .int .i64 0]) ?_ rfl ⟨?_, ?_⟩
    · simp [results, Tryd.results14, go_sem, y0, y1, y2, y3]
    · exact ((Turns.of_below (F := fun x => w.heap.size ≤ x) hB).trans (hT.mono (by rintro x _ rfl; omega))).below (Nat.le_refl _) (fun x hx => hx)
    · rw [if_pos hh]
      exact ⟨p, ⟨A1, n1, c1, A2, n2, c2, A3, n3, c3⟩, hp, by rw [hlf]; rfl, (hv.turn hT (fun x hx e => by omega)).mono (fun x _ hx => hx.1)⟩
end Go.Proofs.YtgpcpjjdneimfaaDoor
