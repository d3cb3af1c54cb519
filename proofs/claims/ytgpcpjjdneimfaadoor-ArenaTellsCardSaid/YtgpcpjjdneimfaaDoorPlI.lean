/- ArenaPlays: the reference's Put. -/
import Derived.Test.YtgpcpjjdneimfaaDoorPlH
namespace Go.Proofs.YtgpcpjjdneimfaaDoor
open Go.ChangeShapes Go.WideShapes Go.ChangeAt Go.RowKit

/-- An arena of the reference, and an answer. -/
def RArP (w : World) (F : Nat → Prop) (L : List Ar.Pl) (r : Int) (e : Ending) (w' : World) : Prop :=
  ∃ A n c, e = .returned (.tuple #[.agg #[.slice A n c], .int .i64 r]) ∧ PlIn w' (fun b => F b ∨ w.heap.size ≤ b) A n L ∧ Below w.heap.size w w'
def RPutP (w : World) (F : Nat → Prop) (L : List Ar.Pl) (x : Int × Int) (d : Ar.Nd) (e : Ending) (w' : World) : Prop :=
  (∃ (i : Nat) (p : Ar.Pl), x = ((i : Int), (p.turn : Int)) ∧ L[i]? = some p ∧ p.used = true ∧ RArP w F (L.set i ⟨true, p.turn, d⟩) 0 e w') ∨ (Ar.has L x = false ∧ RArP w F L 110 e w')
theorem put_made (w : World) (A : Option Addr) (n c : Nat) (x1 x2 : Int) (u0 u1 u2 u3 : Value) : ∃ W a r d s, (((w.alloc (.cells #[.slice A n c] 29)).alloc (.cells #[.int .i64 x1, .int .i64 x2] 51)).alloc (.cells #[u0, u1, u2, u3] 48)).alloc (.cells #[.slice none 0 0] 29) = W ∧ w.heap.size = a ∧ w.heap.size + 1 = r ∧ w.heap.size + 1 + 1 = d ∧ w.heap.size + 1 + 1 + 1 = s ∧ Below w.heap.size w W ∧ Blk W a 29 #[.slice A n c] ∧ Blk W r 51 #[.int .i64 x1, .int .i64 x2] ∧ Blk W d 48 #[u0, u1, u2, u3] ∧ Blk W s 29 #[.slice none 0 0] := by
  have H1 := (Held.start w).new #[.slice A n c] 29
  have H2 := H1.new #[.int .i64 x1, .int .i64 x2] 51
  have H3 := H2.new #[u0, u1, u2, u3] 48
  have H4 := H3.new #[.slice none 0 0] 29
  simp only [show ∀ (X : World) (o : Obj), (X.alloc o).heap.size = X.heap.size + 1 from fun X o => by simp] at H4
  exact ⟨_, _, _, _, _, rfl, rfl, rfl, rfl, rfl, H4.1, H4.at_ (by simp), H4.at_ (by simp), H4.at_ (by simp), H4.at_ (by simp)⟩
set_option maxRecDepth 100000 in
theorem refPut_any (w : World) (F : Nat → Prop) (A : Option Addr) (n c : Nat) (L : List Ar.Pl) (h : PlIn w F A n L) (hn : n ≤ 1000000) (x1 x2 : Int) (v : NdV) (d : Ar.Nd) (hv : NdIn w F v d) : Calls Tryd.prog 30 #[.agg #[.slice A n c], .agg #[.int .i64 x1, .int .i64 x2], v.val d.leaf] w (RPutP w F L (x1, x2) d) := by
  obtain ⟨A1, n1, c1, A2, n2, c2, A3, n3, c3⟩ := v
  obtain ⟨lf, hlf⟩ : ∃ lf, d.leaf = lf := ⟨_, rfl⟩
  obtain ⟨W, a, r, q, s, hW, ha, hr, hq, hs, hB, hbox, hhan, hnod, hres⟩ := put_made w A n c x1 x2 (.bool lf) (.slice A1 n1 c1) (.slice A2 n2 c2) (.slice A3 n3 c3)
  have hln := h.len
  have HK := Lib.hid (And.intro hW (And.intro ha (And.intro hr (And.intro hq (And.intro hs hB)))))
  have HM := Lib.hid (And.intro hbox (And.intro hhan (And.intro hnod hres)))
  have HP := Lib.hid (And.intro h (And.intro hv (And.intro hln hlf)))
  have a0 := hbox.cell 0
  have d0 := hhan.cell 0
  have d1 := hhan.cell 1
  simp only [List.getElem?_toArray, List.getElem?_cons_zero, List.getElem?_cons_succ] at a0 d0 d1
  have HC := Lib.hid (refHas_any W F A n c L (h.below hB) x1 x2)
  show Calls Tryd.prog _ #[.agg #[.slice A n c], .agg #[.int .i64 x1, .int .i64 x2], .agg #[.bool d.leaf, .slice A1 n1 c1, .slice A2 n2 c2, .slice A3 n3 c3]] w _
  rw [hlf]
  clear hW ha hr hq hs hB hbox hhan hnod hres h hln hv hlf
  go_enter Tryd.func30, Tryd.ntmps30
  go_upto_region 1 with fail
  rw [HK.out.1, HK.out.2.2.2.2.1, HK.out.2.2.2.1, HK.out.2.2.1, HK.out.2.1]
  go_wp2_with fail
  refine HC.out.mono ?_
  clear a0 d0 d1
  rintro e X ⟨rfl, bX⟩
  have hbox := HM.out.1.below bX HM.out.1.lt
  have hhan := HM.out.2.1.below bX HM.out.2.1.lt
  have hnod := HM.out.2.2.1.below bX HM.out.2.2.1.lt
  have hres := HM.out.2.2.2.below bX HM.out.2.2.2.lt
  have hB := below_next HK.out.2.2.2.2.2 bX
  have hPl := (HP.out.1.mono (G := fun b => F b ∧ b < w.heap.size) (fun b hb hf => ⟨hf, hb⟩)).below hB
  have hNd := (HP.out.2.1.mono (G := fun b => F b ∧ b < w.heap.size) (fun b hb hf => ⟨hf, hb⟩)).below hB
  have a0 := hbox.cell 0
  have d0 := hhan.cell 0
  have d1 := hhan.cell 1
  have e0 := hnod.cell 0
  have e1 := hnod.cell 1
  have e2 := hnod.cell 2
  have e3 := hnod.cell 3
  have y0 := hres.cell 0
  have f0 := hres.frozen 0
  simp only [List.getElem?_toArray, List.getElem?_cons_zero, List.getElem?_cons_succ] at a0 d0 d1 e0 e1 e2 e3 y0
  cases hh : Ar.has L (x1, x2) with
  | false =>
    obtain ⟨U, hU⟩ : ∃ U, X.setCell ⟨s, 0, none⟩ (.slice A n c) = U := ⟨_, rfl⟩
    have tU : Turns (fun x => x = s) X U := hU ▸ (Turns.refl (fun x => x = s) X).setCell (g := s) _ _ (fun _ => rfl)
    have bU : Blk U s 29 #[.slice A n c] := hU ▸ hres.set_ 0 _
    have x0 := bU.cell 0
    simp only [List.getElem?_toArray, List.getElem?_cons_zero] at x0
    have HF := Lib.hid (And.intro hPl (And.intro hB (And.intro tU (And.intro hU hh))))
    clear hPl hB tU hU bU hbox hhan hnod hres hNd hh bX
    go_wp2_with fail
    rw [HF.out.2.2.2.1]
    refine bodyPost_ret (v := .tuple #[.agg #[.slice A n c], .int .i64 110]) ?_ rfl (.inr ⟨HF.out.2.2.2.2, A, n, c, rfl, ?_, ?_⟩)
    · simp [results, Tryd.results30, go_sem, x0]
    · have hs := HK.out.2.2.2.2.1
      exact (HF.out.1.turn HF.out.2.2.1 (fun x hx e => by omega)).mono (fun x _ hx => .inl hx.1)
    · have hs := HK.out.2.2.2.2.1
      exact ((Turns.of_below (F := fun x => w.heap.size ≤ x) HF.out.2.1).trans (HF.out.2.2.1.mono (by rintro x _ rfl; omega))).below (Nat.le_refl _) (fun x hx => hx)
  | true =>
    obtain ⟨i, rfl⟩ : ∃ i : Nat, x1 = (i : Int) := by
      unfold Ar.has at hh
      rw [Bool.and_eq_true, decide_eq_true_eq] at hh
      exact Int.eq_ofNat_of_zero_le hh.1
    have hil : i < L.length := Ar.has_lt _ _ hh
    have hln := HP.out.2.2.1
    obtain ⟨p, hp, hpu, rfl⟩ : ∃ p : Ar.Pl, L[i]? = some p ∧ p.used = true ∧ x2 = (p.turn : Int) := by
      unfold Ar.has at hh
      rw [Bool.and_eq_true] at hh
      have h2 := hh.2
      obtain ⟨p, hp⟩ : ∃ p, L[i]? = some p := ⟨_, List.getElem?_eq_getElem hil⟩
      simp only [Int.toNat_natCast, hp, Bool.and_eq_true, decide_eq_true_eq] at h2
      exact ⟨p, hp, h2.1, h2.2.symm⟩
    obtain ⟨t, ht⟩ : ∃ t, p.turn = t := ⟨_, rfl⟩
    have hset : Ar.put L i ⟨true, t, d⟩ = L.set i ⟨true, p.turn, d⟩ := by rw [Ar.put, if_neg (by omega), ht]
    have HW := Lib.hid (with_any X _ A n c L hPl i (by omega) ⟨true, t, d⟩ ⟨A1, n1, c1, A2, n2, c2, A3, n3, c3⟩ hNd hn)
    have HF := Lib.hid (And.intro hres (And.intro hB (And.intro hp (And.intro hpu (And.intro ht hset)))))
    rw [ht] at d1 ⊢
    clear hPl hB hbox hhan hnod hres hNd hh bX hil hln hp hpu ht hset
    go_wp2_with fail
    have HW2 := HW.out
    change Calls Tryd.prog _ #[.agg #[.slice A n c], .int .i64 (i : Int), .agg #[.bool true, .int .i64 (t : Int), .bool d.leaf, .slice A1 n1 c1, .slice A2 n2 c2, .slice A3 n3 c3]] X _ at HW2
    rw [HP.out.2.2.2] at HW2
    refine HW2.mono ?_
    rintro e Y ⟨A', n', c', rfl, hPY, bY⟩
    clear HW2 a0 d0 d1 e0 e1 e2 e3 y0 f0
    have hres := HF.out.1.below bY HF.out.1.lt
    have hB := below_next HF.out.2.1 bY
    have y0 := hres.cell 0
    have f0 := hres.frozen 0
    obtain ⟨U, hU⟩ : ∃ U, Y.setCell ⟨s, 0, none⟩ (.slice A' n' c') = U := ⟨_, rfl⟩
    have tU : Turns (fun x => x = s) Y U := hU ▸ (Turns.refl (fun x => x = s) Y).setCell (g := s) _ _ (fun _ => rfl)
    have bU : Blk U s 29 #[.slice A' n' c'] := hU ▸ hres.set_ 0 _
    have x0 := bU.cell 0
    simp only [List.getElem?_toArray, List.getElem?_cons_zero] at x0 y0
    have HG := Lib.hid (And.intro hPY (And.intro hB (And.intro tU (And.intro hU hres.lt))))
    clear hPY hB tU hU bU hres bY
    go_wp2_with fail
    rw [HG.out.2.2.2.1]
    have hs := HK.out.2.2.2.2.1
    have hsX := HF.out.1.lt
    refine bodyPost_ret (v := .tuple #[.agg #[.slice A' n' c'], .int .i64 0]) ?_ rfl (.inl ⟨i, p, by rw [HF.out.2.2.2.2.1], HF.out.2.2.1, HF.out.2.2.2.1, A', n', c', rfl, ?_, ?_⟩)
    · simp [results, Tryd.results30, go_sem, x0]
    · rw [← HF.out.2.2.2.2.2]
      exact (HG.out.1.turn HG.out.2.2.1 (fun x hx e => by omega)).mono (fun x _ hx => hx.elim (fun h => .inl h.1) (fun h => .inr (by omega)))
    · exact ((Turns.of_below (F := fun x => w.heap.size ≤ x) HG.out.2.1).trans (HG.out.2.2.1.mono (by rintro x _ rfl; omega))).below (Nat.le_refl _) (fun x hx => hx)
end Go.Proofs.YtgpcpjjdneimfaaDoor
