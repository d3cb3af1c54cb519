/- ArenaPlays: the reference's Free. -/
import Derived.Test.YtgpcpjjdneimfaaDoorPlJ
import Derived.StillTailTactics
namespace Go.Proofs.YtgpcpjjdneimfaaDoor
open Go.ChangeShapes Go.WideShapes Go.ChangeAt Go.RowKit

theorem free_append (L : List Ar.Pl) (a b : List (Int × Int)) : Ar.free L (a ++ b) = (Ar.free L a).bind fun L' => Ar.free L' b := by
  induction a generalizing L with
  | nil => rfl
  | cons x r ih =>
    show (if Ar.has L x then Ar.free (Ar.free1 L x) (r ++ b) else none) = _
    have e : Ar.free L (x :: r) = if Ar.has L x then Ar.free (Ar.free1 L x) r else none := rfl
    rw [e]
    split
    · exact ih _
    · rfl
theorem free_step {L L' : List Ar.Pl} {l : List (Int × Int)} {j : Nat} {x : Int × Int} (h : Ar.free L (l.take j) = some L') (hx : l[j]? = some x) (hh : Ar.has L' x = true) : Ar.free L (l.take (j + 1)) = some (Ar.free1 L' x) := by
  have hj := (List.getElem?_eq_some_iff.1 hx).1
  rw [List.take_succ_eq_append_getElem hj, free_append, h]
  rw [List.getElem?_eq_getElem hj] at hx
  rw [Option.some.inj hx]
  show (if Ar.has L' x then some (Ar.free1 L' x) else none) = _
  rw [if_pos hh]
theorem free_stop {L L' : List Ar.Pl} {l : List (Int × Int)} {j : Nat} {x : Int × Int} (h : Ar.free L (l.take j) = some L') (hx : l[j]? = some x) (hh : Ar.has L' x = false) : Ar.free L l = none := by
  have hj := (List.getElem?_eq_some_iff.1 hx).1
  conv => lhs; rw [← List.take_append_drop j l]
  rw [free_append, h, List.drop_eq_getElem_cons hj]
  rw [List.getElem?_eq_getElem hj] at hx
  rw [Option.some.inj hx]
  show (if Ar.has L' x then _ else none) = _
  rw [if_neg (by rw [hh]; decide)]
def RFreeP (w : World) (F : Nat → Prop) (L : List Ar.Pl) (l : List (Int × Int)) (e : Ending) (w' : World) : Prop :=
  (∃ L', Ar.free L l = some L' ∧ RArP w F L' 0 e w') ∨ (Ar.free L l = none ∧ RArP w F L 110 e w')
theorem free_made (w : World) (A : Option Addr) (n c : Nat) : ∃ W a s o, ((w.alloc (.cells #[.slice A n c] 29)).alloc (.cells #[.slice none 0 0] 29)).alloc (.cells #[.slice A n c] 29) = W ∧ w.heap.size = a ∧ w.heap.size + 1 = s ∧ w.heap.size + 1 + 1 = o ∧ Below w.heap.size w W ∧ Blk W a 29 #[.slice A n c] ∧ Blk W s 29 #[.slice none 0 0] ∧ Blk W o 29 #[.slice A n c] ∧ W.heap.size = w.heap.size + 3 := by
  have H1 := (Held.start w).new #[.slice A n c] 29
  have H2 := H1.new #[.slice none 0 0] 29
  have H3 := H2.new #[.slice A n c] 29
  simp only [show ∀ (X : World) (o : Obj), (X.alloc o).heap.size = X.heap.size + 1 from fun X o => by simp] at H3
  exact ⟨_, _, _, _, rfl, rfl, rfl, rfl, H3.1, H3.at_ (by simp), H3.at_ (by simp), H3.at_ (by simp), by simp⟩
theorem free_len {L L' : List Ar.Pl} {l : List (Int × Int)} (h : Ar.free L l = some L') : L'.length = L.length := by
  induction l generalizing L with
  | nil => cases h; rfl
  | cons x r ih =>
    have e : Ar.free L (x :: r) = if Ar.has L x then Ar.free (Ar.free1 L x) r else none := rfl
    rw [e] at h
    split at h
    · rename_i hh
      rw [ih h, Ar.free1, Ar.put_length, if_neg (by have := Ar.has_lt _ _ hh; omega)]
    · cases h
set_option maxRecDepth 100000 in
theorem refFree_any (w : World) (F Fl : Nat → Prop) (A : Option Addr) (n c : Nat) (L : List Ar.Pl) (h : PlIn w F A n L) (hn : n ≤ 1000000) (Al : Option Addr) (m cl : Nat) (l : List (Int × Int)) (hl : Cells w Fl Al m 2 (hanL l)) (hm : m ≤ 1000000) : Calls Tryd.prog 31 #[.agg #[.slice A n c], .slice Al m cl] w (RFreeP w F L l) := by
  obtain ⟨W, a, s, o, hW, ha, hs, ho, hB, hbox, hres, hout, hWs⟩ := free_made w A n c
  have hln : l.length = m := by have := hl.1; rw [hanL_len] at this; omega
  have hPl := (h.mono (G := fun b => (F b ∧ b < w.heap.size) ∨ W.heap.size ≤ b) (fun b hb hf => .inl ⟨hf, hb⟩)).below hB
  have hlW := (hl.mono (G := fun b => b < w.heap.size) (fun b hb _ => hb)).below hB
  have HK := Lib.hid (And.intro hW (And.intro ha (And.intro hs (And.intro ho (And.intro hWs (And.intro hB (And.intro hbox hlW)))))))
  have HP := Lib.hid (And.intro h hln)
  have HS := Lib.hid (And.intro hres (And.intro hout hPl))
  clear hW ha hs ho hB hbox hres hout h hl hln hPl hlW hWs
  go_enter Tryd.func31, Tryd.ntmps31
  go_upto_region 2 with fail
  rw [HK.out.1, HK.out.2.2.2.1, HK.out.2.2.1, HK.out.2.1]
  go_wp2_with fail
  go_loopw [7] (fun i wr => ∃ (j : Nat) (A' : Option Addr) (n' c' : Nat) (L' : List Ar.Pl), j ≤ m ∧ i = .int .i64 (j : Int) ∧ Below w.heap.size w wr ∧ Turns (fun x => x = o) W wr ∧ Blk wr o 29 #[.slice A' n' c'] ∧ PlIn wr (fun b => (F b ∧ b < w.heap.size) ∨ W.heap.size ≤ b) A' n' L' ∧ Ar.free L (l.take j) = some L') (fun i _ => m - (intOf i).toNat)
  case atStart => exact ⟨0, A, n, c, L, by omega, rfl, HK.out.2.2.2.2.2.1, Turns.refl _ _, HS.out.2.1, HS.out.2.2, rfl⟩
  case round =>
    obtain ⟨j, A', n', c', L', hj, rfl, hB, hT, hout, hPl, hfr⟩ := hrel
    have hao : a ≠ o := by have h1 := HK.out.2.1; have h2 := HK.out.2.2.2.1; omega
    have hso : s ≠ o := by have h1 := HK.out.2.2.1; have h2 := HK.out.2.2.2.1; omega
    have hbox := hT.blk HK.out.2.2.2.2.2.2.1 hao
    have hres := hT.blk HS.out.1 hso
    have i1 : (0 : Int) ≤ (j : Int) := by omega
    have x0 := hout.cell 0
    have y0 := hres.cell 0
    have f0 := hres.frozen 0
    have a0 := hbox.cell 0
    simp only [List.getElem?_toArray, List.getElem?_cons_zero] at x0 y0 a0
    by_cases hlt : j < m
    · have i2 : (j : Int) < (m : Int) := by omega
      obtain ⟨x, hx⟩ : ∃ x, l[j]? = some x := ⟨_, List.getElem?_eq_getElem (by rw [HP.out.2]; exact hlt)⟩
      obtain ⟨b, off, rfl, hbl, -, hc⟩ := (HK.out.2.2.2.2.2.2.2.turn hT (fun x hx e => by have h2 := HK.out.2.2.2.1; omega)).at_ hlt
      have hx2 := hanL_at l j x hx
      obtain ⟨v1, v2⟩ := x
      have z0 : wr.cell? ⟨b, off + j * 2, none⟩ = some (.int .i64 v1) := (hc 0 (by omega)).trans hx2.1
      have z1 : wr.cell? ⟨b, off + j * 2 + 1, none⟩ = some (.int .i64 v2) := (hc 1 (by omega)).trans hx2.2
      have HR := Lib.hid (And.intro hB (And.intro hT (And.intro hout (And.intro hPl (And.intro hfr (And.intro hbox (And.intro hres hx)))))))
      have HC := Lib.hid (refHas_any wr.drew _ A' n' c' L' (hPl.below (below_drewN (Below.refl _ _) 1)) v1 v2)
      clear hB hT hout hPl hfr hbox hres hx hx2 hc
      go_wp2_with fail
      go_still_tail 5, (by kernel_rfl)
      change wpList _ _ _ _ _ wr.drew
      obtain ⟨w2, hw2⟩ : ∃ w2, wr.drew = w2 := ⟨_, rfl⟩
      have b2 : Below w.heap.size w w2 := hw2 ▸ HR.out.1.drew
      have T2 : Turns (fun x => x = o) W w2 := hw2 ▸ HR.out.2.1.drew
      have out2 : Blk w2 o 29 #[.slice A' n' c'] := hw2 ▸ HR.out.2.2.1
      have box2 : Blk w2 a 29 #[.slice A n c] := hw2 ▸ HR.out.2.2.2.2.2.1
      have res2 : Blk w2 s 29 #[.slice none 0 0] := hw2 ▸ HR.out.2.2.2.2.2.2.1
      have Pl2 : PlIn w2 (fun b => (F b ∧ b < w.heap.size) ∨ W.heap.size ≤ b) A' n' L' := hw2 ▸ HR.out.2.2.2.1.below (below_drewN (Below.refl _ _) 1)
      have q0 : w2.cell? ⟨b, off + j * 2, none⟩ = some (.int .i64 v1) := by rw [← hw2]; exact z0
      have q1 : w2.cell? ⟨b, off + j * 2 + 1, none⟩ = some (.int .i64 v2) := by rw [← hw2]; exact z1
      have hfr := HR.out.2.2.2.2.1
      have hx := HR.out.2.2.2.2.2.2.2
      have hbw : b < w2.heap.size := by have h1 := b2.size; omega
      rw [hw2] at HC ⊢
      clear x0 y0 f0 a0 z0 z1 HR hw2
      have x0 := out2.cell 0
      simp only [List.getElem?_toArray, List.getElem?_cons_zero] at x0
      have HR := Lib.hid (And.intro b2 (And.intro T2 (And.intro out2 (And.intro box2 (And.intro res2 (And.intro Pl2 (And.intro hfr (And.intro hx hbw))))))))
      clear b2 T2 out2 box2 res2 Pl2 hfr hx hbw
      go_wp2_with fail
      refine HC.out.mono ?_
      rintro e X ⟨rfl, bX⟩
      have e0 : X.cell? ⟨b, off + j * 2, none⟩ = some (.int .i64 v1) := (bX.cell (p := ⟨b, off + j * 2, none⟩) HR.out.2.2.2.2.2.2.2.2).trans q0
      have e1 : X.cell? ⟨b, off + j * 2 + 1, none⟩ = some (.int .i64 v2) := (bX.cell (p := ⟨b, off + j * 2 + 1, none⟩) HR.out.2.2.2.2.2.2.2.2).trans q1
      clear x0 q0 q1
      have hB := below_next HR.out.1 bX
      have hT : Turns (fun x => x = o) W X := HR.out.2.1.trans (Turns.of_below bX)
      have hout := HR.out.2.2.1.below bX HR.out.2.2.1.lt
      have hbox := HR.out.2.2.2.1.below bX HR.out.2.2.2.1.lt
      have hres := HR.out.2.2.2.2.1.below bX HR.out.2.2.2.2.1.lt
      have hPl := HR.out.2.2.2.2.2.1.below bX
      have x0 := hout.cell 0
      have y0 := hres.cell 0
      have f0 := hres.frozen 0
      have f1 := hout.frozen 0
      have a0 := hbox.cell 0
      simp only [List.getElem?_toArray, List.getElem?_cons_zero] at x0 y0 a0
      cases hh : Ar.has L' (v1, v2) with
      | false =>
        obtain ⟨U, hU⟩ : ∃ U, X.setCell ⟨s, 0, none⟩ (.slice A n c) = U := ⟨_, rfl⟩
        have tU : Turns (fun x => x = s) X U := hU ▸ (Turns.refl (fun x => x = s) X).setCell (g := s) _ _ (fun _ => rfl)
        have bU : Blk U s 29 #[.slice A n c] := hU ▸ hres.set_ 0 _
        have u0 := bU.cell 0
        simp only [List.getElem?_toArray, List.getElem?_cons_zero] at u0
        have HF := Lib.hid (And.intro hB (And.intro tU (And.intro hU hh)))
        clear hB hT hout hbox hres hPl bX tU hU bU hh e0 e1
        go_wp2_with fail
        rw [HF.out.2.2.1]
        have hs := HK.out.2.2.1
        refine bodyPost_ret (v := .tuple #[.agg #[.slice A n c], .int .i64 110]) ?_ rfl (.inr ⟨free_stop HR.out.2.2.2.2.2.2.1 HR.out.2.2.2.2.2.2.2.1 HF.out.2.2.2, A, n, c, rfl, ?_, ?_⟩)
        · simp [results, Tryd.results31, go_sem, u0]
        · exact ((((HP.out.1.mono (G := fun b => F b ∧ b < w.heap.size) (fun b hb hf => ⟨hf, hb⟩)).below HF.out.1)).turn HF.out.2.1 (fun x hx e => by omega)).mono (fun x _ hx => .inl hx.1)
        · exact ((Turns.of_below (F := fun x => w.heap.size ≤ x) HF.out.1).trans (HF.out.2.1.mono (by rintro x _ rfl; omega))).below (Nat.le_refl _) (fun x hx => hx)
      | true =>
        obtain ⟨i, rfl⟩ : ∃ i : Nat, v1 = (i : Int) := by
          unfold Ar.has at hh
          rw [Bool.and_eq_true, decide_eq_true_eq] at hh
          exact Int.eq_ofNat_of_zero_le hh.1
        have hil : i < L'.length := Ar.has_lt _ _ hh
        obtain ⟨t, rfl⟩ : ∃ t : Nat, v2 = (t : Int) := by
          unfold Ar.has at hh
          rw [Bool.and_eq_true] at hh
          have h2 := hh.2
          obtain ⟨p, hp⟩ : ∃ p, L'[i]? = some p := ⟨_, List.getElem?_eq_getElem hil⟩
          simp only [Int.toNat_natCast, hp, Bool.and_eq_true, decide_eq_true_eq] at h2
          exact ⟨p.turn, h2.2.symm⟩
        have hn' : n' ≤ 1000000 := by
          have h1 := free_len HR.out.2.2.2.2.2.2.1
          have h2 := hPl.len
          have h3 := HP.out.1.len
          omega
        have hi' : i ≤ n' := by have h2 := hPl.len; omega
        have HW := Lib.hid (with_any X.drew _ A' n' c' L' (hPl.below (below_drewN (Below.refl _ _) 1)) i hi' ⟨false, t, Ar.Nd.blank⟩ NdV.blank (NdIn.blank _ _) hn')
        have HF := Lib.hid (And.intro hB (And.intro hT (And.intro hout (And.intro hbox (And.intro hres (And.intro hPl (And.intro hh bX)))))))
        clear hB hT hout hbox hres hPl bX hh hil hn' hi'
        go_wp2_with fail
        go_still_tail 12, (by kernel_rfl)
        change wpList _ _ _ _ _ X.drew
        obtain ⟨X2, hX2⟩ : ∃ X2, X.drew = X2 := ⟨_, rfl⟩
        rw [hX2] at HW ⊢
        have HX : Hid (Below X.heap.size X X2) := Lib.hid (hX2 ▸ below_drewN (Below.refl _ _) 1)
        clear hX2 x0 y0 f0 f1 a0 e0 e1
        go_wp2_with fail
        have HW2 := HW.out
        change Calls Tryd.prog _ #[.agg #[.slice A' n' c'], .int .i64 (i : Int), .agg #[.bool false, .int .i64 (t : Int), .bool false, .slice none 0 0, .slice none 0 0, .slice none 0 0]] X2 _ at HW2
        refine HW2.mono ?_
        rintro e Y ⟨A4, n4, c4, rfl, hPY, bY⟩
        clear HW2
        obtain ⟨hB, hT, hout, hbox, hres, hPl, hh, bX⟩ := HF.out
        have bXY : Below X.heap.size X Y := HX.out.trans (bY.mono HX.out.size)
        have hout := hout.below bXY hout.lt
        have hB := below_next hB bXY
        have hT : Turns (fun x => x = o) W Y := hT.trans (Turns.of_below bXY)
        have x0 := hout.cell 0
        have f1 := hout.frozen 0
        simp only [List.getElem?_toArray, List.getElem?_cons_zero] at x0
        obtain ⟨U, hU⟩ : ∃ U, Y.setCell ⟨o, 0, none⟩ (.slice A4 n4 c4) = U := ⟨_, rfl⟩
        have tU : Turns (fun x => x = o) Y U := hU ▸ (Turns.refl (fun x => x = o) Y).setCell (g := o) _ _ (fun _ => rfl)
        have bU : Blk U o 29 #[.slice A4 n4 c4] := hU ▸ hout.set_ 0 _
        have hXs : W.heap.size ≤ X2.heap.size := by
          have h1 := HR.out.2.1.size
          have h2 := bX.size
          have h3 := HX.out.size
          omega
        have hst : Ar.free L (l.take (j + 1)) = some (Ar.put L' i ⟨false, t, Ar.Nd.blank⟩) := free_step HR.out.2.2.2.2.2.2.1 HR.out.2.2.2.2.2.2.2.1 hh
        have HG := Lib.hid (And.intro hB (And.intro hT (And.intro tU (And.intro bU (And.intro hU (And.intro hPY (And.intro hXs hst)))))))
        clear hB hT tU bU hU hPY hXs hst hout hbox hres hPl hh bX bXY bY
        go_wp2_with fail
        obtain ⟨hB, hT, tU, bU, hU, hPY, hXs, hst⟩ := HG.out
        rw [hU]
        have ho := HK.out.2.2.2.1
        have hWs := HK.out.2.2.2.2.1
        refine ⟨⟨j + 1, A4, n4, c4, _, by omega, by go_num, ?_, hT.trans tU, bU, ?_, hst⟩, by simp [intOf]; omega⟩
        · exact ((Turns.of_below (F := fun x => w.heap.size ≤ x) hB).trans (tU.mono (by rintro x _ rfl; omega))).below (Nat.le_refl _) (fun x hx => hx)
        · exact (hPY.mono (G := fun b => (F b ∧ b < w.heap.size) ∨ W.heap.size ≤ b) (fun x _ hx => hx.elim (fun h => h) (fun h => .inr (by omega)))).turn tU (fun x hx e => by omega)
    · obtain rfl : j = m := by omega
      have hfr2 : Ar.free L l = some L' := by rw [List.take_of_length_le (by rw [HP.out.2]; exact Nat.le_refl _)] at hfr; exact hfr
      obtain ⟨U, hU⟩ : ∃ U, wr.setCell ⟨s, 0, none⟩ (.slice A' n' c') = U := ⟨_, rfl⟩
      have tU : Turns (fun x => x = s) wr U := hU ▸ (Turns.refl (fun x => x = s) wr).setCell (g := s) _ _ (fun _ => rfl)
      have bU : Blk U s 29 #[.slice A' n' c'] := hU ▸ hres.set_ 0 _
      have u0 := bU.cell 0
      simp only [List.getElem?_toArray, List.getElem?_cons_zero] at u0
      have HF := Lib.hid (And.intro hB (And.intro tU (And.intro hU (And.intro hPl hfr2))))
      clear hB hT hout hPl hfr hfr2 hbox hres tU hU bU
      go_wp2_with fail
      rw [HF.out.2.2.1]
      have hs := HK.out.2.2.1
      have hWs := HK.out.2.2.2.2.1
      refine bodyPost_ret (v := .tuple #[.agg #[.slice A' n' c'], .int .i64 0]) ?_ rfl (.inl ⟨L', HF.out.2.2.2.2, A', n', c', rfl, ?_, ?_⟩)
      · simp [results, Tryd.results31, go_sem, u0]
      · exact (HF.out.2.2.2.1.turn HF.out.2.1 (fun x hx e => by omega)).mono (fun x _ hx => hx.elim (fun h => .inl h.1) (fun h => .inr (by omega)))
      · exact ((Turns.of_below (F := fun x => w.heap.size ≤ x) HF.out.1).trans (HF.out.2.1.mono (by rintro x _ rfl; omega))).below (Nat.le_refl _) (fun x hx => hx)
end Go.Proofs.YtgpcpjjdneimfaaDoor
