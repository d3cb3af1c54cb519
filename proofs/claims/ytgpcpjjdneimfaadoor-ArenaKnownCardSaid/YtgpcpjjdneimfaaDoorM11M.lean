/- ArenaPlays: the reference's Used. -/
import Derived.Test.YtgpcpjjdneimfaaDoorPlH
import Derived.StillTailTactics
namespace Go.Proofs.YtgpcpjjdneimfaaDoor
open Go.ChangeShapes Go.WideShapes Go.ChangeAt Go.RowKit

/-- An arena of the reference, and an answer. -/
def RArP (w : World) (F : Nat → Prop) (L : List Ar.Pl) (r : Int) (e : Ending) (w' : World) : Prop :=
  ∃ A n c, e = .returned (.tuple #[.agg #[.slice A n c], .int .i64 r]) ∧ PlIn w' (fun b => F b ∨ w.heap.size ≤ b) A n L ∧ Below w.heap.size w w'
def RPutP (w : World) (F : Nat → Prop) (L : List Ar.Pl) (x : Int × Int) (d : Ar.Nd) (e : Ending) (w' : World) : Prop :=
  (∃ (i : Nat) (p : Ar.Pl), x = ((i : Int), (p.turn : Int)) ∧ L[i]? = some p ∧ p.used = true ∧ RArP w F (L.set i ⟨true, p.turn, d⟩) 0 e w') ∨ (Ar.has L x = false ∧ RArP w F L 110 e w')
theorem put_made (w : World) (A : Option Addr) (n c : Nat) (x1 x2 : Int) (u0 u1 u2 u3 : Value) : ∃ W a r d s, (((w.alloc (.cells #[.slice A n c] 29)).alloc (.cells #[.int .i64 x1, .int .i64 x2] 51)).alloc (.cells #[u0, u1, u2, u3] 48)).alloc (.cells #[.slice none 0 0] 29) = W ∧ w.heap.size = a ∧ w.heap.size + 1 = r ∧ w.heap.size + 1 + 1 = d ∧ w.heap.size + 1 + 1 + 1 = s ∧ Below w.heap.size w W ∧ Blk W a 29 #[.slice A n c] ∧ Blk W r 51 #[.int .i64 x1, .int .i64 x2] ∧ Blk W d 48 #[u0, u1, u2, u3] ∧ Blk W s 29 #[.slice none 0 0] := by
  have H1 := (Held.start w).new #[.slice A n c] 29
  have H2 := H1.new #[.int .i64 x1, .int .i64 x2] 51
  have H3 := H2.new #[u0, u1, u2, u3] 48
  have H4 := H3.new #[.slice none 0 0] 29
  simp only [show ∀ (X : World) (o : Obj), (X.alloc o).heap.size = X.heap.size + 1 from fun X o => by simp] at H4
  exact ⟨_, _, _, _, _, rfl, rfl, rfl, rfl, rfl, H4.1, H4.at_ (by simp), H4.at_ (by simp), H4.at_ (by simp), H4.at_ (by simp)⟩
set_option maxRecDepth 100000 in
theorem refPut_any (w : World) (F : Nat → Prop) (A : Option Addr) (n c : Nat) (L : List Ar.Pl) (h : PlIn w F A n L) (hn : n ≤ 1000000) (x1 x2 : Int) (v : NdV) (d : Ar.Nd) (hv : NdIn w F v d) : Calls Tryd.prog 30 #[.agg #[.slice A n c], .agg #[.int .i64 x1, .int .i64 x2], v.val d.leaf] w (RPutP w F L (x1, x2) d) := by
  obtain ⟨A1, n1, c1, A2, n2, c2, A3, n3, c3⟩ := v
  obtain ⟨lf, hlf⟩ : ∃ lf, d.leaf = lf := ⟨_, rfl⟩
  obtain ⟨W, a, r, q, s, hW, ha, hr, hq, hs, hB, hbox, hhan, hnod, hres⟩ := put_made w A n c x1 x2 (.bool lf) (.slice A1 n1 c1) (.slice A2 n2 c2) (.slice A3 n3 c3)
  have hln := h.len
  have HK := Lib.hid (And.intro hW (And.intro ha (And.intro hr (And.intro hq (And.intro hs hB)))))
  have HM := Lib.hid (And.intro hbox (And.intro hhan (And.intro hnod hres)))
  have HP := Lib.hid (And.intro h (And.intro hv (And.intro hln hlf)))
  have a0 := hbox.cell 0
  have d0 := hhan.cell 0
  have d1 := hhan.cell 1
  simp only [List.getElem?_toArray, List.getElem?_cons_zero, List.getElem?_cons_succ] at a0 d0 d1
  have HC := Lib.hid (refHas_any W F A n c L (h.below hB) x1 x2)
  show Calls Tryd.prog _ #[.agg #[.slice A n c], .agg #[.int .i64 x1, .int .i64 x2], .agg #[.bool d.leaf, .slice A1 n1 c1, .slice A2 n2 c2, .slice A3 n3 c3]] w _
  rw [hlf]
  clear hW ha hr hq hs hB hbox hhan hnod hres h hln hv hlf
  go_enter Tryd.func30, Tryd.ntmps30
  go_upto_region 1 with fail
  rw [HK.out.1, HK.out.2.2.2.2.1, HK.out.2.2.2.1, HK.out.2.2.1, HK.out.2.1]
  go_wp2_with fail
  refine HC.out.mono ?_
  clear a0 d0 d1
  rintro e X ⟨rfl, bX⟩
  have hbox := HM.out.1.below bX HM.out.1.lt
  have hhan := HM.out.2.1.below bX HM.out.2.1.lt
  have hnod := HM.out.2.2.1.below bX HM.out.2.2.1.lt
  have hres := HM.out.2.2.2.below bX HM.out.2.2.2.lt
  have hB := below_next HK.out.2.2.2.2.2 bX
  have hPl := (HP.out.1.mono (G := fun b => F b ∧ b < w.heap.size) (fun b hb hf => ⟨hf, hb⟩)).below hB
  have hNd := (HP.out.2.1.mono (G := fun b => F b ∧ b < w.heap.size) (fun b hb hf => ⟨hf, hb⟩)).below hB
  have a0 := hbox.cell 0
  have d0 := hhan.cell 0
  have d1 := hhan.cell 1
  have e0 := hnod.cell 0
  have e1 := hnod.cell 1
  have e2 := hnod.cell 2
  have e3 := hnod.cell 3
  have y0 := hres.cell 0
  have f0 := hres.frozen 0
  simp only [List.getElem?_toArray, List.getElem?_cons_zero, List.getElem?_cons_succ] at a0 d0 d1 e0 e1 e2 e3 y0
  cases hh : Ar.has L (x1, x2) with
  | false =>
    obtain ⟨U, hU⟩ : ∃ U, X.setCell ⟨s, 0, none⟩ (.slice A n c) = U := ⟨_, rfl⟩
    have tU : Turns (fun x => x = s) X U := hU ▸ (Turns.refl (fun x => x = s) X).setCell (g := s) _ _ (fun _ => rfl)
    have bU : Blk U s 29 #[.slice A n c] := hU ▸ hres.set_ 0 _
    have x0 := bU.cell 0
    simp only [List.getElem?_toArray, List.getElem?_cons_zero] at x0
    have HF := Lib.hid (And.intro hPl (And.intro hB (And.intro tU (And.intro hU hh))))
    clear hPl hB tU hU bU hbox hhan hnod hres hNd hh bX
    go_wp2_with fail
    rw [HF.out.2.2.2.1]
    refine bodyPost_ret (v := .tuple #[.agg #[.slice A n c], .int .i64 110]) ?_ rfl (.inr ⟨HF.out.2.2.2.2, A, n, c, rfl, ?_, ?_⟩)
    · simp [results, Tryd.results30, go_sem, x0]
    · have hs := HK.out.2.2.2.2.1
      exact (HF.out.1.turn HF.out.2.2.1 (fun x hx e => by omega)).mono (fun x _ hx => .inl hx.1)
    · have hs := HK.out.2.2.2.2.1
      exact ((Turns.of_below (F := fun x => w.heap.size ≤ x) HF.out.2.1).trans (HF.out.2.2.1.mono (by rintro x _ rfl; omega))).below (Nat.le_refl _) (fun x hx => hx)
  | true =>
    obtain ⟨i, rfl⟩ : ∃ i : Nat, x1 = (i : Int) := by
      unfold Ar.has at hh
      rw [Bool.and_eq_true, decide_eq_true_eq] at hh
      exact Int.eq_ofNat_of_zero_le hh.1
    have hil : i < L.length := Ar.has_lt _ _ hh
    have hln := HP.out.2.2.1
    obtain ⟨p, hp, hpu, rfl⟩ : ∃ p : Ar.Pl, L[i]? = some p ∧ p.used = true ∧ x2 = (p.turn : Int) := by
      unfold Ar.has at hh
      rw [Bool.and_eq_true] at hh
      have h2 := hh.2
      obtain ⟨p, hp⟩ : ∃ p, L[i]? = some p := ⟨_, List.getElem?_eq_getElem hil⟩
      simp only [Int.toNat_natCast, hp, Bool.and_eq_true, decide_eq_true_eq] at h2
      exact ⟨p, hp, h2.1, h2.2.symm⟩
    obtain ⟨t, ht⟩ : ∃ t, p.turn = t := ⟨_, rfl⟩
    have hset : Ar.put L i ⟨true, t, d⟩ = L.set i ⟨true, p.turn, d⟩ := by rw [Ar.put, if_neg (by omega), ht]
    have HW := Lib.hid (with_any X _ A n c L hPl i (by omega) ⟨true, t, d⟩ ⟨A1, n1, c1, A2, n2, c2, A3, n3, c3⟩ hNd hn)
    have HF := Lib.hid (And.intro hres (And.intro hB (And.intro hp (And.intro hpu (And.intro ht hset)))))
    rw [ht] at d1 ⊢
    clear hPl hB hbox hhan hnod hres hNd hh bX hil hln hp hpu ht hset
    go_wp2_with fail
    have HW2 := HW.out
    change Calls Tryd.prog _ #[.agg #[.slice A n c], .int .i64 (i : Int), .agg #[.bool true, .int .i64 (t : Int), .bool d.leaf, .slice A1 n1 c1, .slice A2 n2 c2, .slice A3 n3 c3]] X _ at HW2
    rw [HP.out.2.2.2] at HW2
    refine HW2.mono ?_
    rintro e Y ⟨A', n', c', rfl, hPY, bY⟩
    clear HW2 a0 d0 d1 e0 e1 e2 e3 y0 f0
    have hres := HF.out.1.below bY HF.out.1.lt
    have hB := below_next HF.out.2.1 bY
    have y0 := hres.cell 0
    have f0 := hres.frozen 0
    obtain ⟨U, hU⟩ : ∃ U, Y.setCell ⟨s, 0, none⟩ (.slice A' n' c') = U := ⟨_, rfl⟩
    have tU : Turns (fun x => x = s) Y U := hU ▸ (Turns.refl (fun x => x = s) Y).setCell (g := s) _ _ (fun _ => rfl)
    have bU : Blk U s 29 #[.slice A' n' c'] := hU ▸ hres.set_ 0 _
    have x0 := bU.cell 0
    simp only [List.getElem?_toArray, List.getElem?_cons_zero] at x0 y0
    have HG := Lib.hid (And.intro hPY (And.intro hB (And.intro tU (And.intro hU hres.lt))))
    clear hPY hB tU hU bU hres bY
    go_wp2_with fail
    rw [HG.out.2.2.2.1]
    have hs := HK.out.2.2.2.2.1
    have hsX := HF.out.1.lt
    refine bodyPost_ret (v := .tuple #[.agg #[.slice A' n' c'], .int .i64 0]) ?_ rfl (.inl ⟨i, p, by rw [HF.out.2.2.2.2.1], HF.out.2.2.1, HF.out.2.2.2.1, A', n', c', rfl, ?_, ?_⟩)
    · simp [results, Tryd.results30, go_sem, x0]
    · rw [← HF.out.2.2.2.2.2]
      exact (HG.out.1.turn HG.out.2.2.1 (fun x hx e => by omega)).mono (fun x _ hx => hx.elim (fun h => .inl h.1) (fun h => .inr (by omega)))
    · exact ((Turns.of_below (F := fun x => w.heap.size ≤ x) HG.out.2.1).trans (HG.out.2.2.1.mono (by rintro x _ rfl; omega))).below (Nat.le_refl _) (fun x hx => hx)
end Go.Proofs.YtgpcpjjdneimfaaDoor

namespace Go.Proofs.YtgpcpjjdneimfaaDoor
open Go.ChangeShapes Go.WideShapes Go.ChangeAt Go.RowKit

/-- An arena of the reference, and a handle. -/
def RMakeP (w : World) (F : Nat → Prop) (L : List Ar.Pl) (d : Ar.Nd) (e : Ending) (w' : World) : Prop :=
  ∃ A n c, e = .returned (.tuple #[.agg #[.slice A n c], .agg #[.int .i64 (Ar.lo L : Int), .int .i64 (Ar.next L : Int)]]) ∧ PlIn w' (fun b => F b ∨ w.heap.size ≤ b) A n (Ar.make L d) ∧ Below w.heap.size w w'
theorem make_made (w : World) (A : Option Addr) (n c : Nat) (u0 u1 u2 u3 : Value) : ∃ W a q s h, (((w.alloc (.cells #[.slice A n c] 29)).alloc (.cells #[u0, u1, u2, u3] 48)).alloc (.cells #[.slice none 0 0] 29)).alloc (.cells #[.int .i64 0, .int .i64 0] 51) = W ∧ w.heap.size = a ∧ w.heap.size + 1 = q ∧ w.heap.size + 1 + 1 = s ∧ w.heap.size + 1 + 1 + 1 = h ∧ Below w.heap.size w W ∧ Blk W a 29 #[.slice A n c] ∧ Blk W q 48 #[u0, u1, u2, u3] ∧ Blk W s 29 #[.slice none 0 0] ∧ Blk W h 51 #[.int .i64 0, .int .i64 0] := by
  have H1 := (Held.start w).new #[.slice A n c] 29
  have H2 := H1.new #[u0, u1, u2, u3] 48
  have H3 := H2.new #[.slice none 0 0] 29
  have H4 := H3.new #[.int .i64 0, .int .i64 0] 51
  simp only [show ∀ (X : World) (o : Obj), (X.alloc o).heap.size = X.heap.size + 1 from fun X o => by simp] at H4
  exact ⟨_, _, _, _, _, rfl, rfl, rfl, rfl, rfl, H4.1, H4.at_ (by simp), H4.at_ (by simp), H4.at_ (by simp), H4.at_ (by simp)⟩
set_option maxRecDepth 100000 in
theorem refMake_any (w : World) (F : Nat → Prop) (A : Option Addr) (n c : Nat) (L : List Ar.Pl) (h : PlIn w F A n L) (hf : Few L 100000) (v : NdV) (d : Ar.Nd) (hv : NdIn w F v d) : Calls Tryd.prog 33 #[.agg #[.slice A n c], v.val d.leaf] w (RMakeP w F L d) := by
  obtain ⟨A1, n1, c1, A2, n2, c2, A3, n3, c3⟩ := v
  obtain ⟨lf, hlf⟩ : ∃ lf, d.leaf = lf := ⟨_, rfl⟩
  obtain ⟨m, hm⟩ : ∃ m, Ar.lo L = m := ⟨_, rfl⟩
  obtain ⟨t, ht⟩ : ∃ t, Ar.next L = t := ⟨_, rfl⟩
  obtain ⟨W, a, q, s, z, hW, ha, hq, hs, hz, hB, hbox, hnod, hres, hhan⟩ := make_made w A n c (.bool lf) (.slice A1 n1 c1) (.slice A2 n2 c2) (.slice A3 n3 c3)
  have hln := h.len
  have hmn : m ≤ n := by rw [← hm, ← hln]; exact Ar.lo_le L
  have hn : n ≤ 100000 := by rw [← hln]; exact hf.len
  have HK := Lib.hid (And.intro hW (And.intro ha (And.intro hq (And.intro hs (And.intro hz hB)))))
  have HM := Lib.hid (And.intro hres hhan)
  have HP := Lib.hid (And.intro (h.below hB) (And.intro hv (And.intro hln (And.intro hlf (And.intro hm (And.intro ht (And.intro hf h)))))))
  have a0 := hbox.cell 0
  have e0 := hnod.cell 0
  have e1 := hnod.cell 1
  have e2 := hnod.cell 2
  have e3 := hnod.cell 3
  simp only [List.getElem?_toArray, List.getElem?_cons_zero, List.getElem?_cons_succ] at a0 e0 e1 e2 e3
  show Calls Tryd.prog _ #[.agg #[.slice A n c], .agg #[.bool d.leaf, .slice A1 n1 c1, .slice A2 n2 c2, .slice A3 n3 c3]] w _
  rw [hlf]
  have hPl := (h.mono (G := fun b => F b ∧ b < w.heap.size) (fun b hb hf => ⟨hf, hb⟩)).below hB
  have hNd := (hv.mono (G := fun b => F b ∧ b < w.heap.size) (fun b hb hf => ⟨hf, hb⟩)).below hB
  have HW := Lib.hid (with_any W _ A n c L hPl m hmn ⟨true, t, d⟩ ⟨A1, n1, c1, A2, n2, c2, A3, n3, c3⟩ hNd (by omega))
  clear hW ha hq hs hz hB hbox hnod hres hhan h hln hv hlf hm ht hf hPl hNd
  go_enter Tryd.func33, Tryd.ntmps33
  go_upto_region 1 with fail
  rw [HK.out.1, HK.out.2.2.2.2.1, HK.out.2.2.2.1, HK.out.2.2.1, HK.out.2.1]
  go_wp2_with fail
  go_loopw [6] (fun i wr => ∃ j : Nat, j ≤ m ∧ i = .int .i64 (j : Int) ∧ wr = W) (fun i _ => n - (intOf i).toNat)
  case atStart => exact ⟨0, by omega, rfl, rfl⟩
  case round =>
    obtain ⟨j, hj, rfl, rfl⟩ := hrel
    have i1 : (0 : Int) ≤ (j : Int) := by omega
    by_cases hlt : j < m
    · have i2 : (j : Int) < (n : Int) := by omega
      obtain ⟨p, hp⟩ : ∃ p, L[j]? = some p := ⟨_, List.getElem?_eq_getElem (by have := HP.out.2.2.1; omega)⟩
      have hpu : p.used = true := by
        have h1 := Ar.lo_used L j (by rw [HP.out.2.2.2.2.1]; exact hlt)
        rw [List.getElem?_eq_getElem (by have := HP.out.2.2.1; omega)] at hp
        cases hp
        exact h1
      obtain ⟨b, off, v, hA, -, hc⟩ := HP.out.1.at_ hp
      have z0 := hc 0 (by omega)
      simp only [rowP, List.getElem?_cons_zero, Nat.add_zero, hpu] at z0
      clear hc hp hpu
      subst hA
      go_wp2_with fail
      exact ⟨⟨j + 1, by omega, by go_num, trivial⟩, by simp [intOf]; omega⟩
    · obtain rfl : j = m := by omega
      clear hlt
      by_cases hlt : j < n
      · have i2 : (j : Int) < (n : Int) := by omega
        obtain ⟨p, hp⟩ : ∃ p, L[j]? = some p := ⟨_, List.getElem?_eq_getElem (by have := HP.out.2.2.1; omega)⟩
        have hpu : p.used = false := by
          have h2 := HP.out.2.2.2.2.1
          have h1 := Ar.lo_free L (by rw [h2, HP.out.2.2.1]; exact hlt)
          have h3 : L[Ar.lo L]? = some p := by rw [h2]; exact hp
          rw [List.getElem?_eq_getElem (by rw [h2, HP.out.2.2.1]; exact hlt)] at h3
          cases h3
          exact h1
        have htn : t = p.turn + 1 := by
          rw [← HP.out.2.2.2.2.2.1]
          unfold Ar.next
          rw [HP.out.2.2.2.2.1, hp]
        have htb : p.turn ≤ 100000 := HP.out.2.2.2.2.2.2.1.turn j p hp
        obtain ⟨b, off, v, hA, -, hc⟩ := HP.out.1.at_ hp
        have z0 := hc 0 (by omega)
        have z1 := hc 1 (by omega)
        simp only [rowP, List.getElem?_cons_zero, List.getElem?_cons_succ, Nat.add_zero, hpu] at z0 z1
        clear hc hp hpu
        subst hA
        go_wp2_with fail
        have hx : (t : Int) = (p.turn : Int) + 1 := by omega
        have HW2 := HW.out
        change Calls Tryd.prog _ #[.agg #[.slice (some ⟨b, off, none⟩) n c], .int .i64 (j : Int), .agg #[.bool true, .int .i64 (t : Int), .bool d.leaf, .slice A1 n1 c1, .slice A2 n2 c2, .slice A3 n3 c3]] wr _ at HW2
        rw [HP.out.2.2.2.1, hx] at HW2
        refine HW2.mono ?_
        rintro e Y ⟨A', n', c', rfl, hPY, bY⟩
        clear HW2 a0 e0 e1 e2 e3 z0 z1
        have hne : s ≠ z := by have h1 := HK.out.2.2.2.1; have h2 := HK.out.2.2.2.2.1; omega
        have hres := HM.out.1.below bY HM.out.1.lt
        have hhan := HM.out.2.below bY HM.out.2.lt
        have hfar := hhan.far (o := 0) hne (.slice A' n' c')
        have y0 := hres.cell 0
        have f0 := hres.frozen 0
        have w0 := hfar.cell 0
        have w1 := hfar.cell 1
        have g0 := hfar.frozen 0
        have g1 := hfar.frozen 1
        simp only [List.getElem?_toArray, List.getElem?_cons_zero, List.getElem?_cons_succ] at y0 w0 w1
        obtain ⟨U, hU⟩ : ∃ U, ((Y.setCell ⟨s, 0, none⟩ (.slice A' n' c')).setCell ⟨z, 0, none⟩ (.int .i64 (j : Int))).setCell ⟨z, 1, none⟩ (.int .i64 ((p.turn : Int) + 1)) = U := ⟨_, rfl⟩
        have tU : Turns (fun x => x = s ∨ x = z) Y U := hU ▸ ((((Turns.refl (fun x => x = s ∨ x = z) Y).setCell (g := s) _ _ (fun _ => .inl rfl)).setCell (g := z) _ _ (fun _ => .inr rfl)).setCell (g := z) _ _ (fun _ => .inr rfl))
        have b1 : Blk U s 29 #[.slice A' n' c'] := hU ▸ (((hres.set_ 0 (.slice A' n' c')).far hne.symm _).far hne.symm _)
        have b2 : Blk U z 51 #[.int .i64 (j : Int), .int .i64 ((p.turn : Int) + 1)] := hU ▸ ((hfar.set_ 0 (.int .i64 (j : Int))).set_ 1 (.int .i64 ((p.turn : Int) + 1)))
        have x0 := b1.cell 0
        have x1 := b2.cell 0
        have x2 := b2.cell 1
        simp only [List.getElem?_toArray, List.getElem?_cons_zero, List.getElem?_cons_succ] at x0 x1 x2
        have HG := Lib.hid (And.intro hPY (And.intro bY (And.intro tU hU)))
        clear hPY bY tU hU b1 b2 hres hhan hfar
        go_wp2_with fail
        rw [HG.out.2.2.2]
        have hB : Below w.heap.size w Y := below_next HK.out.2.2.2.2.2 HG.out.2.1
        have hs := HK.out.2.2.2.1
        have hz := HK.out.2.2.2.2.1
        have hzl := HM.out.2.lt
        have hmk : Ar.put L j ⟨true, t, d⟩ = Ar.make L d := by rw [Ar.make, HP.out.2.2.2.2.1, HP.out.2.2.2.2.2.1]
        refine bodyPost_ret (v := .tuple #[.agg #[.slice A' n' c'], .agg #[.int .i64 (j : Int), .int .i64 ((p.turn : Int) + 1)]]) ?_ rfl ⟨A', n', c', by rw [HP.out.2.2.2.2.1, HP.out.2.2.2.2.2.1, hx], ?_, ?_⟩
        · simp [results, Tryd.results33, go_sem, x0, x1, x2]
        · rw [← hmk]
          exact (HG.out.1.turn HG.out.2.2.1 (fun x hx e => by omega)).mono (fun x _ hx => hx.elim (fun h => .inl h.1) (fun h => .inr (by omega)))
        · exact ((Turns.of_below (F := fun x => w.heap.size ≤ x) hB).trans (HG.out.2.2.1.mono (fun x _ hx => by omega))).below (Nat.le_refl _) (fun x hx => hx)
      · obtain rfl : j = n := by omega
        have htn : t = 1 := by
          rw [← HP.out.2.2.2.2.2.1]
          unfold Ar.next
          rw [HP.out.2.2.2.2.1, List.getElem?_eq_none (by have := HP.out.2.2.1; omega)]
        go_wp2_with fail
        have hx : (t : Int) = 1 := by omega
        have HW2 := HW.out
        change Calls Tryd.prog _ #[.agg #[.slice A j c], .int .i64 (j : Int), .agg #[.bool true, .int .i64 (t : Int), .bool d.leaf, .slice A1 n1 c1, .slice A2 n2 c2, .slice A3 n3 c3]] wr _ at HW2
        rw [HP.out.2.2.2.1, hx] at HW2
        refine HW2.mono ?_
        rintro e Y ⟨A', n', c', rfl, hPY, bY⟩
        clear HW2 a0 e0 e1 e2 e3 
        have hne : s ≠ z := by have h1 := HK.out.2.2.2.1; have h2 := HK.out.2.2.2.2.1; omega
        have hres := HM.out.1.below bY HM.out.1.lt
        have hhan := HM.out.2.below bY HM.out.2.lt
        have hfar := hhan.far (o := 0) hne (.slice A' n' c')
        have y0 := hres.cell 0
        have f0 := hres.frozen 0
        have w0 := hfar.cell 0
        have w1 := hfar.cell 1
        have g0 := hfar.frozen 0
        have g1 := hfar.frozen 1
        simp only [List.getElem?_toArray, List.getElem?_cons_zero, List.getElem?_cons_succ] at y0 w0 w1
        obtain ⟨U, hU⟩ : ∃ U, ((Y.setCell ⟨s, 0, none⟩ (.slice A' n' c')).setCell ⟨z, 0, none⟩ (.int .i64 (j : Int))).setCell ⟨z, 1, none⟩ (.int .i64 1) = U := ⟨_, rfl⟩
        have tU : Turns (fun x => x = s ∨ x = z) Y U := hU ▸ ((((Turns.refl (fun x => x = s ∨ x = z) Y).setCell (g := s) _ _ (fun _ => .inl rfl)).setCell (g := z) _ _ (fun _ => .inr rfl)).setCell (g := z) _ _ (fun _ => .inr rfl))
        have b1 : Blk U s 29 #[.slice A' n' c'] := hU ▸ (((hres.set_ 0 (.slice A' n' c')).far hne.symm _).far hne.symm _)
        have b2 : Blk U z 51 #[.int .i64 (j : Int), .int .i64 1] := hU ▸ ((hfar.set_ 0 (.int .i64 (j : Int))).set_ 1 (.int .i64 1))
        have x0 := b1.cell 0
        have x1 := b2.cell 0
        have x2 := b2.cell 1
        simp only [List.getElem?_toArray, List.getElem?_cons_zero, List.getElem?_cons_succ] at x0 x1 x2
        have HG := Lib.hid (And.intro hPY (And.intro bY (And.intro tU hU)))
        clear hPY bY tU hU b1 b2 hres hhan hfar
        go_wp2_with fail
        rw [HG.out.2.2.2]
        have hB : Below w.heap.size w Y := below_next HK.out.2.2.2.2.2 HG.out.2.1
        have hs := HK.out.2.2.2.1
        have hz := HK.out.2.2.2.2.1
        have hzl := HM.out.2.lt
        have hmk : Ar.put L j ⟨true, t, d⟩ = Ar.make L d := by rw [Ar.make, HP.out.2.2.2.2.1, HP.out.2.2.2.2.2.1]
        refine bodyPost_ret (v := .tuple #[.agg #[.slice A' n' c'], .agg #[.int .i64 (j : Int), .int .i64 1]]) ?_ rfl ⟨A', n', c', by rw [HP.out.2.2.2.2.1, HP.out.2.2.2.2.2.1, hx], ?_, ?_⟩
        · simp [results, Tryd.results33, go_sem, x0, x1, x2]
        · rw [← hmk]
          exact (HG.out.1.turn HG.out.2.2.1 (fun x hx e => by omega)).mono (fun x _ hx => hx.elim (fun h => .inl h.1) (fun h => .inr (by omega)))
        · exact ((Turns.of_below (F := fun x => w.heap.size ≤ x) hB).trans (HG.out.2.2.1.mono (fun x _ hx => by omega))).below (Nat.le_refl _) (fun x hx => hx)
end Go.Proofs.YtgpcpjjdneimfaaDoor

namespace Go.Proofs.YtgpcpjjdneimfaaDoor
open Go.ChangeShapes Go.WideShapes Go.ChangeAt Go.RowKit

theorem free_append (L : List Ar.Pl) (a b : List (Int × Int)) : Ar.free L (a ++ b) = (Ar.free L a).bind fun L' => Ar.free L' b := by
  induction a generalizing L with
  | nil => rfl
  | cons x r ih =>
    show (if Ar.has L x then Ar.free (Ar.free1 L x) (r ++ b) else none) = _
    have e : Ar.free L (x :: r) = if Ar.has L x then Ar.free (Ar.free1 L x) r else none := rfl
    rw [e]
    split
    · exact ih _
    · rfl
theorem free_step {L L' : List Ar.Pl} {l : List (Int × Int)} {j : Nat} {x : Int × Int} (h : Ar.free L (l.take j) = some L') (hx : l[j]? = some x) (hh : Ar.has L' x = true) : Ar.free L (l.take (j + 1)) = some (Ar.free1 L' x) := by
  have hj := (List.getElem?_eq_some_iff.1 hx).1
  rw [List.take_succ_eq_append_getElem hj, free_append, h]
  rw [List.getElem?_eq_getElem hj] at hx
  rw [Option.some.inj hx]
  show (if Ar.has L' x then some (Ar.free1 L' x) else none) = _
  rw [if_pos hh]
theorem free_stop {L L' : List Ar.Pl} {l : List (Int × Int)} {j : Nat} {x : Int × Int} (h : Ar.free L (l.take j) = some L') (hx : l[j]? = some x) (hh : Ar.has L' x = false) : Ar.free L l = none := by
  have hj := (List.getElem?_eq_some_iff.1 hx).1
  conv => lhs; rw [← List.take_append_drop j l]
  rw [free_append, h, List.drop_eq_getElem_cons hj]
  rw [List.getElem?_eq_getElem hj] at hx
  rw [Option.some.inj hx]
  show (if Ar.has L' x then _ else none) = _
  rw [if_neg (by rw [hh]; decide)]
def RFreeP (w : World) (F : Nat → Prop) (L : List Ar.Pl) (l : List (Int × Int)) (e : Ending) (w' : World) : Prop :=
  (∃ L', Ar.free L l = some L' ∧ RArP w F L' 0 e w') ∨ (Ar.free L l = none ∧ RArP w F L 110 e w')
theorem free_made (w : World) (A : Option Addr) (n c : Nat) : ∃ W a s o, ((w.alloc (.cells #[.slice A n c] 29)).alloc (.cells #[.slice none 0 0] 29)).alloc (.cells #[.slice A n c] 29) = W ∧ w.heap.size = a ∧ w.heap.size + 1 = s ∧ w.heap.size + 1 + 1 = o ∧ Below w.heap.size w W ∧ Blk W a 29 #[.slice A n c] ∧ Blk W s 29 #[.slice none 0 0] ∧ Blk W o 29 #[.slice A n c] ∧ W.heap.size = w.heap.size + 3 := by
  have H1 := (Held.start w).new #[.slice A n c] 29
  have H2 := H1.new #[.slice none 0 0] 29
  have H3 := H2.new #[.slice A n c] 29
  simp only [show ∀ (X : World) (o : Obj), (X.alloc o).heap.size = X.heap.size + 1 from fun X o => by simp] at H3
  exact ⟨_, _, _, _, rfl, rfl, rfl, rfl, H3.1, H3.at_ (by simp), H3.at_ (by simp), H3.at_ (by simp), by simp⟩
theorem free_len {L L' : List Ar.Pl} {l : List (Int × Int)} (h : Ar.free L l = some L') : L'.length = L.length := by
  induction l generalizing L with
  | nil => cases h; rfl
  | cons x r ih =>
    have e : Ar.free L (x :: r) = if Ar.has L x then Ar.free (Ar.free1 L x) r else none := rfl
    rw [e] at h
    split at h
    · rename_i hh
      rw [ih h, Ar.free1, Ar.put_length, if_neg (by have := Ar.has_lt _ _ hh; omega)]
    · cases h
set_option maxRecDepth 100000 in
theorem refFree_any (w : World) (F Fl : Nat → Prop) (A : Option Addr) (n c : Nat) (L : List Ar.Pl) (h : PlIn w F A n L) (hn : n ≤ 1000000) (Al : Option Addr) (m cl : Nat) (l : List (Int × Int)) (hl : Cells w Fl Al m 2 (hanL l)) (hm : m ≤ 1000000) : Calls Tryd.prog 31 #[.agg #[.slice A n c], .slice Al m cl] w (RFreeP w F L l) := by
  obtain ⟨W, a, s, o, hW, ha, hs, ho, hB, hbox, hres, hout, hWs⟩ := free_made w A n c
  have hln : l.length = m := by have := hl.1; rw [hanL_len] at this; omega
  have hPl := (h.mono (G := fun b => (F b ∧ b < w.heap.size) ∨ W.heap.size ≤ b) (fun b hb hf => .inl ⟨hf, hb⟩)).below hB
  have hlW := (hl.mono (G := fun b => b < w.heap.size) (fun b hb _ => hb)).below hB
  have HK := Lib.hid (And.intro hW (And.intro ha (And.intro hs (And.intro ho (And.intro hWs (And.intro hB (And.intro hbox hlW)))))))
  have HP := Lib.hid (And.intro h hln)
  have HS := Lib.hid (And.intro hres (And.intro hout hPl))
  clear hW ha hs ho hB hbox hres hout h hl hln hPl hlW hWs
  go_enter Tryd.func31, Tryd.ntmps31
  go_upto_region 2 with fail
  rw [HK.out.1, HK.out.2.2.2.1, HK.out.2.2.1, HK.out.2.1]
  go_wp2_with fail
  go_loopw [7] (fun i wr => ∃ (j : Nat) (A' : Option Addr) (n' c' : Nat) (L' : List Ar.Pl), j ≤ m ∧ i = .int .i64 (j : Int) ∧ Below w.heap.size w wr ∧ Turns (fun x => x = o) W wr ∧ Blk wr o 29 #[.slice A' n' c'] ∧ PlIn wr (fun b => (F b ∧ b < w.heap.size) ∨ W.heap.size ≤ b) A' n' L' ∧ Ar.free L (l.take j) = some L') (fun i _ => m - (intOf i).toNat)
  case atStart => exact ⟨0, A, n, c, L, by omega, rfl, HK.out.2.2.2.2.2.1, Turns.refl _ _, HS.out.2.1, HS.out.2.2, rfl⟩
  case round =>
    obtain ⟨j, A', n', c', L', hj, rfl, hB, hT, hout, hPl, hfr⟩ := hrel
    have hao : a ≠ o := by have h1 := HK.out.2.1; have h2 := HK.out.2.2.2.1; omega
    have hso : s ≠ o := by have h1 := HK.out.2.2.1; have h2 := HK.out.2.2.2.1; omega
    have hbox := hT.blk HK.out.2.2.2.2.2.2.1 hao
    have hres := hT.blk HS.out.1 hso
    have i1 : (0 : Int) ≤ (j : Int) := by omega
    have x0 := hout.cell 0
    have y0 := hres.cell 0
    have f0 := hres.frozen 0
    have a0 := hbox.cell 0
    simp only [List.getElem?_toArray, List.getElem?_cons_zero] at x0 y0 a0
    by_cases hlt : j < m
    · have i2 : (j : Int) < (m : Int) := by omega
      obtain ⟨x, hx⟩ : ∃ x, l[j]? = some x := ⟨_, List.getElem?_eq_getElem (by rw [HP.out.2]; exact hlt)⟩
      obtain ⟨b, off, rfl, hbl, -, hc⟩ := (HK.out.2.2.2.2.2.2.2.turn hT (fun x hx e => by have h2 := HK.out.2.2.2.1; omega)).at_ hlt
      have hx2 := hanL_at l j x hx
      obtain ⟨v1, v2⟩ := x
      have z0 : wr.cell? ⟨b, off + j * 2, none⟩ = some (.int .i64 v1) := (hc 0 (by omega)).trans hx2.1
      have z1 : wr.cell? ⟨b, off + j * 2 + 1, none⟩ = some (.int .i64 v2) := (hc 1 (by omega)).trans hx2.2
      have HR := Lib.hid (And.intro hB (And.intro hT (And.intro hout (And.intro hPl (And.intro hfr (And.intro hbox (And.intro hres hx)))))))
      have HC := Lib.hid (refHas_any wr.drew _ A' n' c' L' (hPl.below (below_drewN (Below.refl _ _) 1)) v1 v2)
      clear hB hT hout hPl hfr hbox hres hx hx2 hc
      go_wp2_with fail
      go_still_tail 5, (by kernel_rfl)
      change wpList _ _ _ _ _ wr.drew
      obtain ⟨w2, hw2⟩ : ∃ w2, wr.drew = w2 := ⟨_, rfl⟩
      have b2 : Below w.heap.size w w2 := hw2 ▸ HR.out.1.drew
      have T2 : Turns (fun x => x = o) W w2 := hw2 ▸ HR.out.2.1.drew
      have out2 : Blk w2 o 29 #[.slice A' n' c'] := hw2 ▸ HR.out.2.2.1
      have box2 : Blk w2 a 29 #[.slice A n c] := hw2 ▸ HR.out.2.2.2.2.2.1
      have res2 : Blk w2 s 29 #[.slice none 0 0] := hw2 ▸ HR.out.2.2.2.2.2.2.1
      have Pl2 : PlIn w2 (fun b => (F b ∧ b < w.heap.size) ∨ W.heap.size ≤ b) A' n' L' := hw2 ▸ HR.out.2.2.2.1.below (below_drewN (Below.refl _ _) 1)
      have q0 : w2.cell? ⟨b, off + j * 2, none⟩ = some (.int .i64 v1) := by rw [← hw2]; exact z0
      have q1 : w2.cell? ⟨b, off + j * 2 + 1, none⟩ = some (.int .i64 v2) := by rw [← hw2]; exact z1
      have hfr := HR.out.2.2.2.2.1
      have hx := HR.out.2.2.2.2.2.2.2
      have hbw : b < w2.heap.size := by have h1 := b2.size; omega
      rw [hw2] at HC ⊢
      clear x0 y0 f0 a0 z0 z1 HR hw2
      have x0 := out2.cell 0
      simp only [List.getElem?_toArray, List.getElem?_cons_zero] at x0
      have HR := Lib.hid (And.intro b2 (And.intro T2 (And.intro out2 (And.intro box2 (And.intro res2 (And.intro Pl2 (And.intro hfr (And.intro hx hbw))))))))
      clear b2 T2 out2 box2 res2 Pl2 hfr hx hbw
      go_wp2_with fail
      refine HC.out.mono ?_
      rintro e X ⟨rfl, bX⟩
      have e0 : X.cell? ⟨b, off + j * 2, none⟩ = some (.int .i64 v1) := (bX.cell (p := ⟨b, off + j * 2, none⟩) HR.out.2.2.2.2.2.2.2.2).trans q0
      have e1 : X.cell? ⟨b, off + j * 2 + 1, none⟩ = some (.int .i64 v2) := (bX.cell (p := ⟨b, off + j * 2 + 1, none⟩) HR.out.2.2.2.2.2.2.2.2).trans q1
      clear x0 q0 q1
      have hB := below_next HR.out.1 bX
      have hT : Turns (fun x => x = o) W X := HR.out.2.1.trans (Turns.of_below bX)
      have hout := HR.out.2.2.1.below bX HR.out.2.2.1.lt
      have hbox := HR.out.2.2.2.1.below bX HR.out.2.2.2.1.lt
      have hres := HR.out.2.2.2.2.1.below bX HR.out.2.2.2.2.1.lt
      have hPl := HR.out.2.2.2.2.2.1.below bX
      have x0 := hout.cell 0
      have y0 := hres.cell 0
      have f0 := hres.frozen 0
      have f1 := hout.frozen 0
      have a0 := hbox.cell 0
      simp only [List.getElem?_toArray, List.getElem?_cons_zero] at x0 y0 a0
      cases hh : Ar.has L' (v1, v2) with
      | false =>
        obtain ⟨U, hU⟩ : ∃ U, X.setCell ⟨s, 0, none⟩ (.slice A n c) = U := ⟨_, rfl⟩
        have tU : Turns (fun x => x = s) X U := hU ▸ (Turns.refl (fun x => x = s) X).setCell (g := s) _ _ (fun _ => rfl)
        have bU : Blk U s 29 #[.slice A n c] := hU ▸ hres.set_ 0 _
        have u0 := bU.cell 0
        simp only [List.getElem?_toArray, List.getElem?_cons_zero] at u0
        have HF := Lib.hid (And.intro hB (And.intro tU (And.intro hU hh)))
        clear hB hT hout hbox hres hPl bX tU hU bU hh e0 e1
        go_wp2_with fail
        rw [HF.out.2.2.1]
        have hs := HK.out.2.2.1
        refine bodyPost_ret (v := .tuple #[.agg #[.slice A n c], .int .i64 110]) ?_ rfl (.inr ⟨free_stop HR.out.2.2.2.2.2.2.1 HR.out.2.2.2.2.2.2.2.1 HF.out.2.2.2, A, n, c, rfl, ?_, ?_⟩)
        · simp [results, Tryd.results31, go_sem, u0]
        · exact ((((HP.out.1.mono (G := fun b => F b ∧ b < w.heap.size) (fun b hb hf => ⟨hf, hb⟩)).below HF.out.1)).turn HF.out.2.1 (fun x hx e => by omega)).mono (fun x _ hx => .inl hx.1)
        · exact ((Turns.of_below (F := fun x => w.heap.size ≤ x) HF.out.1).trans (HF.out.2.1.mono (by rintro x _ rfl; omega))).below (Nat.le_refl _) (fun x hx => hx)
      | true =>
        obtain ⟨i, rfl⟩ : ∃ i : Nat, v1 = (i : Int) := by
          unfold Ar.has at hh
          rw [Bool.and_eq_true, decide_eq_true_eq] at hh
          exact Int.eq_ofNat_of_zero_le hh.1
        have hil : i < L'.length := Ar.has_lt _ _ hh
        obtain ⟨t, rfl⟩ : ∃ t : Nat, v2 = (t : Int) := by
          unfold Ar.has at hh
          rw [Bool.and_eq_true] at hh
          have h2 := hh.2
          obtain ⟨p, hp⟩ : ∃ p, L'[i]? = some p := ⟨_, List.getElem?_eq_getElem hil⟩
          simp only [Int.toNat_natCast, hp, Bool.and_eq_true, decide_eq_true_eq] at h2
          exact ⟨p.turn, h2.2.symm⟩
        have hn' : n' ≤ 1000000 := by
          have h1 := free_len HR.out.2.2.2.2.2.2.1
          have h2 := hPl.len
          have h3 := HP.out.1.len
          omega
        have hi' : i ≤ n' := by have h2 := hPl.len; omega
        have HW := Lib.hid (with_any X.drew _ A' n' c' L' (hPl.below (below_drewN (Below.refl _ _) 1)) i hi' ⟨false, t, Ar.Nd.blank⟩ NdV.blank (NdIn.blank _ _) hn')
        have HF := Lib.hid (And.intro hB (And.intro hT (And.intro hout (And.intro hbox (And.intro hres (And.intro hPl (And.intro hh bX)))))))
        clear hB hT hout hbox hres hPl bX hh hil hn' hi'
        go_wp2_with fail
        go_still_tail 12, (by kernel_rfl)
        change wpList _ _ _ _ _ X.drew
        obtain ⟨X2, hX2⟩ : ∃ X2, X.drew = X2 := ⟨_, rfl⟩
        rw [hX2] at HW ⊢
        have HX : Hid (Below X.heap.size X X2) := Lib.hid (hX2 ▸ below_drewN (Below.refl _ _) 1)
        clear hX2 x0 y0 f0 f1 a0 e0 e1
        go_wp2_with fail
        have HW2 := HW.out
        change Calls Tryd.prog _ #[.agg #[.slice A' n' c'], .int .i64 (i : Int), .agg #[.bool false, .int .i64 (t : Int), .bool false, .slice none 0 0, .slice none 0 0, .slice none 0 0]] X2 _ at HW2
        refine HW2.mono ?_
        rintro e Y ⟨A4, n4, c4, rfl, hPY, bY⟩
        clear HW2
        obtain ⟨hB, hT, hout, hbox, hres, hPl, hh, bX⟩ := HF.out
        have bXY : Below X.heap.size X Y := HX.out.trans (bY.mono HX.out.size)
        have hout := hout.below bXY hout.lt
        have hB := below_next hB bXY
        have hT : Turns (fun x => x = o) W Y := hT.trans (Turns.of_below bXY)
        have x0 := hout.cell 0
        have f1 := hout.frozen 0
        simp only [List.getElem?_toArray, List.getElem?_cons_zero] at x0
        obtain ⟨U, hU⟩ : ∃ U, Y.setCell ⟨o, 0, none⟩ (.slice A4 n4 c4) = U := ⟨_, rfl⟩
        have tU : Turns (fun x => x = o) Y U := hU ▸ (Turns.refl (fun x => x = o) Y).setCell (g := o) _ _ (fun _ => rfl)
        have bU : Blk U o 29 #[.slice A4 n4 c4] := hU ▸ hout.set_ 0 _
        have hXs : W.heap.size ≤ X2.heap.size := by
          have h1 := HR.out.2.1.size
          have h2 := bX.size
          have h3 := HX.out.size
          omega
        have hst : Ar.free L (l.take (j + 1)) = some (Ar.put L' i ⟨false, t, Ar.Nd.blank⟩) := free_step HR.out.2.2.2.2.2.2.1 HR.out.2.2.2.2.2.2.2.1 hh
        have HG := Lib.hid (And.intro hB (And.intro hT (And.intro tU (And.intro bU (And.intro hU (And.intro hPY (And.intro hXs hst)))))))
        clear hB hT tU bU hU hPY hXs hst hout hbox hres hPl hh bX bXY bY
        go_wp2_with fail
        obtain ⟨hB, hT, tU, bU, hU, hPY, hXs, hst⟩ := HG.out
        rw [hU]
        have ho := HK.out.2.2.2.1
        have hWs := HK.out.2.2.2.2.1
        refine ⟨⟨j + 1, A4, n4, c4, _, by omega, by go_num, ?_, hT.trans tU, bU, ?_, hst⟩, by simp [intOf]; omega⟩
        · exact ((Turns.of_below (F := fun x => w.heap.size ≤ x) hB).trans (tU.mono (by rintro x _ rfl; omega))).below (Nat.le_refl _) (fun x hx => hx)
        · exact (hPY.mono (G := fun b => (F b ∧ b < w.heap.size) ∨ W.heap.size ≤ b) (fun x _ hx => hx.elim (fun h => h) (fun h => .inr (by omega)))).turn tU (fun x hx e => by omega)
    · obtain rfl : j = m := by omega
      have hfr2 : Ar.free L l = some L' := by rw [List.take_of_length_le (by rw [HP.out.2]; exact Nat.le_refl _)] at hfr; exact hfr
      obtain ⟨U, hU⟩ : ∃ U, wr.setCell ⟨s, 0, none⟩ (.slice A' n' c') = U := ⟨_, rfl⟩
      have tU : Turns (fun x => x = s) wr U := hU ▸ (Turns.refl (fun x => x = s) wr).setCell (g := s) _ _ (fun _ => rfl)
      have bU : Blk U s 29 #[.slice A' n' c'] := hU ▸ hres.set_ 0 _
      have u0 := bU.cell 0
      simp only [List.getElem?_toArray, List.getElem?_cons_zero] at u0
      have HF := Lib.hid (And.intro hB (And.intro tU (And.intro hU (And.intro hPl hfr2))))
      clear hB hT hout hPl hfr hfr2 hbox hres tU hU bU
      go_wp2_with fail
      rw [HF.out.2.2.1]
      have hs := HK.out.2.2.1
      have hWs := HK.out.2.2.2.2.1
      refine bodyPost_ret (v := .tuple #[.agg #[.slice A' n' c'], .int .i64 0]) ?_ rfl (.inl ⟨L', HF.out.2.2.2.2, A', n', c', rfl, ?_, ?_⟩)
      · simp [results, Tryd.results31, go_sem, u0]
      · exact (HF.out.2.2.2.1.turn HF.out.2.1 (fun x hx e => by omega)).mono (fun x _ hx => hx.elim (fun h => .inl h.1) (fun h => .inr (by omega)))
      · exact ((Turns.of_below (F := fun x => w.heap.size ≤ x) HF.out.1).trans (HF.out.2.1.mono (by rintro x _ rfl; omega))).below (Nat.le_refl _) (fun x hx => hx)
end Go.Proofs.YtgpcpjjdneimfaaDoor

namespace Go.Proofs.YtgpcpjjdneimfaaDoor
open Go.ChangeShapes Go.WideShapes Go.ChangeAt Go.RowKit

set_option maxRecDepth 100000 in
theorem refUsed_any (w : World) (F : Nat → Prop) (A : Option Addr) (n c : Nat) (L : List Ar.Pl) (h : PlIn w F A n L) (hn : n ≤ 100000) : Calls Tryd.prog 34 #[.agg #[.slice A n c]] w (RowP w 51 2 (Ar.used L).length (hanL (Ar.used L))) := by
  obtain ⟨i0, hi, hz0, hz1, hz2⟩ := info_parts Tryd.info51
  obtain ⟨W, hW⟩ : ∃ W, w.alloc (.cells #[.slice A n c] 29) = W := ⟨_, rfl⟩
  obtain ⟨a, ha⟩ : ∃ a, w.heap.size = a := ⟨_, rfl⟩
  have hB : Below w.heap.size w W := hW ▸ (Below.refl _ _).alloc (Nat.le_refl _) _
  have hbox : Blk W a 29 #[.slice A n c] := by
    rw [← hW, ← ha]
    exact Blk.new _ _ _
  have hln := h.len
  have HI := Lib.hid (And.intro hi (And.intro hz0 (And.intro hz1 hz2)))
  have H := Lib.hid (And.intro hW (And.intro ha (And.intro hB (And.intro hbox (And.intro (h.below hB) hln)))))
  clear h hln hi hz0 hz1 hz2 hW ha hB hbox
  go_enter Tryd.func34, Tryd.ntmps34
  go_upto_region 1 with fail
  rw [H.out.1, H.out.2.1]
  go_wp2_with fail
  go_loopw [3, 4] (fun r i wr => ∃ j : Nat, j ≤ n ∧ i = .int .i64 (j : Int) ∧ wr.ownsRow W.heap.size 51 2 r (Ar.used (L.take j)).length (hanL (Ar.used (L.take j))) ∧ Below W.heap.size W wr) (fun _ i _ => n - (intOf i).toNat)
  case atStart => exact ⟨0, by omega, rfl, own_nil _ _ _ _, Below.refl _ _⟩
  case round =>
    obtain ⟨j, hj, rfl, hown, hbel⟩ := hrel
    have hbox := H.out.2.2.2.1.below hbel H.out.2.2.2.1.lt
    have a0 := hbox.cell 0
    simp only [List.getElem?_toArray, List.getElem?_cons_zero] at a0
    have i1 : (0 : Int) ≤ (j : Int) := by omega
    by_cases hlt : j < n
    · have i2 : (j : Int) < (n : Int) := by omega
      obtain ⟨p, hp⟩ : ∃ p, L[j]? = some p := ⟨_, List.getElem?_eq_getElem (by rw [H.out.2.2.2.2.2]; exact hlt)⟩
      obtain ⟨b, off, v, hA, -, hc⟩ := (H.out.2.2.2.2.1.below hbel).at_ hp
      have z0 := hc 0 (by omega)
      have z1 := hc 1 (by omega)
      simp only [rowP, List.getElem?_cons_zero, List.getElem?_cons_succ, Nat.add_zero] at z0 z1
      have hst := used_take L j p hp
      subst hA
      cases hu : p.used with
      | false =>
        rw [hu] at z0
        rw [hu, if_neg (by decide), List.append_nil] at hst
        have HK := Lib.hid (And.intro hown (And.intro hbel hst))
        clear hown hbel hst hc hp hbox
        go_wp2_with fail
        refine ⟨⟨j + 1, by omega, by go_num, ?_, HK.out.2.1⟩, by simp [intOf]; omega⟩
        rw [HK.out.2.2]
        exact HK.out.1
      | true =>
        rw [hu] at z0
        rw [hu, if_pos rfl] at hst
        have hul : (Ar.used (L.take j)).length ≤ 100000 := by
          rw [Ar.used_length]
          have h1 := List.countP_le_length (p := fun p : Ar.Pl => p.used) (l := L.take j)
          rw [List.length_take] at h1
          have h2 : min j L.length ≤ j := Nat.min_le_left _ _
          have h3 : List.countP (fun x => x.used) (List.take j L) = List.countP (fun p : Ar.Pl => p.used) (List.take j L) := rfl
          omega
        have HK := Lib.hid (And.intro hown (And.intro hbel hst))
        clear hown hbel hst hc hp hbox
        go_wp2_with (at_builtin; refine wpList_append_own _ rfl _ _ 46 rfl W.heap.size 51 i0 _ 2 16 Tryd.underlying46 HI.out.1 HI.out.2.1 HI.out.2.2.1 HI.out.2.2.2 rfl (by decide) _ (Ar.used (L.take j)).length _ rfl (HK.out.1.alloc _) ⟨wr.heap.size, 0, none⟩ 1 1 [.int .i64 (j : Int), .int .i64 (p.turn : Int)] rfl rfl (cell_two' _ _ _ _ _ rfl) (by simp [Value.oneCell']) (by unfold maxLen; omega) (by omega) (by have := HK.out.2.1.size; simp; omega) ?_)
        intro v' w2 hown2 hgr2 _
        have hbel2 : Below W.heap.size W w2 := grow_below HK.out.2.1 hgr2 (fun g' hg' => (HK.out.1.lt g' hg').1)
        have HO := Lib.hid (And.intro hown2 hbel2)
        clear hown2 hgr2 hbel2
        go_wp2_with fail
        refine ⟨⟨j + 1, by omega, by go_num, ?_, HO.out.2⟩, by simp [intOf]; omega⟩
        rw [HK.out.2.2, hanL_append, List.length_append]
        exact HO.out.1
    · obtain rfl : j = n := by omega
      rw [List.take_of_length_le (by rw [H.out.2.2.2.2.2]; exact Nat.le_refl _)] at hown
      obtain ⟨A', c', rfl⟩ := own_slice hown
      have HK := Lib.hid (And.intro hown hbel)
      clear hown hbel hbox
      go_wp2_with fail
      go_ret
      exact ⟨A', c', rfl, own_lower HK.out.1 H.out.2.2.1.size, H.out.2.2.1.trans (HK.out.2.mono H.out.2.2.1.size)⟩
end Go.Proofs.YtgpcpjjdneimfaaDoor
