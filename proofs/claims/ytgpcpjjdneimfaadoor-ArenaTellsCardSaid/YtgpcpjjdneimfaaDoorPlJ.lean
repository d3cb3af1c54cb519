/- ArenaPlays: the reference's Make. -/
import Derived.Test.YtgpcpjjdneimfaaDoorPlI
namespace Go.Proofs.YtgpcpjjdneimfaaDoor
open Go.ChangeShapes Go.WideShapes Go.ChangeAt Go.RowKit

/-- An arena of the reference, and a handle. -/
def RMakeP (w : World) (F : Nat → Prop) (L : List Ar.Pl) (d : Ar.Nd) (e : Ending) (w' : World) : Prop :=
  ∃ A n c, e = .returned (.tuple #[.agg #[.slice A n c], .agg #[.int .i64 (Ar.lo L : Int), .int .i64 (Ar.next L : Int)]]) ∧ PlIn w' (fun b => F b ∨ w.heap.size ≤ b) A n (Ar.make L d) ∧ Below w.heap.size w w'
theorem make_made (w : World) (A : Option Addr) (n c : Nat) (u0 u1 u2 u3 : Value) : ∃ W a q s h, (((w.alloc (.cells #[.slice A n c] 29)).alloc (.cells #[u0, u1, u2, u3] 48)).alloc (.cells #[.slice none 0 0] 29)).alloc (.cells #[.int .i64 0, .int .i64 0] 51) = W ∧ w.heap.size = a ∧ w.heap.size + 1 = q ∧ w.heap.size + 1 + 1 = s ∧ w.heap.size + 1 + 1 + 1 = h ∧ Below w.heap.size w W ∧ Blk W a 29 #[.slice A n c] ∧ Blk W q 48 #[u0, u1, u2, u3] ∧ Blk W s 29 #[.slice none 0 0] ∧ Blk W h 51 #[.int .i64 0, .int .i64 0] := by
  have H1 := (Held.start w).new #[.slice A n c] 29
  have H2 := H1.new #[u0, u1, u2, u3] 48
  have H3 := H2.new #[.slice none 0 0] 29
  have H4 := H3.new #[.int .i64 0, .int .i64 0] 51
  simp only [show ∀ (X : World) (o : Obj), (X.alloc o).heap.size = X.heap.size + 1 from fun X o => by simp] at H4
  exact ⟨_, _, _, _, _, rfl, rfl, rfl, rfl, rfl, H4.1, H4.at_ (by simp), H4.at_ (by simp), H4.at_ (by simp), H4.at_ (by simp)⟩
set_option maxRecDepth 100000 in
theorem refMake_any (w : World) (F : Nat → Prop) (A : Option Addr) (n c : Nat) (L : List Ar.Pl) (h : PlIn w F A n L) (hf : Few L 100000) (v : NdV) (d : Ar.Nd) (hv : NdIn w F v d) : Calls Tryd.prog 33 #[.agg #[.slice A n c], v.val d.leaf] w (RMakeP w F L d) := by
  obtain ⟨A1, n1, c1, A2, n2, c2, A3, n3, c3⟩ := v
  obtain ⟨lf, hlf⟩ : ∃ lf, d.leaf = lf := ⟨_, rfl⟩
  obtain ⟨m, hm⟩ : ∃ m, Ar.lo L = m := ⟨_, rfl⟩
  obtain ⟨t, ht⟩ : ∃ t, Ar.next L = t := ⟨_, rfl⟩
  obtain ⟨W, a, q, s, z, hW, ha, hq, hs, hz, hB, hbox, hnod, hres, hhan⟩ := make_made w A n c (.bool lf) (.slice A1 n1 c1) (.slice A2 n2 c2) (.slice A3 n3 c3)
  have hln := h.len
  have hmn : m ≤ n := by rw [← hm, ← hln]; exact Ar.lo_le L
  have hn : n ≤ 100000 := by rw [← hln]; exact hf.len
  have HK := Lib.hid (And.intro hW (And.intro ha (And.intro hq (And.intro hs (And.intro hz hB)))))
  have HM := Lib.hid (And.intro hres hhan)
  have HP := Lib.hid (And.intro (h.below hB) (And.intro hv (And.intro hln (And.intro hlf (And.intro hm (And.intro ht (And.intro hf h)))))))
  have a0 := hbox.cell 0
  have e0 := hnod.cell 0
  have e1 := hnod.cell 1
  have e2 := hnod.cell 2
  have e3 := hnod.cell 3
  simp only [List.getElem?_toArray, List.getElem?_cons_zero, List.getElem?_cons_succ] at a0 e0 e1 e2 e3
  show Calls Tryd.prog _ #[.agg #[.slice A n c], .agg #[.bool d.leaf, .slice A1 n1 c1, .slice A2 n2 c2, .slice A3 n3 c3]] w _
  rw [hlf]
  have hPl := (h.mono (G := fun b => F b ∧ b < w.heap.size) (fun b hb hf => ⟨hf, hb⟩)).below hB
  have hNd := (hv.mono (G := fun b => F b ∧ b < w.heap.size) (fun b hb hf => ⟨hf, hb⟩)).below hB
  have HW := Lib.hid (with_any W _ A n c L hPl m hmn ⟨true, t, d⟩ ⟨A1, n1, c1, A2, n2, c2, A3, n3, c3⟩ hNd (by omega))
  clear hW ha hq hs hz hB hbox hnod hres hhan h hln hv hlf hm ht hf hPl hNd
  go_enter Tryd.func33, Tryd.ntmps33
  go_upto_region 1 with fail
  rw [HK.out.1, HK.out.2.2.2.2.1, HK.out.2.2.2.1, HK.out.2.2.1, HK.out.2.1]
  go_wp2_with fail
  go_loopw [6] (fun i wr => ∃ j : Nat, j ≤ m ∧ i = .int .i64 (j : Int) ∧ wr = W) (fun i _ => n - (intOf i).toNat)
  case atStart => exact ⟨0, by omega, rfl, rfl⟩
  case round =>
    obtain ⟨j, hj, rfl, rfl⟩ := hrel
    have i1 : (0 : Int) ≤ (j : Int) := by omega
    by_cases hlt : j < m
    · have i2 : (j : Int) < (n : Int) := by omega
      obtain ⟨p, hp⟩ : ∃ p, L[j]? = some p := ⟨_, List.getElem?_eq_getElem (by have := HP.out.2.2.1; omega)⟩
      have hpu : p.used = true := by
        have h1 := Ar.lo_used L j (by rw [HP.out.2.2.2.2.1]; exact hlt)
        rw [List.getElem?_eq_getElem (by have := HP.out.2.2.1; omega)] at hp
        cases hp
        exact h1
      obtain ⟨b, off, v, hA, -, hc⟩ := HP.out.1.at_ hp
      have z0 := hc 0 (by omega)
      simp only [rowP, List.getElem?_cons_zero, Nat.add_zero, hpu] at z0
      clear hc hp hpu
      subst hA
      go_wp2_with fail
      exact ⟨⟨j + 1, by omega, by go_num, trivial⟩, by simp [intOf]; omega⟩
    · obtain rfl : j = m := by omega
      clear hlt
      by_cases hlt : j < n
      · have i2 : (j : Int) < (n : Int) := by omega
        obtain ⟨p, hp⟩ : ∃ p, L[j]? = some p := ⟨_, List.getElem?_eq_getElem (by have := HP.out.2.2.1; omega)⟩
        have hpu : p.used = false := by
          have h2 := HP.out.2.2.2.2.1
          have h1 := Ar.lo_free L (by rw [h2, HP.out.2.2.1]; exact hlt)
          have h3 : L[Ar.lo L]? = some p := by rw [h2]; exact hp
          rw [List.getElem?_eq_getElem (by rw [h2, HP.out.2.2.1]; exact hlt)] at h3
          cases h3
          exact h1
        have htn : t = p.turn + 1 := by
          rw [← HP.out.2.2.2.2.2.1]
          unfold Ar.next
          rw [HP.out.2.2.2.2.1, hp]
        have htb : p.turn ≤ 100000 := HP.out.2.2.2.2.2.2.1.turn j p hp
        obtain ⟨b, off, v, hA, -, hc⟩ := HP.out.1.at_ hp
        have z0 := hc 0 (by omega)
        have z1 := hc 1 (by omega)
        simp only [rowP, List.getElem?_cons_zero, List.getElem?_cons_succ, Nat.add_zero, hpu] at z0 z1
        clear hc hp hpu
        subst hA
        go_wp2_with fail
        have hx : (t : Int) = (p.turn : Int) + 1 := by omega
        have HW2 := HW.out
        change Calls Tryd.prog _ #[.agg #[.slice (some ⟨b, off, none⟩) n c], .int .i64 (j : Int), .agg #[.bool true, .int .i64 (t : Int), .bool d.leaf, .slice A1 n1 c1, .slice A2 n2 c2, .slice A3 n3 c3]] wr _ at HW2
        rw [HP.out.2.2.2.1, hx] at HW2
        refine HW2.mono ?_
        rintro e Y ⟨A', n', c', rfl, hPY, bY⟩
        clear HW2 a0 e0 e1 e2 e3 z0 z1
        have hne : s ≠ z := by have h1 := HK.out.2.2.2.1; have h2 := HK.out.2.2.2.2.1; omega
        have hres := HM.out.1.below bY HM.out.1.lt
        have hhan := HM.out.2.below bY HM.out.2.lt
        have hfar := hhan.far (o := 0) hne (.slice A' n' c')
        have y0 := hres.cell 0
        have f0 := hres.frozen 0
        have w0 := hfar.cell 0
        have w1 := hfar.cell 1
        have g0 := hfar.frozen 0
        have g1 := hfar.frozen 1
        simp only [List.getElem?_toArray, List.getElem?_cons_zero, List.getElem?_cons_succ] at y0 w0 w1
        obtain ⟨U, hU⟩ : ∃ U, ((Y.setCell ⟨s, 0, none⟩ (.slice A' n' c')).setCell ⟨z, 0, none⟩ (.int .i64 (j : Int))).setCell ⟨z, 1, none⟩ (.int .i64 ((p.turn : Int) + 1)) = U := ⟨_, rfl⟩
        have tU : Turns (fun x => x = s ∨ x = z) Y U := hU ▸ ((((Turns.refl (fun x => x = s ∨ x = z) Y).setCell (g := s) _ _ (fun _ => .inl rfl)).setCell (g := z) _ _ (fun _ => .inr rfl)).setCell (g := z) _ _ (fun _ => .inr rfl))
        have b1 : Blk U s 29 #[.slice A' n' c'] := hU ▸ (((hres.set_ 0 (.slice A' n' c')).far hne.symm _).far hne.symm _)
        have b2 : Blk U z 51 #[.int .i64 (j : Int), .int .i64 ((p.turn : Int) + 1)] := hU ▸ ((hfar.set_ 0 (.int .i64 (j : Int))).set_ 1 (.int .i64 ((p.turn : Int) + 1)))
        have x0 := b1.cell 0
        have x1 := b2.cell 0
        have x2 := b2.cell 1
        simp only [List.getElem?_toArray, List.getElem?_cons_zero, List.getElem?_cons_succ] at x0 x1 x2
        have HG := Lib.hid (And.intro hPY (And.intro bY (And.intro tU hU)))
        clear hPY bY tU hU b1 b2 hres hhan hfar
        go_wp2_with fail
        rw [HG.out.2.2.2]
        have hB : Below w.heap.size w Y := below_next HK.out.2.2.2.2.2 HG.out.2.1
        have hs := HK.out.2.2.2.1
        have hz := HK.out.2.2.2.2.1
        have hzl := HM.out.2.lt
        have hmk : Ar.put L j ⟨true, t, d⟩ = Ar.make L d := by rw [Ar.make, HP.out.2.2.2.2.1, HP.out.2.2.2.2.2.1]
        refine bodyPost_ret (v := .tuple #[.agg #[.slice A' n' c'], .agg #[.int .i64 (j : Int), .int .i64 ((p.turn : Int) + 1)]]) ?_ rfl ⟨A', n', c', by rw [HP.out.2.2.2.2.1, HP.out.2.2.2.2.2.1, hx], ?_, ?_⟩
        · simp [results, Tryd.results33, go_sem, x0, x1, x2]
        · rw [← hmk]
          exact (HG.out.1.turn HG.out.2.2.1 (fun x hx e => by omega)).mono (fun x _ hx => hx.elim (fun h => .inl h.1) (fun h => .inr (by omega)))
        · exact ((Turns.of_below (F := fun x => w.heap.size ≤ x) hB).trans (HG.out.2.2.1.mono (fun x _ hx => by omega))).below (Nat.le_refl _) (fun x hx => hx)
      · obtain rfl : j = n := by omega
        have htn : t = 1 := by
          rw [← HP.out.2.2.2.2.2.1]
          unfold Ar.next
          rw [HP.out.2.2.2.2.1, List.getElem?_eq_none (by have := HP.out.2.2.1; omega)]
        go_wp2_with fail
        have hx : (t : Int) = 1 := by omega
        have HW2 := HW.out
        change Calls Tryd.prog _ #[.agg #[.slice A j c], .int .i64 (j : Int), .agg #[.bool true, .int .i64 (t : Int), .bool d.leaf, .slice A1 n1 c1, .slice A2 n2 c2, .slice A3 n3 c3]] wr _ at HW2
        rw [HP.out.2.2.2.1, hx] at HW2
        refine HW2.mono ?_
        rintro e Y ⟨A', n', c', rfl, hPY, bY⟩
        clear HW2 a0 e0 e1 e2 e3 
        have hne : s ≠ z := by have h1 := HK.out.2.2.2.1; have h2 := HK.out.2.2.2.2.1; omega
        have hres := HM.out.1.below bY HM.out.1.lt
        have hhan := HM.out.2.below bY HM.out.2.lt
        have hfar := hhan.far (o := 0) hne (.slice A' n' c')
        have y0 := hres.cell 0
        have f0 := hres.frozen 0
        have w0 := hfar.cell 0
        have w1 := hfar.cell 1
        have g0 := hfar.frozen 0
        have g1 := hfar.frozen 1
        simp only [List.getElem?_toArray, List.getElem?_cons_zero, List.getElem?_cons_succ] at y0 w0 w1
        obtain ⟨U, hU⟩ : ∃ U, ((Y.setCell ⟨s, 0, none⟩ (.slice A' n' c')).setCell ⟨z, 0, none⟩ (.int .i64 (j : Int))).setCell ⟨z, 1, none⟩ (.int .i64 1) = U := ⟨_, rfl⟩
        have tU : Turns (fun x => x = s ∨ x = z) Y U := hU ▸ ((((Turns.refl (fun x => x = s ∨ x = z) Y).setCell (g := s) _ _ (fun _ => .inl rfl)).setCell (g := z) _ _ (fun _ => .inr rfl)).setCell (g := z) _ _ (fun _ => .inr rfl))
        have b1 : Blk U s 29 #[.slice A' n' c'] := hU ▸ (((hres.set_ 0 (.slice A' n' c')).far hne.symm _).far hne.symm _)
        have b2 : Blk U z 51 #[.int .i64 (j : Int), .int .i64 1] := hU ▸ ((hfar.set_ 0 (.int .i64 (j : Int))).set_ 1 (.int .i64 1))
        have x0 := b1.cell 0
        have x1 := b2.cell 0
        have x2 := b2.cell 1
        simp only [List.getElem?_toArray, List.getElem?_cons_zero, List.getElem?_cons_succ] at x0 x1 x2
        have HG := Lib.hid (And.intro hPY (And.intro bY (And.intro tU hU)))
        clear hPY bY tU hU b1 b2 hres hhan hfar
        go_wp2_with fail
        rw [HG.out.2.2.2]
        have hB : Below w.heap.size w Y := below_next HK.out.2.2.2.2.2 HG.out.2.1
        have hs := HK.out.2.2.2.1
        have hz := HK.out.2.2.2.2.1
        have hzl := HM.out.2.lt
        have hmk : Ar.put L j ⟨true, t, d⟩ = Ar.make L d := by rw [Ar.make, HP.out.2.2.2.2.1, HP.out.2.2.2.2.2.1]
        refine bodyPost_ret (v := .tuple #[.agg #[.slice A' n' c'], .agg #[.int .i64 (j : Int), .int .i64 1]]) ?_ rfl ⟨A', n', c', by rw [HP.out.2.2.2.2.1, HP.out.2.2.2.2.2.1, hx], ?_, ?_⟩
        · simp [results, Tryd.results33, go_sem, x0, x1, x2]
        · rw [← hmk]
          exact (HG.out.1.turn HG.out.2.2.1 (fun x hx e => by omega)).mono (fun x _ hx => hx.elim (fun h => .inl h.1) (fun h => .inr (by omega)))
        · exact ((Turns.of_below (F := fun x => w.heap.size ≤ x) hB).trans (HG.out.2.2.1.mono (fun x _ hx => by omega))).below (Nat.le_refl _) (fun x hx => hx)
end Go.Proofs.YtgpcpjjdneimfaaDoor
