/- Made by tools/gen/cn.py. -/
/- Layer 15, the program: what is cut off. -/
import Derived.Test.YteegnehfagkjcaaCnI
import Derived.StillTailTactics
namespace Go.Proofs.Yteegnehfagkjcaa
open Go.ChangeShapes Go.WideShapes Go.ChangeAt Go.RowKit

theorem run_cut_ls {P : Program} (t e : TypeId) (i : TypeInfo) (ht : P.underlying t = some (.slice e)) (hi : P.info? e = some i) (s : Nat) (hz : i.size = s) (a : Option Addr) (len cap : Nat) (l : Nat) (v : Int) (hv : v = l) (h1 : l ≤ len) (W : World) : (Instr.sliceAt t (.slice a len cap) (some (.int .i64 v)) none none).run P W = .ok (.slice (if cap = l then a else a.map (·.add (l * s))) (len - l) (cap - l)) W := by
  subst hv
  have hl := run_sliceBound (P := P) (w := W) .i64 (l : Int) len .sliceB (by omega) (by omega)
  simp [Instr.sliceAt, Instr.slice, run_underlying ht, Instr.sliceBounds, hl, sizeOf, typeInfo, hi, hz]
def CutP (w : World) (g : Nat) (A : Option Addr) (n k : Nat) (L : List Cn.Ver) (e : Ending) (w' : World) : Prop :=
  e = .returned (.tuple #[]) ∧ ∃ A' c' sp', ChAt w' g A' (n - k) c' sp' (L.drop k) ∧ (∀ b o p, A' = some ⟨b, o, p⟩ → (∃ o2 p2, A = some ⟨b, o2, p2⟩) ∨ w.heap.size ≤ b) ∧ Turns (fun b => b = g) w w'
theorem blk_kind {w : World} {g b : Nat} {T E : TypeId} {cs cur : Array Value} (h : Blk w g T cs) (k : Blk w b E cur) (hne : E ≠ T) : b ≠ g := by
  rintro rfl
  unfold Blk at h k
  rw [h] at k
  injection k with k
  injection k with _ k
  exact hne k.symm
theorem OwF.far {w w' : World} {F : Nat → Prop} {E T : TypeId} {s n c g : Nat} {A : Option Addr} {xs : List Value} {cs : Array Value} (h : OwF w F E s A n c xs) (hg : Blk w g T cs) (hne : E ≠ T) (ht : Turns (fun b => b = g) w w') : OwF w' F E s A n c xs := by
  rcases h with h | ⟨b, o, cur, e, hF, hb, r⟩
  · exact .inl h
  · exact .inr ⟨b, o, cur, e, hF, ht.blk hb (blk_kind hg hb hne), r⟩
set_option maxRecDepth 100000 in
set_option maxHeartbeats 4000000 in
theorem cut_any (w : World) (g n c sp k : Nat) (A : Option Addr) (L : List Cn.Ver) (hb : Blk w g 75 #[.slice A n c, .int .i64 (sp : Int)]) (row : OwF w (fun _ => True) 35 6 A n c (vrL L)) (hl : L.length = n) (hs : sp ≤ n) (hk : k ≤ n) (hn : n ≤ 1000000) (hr : Cn.right (L.drop k) = true) :
    Calls Try.prog 42 #[.pointer (some ⟨g, 0, none⟩), .int .i64 (k : Int)] w (CutP w g A n k L) := by
  obtain ⟨i0, hi, hz0, hz1, hz2⟩ := info_parts Try.info35
  have hrow := row.cut hk
  rw [vrL_drop] at hrow
  have hA : ∀ b o p, (if c = k then A else A.map (·.add (k * 6))) = some ⟨b, o, p⟩ → ∃ o2 p2, A = some ⟨b, o2, p2⟩ := by
    intro b o p e
    by_cases hck : c = k
    · rw [if_pos hck] at e
      exact ⟨o, p, e⟩
    · rw [if_neg hck] at e
      rcases row with ⟨rfl, -⟩ | ⟨g', o', cur, rfl, -⟩
      · cases e
      · simp [add_at] at e
        obtain ⟨rfl, -⟩ := e
        exact ⟨o', none, rfl⟩
  have hcut0 := fun W => run_cut_ls (P := Try.prog) 22 35 i0 Try.underlying22 hi 6 hz1 A n c k (k : Int) rfl hk W
  obtain ⟨A2, hA2⟩ : ∃ A2, (if c = k then A else A.map (·.add (k * 6))) = A2 := ⟨_, rfl⟩
  rw [hA2] at hrow hA
  have hcut : ∀ W, (Instr.sliceAt 22 (.slice A n c) (some (.int .i64 (k : Int))) none none).run Try.prog W = .ok (.slice A2 (n - k) (c - k)) W := fun W => by rw [← hA2]; exact hcut0 W
  clear hcut0
  obtain ⟨m, hm⟩ : ∃ m, n - k = m := ⟨_, rfl⟩
  obtain ⟨c2, hc2⟩ : ∃ c2, c - k = c2 := ⟨_, rfl⟩
  rw [hm, hc2] at hrow
  simp only [hm, hc2] at hcut
  have hl2 : (L.drop k).length = m := by rw [List.length_drop, hl, hm]
  have hwr : IntKind.i64.wrap ((sp : Int) + (k : Int)) = (sp : Int) + (k : Int) := by rw [IntKind.wrap_i64]; omega
  have q0 := hb.cell 0
  have q1 := hb.cell 1
  have f0 := hb.frozen 0
  have f1 := hb.frozen 1
  simp only [List.getElem?_toArray, List.getElem?_cons_zero, List.getElem?_cons_succ] at q0 q1
  have hbb := (hb.set_ 0 (.slice A2 m c2)).set_ 1 (.int .i64 ((sp : Int) + (k : Int)))
  have hT := ((Turns.refl (fun b => b = g) w).setCell (g := g) 0 (.slice A2 m c2) (fun _ => rfl)).setCell (g := g) 1 (.int .i64 ((sp : Int) + (k : Int))) (fun _ => rfl)
  have hrow2 := hrow.far hb (by decide) hT
  obtain ⟨w1, hw1⟩ : ∃ w1, ((w.setCell ⟨g, 0, none⟩ (.slice A2 m c2)).setCell ⟨g, 1, none⟩ (.int .i64 ((sp : Int) + (k : Int)))) = w1 := ⟨_, rfl⟩
  rw [hw1] at hbb hT hrow2
  have hbb : Blk w1 g 75 #[.slice A2 m c2, .int .i64 ((sp : Int) + (k : Int))] := hbb
  have H := Lib.hid (And.intro hbb (And.intro hT (And.intro hrow2 (And.intro hA (And.intro hl2 (And.intro hr hm))))))
  have HI := Lib.hid (And.intro hi (And.intro hz0 (And.intro hz1 hz2)))
  have HN := Lib.hid (And.intro hs (And.intro hk hw1))
  clear hb row hl hs hk hr hrow hA hA2 hl2 hbb hT hrow2 hi hz0 hz1 hz2 hm hc2 hw1
  go_enter Try.func42, Try.ntmps42
  go_wp2_with fail
  go_region
  rw [HN.out.2.2]
  obtain ⟨w2, hw2⟩ : ∃ w2, w1.drew = w2 := ⟨_, rfl⟩
  rw [hw2]
  have d2 : Below w1.heap.size w1 w2 := hw2 ▸ (Below.refl _ _).drew
  have h2 := H.out.1.below d2 H.out.1.lt
  have T2 : Turns (fun b => b = g) w w2 := hw2 ▸ H.out.2.1.drew
  have H2 := Lib.hid (And.intro h2 (And.intro T2 (H.out.2.2.1.below d2)))
  have x0 := h2.cell 0
  have x1 := h2.cell 1
  simp only [List.getElem?_toArray, List.getElem?_cons_zero, List.getElem?_cons_succ] at x0 x1
  clear hw2 d2 h2 T2 q0 q1 f0 f1 hcut hwr
  by_cases hlt : sp + k < m
  · have d1 : ¬ (m : Int) ≤ (sp : Int) + (k : Int) := by omega
    have HL := Lib.hid hlt
    clear hlt
    go_wp2_with fail
    go_region
    go_wp2_with fail
    refine bodyPost_ret (results_none rfl _ _ _) rfl ⟨rfl, A2, c2, sp + k, ⟨?_, ?_, ?_, ?_, H.out.2.2.2.2.2.1⟩, fun b o p e => .inl (H.out.2.2.2.1 b o p e), H2.out.2.1.drew⟩
    · rw [H.out.2.2.2.2.2.2]
      exact H2.out.1
    · rw [H.out.2.2.2.2.2.2]
      exact H2.out.2.2.below (Below.refl _ _).drew
    · rw [H.out.2.2.2.2.2.2]
      exact H.out.2.2.2.2.1
    · rw [H.out.2.2.2.2.2.2]
      have := HL.out
      omega
  · have d1 : (m : Int) ≤ (sp : Int) + (k : Int) := by omega
    have hm : m ≤ 1000000 := by have := HN.out; have := H.out.2.2.2.2.2.2; omega
    clear hlt
    go_wp2_with fail
    go_region
    obtain ⟨w3, hw3⟩ : ∃ w3, w2.drew = w3 := ⟨_, rfl⟩
    rw [hw3]
    have d3 : Below w2.heap.size w2 w3 := hw3 ▸ (Below.refl _ _).drew
    have T3 : Turns (fun b => b = g) w w3 := hw3 ▸ H2.out.2.1.drew
    have h3 := H2.out.1.below d3 H2.out.1.lt
    obtain ⟨A3, c3, w4, hrun, hown, hb4⟩ := append_copy (P := Try.prog) (w := w3) (F := fun _ => True) (A := A2) (n := m) (c := c2) 22 35 i0 _ 48 Try.underlying22 HI.out.1 HI.out.2.1 HI.out.2.2.1 HI.out.2.2.2 rfl (by decide) 22 (H2.out.2.2.below d3).cells (vrL_one _) hm (by decide)
    have h4 := h3.below hb4 h3.lt
    have T4 := T3.then (Turns.of_below (F := fun b => b = g) hb4) (fun _ _ e => e)
    have HRUN := Lib.hid hrun
    have y0 := h3.cell 0
    have z0 := h4.cell 0
    have z1 := h4.cell 1
    have f0 := h4.frozen 0
    have f1 := h4.frozen 1
    simp only [List.getElem?_toArray, List.getElem?_cons_zero, List.getElem?_cons_succ] at y0 z0 z1
    have hbb := (h4.set_ 0 (.slice A3 m c3)).set_ 1 (.int .i64 0)
    have hT := (T4.setCell (g := g) 0 (.slice A3 m c3) (fun _ => rfl)).setCell (g := g) 1 (.int .i64 0) (fun _ => rfl)
    have hf := (OwF.of_own hown).far h4 (by decide) (((Turns.refl (fun b => b = g) w4).setCell (g := g) 0 (.slice A3 m c3) (fun _ => rfl)).setCell (g := g) 1 (.int .i64 0) (fun _ => rfl))
    have H4 := Lib.hid (And.intro hbb (And.intro hT (And.intro hf T3.size)))
    clear d3 h3 hrun hown hb4 h4 T4 T3 hbb hT hf hw3 x0 x1 d1
    go_wp2_with (at_builtin; refine wpList_append_eq rfl _ _ 22 rfl rfl rfl HRUN.out ?_)
    refine bodyPost_ret (results_none rfl _ _ _) rfl ⟨rfl, A3, c3, 0, ⟨?_, ?_, ?_, Nat.zero_le _, H.out.2.2.2.2.2.1⟩, fun b o p e => ?_, H4.out.2.1⟩
    · rw [H.out.2.2.2.2.2.2]
      exact H4.out.1
    · rw [H.out.2.2.2.2.2.2]
      exact H4.out.2.2.1.mono (fun _ _ _ => trivial)
    · rw [H.out.2.2.2.2.2.2]
      exact H.out.2.2.2.2.1
    · have h1 := H4.out.2.2.1
      rcases h1 with ⟨h1, -⟩ | ⟨g', o', cur, h1, h2, -⟩
      · rw [h1] at e
        cases e
      · rw [h1] at e
        injection e with e
        injection e with e1 e2 e3
        subst e1
        exact .inr (Nat.le_trans H4.out.2.2.2 h2)
end Go.Proofs.Yteegnehfagkjcaa
