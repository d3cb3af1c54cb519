/- Layer 5, the program: the least and the greatest of numbers; All. -/
import Derived.Test.YtaahlepgmcgcfaaRefAll
import Derived.WalkLawsBesides
namespace Go.Proofs.Ytaahlepgmcgcfaa
open Go.ChangeShapes Go.WideShapes Go.ChangeAt Go.RowKit

def imin (a b : Int) : Int := if b < a then b else a
def imax (a b : Int) : Int := if a < b then b else a
theorem imin_run (p q : Int) (W : World) : (Builtin.min_ #[2, 2] 2 #[.int .i64 p, .int .i64 q]).run Try.prog W = .ok (.int .i64 (imin p q)) W := by
  unfold imin
  by_cases h : q < p <;> simp [Builtin.min_, Builtin.min2, h]
theorem imax_run (p q : Int) (W : World) : (Builtin.max_ #[2, 2] 2 #[.int .i64 p, .int .i64 q]).run Try.prog W = .ok (.int .i64 (imax p q)) W := by
  unfold imax
  by_cases h : p < q <;> simp [Builtin.max_, Builtin.max2, h]
theorem isnoc_at (l : List Int) (j : Nat) (h : j < l.length) : l.take (j + 1) = l.take j ++ [l.getD j 0] := by
  rw [List.take_succ_eq_append_getElem h, List.getD_eq_getElem?_getD, List.getElem?_eq_getElem h]; rfl
theorem mn_take {l : List Int} {j : Nat} (h0 : 0 < j) (h : j < l.length) : Ag.mn (l.take (j + 1)) = imin (Ag.mn (l.take j)) (l.getD j 0) := by
  rw [isnoc_at l j h, Ag.mn_snoc, if_neg (by intro e; have := congrArg List.length e; rw [List.length_take] at this; simp only [List.length_nil] at this; omega)]
  rfl
theorem mx_take {l : List Int} {j : Nat} (h0 : 0 < j) (h : j < l.length) : Ag.mx (l.take (j + 1)) = imax (Ag.mx (l.take j)) (l.getD j 0) := by
  rw [isnoc_at l j h, Ag.mx_snoc, if_neg (by intro e; have := congrArg List.length e; rw [List.length_take] at this; simp only [List.length_nil] at this; omega)]
  rfl
theorem mn_take1 {l : List Int} (h : 0 < l.length) : Ag.mn (l.take 1) = l.getD 0 0 := by
  cases l with
  | nil => simp at h
  | cons x l => simp [Ag.mn]
theorem mx_take1 {l : List Int} (h : 0 < l.length) : Ag.mx (l.take 1) = l.getD 0 0 := by
  cases l with
  | nil => simp at h
  | cons x l => simp [Ag.mx]
set_option maxRecDepth 100000 in
set_option maxHeartbeats 1000000 in
theorem min_any (n c B : Nat) (A : Option Addr) (l : List Int) (w : World) (h : Ints w B A n l) (h0 : 0 < n) (hn : n ≤ 1000000) :
    Calls Try.prog 35 #[.slice A n c] w fun e w' => e = .returned (.int .i64 (Ag.mn l)) ∧ w = w' := by
  have HL := Lib.hid h.1
  obtain ⟨b, off, rfl, hbB, hc⟩ := h.2.2 h0
  have h1 := hc 0 h0
  have HC := Lib.hid hc
  have e1 := mn_take1 (l := l) (by rw [h.1]; exact h0)
  rw [← e1, Nat.add_zero] at h1
  have i0 : (0 : Int) < n := by omega
  have i1 : ¬ (n : Int) < 1 := by omega
  clear hc h e1
  go_enter Try.func35, Try.ntmps35
  go_wp2_with fail
  clear h1
  go_loop [3, 4] (fun m i => ∃ k : Nat, 1 ≤ k ∧ k ≤ n ∧ i = .int .i64 (k : Int) ∧ m = .int .i64 (Ag.mn (l.take k))) (fun _ i => n - (intOf i).toNat)
  case atStart => exact ⟨1, by omega, by omega, rfl, rfl⟩
  case round =>
    obtain ⟨k, hk1, hk, rfl, rfl⟩ := hrel
    by_cases hlt : k < n
    · have hcell := HC.out k hlt
      have E0 := mn_take (l := l) (j := k) (by omega) (by rw [HL.out]; exact hlt)
      obtain ⟨x, hx⟩ : ∃ x, l.getD k 0 = x := ⟨_, rfl⟩
      rw [hx] at hcell E0
      have E := Lib.hid E0
      clear hx E0
      have hm := fun W => imin_run (Ag.mn (l.take k)) x W
      have i2 : (k : Int) < n := by omega
      have i3 : (0 : Int) ≤ k := by omega
      clear i0 i1
      go_wp2_with fail
      go_round
      case rel => exact ⟨k + 1, by omega, by omega, by go_num, by rw [E.out]⟩
      case measure => simp [intOf]; omega
    · obtain rfl : k = n := by omega
      have E := Lib.hid (List.take_of_length_le (by rw [HL.out]; exact Nat.le_refl _) : l.take k = l)
      clear i0 i1
      go_wp2_with fail
      go_ret
      exact ⟨ret_int (by rw [E.out]), rfl⟩
set_option maxRecDepth 100000 in
set_option maxHeartbeats 1000000 in
theorem max_any (n c B : Nat) (A : Option Addr) (l : List Int) (w : World) (h : Ints w B A n l) (h0 : 0 < n) (hn : n ≤ 1000000) :
    Calls Try.prog 36 #[.slice A n c] w fun e w' => e = .returned (.int .i64 (Ag.mx l)) ∧ w = w' := by
  have HL := Lib.hid h.1
  obtain ⟨b, off, rfl, hbB, hc⟩ := h.2.2 h0
  have h1 := hc 0 h0
  have HC := Lib.hid hc
  have e1 := mx_take1 (l := l) (by rw [h.1]; exact h0)
  rw [← e1, Nat.add_zero] at h1
  have i0 : (0 : Int) < n := by omega
  have i1 : ¬ (n : Int) < 1 := by omega
  clear hc h e1
  go_enter Try.func36, Try.ntmps36
  go_wp2_with fail
  clear h1
  go_loop [3, 4] (fun m i => ∃ k : Nat, 1 ≤ k ∧ k ≤ n ∧ i = .int .i64 (k : Int) ∧ m = .int .i64 (Ag.mx (l.take k))) (fun _ i => n - (intOf i).toNat)
  case atStart => exact ⟨1, by omega, by omega, rfl, rfl⟩
  case round =>
    obtain ⟨k, hk1, hk, rfl, rfl⟩ := hrel
    by_cases hlt : k < n
    · have hcell := HC.out k hlt
      have E0 := mx_take (l := l) (j := k) (by omega) (by rw [HL.out]; exact hlt)
      obtain ⟨x, hx⟩ : ∃ x, l.getD k 0 = x := ⟨_, rfl⟩
      rw [hx] at hcell E0
      have E := Lib.hid E0
      clear hx E0
      have hm := fun W => imax_run (Ag.mx (l.take k)) x W
      have i2 : (k : Int) < n := by omega
      have i3 : (0 : Int) ≤ k := by omega
      clear i0 i1
      go_wp2_with fail
      go_round
      case rel => exact ⟨k + 1, by omega, by omega, by go_num, by rw [E.out]⟩
      case measure => simp [intOf]; omega
    · obtain rfl : k = n := by omega
      have E := Lib.hid (List.take_of_length_le (by rw [HL.out]; exact Nat.le_refl _) : l.take k = l)
      clear i0 i1
      go_wp2_with fail
      go_ret
      exact ⟨ret_int (by rw [E.out]), rfl⟩
theorem sum_yes' {s : Int} (h : fitB s = true) : sumE s = 0 ∧ fitN s = s := by
  have := of_decide_eq_true h
  unfold sumE fitN
  exact ⟨if_pos h, if_pos this⟩
theorem all_no {l : List Int} (h : fitB l.sum = false) : Ag.all l = none := by unfold Ag.all; rw [fits_sum, h]; rfl
theorem all_yes {l : List Int} (h : fitB l.sum = true) : Ag.all l = some (Ag.of l) := by unfold Ag.all; rw [fits_sum, h]; rfl
theorem blk_four {w : World} {g T : Nat} {x0 x1 x2 x3 : Value} (h : Blk w g T #[x0, x1, x2, x3]) (y0 y1 y2 y3 : Value) : Blk ((((w.setCell ⟨g, 0, none⟩ y0).setCell ⟨g, 1, none⟩ y1).setCell ⟨g, 2, none⟩ y2).setCell ⟨g, 3, none⟩ y3) g T #[y0, y1, y2, y3] :=
  (((h.set_ 0 y0).set_ 1 y1).set_ 2 y2).set_ 3 y3
theorem below_four' {B g : Nat} {w w1 : World} (hb : Below B w w1) (hg : B ≤ g) (a b c d : Value) : Below B w ((((w1.setCell ⟨g, 0, none⟩ a).setCell ⟨g, 1, none⟩ b).setCell ⟨g, 2, none⟩ c).setCell ⟨g, 3, none⟩ d) :=
  (((hb.setCell (p := ⟨g, 0, none⟩) hg a).setCell (p := ⟨g, 1, none⟩) hg b).setCell (p := ⟨g, 2, none⟩) hg c).setCell (p := ⟨g, 3, none⟩) hg d
set_option maxRecDepth 100000 in
set_option maxHeartbeats 2000000 in
theorem all_any (n c B : Nat) (A : Option Addr) (l : List Int) (w : World) (h : Ints w B A n l) (hB : B ≤ w.heap.size) (hn : n ≤ 1000000) :
    Calls Try.prog 19 #[.slice A n c] w (AggE w (Ag.all l)) := by
  have hb0 := Blk.new w 33 #[.int .i64 0, .int .i64 0, .int .i64 0, .int .i64 0]
  have hbe : Below w.heap.size w (w.alloc (.cells #[.int .i64 0, .int .i64 0, .int .i64 0, .int .i64 0] 33)) := (Below.refl _ _).alloc (Nat.le_refl _) _
  have hA := h.alloc hB (.cells #[.int .i64 0, .int .i64 0, .int .i64 0, .int .i64 0] 33)
  have hs := sum_any n c B A l (w.alloc (.cells #[.int .i64 0, .int .i64 0, .int .i64 0, .int .i64 0] 33)) hA (by simp; omega) hn
  obtain ⟨w0, hw0⟩ : ∃ w0, w.alloc (.cells #[.int .i64 0, .int .i64 0, .int .i64 0, .int .i64 0] 33) = w0 := ⟨_, rfl⟩
  have hz : w0.heap.size = w.heap.size + 1 := by rw [← hw0]; simp
  rw [hw0] at hb0 hbe hs hA
  have HA := Lib.hid (And.intro hA hB)
  have HLen := Lib.hid h.1
  have H0 := Lib.hid (And.intro hb0 (And.intro hbe hz))
  have i0 : (0 : Int) ≤ n := by omega
  clear hb0 hbe hA hz
  cases hf : fitB l.sum
  · rw [all_no hf]
    have hz : fitN l.sum = 0 := (fit_no (fun h => by rw [(fit_yes h).1] at hf; cases hf)).2
    have he : sumE l.sum = 30 := by unfold sumE; rw [hf]; rfl
    rw [hz, he] at hs
    have HS := Lib.hid hs
    clear hs hz he hf h
    go_enter Try.func19, Try.ntmps19
    go_wp2_with (go_at_call 34; (with_reducible refine HS.out.mono ?_); rintro e w1 ⟨rfl, b1⟩; have hk := H0.out.1.below b1 (by rw [H0.out.2.2]; omega); have hc0 := hk.cell 0; have hc1 := hk.cell 1; have hc2 := hk.cell 2; have hc3 := hk.cell 3; have hf0 := hk.frozen 0; have hf1 := hk.frozen 1; have hf2 := hk.frozen 2; have hf3 := hk.frozen 3; have HK := Lib.hid (And.intro hk (H0.out.2.1.trans (b1.mono (by rw [H0.out.2.2]; omega)))); clear b1 hk)
    have hd := blk_four HK.out.1 (.int .i64 0) (.int .i64 0) (.int .i64 0) (.int .i64 0)
    have e0 := hd.cell 0
    have e1 := hd.cell 1
    have e2 := hd.cell 2
    have e3 := hd.cell 3
    refine bodyPost_ret (v := .tuple #[.agg #[.int .i64 0, .int .i64 0, .int .i64 0, .int .i64 0], .int .i64 30]) ?_ rfl ⟨?_, rfl⟩
    · simp [results, Try.results19, go_sem, e0, e1, e2, e3]
    · exact below_four' HK.out.2 (Nat.le_refl _) _ _ _ _
  · rw [all_yes hf]
    have hz : fitN l.sum = l.sum := (sum_yes' hf).2
    have he : sumE l.sum = 0 := (sum_yes' hf).1
    rw [hz, he] at hs
    have HS := Lib.hid hs
    clear hs hz he hf
    rcases Nat.eq_zero_or_pos n with h0 | h0
    · subst h0
      obtain rfl : l = [] := List.eq_nil_of_length_eq_zero HLen.out
      clear h
      go_enter Try.func19, Try.ntmps19
      go_wp2_with (go_at_call 34; (with_reducible refine HS.out.mono ?_); rintro e w1 ⟨rfl, b1⟩; have hk := H0.out.1.below b1 (by rw [H0.out.2.2]; omega); have hc0 := hk.cell 0; have hc1 := hk.cell 1; have hc2 := hk.cell 2; have hc3 := hk.cell 3; have hf0 := hk.frozen 0; have hf1 := hk.frozen 1; have hf2 := hk.frozen 2; have hf3 := hk.frozen 3; have HK := Lib.hid (And.intro hk (H0.out.2.1.trans (b1.mono (by rw [H0.out.2.2]; omega)))); clear b1 hk)
      have hd := blk_four HK.out.1 (.int .i64 0) (.int .i64 0) (.int .i64 0) (.int .i64 0)
      have e0 := hd.cell 0
      have e1 := hd.cell 1
      have e2 := hd.cell 2
      have e3 := hd.cell 3
      refine bodyPost_ret (v := .tuple #[.agg #[.int .i64 0, .int .i64 0, .int .i64 0, .int .i64 0], .int .i64 0]) ?_ rfl ⟨?_, rfl⟩
      · simp [results, Try.results19, go_sem, e0, e1, e2, e3]
      · exact below_four' HK.out.2 (Nat.le_refl _) _ _ _ _
    · have hne : decide ((n : Int) = 0) = false := decide_eq_false (by omega)
      have hne2 : ((n : Int) == 0) = false := by rw [beq_eq_false_iff_ne]; omega
      clear h
      go_enter Try.func19, Try.ntmps19
      go_wp2_with (first
        | (go_at_call 34; (with_reducible refine HS.out.mono ?_); rintro e w1 ⟨rfl, b1⟩; have hk := H0.out.1.below b1 (by rw [H0.out.2.2]; omega); have hc0 := hk.cell 0; have hc1 := hk.cell 1; have hc2 := hk.cell 2; have hc3 := hk.cell 3; have hf0 := hk.frozen 0; have hf1 := hk.frozen 1; have hf2 := hk.frozen 2; have hf3 := hk.frozen 3; have HK := Lib.hid (And.intro hk (And.intro (H0.out.2.1.trans (b1.mono (by rw [H0.out.2.2]; omega))) (HA.out.1.below b1 (by rw [H0.out.2.2]; have := HA.out.2; omega)))); clear b1 hk)
        | (go_at_call 35; (with_reducible refine (min_any _ _ _ _ l _ HK.out.2.2 h0 hn).mono ?_); rintro e w2 ⟨rfl, rfl⟩)
        | (go_at_call 36; (with_reducible refine (max_any _ _ _ _ l _ HK.out.2.2 h0 hn).mono ?_); rintro e w2 ⟨rfl, rfl⟩))
      have hd := blk_four HK.out.1 (.int .i64 (n : Int)) (.int .i64 l.sum) (.int .i64 (Ag.mn l)) (.int .i64 (Ag.mx l))
      have e0 := hd.cell 0
      have e1 := hd.cell 1
      have e2 := hd.cell 2
      have e3 := hd.cell 3
      refine bodyPost_ret (v := .tuple #[.agg #[.int .i64 (n : Int), .int .i64 l.sum, .int .i64 (Ag.mn l), .int .i64 (Ag.mx l)], .int .i64 0]) ?_ rfl ⟨?_, ?_⟩
      · simp [results, Try.results19, go_sem, e0, e1, e2, e3]
      · exact below_four' HK.out.2.1 (Nat.le_refl _) _ _ _ _
      · show _ = Ending.returned (.tuple #[.agg #[.int .i64 (l.length : Int), _, _, _], _])
        rw [HLen.out]
        rfl
end Go.Proofs.Ytaahlepgmcgcfaa
