/- cmp.Compare, of numbers and of texts. -/
import Derived.Test.YtaahlepgmcgcfaaTxt
namespace Go.Proofs.Ytaahlepgmcgcfaa
open Go.ChangeShapes Go.WideShapes Go.ChangeAt Go.RowKit

set_option maxRecDepth 100000 in
set_option maxHeartbeats 1000000 in
theorem isNaN_int64 (a : Int) (w : World) : Calls Try.prog 49 #[.int .i64 a] w fun e w' => e = .returned (.bool false) ∧ w' = w := by
  have h1 : (a != a) = false := by simp
  go_enter Try.func49, Try.ntmps49
  go_wp2_with fail
  go_ret
  exact ⟨rfl, rfl⟩
set_option maxRecDepth 100000 in
set_option maxHeartbeats 1000000 in
theorem isNaN_string (a : ByteArray) (w : World) : Calls Try.prog 48 #[.string a] w fun e w' => e = .returned (.bool false) ∧ w' = w := by
  have h1 : (a.toList != a.toList) = false := by simp
  go_enter Try.func48, Try.ntmps48
  go_wp2_with fail
  go_ret
  exact ⟨rfl, rfl⟩
set_option maxRecDepth 100000 in
set_option maxHeartbeats 1000000 in
theorem cmp_int64 (a b : Int) (w : World) :
    Calls Try.prog 31 #[.int .i64 a, .int .i64 b] w fun e w' => e = .returned (.int .i64 (Ky.cmpI a b)) ∧ w' = w := by
  unfold Ky.cmpI
  by_cases h1 : a < b
  · rw [if_pos h1]
    go_enter Try.func31, Try.ntmps31
    go_wp2_with fail
    refine (isNaN_int64 a w).mono ?_
    rintro e w1 ⟨rfl, rfl⟩
    go_wp2_with fail
    refine (isNaN_int64 b w1).mono ?_
    rintro e w2 ⟨rfl, rfl⟩
    go_wp2_with fail
    go_ret
    exact ⟨rfl, rfl⟩
  · rw [if_neg h1]
    by_cases h2 : b < a
    · rw [if_pos h2]
      go_enter Try.func31, Try.ntmps31
      go_wp2_with fail
      refine (isNaN_int64 a w).mono ?_
      rintro e w1 ⟨rfl, rfl⟩
      go_wp2_with fail
      refine (isNaN_int64 b w1).mono ?_
      rintro e w2 ⟨rfl, rfl⟩
      go_wp2_with fail
      go_ret
      exact ⟨rfl, rfl⟩
    · rw [if_neg h2]
      go_enter Try.func31, Try.ntmps31
      go_wp2_with fail
      refine (isNaN_int64 a w).mono ?_
      rintro e w1 ⟨rfl, rfl⟩
      go_wp2_with fail
      refine (isNaN_int64 b w1).mono ?_
      rintro e w2 ⟨rfl, rfl⟩
      go_wp2_with fail
      go_ret
      exact ⟨rfl, rfl⟩
set_option maxRecDepth 100000 in
set_option maxHeartbeats 1000000 in
theorem cmp_string (a b : ByteArray) (w : World) :
    Calls Try.prog 30 #[.string a, .string b] w fun e w' => e = .returned (.int .i64 (Ky.cmp (nums a) (nums b))) ∧ w' = w := by
  have hl := text_cmp a b
  have hr := text_cmp b a
  rw [Ky.cmp_swap (nums a) (nums b)] at hr
  rcases Ky.cmp_three (nums a) (nums b) with h | h | h
  · rw [h] at hl hr ⊢
    replace hl : Op.bytesLess a.toList b.toList = true := by rw [hl]; rfl
    replace hr : Op.bytesLess b.toList a.toList = false := by rw [hr]; rfl
    go_enter Try.func30, Try.ntmps30
    go_wp2_with fail
    refine (isNaN_string a w).mono ?_
    rintro e w1 ⟨rfl, rfl⟩
    go_wp2_with fail
    refine (isNaN_string b w1).mono ?_
    rintro e w2 ⟨rfl, rfl⟩
    go_wp2_with fail
    go_ret
    exact ⟨rfl, rfl⟩
  · rw [h] at hl hr ⊢
    replace hl : Op.bytesLess a.toList b.toList = false := by rw [hl]; rfl
    replace hr : Op.bytesLess b.toList a.toList = false := by rw [hr]; rfl
    have hq : (a.toList == b.toList) = true := by rw [nums_inj (Ky.cmp_eq h)]; simp
    go_enter Try.func30, Try.ntmps30
    go_wp2_with fail
    refine (isNaN_string a w).mono ?_
    rintro e w1 ⟨rfl, rfl⟩
    go_wp2_with fail
    refine (isNaN_string b w1).mono ?_
    rintro e w2 ⟨rfl, rfl⟩
    go_wp2_with fail
    go_ret
    exact ⟨rfl, rfl⟩
  · rw [h] at hl hr ⊢
    replace hl : Op.bytesLess a.toList b.toList = false := by rw [hl]; rfl
    replace hr : Op.bytesLess b.toList a.toList = true := by rw [hr]; rfl
    have hq := text_ne (a := a) (b := b) (by intro e; rw [e, Ky.cmp_refl] at h; simp at h)
    go_enter Try.func30, Try.ntmps30
    go_wp2_with fail
    refine (isNaN_string a w).mono ?_
    rintro e w1 ⟨rfl, rfl⟩
    go_wp2_with fail
    refine (isNaN_string b w1).mono ?_
    rintro e w2 ⟨rfl, rfl⟩
    go_wp2_with fail
    go_ret
    exact ⟨rfl, rfl⟩
end Go.Proofs.Ytaahlepgmcgcfaa
