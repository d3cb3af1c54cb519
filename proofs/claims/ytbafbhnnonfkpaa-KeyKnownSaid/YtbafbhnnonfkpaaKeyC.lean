/- Layer 4, the program: parts and rows, compared. -/
import Derived.Test.YtbafbhnnonfkpaaRefR
namespace Go.Proofs.Ytbafbhnnonfkpaa
open Go.ChangeShapes Go.WideShapes Go.ChangeAt Go.RowKit

set_option maxRecDepth 100000 in
set_option maxHeartbeats 1000000 in
theorem isNaN_uint8 (a : Int) (w : World) : Calls Try.prog 54 #[.int .u8 a] w fun e w' => e = .returned (.bool false) ∧ w' = w := by
  have h1 : (a != a) = false := by simp
  go_enter Try.func54, Try.ntmps54
  go_wp2_with fail
  go_ret
  exact ⟨rfl, rfl⟩
set_option maxRecDepth 100000 in
set_option maxHeartbeats 1000000 in
theorem isNaN_int64 (a : Int) (w : World) : Calls Try.prog 55 #[.int .i64 a] w fun e w' => e = .returned (.bool false) ∧ w' = w := by
  have h1 : (a != a) = false := by simp
  go_enter Try.func55, Try.ntmps55
  go_wp2_with fail
  go_ret
  exact ⟨rfl, rfl⟩
set_option maxRecDepth 100000 in
set_option maxHeartbeats 1000000 in
theorem isNaN_string (a : ByteArray) (w : World) : Calls Try.prog 56 #[.string a] w fun e w' => e = .returned (.bool false) ∧ w' = w := by
  have h1 : (a.toList != a.toList) = false := by simp
  go_enter Try.func56, Try.ntmps56
  go_wp2_with fail
  go_ret
  exact ⟨rfl, rfl⟩
set_option maxRecDepth 100000 in
set_option maxHeartbeats 1000000 in
theorem cmp_uint8 (a b : Int) (w : World) :
    Calls Try.prog 47 #[.int .u8 a, .int .u8 b] w fun e w' => e = .returned (.int .i64 (Ky.cmpI a b)) ∧ w' = w := by
  unfold Ky.cmpI
  by_cases h1 : a < b
  · rw [if_pos h1]
    go_enter Try.func47, Try.ntmps47
    go_wp2_with fail
    refine (isNaN_uint8 a w).mono ?_
    rintro e w1 ⟨rfl, rfl⟩
    go_wp2_with fail
    refine (isNaN_uint8 b w1).mono ?_
    rintro e w2 ⟨rfl, rfl⟩
    go_wp2_with fail
    go_ret
    exact ⟨rfl, rfl⟩
  · rw [if_neg h1]
    by_cases h2 : b < a
    · rw [if_pos h2]
      go_enter Try.func47, Try.ntmps47
      go_wp2_with fail
      refine (isNaN_uint8 a w).mono ?_
      rintro e w1 ⟨rfl, rfl⟩
      go_wp2_with fail
      refine (isNaN_uint8 b w1).mono ?_
      rintro e w2 ⟨rfl, rfl⟩
      go_wp2_with fail
      go_ret
      exact ⟨rfl, rfl⟩
    · rw [if_neg h2]
      go_enter Try.func47, Try.ntmps47
      go_wp2_with fail
      refine (isNaN_uint8 a w).mono ?_
      rintro e w1 ⟨rfl, rfl⟩
      go_wp2_with fail
      refine (isNaN_uint8 b w1).mono ?_
      rintro e w2 ⟨rfl, rfl⟩
      go_wp2_with fail
      go_ret
      exact ⟨rfl, rfl⟩
set_option maxRecDepth 100000 in
set_option maxHeartbeats 1000000 in
theorem cmp_int64 (a b : Int) (w : World) :
    Calls Try.prog 48 #[.int .i64 a, .int .i64 b] w fun e w' => e = .returned (.int .i64 (Ky.cmpI a b)) ∧ w' = w := by
  unfold Ky.cmpI
  by_cases h1 : a < b
  · rw [if_pos h1]
    go_enter Try.func48, Try.ntmps48
    go_wp2_with fail
    refine (isNaN_int64 a w).mono ?_
    rintro e w1 ⟨rfl, rfl⟩
    go_wp2_with fail
    refine (isNaN_int64 b w1).mono ?_
    rintro e w2 ⟨rfl, rfl⟩
    go_wp2_with fail
    go_ret
    exact ⟨rfl, rfl⟩
  · rw [if_neg h1]
    by_cases h2 : b < a
    · rw [if_pos h2]
      go_enter Try.func48, Try.ntmps48
      go_wp2_with fail
      refine (isNaN_int64 a w).mono ?_
      rintro e w1 ⟨rfl, rfl⟩
      go_wp2_with fail
      refine (isNaN_int64 b w1).mono ?_
      rintro e w2 ⟨rfl, rfl⟩
      go_wp2_with fail
      go_ret
      exact ⟨rfl, rfl⟩
    · rw [if_neg h2]
      go_enter Try.func48, Try.ntmps48
      go_wp2_with fail
      refine (isNaN_int64 a w).mono ?_
      rintro e w1 ⟨rfl, rfl⟩
      go_wp2_with fail
      refine (isNaN_int64 b w1).mono ?_
      rintro e w2 ⟨rfl, rfl⟩
      go_wp2_with fail
      go_ret
      exact ⟨rfl, rfl⟩
set_option maxRecDepth 100000 in
set_option maxHeartbeats 1000000 in
theorem cmp_string (a b : ByteArray) (w : World) :
    Calls Try.prog 49 #[.string a, .string b] w fun e w' => e = .returned (.int .i64 (Ky.cmp (nums a) (nums b))) ∧ w' = w := by
  have hl := text_cmp a b
  have hr := text_cmp b a
  rw [Ky.cmp_swap (nums a) (nums b)] at hr
  rcases Ky.cmp_three (nums a) (nums b) with h | h | h
  · rw [h] at hl hr ⊢
    replace hl : Op.bytesLess a.toList b.toList = true := by rw [hl]; rfl
    replace hr : Op.bytesLess b.toList a.toList = false := by rw [hr]; rfl
    go_enter Try.func49, Try.ntmps49
    go_wp2_with fail
    refine (isNaN_string a w).mono ?_
    rintro e w1 ⟨rfl, rfl⟩
    go_wp2_with fail
    refine (isNaN_string b w1).mono ?_
    rintro e w2 ⟨rfl, rfl⟩
    go_wp2_with fail
    go_ret
    exact ⟨rfl, rfl⟩
  · rw [h] at hl hr ⊢
    replace hl : Op.bytesLess a.toList b.toList = false := by rw [hl]; rfl
    replace hr : Op.bytesLess b.toList a.toList = false := by rw [hr]; rfl
    have hq : (a.toList == b.toList) = true := by rw [nums_inj (Ky.cmp_eq h)]; simp
    go_enter Try.func49, Try.ntmps49
    go_wp2_with fail
    refine (isNaN_string a w).mono ?_
    rintro e w1 ⟨rfl, rfl⟩
    go_wp2_with fail
    refine (isNaN_string b w1).mono ?_
    rintro e w2 ⟨rfl, rfl⟩
    go_wp2_with fail
    go_ret
    exact ⟨rfl, rfl⟩
  · rw [h] at hl hr ⊢
    replace hl : Op.bytesLess a.toList b.toList = false := by rw [hl]; rfl
    replace hr : Op.bytesLess b.toList a.toList = true := by rw [hr]; rfl
    have hq := text_ne (a := a) (b := b) (by intro e; rw [e, Ky.cmp_refl] at h; simp at h)
    go_enter Try.func49, Try.ntmps49
    go_wp2_with fail
    refine (isNaN_string a w).mono ?_
    rintro e w1 ⟨rfl, rfl⟩
    go_wp2_with fail
    refine (isNaN_string b w1).mono ?_
    rintro e w2 ⟨rfl, rfl⟩
    go_wp2_with fail
    go_ret
    exact ⟨rfl, rfl⟩
set_option maxRecDepth 100000 in
set_option maxHeartbeats 1000000 in
theorem compareParts_any (p q : PT) (w : World) : Calls Try.prog 36 #[p.val, q.val] w (IntP w (Ky.cmpPart p.to q.to)) := by
  have hb : ∀ (o o' : Obj), Below w.heap.size w ((w.alloc o).alloc o') := fun o o' => ((Below.refl _ _).alloc (Nat.le_refl _) _).alloc (by simp) _
  have HB := Lib.hid hb
  clear hb
  unfold PT.val partV
  obtain ⟨k1, n1, s1⟩ := p
  obtain ⟨k2, n2, s2⟩ := q
  dsimp only
  by_cases hk : k1 = k2
  · subst hk
    by_cases h1 : k1 = 1
    · subst h1
      have e : Ky.cmpPart (PT.to ⟨1, n1, s1⟩) (PT.to ⟨1, n2, s2⟩) = Ky.cmpI n1 n2 := by unfold Ky.cmpPart PT.to; simp
      rw [e]
      clear e
      go_enter Try.func36, Try.ntmps36
      go_wp2_with fail
      refine (cmp_int64 n1 n2 _).mono ?_
      rintro e w1 ⟨rfl, rfl⟩
      go_wp2_with fail
      go_ret
      exact ⟨rfl, HB.out _ _⟩
    · have e : Ky.cmpPart (PT.to ⟨k1, n1, s1⟩) (PT.to ⟨k1, n2, s2⟩) = Ky.cmp (nums s1) (nums s2) := by unfold Ky.cmpPart PT.to; simp [h1]
      rw [e]
      clear e
      have h2 : ((k1 : Int) == 1) = false := by rw [beq_eq_false_iff_ne]; omega
      have h3 : ¬ ((k1 : Int) = 1) := by omega
      go_enter Try.func36, Try.ntmps36
      go_wp2_with fail
      refine (cmp_string s1 s2 _).mono ?_
      rintro e w1 ⟨rfl, rfl⟩
      go_wp2_with fail
      go_ret
      exact ⟨rfl, HB.out _ _⟩
  · have e : Ky.cmpPart (PT.to ⟨k1, n1, s1⟩) (PT.to ⟨k2, n2, s2⟩) = Ky.cmpI k1 k2 := by
      unfold Ky.cmpPart Ky.cmpI PT.to
      rcases Nat.lt_or_gt_of_ne hk with h | h
      · simp [h]
      · simp [h, show ¬ k1 < k2 by omega]
    rw [e]
    clear e
    have h2 : ((k1 : Int) == (k2 : Int)) = false := by rw [beq_eq_false_iff_ne]; omega
    have h3 : ¬ ((k1 : Int) = (k2 : Int)) := by omega
    go_enter Try.func36, Try.ntmps36
    go_wp2_with fail
    refine (cmp_uint8 k1 k2 _).mono ?_
    rintro e w1 ⟨rfl, rfl⟩
    go_wp2_with fail
    go_ret
    exact ⟨rfl, HB.out _ _⟩
end Go.Proofs.Ytbafbhnnonfkpaa
