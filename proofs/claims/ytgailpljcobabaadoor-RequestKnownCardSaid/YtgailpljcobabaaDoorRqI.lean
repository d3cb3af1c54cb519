/- Layer 9's reference: when a request is right; a kind's name. -/
import Derived.Test.YtgailpljcobabaaDoorRqH
namespace Go.Proofs.YtgailpljcobabaaDoor
open Go.ChangeShapes Go.WideShapes Go.ChangeAt Go.RowKit

set_option maxRecDepth 100000 in
set_option maxHeartbeats 4000000 in
theorem refWhich_any (x : Rq.V) (w : World) : Calls Tryd.prog 37 #[x.val] w fun e w' => e = .returned (.bool x.which) ∧ Below w.heap.size w w' := by
  have S0 := (Held.start w).new x.cells 33
  have HB := Lib.hid S0.1
  obtain ⟨r0, r1, r2, r3, r4, r5, r6, r7, r8, r9, r10⟩ := (req_cells S0.top).1
  clear S0
  obtain ⟨r, hr⟩ : ∃ r, x.which = r := ⟨_, rfl⟩
  rw [hr]
  unfold Rq.V.which at hr
  obtain ⟨k, id, pg, du, a, l, s, ky, to, lo, hi⟩ := x
  unfold Rq.V.val Rq.V.cells at *
  dsimp only at *
  by_cases zky : ky.size ≤ 32
  rotate_left
  · have d1 : (32 : Int) < ky.size := by omega
    have d2 : decide ((32 : Int) < ky.size) = true := decide_eq_true d1
    have e : r = false := by
      rw [← hr]
      by_cases h1 : s = 1
      · rw [if_pos h1]; exact decide_eq_false (by omega)
      · rw [if_neg h1]
        by_cases h2 : s = 2
        · rw [if_pos h2]; exact decide_eq_false (by omega)
        · rw [if_neg h2]
          by_cases h3 : s = 3
          · rw [if_pos h3]; exact decide_eq_false (by omega)
          · rw [if_neg h3]
    rw [e]
    clear hr e
    go_enter Tryd.func37, Tryd.ntmps37
    go_wp2_with fail
    go_ret
    exact ⟨rfl, HB.out⟩
  have dky1 : ¬ (32 : Int) < ky.size := by omega
  have dky2 : decide ((32 : Int) < ky.size) = false := decide_eq_false dky1
  by_cases zto : to.size ≤ 32
  rotate_left
  · have d1 : (32 : Int) < to.size := by omega
    have d2 : decide ((32 : Int) < to.size) = true := decide_eq_true d1
    have e : r = false := by
      rw [← hr]
      by_cases h1 : s = 1
      · rw [if_pos h1]; exact decide_eq_false (by omega)
      · rw [if_neg h1]
        by_cases h2 : s = 2
        · rw [if_pos h2]; exact decide_eq_false (by omega)
        · rw [if_neg h2]
          by_cases h3 : s = 3
          · rw [if_pos h3]; exact decide_eq_false (by omega)
          · rw [if_neg h3]
    rw [e]
    clear hr e
    go_enter Tryd.func37, Tryd.ntmps37
    go_wp2_with fail
    go_ret
    exact ⟨rfl, HB.out⟩
  have dto1 : ¬ (32 : Int) < to.size := by omega
  have dto2 : decide ((32 : Int) < to.size) = false := decide_eq_false dto1
  by_cases h1 : s = 1
  · rw [if_pos h1] at hr
    subst h1
    by_cases c0 : ky.size = 0
    · rw [decide_eq_false (by omega)] at hr
      obtain rfl : false = r := hr
      obtain rfl := text_empty c0
      go_enter Tryd.func37, Tryd.ntmps37
      go_wp2_with fail
      go_ret
      exact ⟨rfl, HB.out⟩
    have n0 : (0 : Int) < ky.size := by omega
    have m0 : decide ((0 : Int) < ky.size) = true := decide_eq_true n0
    by_cases c1 : to.size = 0
    rotate_left
    · rw [decide_eq_false (by omega)] at hr
      obtain rfl : false = r := hr
      obtain ⟨d1, d2⟩ := text_some c1
      go_enter Tryd.func37, Tryd.ntmps37
      go_wp2_with fail
      go_ret
      exact ⟨rfl, HB.out⟩
    obtain rfl := text_empty c1
    by_cases c2 : hi = 0
    rotate_left
    · rw [decide_eq_false (by omega)] at hr
      obtain rfl : false = r := hr
      have d1 : (hi == 0) = false := beq_eq_false_iff_ne.2 c2
      have d2 : decide (hi = 0) = false := decide_eq_false c2
      go_enter Tryd.func37, Tryd.ntmps37
      go_wp2_with fail
      go_ret
      exact ⟨rfl, HB.out⟩
    subst c2
    rw [decide_eq_true (by refine ⟨by omega, by omega, rfl, rfl⟩)] at hr
    obtain rfl : true = r := hr
    go_enter Tryd.func37, Tryd.ntmps37
    go_wp2_with fail
    go_ret
    exact ⟨rfl, HB.out⟩
  rw [if_neg h1] at hr
  have j1 : ¬ (s : Int) = 1 := by omega
  have j2 : ((s : Int) == 1) = false := beq_eq_false_iff_ne.2 j1
  by_cases h2 : s = 2
  · rw [if_pos h2] at hr
    subst h2
    by_cases c0 : lo = 0
    rotate_left
    · rw [decide_eq_false (by omega)] at hr
      obtain rfl : false = r := hr
      have d1 : (lo == 0) = false := beq_eq_false_iff_ne.2 c0
      have d2 : decide (lo = 0) = false := decide_eq_false c0
      go_enter Tryd.func37, Tryd.ntmps37
      go_wp2_with fail
      go_ret
      exact ⟨rfl, HB.out⟩
    subst c0
    by_cases c1 : hi = 0
    rotate_left
    · rw [decide_eq_false (by omega)] at hr
      obtain rfl : false = r := hr
      have d1 : (hi == 0) = false := beq_eq_false_iff_ne.2 c1
      have d2 : decide (hi = 0) = false := decide_eq_false c1
      go_enter Tryd.func37, Tryd.ntmps37
      go_wp2_with fail
      go_ret
      exact ⟨rfl, HB.out⟩
    subst c1
    rw [decide_eq_true (by refine ⟨by omega, by omega, rfl, rfl⟩)] at hr
    obtain rfl : true = r := hr
    go_enter Tryd.func37, Tryd.ntmps37
    go_wp2_with fail
    go_ret
    exact ⟨rfl, HB.out⟩
  rw [if_neg h2] at hr
  have j3 : ¬ (s : Int) = 2 := by omega
  have j4 : ((s : Int) == 2) = false := beq_eq_false_iff_ne.2 j3
  by_cases h3 : s = 3
  · rw [if_pos h3] at hr
    subst h3
    by_cases c0 : ky.size = 0
    rotate_left
    · rw [decide_eq_false (by omega)] at hr
      obtain rfl : false = r := hr
      obtain ⟨d1, d2⟩ := text_some c0
      go_enter Tryd.func37, Tryd.ntmps37
      go_wp2_with fail
      go_ret
      exact ⟨rfl, HB.out⟩
    obtain rfl := text_empty c0
    by_cases c1 : to.size = 0
    rotate_left
    · rw [decide_eq_false (by omega)] at hr
      obtain rfl : false = r := hr
      obtain ⟨d1, d2⟩ := text_some c1
      go_enter Tryd.func37, Tryd.ntmps37
      go_wp2_with fail
      go_ret
      exact ⟨rfl, HB.out⟩
    obtain rfl := text_empty c1
    rw [decide_eq_true (by exact ⟨rfl, rfl⟩)] at hr
    obtain rfl : true = r := hr
    go_enter Tryd.func37, Tryd.ntmps37
    go_wp2_with fail
    go_ret
    exact ⟨rfl, HB.out⟩
  rw [if_neg h3] at hr
  subst hr
  have j5 : ¬ (s : Int) = 3 := by omega
  have j6 : ((s : Int) == 3) = false := beq_eq_false_iff_ne.2 j5
  go_enter Tryd.func37, Tryd.ntmps37
  go_wp2_with fail
  go_ret
  exact ⟨rfl, HB.out⟩
set_option maxRecDepth 100000 in
set_option maxHeartbeats 4000000 in
theorem refWord_any (k : Nat) (w : World) (hk : k < 256) : Calls Tryd.prog 17 #[.int .u8 (k : Int)] w fun e w' => e = .returned (.string (textOf (Rq.word k))) ∧ Below w.heap.size w w' := by
  have hb : ∀ (o : Obj), Below w.heap.size w (w.alloc o) := fun o => (Below.refl _ _).alloc (Nat.le_refl _) _
  have HB := Lib.hid hb
  clear hb
  by_cases h8 : 8 < k
  · have e : Rq.word k = [] := Rq.word_no (decide_eq_false (by omega))
    have i1 : (8 : Int) < k := by omega
    have i2 : decide ((8 : Int) < k) = true := decide_eq_true i1
    rw [e]
    clear e
    go_enter Tryd.func17, Tryd.ntmps17
    go_wp2_with fail
    go_ret
    exact ⟨rfl, Below.refl _ _⟩
  · have hk : k = 0 ∨ k = 1 ∨ k = 2 ∨ k = 3 ∨ k = 4 ∨ k = 5 ∨ k = 6 ∨ k = 7 ∨ k = 8 := by omega
    rcases hk with rfl | rfl | rfl | rfl | rfl | rfl | rfl | rfl | rfl
    all_goals
      go_enter Tryd.func17, Tryd.ntmps17
      go_wp2_with fail
      go_ret
      exact ⟨rfl, HB.out _⟩
end Go.Proofs.YtgailpljcobabaaDoor
