/- Layer 5's reference: an aggregate held against the blank one; Right. -/
import Derived.Test.YteegnehfagkjcaaAg
import Derived.Test.YteegnehfagkjcaaMem
import Derived.Laws.StructEq
namespace Go.Proofs.Yteegnehfagkjcaa
open Go.ChangeShapes Go.WideShapes Go.ChangeAt Go.RowKit

theorem agg_guard : Try.prog.eqGuardType Try.prog.depth 40 = false := by kernel_rfl
theorem agg_equal (a b c d a' b' c' d' : Int) (w : World) : (Op.equalIn 10000 40 (.agg #[.int .i64 a, .int .i64 b, .int .i64 c, .int .i64 d]) (.agg #[.int .i64 a', .int .i64 b', .int .i64 c', .int .i64 d'])).run Try.prog w = .ok (a == a' && b == b' && c == c' && d == d') w := by
  have hS : Try.prog.underlying 40 = some (.struct (Try.prog.fieldsOf 40)) := by kernel_rfl
  have hp : Try.prog.stoodInHeld 40 = false := by kernel_rfl
  rw [show (10000 : Nat) = 9999 + 1 from rfl, run_equalIn_agg w 9999 40 _ _ hS hp]
  simp only [Program.fieldsOf, Try.underlying40]
  go_simp
  by_cases h1 : a = a' <;> by_cases h2 : b = b' <;> by_cases h3 : c = c' <;> by_cases h4 : d = d' <;> simp [h1, h2, h3, h4]
/-- Is the aggregate the blank one? -/
theorem agg_blank (x : Ag.A) (w : World) : (Op.equalIn 10000 40 (.agg #[.int .i64 x.c, .int .i64 x.s, .int .i64 x.lo, .int .i64 x.hi]) (.agg #[.int .i64 0, .int .i64 0, .int .i64 0, .int .i64 0])).run Try.prog w = .ok (Ag.blank x) w := agg_equal _ _ _ _ _ _ _ _ w
set_option maxRecDepth 100000 in
set_option maxHeartbeats 1000000 in
theorem refRight_any (x : Ag.A) (w : World) : Calls Try.prog 43 #[.agg #[.int .i64 x.c, .int .i64 x.s, .int .i64 x.lo, .int .i64 x.hi]] w fun e w' => e = .returned (.bool (Ag.right x)) ∧ Below w.heap.size w w' := by
  have hb : ∀ (o : Obj), Below w.heap.size w (w.alloc o) := fun o => (Below.refl _ _).alloc (Nat.le_refl _) _
  have HB := Lib.hid hb
  clear hb
  have q1 := fun W => agg_blank x W
  have g1 := agg_guard
  by_cases hbl : Ag.blank x = true
  · have e : Ag.right x = true := by unfold Ag.right; rw [hbl]; rfl
    rw [e]
    rw [hbl] at q1
    clear e hbl
    go_enter Try.func43, Try.ntmps43
    go_wp2_with fail
    go_ret
    exact ⟨rfl, HB.out _⟩
  · have hbl := (Bool.not_eq_true _).mp hbl
    have e : Ag.right x = (if x.c == 1 then x.s == x.lo && x.lo == x.hi else decide (1 < x.c ∧ x.lo ≤ x.hi)) := by unfold Ag.right; rw [hbl]; rfl
    rw [e]
    rw [hbl] at q1
    clear e hbl
    obtain ⟨c, s, lo, hi⟩ := x
    dsimp only at q1 ⊢
    by_cases h1 : c = 1
    · subst h1
      rw [if_pos (by rfl)]
      by_cases h2 : s = lo
      · subst h2
        by_cases h3 : s = hi
        · subst h3
          rw [show ((s == s) && (s == s)) = true by simp]
          go_enter Try.func43, Try.ntmps43
          go_wp2_with fail
          go_ret
          exact ⟨rfl, HB.out _⟩
        · have h4 : (s == hi) = false := by rw [beq_eq_false_iff_ne]; exact h3
          rw [show ((s == s) && (s == hi)) = false by simp [h3]]
          go_enter Try.func43, Try.ntmps43
          go_wp2_with fail
          go_ret
          exact ⟨rfl, HB.out _⟩
      · have h4 : (s == lo) = false := by rw [beq_eq_false_iff_ne]; exact h2
        rw [show ((s == lo) && (lo == hi)) = false by simp [h2]]
        go_enter Try.func43, Try.ntmps43
        go_wp2_with fail
        go_ret
        exact ⟨rfl, HB.out _⟩
    · rw [if_neg (by simpa using h1)]
      have h5 : (c == 1) = false := by rw [beq_eq_false_iff_ne]; exact h1
      by_cases h2 : 1 < c
      · have d2 : decide (1 < c) = true := decide_eq_true h2
        by_cases h3 : lo ≤ hi
        · have d3 : decide (lo ≤ hi) = true := decide_eq_true h3
          rw [show decide (1 < c ∧ lo ≤ hi) = true from decide_eq_true ⟨h2, h3⟩]
          go_enter Try.func43, Try.ntmps43
          go_wp2_with fail
          go_ret
          exact ⟨rfl, HB.out _⟩
        · have d3 : decide (lo ≤ hi) = false := decide_eq_false h3
          rw [show decide (1 < c ∧ lo ≤ hi) = false from decide_eq_false (fun h => h3 h.2)]
          go_enter Try.func43, Try.ntmps43
          go_wp2_with fail
          go_ret
          exact ⟨rfl, HB.out _⟩
      · have d2 : decide (1 < c) = false := decide_eq_false h2
        rw [show decide (1 < c ∧ lo ≤ hi) = false from decide_eq_false (fun h => h2 h.1)]
        go_enter Try.func43, Try.ntmps43
        go_wp2_with fail
        go_ret
        exact ⟨rfl, HB.out _⟩
end Go.Proofs.Yteegnehfagkjcaa
