/- Layer 5, the program, as stage 15 leans on it: One, Blank, Right. -/
import Derived.Test.YteegnehfagkjcaaRefRi
import Derived.Test.YteegnehfagkjcaaHeld
import Derived.Laws.StructEq
import Derived.WalkLawsBesides
import Derived.BigRegion
import Derived.Laws.EntriesVeiled
namespace Go.Proofs.Yteegnehfagkjcaa
open Go.ChangeShapes Go.WideShapes Go.ChangeAt Go.RowKit

def aggV (a : Ag.A) : Value := .agg #[.int .i64 a.c, .int .i64 a.s, .int .i64 a.lo, .int .i64 a.hi]
theorem pagg_guard : Try.prog.eqGuardType Try.prog.depth 33 = false := by kernel_rfl
theorem pagg_equal (a b c d a' b' c' d' : Int) (w : World) : (Op.equalIn 10000 33 (.agg #[.int .i64 a, .int .i64 b, .int .i64 c, .int .i64 d]) (.agg #[.int .i64 a', .int .i64 b', .int .i64 c', .int .i64 d'])).run Try.prog w = .ok (a == a' && b == b' && c == c' && d == d') w := by
  have hS : Try.prog.underlying 33 = some (.struct (Try.prog.fieldsOf 33)) := by kernel_rfl
  have hp : Try.prog.stoodInHeld 33 = false := by kernel_rfl
  rw [show (10000 : Nat) = 9999 + 1 from rfl, run_equalIn_agg w 9999 33 _ _ hS hp]
  simp only [Program.fieldsOf, Try.underlying33]
  go_simp
  by_cases h1 : a = a' <;> by_cases h2 : b = b' <;> by_cases h3 : c = c' <;> by_cases h4 : d = d' <;> simp [h1, h2, h3, h4]
theorem pagg_blank (x : Ag.A) (w : World) : (Op.equalIn 10000 33 (.agg #[.int .i64 x.c, .int .i64 x.s, .int .i64 x.lo, .int .i64 x.hi]) (.agg #[.int .i64 0, .int .i64 0, .int .i64 0, .int .i64 0])).run Try.prog w = .ok (Ag.blank x) w := pagg_equal _ _ _ _ _ _ _ _ w
/-- Are two aggregates the same? -/
def aeq (a b : Ag.A) : Bool := a.c == b.c && a.s == b.s && a.lo == b.lo && a.hi == b.hi
theorem pagg_same (a b : Ag.A) (w : World) : (Op.equalIn 10000 33 (.agg #[.int .i64 a.c, .int .i64 a.s, .int .i64 a.lo, .int .i64 a.hi]) (.agg #[.int .i64 b.c, .int .i64 b.s, .int .i64 b.lo, .int .i64 b.hi])).run Try.prog w = .ok (aeq a b) w := pagg_equal _ _ _ _ _ _ _ _ w
def AggR (w : World) (a : Ag.A) (e : Ending) (w' : World) : Prop := e = .returned (aggV a) ∧ Below w.heap.size w w'
set_option maxHeartbeats 400000 in
theorem one_any (v : Int) (w : World) : Calls Try.prog 50 #[.int .i64 v] w (AggR w (Ag.one v)) := by
  have hbe : ∀ o, Below w.heap.size w (w.alloc o) := fun o => (Below.refl _ _).alloc (Nat.le_refl _) _
  have HB := Lib.hid hbe
  clear hbe
  go_enter Try.func50, Try.ntmps50
  go_wp2_with fail
  refine bodyPost_ret (v := aggV (Ag.one v)) ?_ rfl ⟨rfl, ?_⟩
  · simp [results, Try.results50, go_sem, aggV, Ag.one]
  · exact HB.out _
set_option maxHeartbeats 400000 in
theorem blank_any (x : Ag.A) (w : World) : Calls Try.prog 44 #[.agg #[.int .i64 x.c, .int .i64 x.s, .int .i64 x.lo, .int .i64 x.hi]] w fun e w' => e = .returned (.bool (Ag.blank x)) ∧ Below w.heap.size w w' := by
  have hb : ∀ (o : Obj), Below w.heap.size w (w.alloc o) := fun o => (Below.refl _ _).alloc (Nat.le_refl _) _
  have HB := Lib.hid hb
  clear hb
  have q1 := fun W => pagg_blank x W
  have g1 := pagg_guard
  go_enter Try.func44, Try.ntmps44
  go_wp2_with fail
  go_ret
  exact ⟨rfl, HB.out _⟩
theorem right_of_one {a b c : Int} : Ag.right ⟨1, a, b, c⟩ = aeq ⟨1, a, b, c⟩ (Ag.one a) := by
  have hb : Ag.blank ⟨1, a, b, c⟩ = false := rfl
  unfold Ag.right aeq Ag.one
  rw [hb, Bool.false_or, if_pos (by rfl), show ((1 : Int) == 1) = true from rfl, show (a == a) = true by simp]
  rw [Bool.eq_iff_iff]
  simp
  constructor <;> rintro ⟨h1, h2⟩ <;> subst h1 <;> subst h2 <;> simp
set_option maxRecDepth 100000 in
set_option maxHeartbeats 1000000 in
theorem right_any (x : Ag.A) (w : World) : Calls Try.prog 45 #[.agg #[.int .i64 x.c, .int .i64 x.s, .int .i64 x.lo, .int .i64 x.hi]] w fun e w' => e = .returned (.bool (Ag.right x)) ∧ Below w.heap.size w w' := by
  obtain ⟨c, s, lo, hi⟩ := x
  dsimp only
  have hbk := Blk.new w 33 #[.int .i64 c, .int .i64 s, .int .i64 lo, .int .i64 hi]
  have hbe : Below w.heap.size w (w.alloc (.cells #[.int .i64 c, .int .i64 s, .int .i64 lo, .int .i64 hi] 33)) := (Below.refl _ _).alloc (Nat.le_refl _) _
  by_cases h1 : c = 1
  · subst h1
    rw [right_of_one]
    have q1 := fun W => pagg_same ⟨1, s, lo, hi⟩ (Ag.one s) W
    have g1 := pagg_guard
    dsimp only [Ag.one] at q1
    obtain ⟨r, hr⟩ : ∃ r, aeq ⟨1, s, lo, hi⟩ (Ag.one s) = r := ⟨_, rfl⟩
    rw [show aeq ⟨1, s, lo, hi⟩ ⟨1, s, s, s⟩ = r from hr] at q1
    rw [hr]
    clear hr
    obtain ⟨w0, hw0⟩ : ∃ w0, w.alloc (.cells #[.int .i64 1, .int .i64 s, .int .i64 lo, .int .i64 hi] 33) = w0 := ⟨_, rfl⟩
    have hz : (w.alloc (.cells #[.int .i64 1, .int .i64 s, .int .i64 lo, .int .i64 hi] 33)).heap.size = w.heap.size + 1 := by simp
    rw [hw0] at hbk hbe hz
    have HC : Hid (∀ W, Below w0.heap.size w0 W → W.cell? ⟨w.heap.size, 0, none⟩ = some (.int .i64 1) ∧ W.cell? ⟨w.heap.size, 1, none⟩ = some (.int .i64 s) ∧ W.cell? ⟨w.heap.size, 2, none⟩ = some (.int .i64 lo) ∧ W.cell? ⟨w.heap.size, 3, none⟩ = some (.int .i64 hi)) := Lib.hid fun W hW => by
      have hb := hbk.below hW (by omega)
      exact ⟨hb.cell 0, hb.cell 1, hb.cell 2, hb.cell 3⟩
    have HBE := Lib.hid hbe
    have D0 : Below w0.heap.size w0 w0.drew := (Below.refl _ _).drew
    have hc0 := hbk.cell 0
    clear hbk hbe hz
    go_enter Try.func45, Try.ntmps45
    go_wp2_with fail
    clear hw0 hc0
    go_region_held3 (fun W => W.cell? ⟨w.heap.size, 0, none⟩ = some (.int .i64 1) ∧ W.cell? ⟨w.heap.size, 1, none⟩ = some (.int .i64 s) ∧ W.cell? ⟨w.heap.size, 2, none⟩ = some (.int .i64 lo) ∧ W.cell? ⟨w.heap.size, 3, none⟩ = some (.int .i64 hi)) (first | exact HC.out _ D0 | exact HC.out _ D1) (first
      | (go_at_call 50; (refine (one_any _ _).mono ?_); rintro e w1 ⟨rfl, b1⟩; simp only [aggV, Ag.one]; have D1 := below_next D0 b1; clear D0 b1))
    go_wp2_with fail
    go_ret
    exact ⟨rfl, HBE.out.trans (D1.mono HBE.out.size)⟩
  · have HBE := Lib.hid hbe
    clear hbk hbe
    have h5 : (c == 1) = false := by rw [beq_eq_false_iff_ne]; exact h1
    by_cases h2 : 1 < c
    · have hb : Ag.blank ⟨c, s, lo, hi⟩ = false := by unfold Ag.blank; dsimp only; rw [show (c == 0) = false by rw [beq_eq_false_iff_ne]; omega]; simp
      have e : Ag.right ⟨c, s, lo, hi⟩ = decide (lo ≤ hi) := by
        unfold Ag.right
        rw [hb, Bool.false_or]
        dsimp only
        rw [h5, if_neg (by decide)]
        by_cases h : lo ≤ hi <;> simp [h, h2]
      rw [e]
      clear e hb h1
      by_cases h3 : lo ≤ hi
      · have d3 : decide (lo ≤ hi) = true := decide_eq_true h3
        rw [d3]
        go_enter Try.func45, Try.ntmps45
        go_wp2_with fail
        go_ret
        exact ⟨rfl, HBE.out⟩
      · have d3 : decide (lo ≤ hi) = false := decide_eq_false h3
        rw [d3]
        go_enter Try.func45, Try.ntmps45
        go_wp2_with fail
        go_ret
        exact ⟨rfl, HBE.out⟩
    · have e : Ag.right ⟨c, s, lo, hi⟩ = Ag.blank ⟨c, s, lo, hi⟩ := by
        unfold Ag.right
        dsimp only
        rw [h5, if_neg (by decide), show decide (1 < c ∧ lo ≤ hi) = false from decide_eq_false (fun h => h2 h.1), Bool.or_false]
      rw [e]
      clear e h1
      go_enter Try.func45, Try.ntmps45
      go_wp2_with (go_at_call 44; (with_reducible refine (blank_any ⟨c, s, lo, hi⟩ _).mono ?_); rintro e w1 ⟨rfl, b1⟩)
      go_ret
      exact ⟨rfl, HBE.out.trans (b1.mono HBE.out.size)⟩
end Go.Proofs.Yteegnehfagkjcaa
