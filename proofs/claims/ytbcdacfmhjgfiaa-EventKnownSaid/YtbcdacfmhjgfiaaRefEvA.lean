/- Layer 6's reference: is an operation right? -/
import Derived.Test.YtbcdacfmhjgfiaaEv
import Derived.Test.YtbcdacfmhjgfiaaRd6
namespace Go.Proofs.Ytbcdacfmhjgfiaa
open Go.ChangeShapes Go.WideShapes Go.ChangeAt Go.RowKit

/-- A call that tells an error, and makes only memory. -/
def ErrP (w : World) (r : Int) (e : Ending) (w' : World) : Prop := e = .returned (.int .i64 r) ∧ Below w.heap.size w w'
set_option maxRecDepth 100000 in
set_option maxHeartbeats 1000000 in
theorem refRight6_any (o : Evo) (w : World) : Calls Try.prog 16 #[.agg #[.int .u8 (o.k : Int), .string o.s, .int .i64 o.t, .int .i64 o.v]] w (ErrP w (Ev.right o)) := by
  have hbe : ∀ x, Below w.heap.size w (w.alloc x) := fun x => (Below.refl _ _).alloc (Nat.le_refl _) _
  have HB := Lib.hid hbe
  clear hbe
  obtain ⟨k, s, t, v⟩ := o
  dsimp only
  by_cases k1 : k = 1
  · subst k1
    rw [Ev.right_one (o := ⟨1, s, t, v⟩) rfl, show ((1 : Nat) : Int) = 1 from rfl]
    dsimp only
    by_cases h1 : s.size < 1
    · rw [if_pos (.inl h1)]
      have i1 : (s.size : Int) < 1 := by omega
      go_enter Try.func16, Try.ntmps16
      go_wp2_with fail
      go_ret
      exact ⟨rfl, HB.out _⟩
    · have i1 : ¬ (s.size : Int) < 1 := by omega
      by_cases h2 : 32 < s.size
      · rw [if_pos (.inr h2)]
        have i2 : (32 : Int) < s.size := by omega
        go_enter Try.func16, Try.ntmps16
        go_wp2_with fail
        go_ret
        exact ⟨rfl, HB.out _⟩
      · rw [if_neg (by omega)]
        have i2 : ¬ (32 : Int) < s.size := by omega
        by_cases h3 : t < -1099511627776
        · rw [if_pos (.inl h3)]
          go_enter Try.func16, Try.ntmps16
          go_wp2_with fail
          go_ret
          exact ⟨rfl, HB.out _⟩
        · by_cases h4 : 1099511627776 < t
          · rw [if_pos (.inr h4)]
            go_enter Try.func16, Try.ntmps16
            go_wp2_with fail
            go_ret
            exact ⟨rfl, HB.out _⟩
          · rw [if_neg (by omega)]
            go_enter Try.func16, Try.ntmps16
            go_wp2_with fail
            go_ret
            exact ⟨rfl, HB.out _⟩
  · by_cases k2 : k = 2
    · subst k2
      rw [Ev.right_two (o := ⟨2, s, t, v⟩) rfl, show ((2 : Nat) : Int) = 2 from rfl]
      dsimp only
      clear k1
      by_cases h1 : s.size = 0
      · obtain rfl := Ev.size_zero h1
        clear h1
        by_cases h2 : v = 0
        · subst h2
          rw [if_neg (fun c => c.elim (fun h => h rfl) (fun h => h rfl))]
          by_cases h3 : t < -1099511627776
          · rw [if_pos (.inl h3)]
            go_enter Try.func16, Try.ntmps16
            go_wp2_with fail
            go_ret
            exact ⟨rfl, HB.out _⟩
          · by_cases h4 : 1099511627776 < t
            · rw [if_pos (.inr h4)]
              go_enter Try.func16, Try.ntmps16
              go_wp2_with fail
              go_ret
              exact ⟨rfl, HB.out _⟩
            · rw [if_neg (by omega)]
              go_enter Try.func16, Try.ntmps16
              go_wp2_with fail
              go_ret
              exact ⟨rfl, HB.out _⟩
        · rw [if_pos (.inr h2)]
          have i2 : (v == 0) = false := by rw [beq_eq_false_iff_ne]; exact h2
          have i3 : (v != 0) = true := by rw [bne_iff_ne]; exact h2
          have i4 : decide (v = 0) = false := decide_eq_false h2
          go_enter Try.func16, Try.ntmps16
          go_wp2_with fail
          go_ret
          exact ⟨rfl, HB.out _⟩
      · rw [if_pos (.inl h1)]
        have i1 := Ev.empty_no h1
        go_enter Try.func16, Try.ntmps16
        go_wp2_with fail
        go_ret
        exact ⟨rfl, HB.out _⟩
    · rw [Ev.right_tag (o := ⟨k, s, t, v⟩) k1 k2]
      have i1 : ((k : Int) == 1) = false := by rw [beq_eq_false_iff_ne]; omega
      have i2 : ((k : Int) == 2) = false := by rw [beq_eq_false_iff_ne]; omega
      have i3 : ((k : Int) != 1) = true := by rw [bne_iff_ne]; omega
      have i4 : ((k : Int) != 2) = true := by rw [bne_iff_ne]; omega
      have i5 : ¬ (k : Int) = 1 := by omega
      have i6 : ¬ (k : Int) = 2 := by omega
      go_enter Try.func16, Try.ntmps16
      go_wp2_with fail
      go_ret
      exact ⟨rfl, HB.out _⟩
end Go.Proofs.Ytbcdacfmhjgfiaa
