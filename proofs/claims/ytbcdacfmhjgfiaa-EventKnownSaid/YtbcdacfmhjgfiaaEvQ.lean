/- Operations held against each other, as the program compares structs. -/
import Derived.Test.YtbcdacfmhjgfiaaEvB
import Derived.Laws.StructEq
namespace Go.Proofs.Ytbcdacfmhjgfiaa
open Go.ChangeShapes Go.WideShapes Go.ChangeAt Go.RowKit

def evq (a b : Evo) : Bool := (a.k : Int) == (b.k : Int) && a.s.toList == b.s.toList && a.t == b.t && a.v == b.v
theorem toList_inj {a b : ByteArray} (h : a.toList = b.toList) : a = b := by
  rw [ByteArray.toList_eq, ByteArray.toList_eq] at h
  exact ByteArray.ext (Array.ext' h)
theorem evq_iff (a b : Evo) : evq a b = true ↔ a = b := by
  obtain ⟨k, s, t, v⟩ := a
  obtain ⟨k', s', t', v'⟩ := b
  simp only [evq, Evo.mk.injEq, Bool.and_eq_true, beq_iff_eq]
  constructor
  · rintro ⟨⟨⟨h1, h2⟩, h3⟩, h4⟩
    exact ⟨by omega, toList_inj h2, h3, h4⟩
  · rintro ⟨rfl, rfl, rfl, rfl⟩
    exact ⟨⟨⟨rfl, rfl⟩, rfl⟩, rfl⟩
theorem evq_no {a b : Evo} (h : a ≠ b) : evq a b = false := by
  rcases Bool.eq_false_or_eq_true (evq a b) with h1 | h1
  · exact absurd ((evq_iff a b).1 h1) h
  · exact h1
theorem op_guard : Try.prog.eqGuardType Try.prog.depth 26 = false := by kernel_rfl
theorem op_equal (a b : Evo) (w : World) : (Op.equalIn 10000 26 (.agg #[.int .u8 (a.k : Int), .string a.s, .int .i64 a.t, .int .i64 a.v]) (.agg #[.int .u8 (b.k : Int), .string b.s, .int .i64 b.t, .int .i64 b.v])).run Try.prog w = .ok (evq a b) w := by
  have hS : Try.prog.underlying 26 = some (.struct (Try.prog.fieldsOf 26)) := by kernel_rfl
  have hp : Try.prog.stoodInHeld 26 = false := by kernel_rfl
  rw [show (10000 : Nat) = 9999 + 1 from rfl, run_equalIn_agg w 9999 26 _ _ hS hp]
  simp only [Program.fieldsOf, Try.underlying26]
  unfold evq
  go_simp
  by_cases h1 : (a.k : Int) = b.k <;> by_cases h2 : a.s.toList = b.s.toList <;> by_cases h3 : a.t = b.t <;> by_cases h4 : a.v = b.v <;> simp [h1, h2, h3, h4]
theorem rop_guard : Try.prog.eqGuardType Try.prog.depth 27 = false := by kernel_rfl
theorem rop_equal (a b : Evo) (w : World) : (Op.equalIn 10000 27 (.agg #[.int .u8 (a.k : Int), .string a.s, .int .i64 a.t, .int .i64 a.v]) (.agg #[.int .u8 (b.k : Int), .string b.s, .int .i64 b.t, .int .i64 b.v])).run Try.prog w = .ok (evq a b) w := by
  have hS : Try.prog.underlying 27 = some (.struct (Try.prog.fieldsOf 27)) := by kernel_rfl
  have hp : Try.prog.stoodInHeld 27 = false := by kernel_rfl
  rw [show (10000 : Nat) = 9999 + 1 from rfl, run_equalIn_agg w 9999 27 _ _ hS hp]
  simp only [Program.fieldsOf, Try.underlying27]
  unfold evq
  go_simp
  by_cases h1 : (a.k : Int) = b.k <;> by_cases h2 : a.s.toList = b.s.toList <;> by_cases h3 : a.t = b.t <;> by_cases h4 : a.v = b.v <;> simp [h1, h2, h3, h4]
end Go.Proofs.Ytbcdacfmhjgfiaa
