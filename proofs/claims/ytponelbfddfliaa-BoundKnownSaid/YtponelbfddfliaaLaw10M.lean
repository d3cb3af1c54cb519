/- Layer 10: BoundMakes. -/
import Derived.Test.YtponelbfddfliaaBoW
namespace Go.Proofs.Ytponelbfddfliaa
open Go.ChangeShapes Go.WideShapes Go.ChangeAt Go.RowKit

theorem filter_self (k : Int) (K T : ByteArray) (l m : Int) (w : World) : (Op.equalIn 10000 23 (.agg #[.int .u8 k, .string K, .string T, .int .i64 l, .int .i64 m]) (.agg #[.int .u8 k, .string K, .string T, .int .i64 l, .int .i64 m])).run Try.prog w = .ok true w := by
  rw [filter_same]
  simp
set_option maxRecDepth 100000 in
set_option maxHeartbeats 1000000 in
theorem boundMakes_any (s t : ByteArray) (m n : Int) (w : World) : Calls Try.prog 3 #[.string s, .string t, .int .i64 m, .int .i64 n] w (TrueP w) := by
  have g1 := filter_guard
  have q1 := fun W => filter_self 1 s ⟨#[]⟩ m 0 W
  have q2 := fun W => filter_self 2 s t 0 0 W
  have q3 := fun W => filter_self 3 ⟨#[]⟩ ⟨#[]⟩ m n W
  go_enter Try.func3, Try.ntmps3
  go_wp2_with fail
  refine (ofPoint_any s m _).mono ?_
  rintro e w1 ⟨rfl, b1⟩
  go_wp2_with fail
  refine (ofRange_any s t _).mono ?_
  rintro e w2 ⟨rfl, b2⟩
  go_wp2_with fail
  refine (ofEnds_any m n _).mono ?_
  rintro e w3 ⟨rfl, b3⟩
  go_wp2_with fail
  refine (works_any _).mono ?_
  rintro e w4 ⟨rfl, b4⟩
  go_wp2_with fail
  go_ret
  exact ⟨rfl, below_next (below_next (below_next b1 b2) b3) b4⟩
end Go.Proofs.Ytponelbfddfliaa
