/- Layer 14: WindowMakes. -/
import Derived.Test.YtaplmioohihmbaaWnW
namespace Go.Proofs.Ytaplmioohihmbaa
open Go.ChangeShapes Go.WideShapes Go.ChangeAt Go.RowKit

theorem win_self (k s l g : Int) (w : World) : (Op.equalIn 10000 23 (.agg #[.int .u8 k, .int .i64 s, .int .i64 l, .int .i64 g]) (.agg #[.int .u8 k, .int .i64 s, .int .i64 l, .int .i64 g])).run Try.prog w = .ok true w := by
  rw [win_same]
  unfold eqw
  simp
set_option maxRecDepth 100000 in
set_option maxHeartbeats 1000000 in
theorem windowMakes_any (m n : Int) (w : World) : Calls Try.prog 5 #[.int .i64 m, .int .i64 n] w (TrueP w) := by
  have g1 := win_guard
  have q1 := fun k s l g W => win_self k s l g W
  go_enter Try.func5, Try.ntmps5
  go_wp2_with fail
  refine (ofTumbling_any m _).mono ?_
  rintro e w1 ⟨rfl, b1⟩
  go_wp2_with fail
  refine (ofSliding_any m n _).mono ?_
  rintro e w2 ⟨rfl, b2⟩
  go_wp2_with fail
  refine (ofSession_any n _).mono ?_
  rintro e w3 ⟨rfl, b3⟩
  go_wp2_with fail
  refine (works_any _).mono ?_
  rintro e w4 ⟨rfl, b4⟩
  go_wp2_with fail
  go_ret
  exact ⟨rfl, below_next (below_next (below_next b1 b2) b3) b4⟩
end Go.Proofs.Ytaplmioohihmbaa
