/- Stage 5's statements: a pane as the reference has it. -/
import Derived.Test.YtaahlepgmcgcfaaMem
namespace Go.Proofs.Ytaahlepgmcgcfaa
open Go.ChangeShapes Go.WideShapes Go.ChangeAt Go.RowKit

set_option maxRecDepth 100000 in
set_option maxHeartbeats 1000000 in
theorem pane_any (k : ByteArray) (s e : Int) (w : World) : Calls Try.prog 14 #[.agg #[.string k, .int .i64 s, .int .i64 e]] w fun x w' => x = .returned (.agg #[.string k, .int .i64 s, .int .i64 e]) ∧ Below w.heap.size w w' := by
  have hbe : ∀ o o', Below w.heap.size w ((w.alloc o).alloc o') := fun o o' => ((Below.refl _ _).alloc (Nat.le_refl _) _).alloc (by simp) _
  have HB := Lib.hid hbe
  clear hbe
  go_enter Try.func14, Try.ntmps14
  go_wp2_with fail
  refine bodyPost_ret (v := .agg #[.string k, .int .i64 s, .int .i64 e]) ?_ rfl ⟨rfl, ?_⟩
  · simp [results, Try.results14, go_sem]
  · exact HB.out _ _
end Go.Proofs.Ytaahlepgmcgcfaa
