/- tidepoolref02's Int. -/
import Derived.Test.YtponelbfddfliaaNumb
namespace Go.Proofs.Ytponelbfddfliaa
open Go.ChangeShapes Go.WideShapes Go.ChangeAt Go.RowKit

theorem refInt_any (v : Int) (n : Nat) (w : World) (hv : v % 18446744073709551616 = n) (hn : n < 18446744073709551616) : Calls Try.prog 83 #[.int .i64 v] w (OwnPost w 8 (Pk.be 8 n)) := by
  have hw : IntKind.u64.wrap v = (n : Int) := by rw [IntKind.wrap_u64]; exact hv
  go_enter Try.func83, Try.ntmps83
  go_wp2_with fail
  refine (refNumber_any (n : Int) n 8 w rfl hn (by unfold Size; omega)).mono ?_
  rintro e w1 ⟨A, c, rfl, hown, hb⟩
  clear hw
  go_wp2_with fail
  go_ret
  exact ⟨A, c, rfl, hown, hb⟩
end Go.Proofs.Ytponelbfddfliaa
