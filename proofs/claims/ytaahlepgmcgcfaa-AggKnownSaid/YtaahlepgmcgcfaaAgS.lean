/- Layer 5, the program: rows compared. -/
import Derived.Test.YtaahlepgmcgcfaaAgO
import Derived.Test.YtaahlepgmcgcfaaRw
import Derived.BigRegion
namespace Go.Proofs.Ytaahlepgmcgcfaa
open Go.ChangeShapes Go.WideShapes Go.ChangeAt Go.RowKit

def rowV (r : Rw) : Value := .agg #[.string r.p.k, .int .i64 r.p.s, .int .i64 r.p.e, .int .i64 r.a.c, .int .i64 r.a.s, .int .i64 r.a.lo, .int .i64 r.a.hi]
set_option maxRecDepth 100000 in
set_option maxHeartbeats 2000000 in
theorem compare_false (r q : Rw) (w : World) : Calls Try.prog 47 #[.agg #[.func (.func 12) #[] #[]], rowV r, rowV q] w (RetP w (rord false r q)) := by
  unfold rowV
  have hbe : ∀ o o' o'', Below w.heap.size w (((w.alloc o).alloc o').alloc o'') := fun o o' o'' => (((Below.refl _ _).alloc (Nat.le_refl _) _).alloc (by simp) _).alloc (by simp; omega) _
  have HB := Lib.hid hbe
  have hR := fun W => pprim_any r.p q.p W
  unfold Pn.val at hR
  have HR := Lib.hid hR
  clear hR
  clear hbe
  go_enter Try.func47, Try.ntmps47
  go_wp2_with (go_at_call 12; (with_reducible refine (HR.out _).mono ?_); rintro e w1 ⟨rfl, b1⟩; have HX := Lib.hid ((HB.out _ _ _).trans (b1.mono (by simp; omega))); clear b1)
  go_ret
  exact ⟨rfl, HX.out⟩
set_option maxRecDepth 100000 in
set_option maxHeartbeats 2000000 in
theorem compare_true (r q : Rw) (w : World) : Calls Try.prog 47 #[.agg #[.func (.func 15) #[] #[]], rowV r, rowV q] w (RetP w (rord true r q)) := by
  unfold rowV
  have hbe : ∀ o o' o'', Below w.heap.size w (((w.alloc o).alloc o').alloc o'') := fun o o' o'' => (((Below.refl _ _).alloc (Nat.le_refl _) _).alloc (by simp) _).alloc (by simp; omega) _
  have HB := Lib.hid hbe
  have hR := fun W => psec_any r.p q.p W
  unfold Pn.val at hR
  have HR := Lib.hid hR
  clear hR
  clear hbe
  go_enter Try.func47, Try.ntmps47
  go_wp2_with (go_at_call 15; (with_reducible refine (HR.out _).mono ?_); rintro e w1 ⟨rfl, b1⟩; have HX := Lib.hid ((HB.out _ _ _).trans (b1.mono (by simp; omega))); clear b1)
  go_ret
  exact ⟨rfl, HX.out⟩
/-- The order that a sorter holds. -/
def ordF (second : Bool) : Value := .func (.func (if second then 15 else 12)) #[] #[]
theorem compare_any (second : Bool) (r q : Rw) (w : World) : Calls Try.prog 47 #[.agg #[ordF second], rowV r, rowV q] w (RetP w (rord second r q)) := by
  cases second
  · exact compare_false r q w
  · exact compare_true r q w
end Go.Proofs.Ytaahlepgmcgcfaa
