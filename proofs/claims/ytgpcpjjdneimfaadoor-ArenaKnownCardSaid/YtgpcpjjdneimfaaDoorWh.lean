/- Does a number wait? -/
import Derived.Test.YtgpcpjjdneimfaaDoorWm
namespace Go.Proofs.YtgpcpjjdneimfaaDoor
open Go.ChangeShapes Go.WideShapes Go.ChangeAt Go.RowKit Go.MapKept

set_option maxRecDepth 100000 in
theorem has_any (w : World) (g n : Nat) (mv : Option Nat) (f : Nat → Nat → Nat) (hc : w.cell? ⟨g, 1, none⟩ = some (.map mv)) (hw : Words w mv f) (hn : n < 9223372036854775808) (hf : f 0 (n / 64) < 18446744073709551616) :
    Calls Tryd.prog 40 #[.pointer (some ⟨g, 1, none⟩), .int .i64 (n : Int)] w fun e w' => e = .returned (.bool ((f 0 (n / 64)).testBit (n % 64))) ∧ w = w' := by
  have hl := hw.looki (W := w) (fun _ _ => rfl) 0 (n / 64) 0 ((n : Int) / 64) rfl (by omega) (by decide) (by omega)
  rw [← digit_of _ _ hf]
  go_enter Tryd.func40, Tryd.ntmps40
  go_wp2_with fail
  go_ret
  exact ⟨rfl, rfl⟩
end Go.Proofs.YtgpcpjjdneimfaaDoor
