/- Slices of truths. No type of the program is named here. -/
import Derived.Test.YtnokbnobnhkmgaaMem
namespace Go.Proofs.Ytnokbnobnhkmgaa
open Go.ChangeShapes Go.WideShapes Go.ChangeAt Go.RowKit

/-- A slice at A, of n truths, below block B, reads as l. -/
def Bools (w : World) (B : Nat) (A : Option Addr) (n : Nat) (l : List Bool) : Prop :=
  l.length = n ∧ (0 < n → ∃ b off, A = some ⟨b, off, none⟩ ∧ b < B ∧ ∀ i, i < n → w.cell? ⟨b, off + i, none⟩ = some (.bool (l.getD i false)))
theorem Bools.below {w w' : World} {B B' n : Nat} {A : Option Addr} {l : List Bool} (h : Bools w B A n l) (hb : Below B' w w') (hB : B ≤ B') : Bools w' B A n l :=
  ⟨h.1, fun hn => by
    obtain ⟨b, off, e, hb', hc⟩ := h.2 hn
    exact ⟨b, off, e, hb', fun i hi => (hb.cell (p := ⟨b, _, none⟩) (by show b < B'; omega)).trans (hc i hi)⟩⟩
theorem Bools.nil {w : World} {B : Nat} {A : Option Addr} : Bools w B A 0 [] := ⟨rfl, fun h => absurd h (by omega)⟩
end Go.Proofs.Ytnokbnobnhkmgaa
