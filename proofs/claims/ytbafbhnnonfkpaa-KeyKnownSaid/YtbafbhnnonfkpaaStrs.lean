/- Slices of texts in memory. -/
import Derived.Test.YtbafbhnnonfkpaaMem
namespace Go.Proofs.Ytbafbhnnonfkpaa
open Go.ChangeShapes Go.WideShapes Go.ChangeAt Go.RowKit

/-- A slice at A, of n texts, below block B, reads as l. -/
def Strs (w : World) (B : Nat) (A : Option Addr) (n : Nat) (l : List ByteArray) : Prop :=
  l.length = n ∧ (∀ s ∈ l, s.size ≤ 9223372036854775807) ∧ (0 < n → ∃ b off, A = some ⟨b, off, none⟩ ∧ b < B ∧ ∀ i, i < n → w.cell? ⟨b, off + i, none⟩ = some (.string (l.getD i ByteArray.empty)))
theorem Strs.below {w w' : World} {B B' n : Nat} {A : Option Addr} {l : List ByteArray} (h : Strs w B A n l) (hb : Below B' w w') (hB : B ≤ B') : Strs w' B A n l :=
  ⟨h.1, h.2.1, fun hn => by
    obtain ⟨b, off, e, hp, hc⟩ := h.2.2 hn
    exact ⟨b, off, e, hp, fun i hi => (hb.cell (p := ⟨b, off + i, none⟩) (by show b < B'; omega)).trans (hc i hi)⟩⟩
theorem Strs.le {w : World} {B n : Nat} {A : Option Addr} {l : List ByteArray} (h : Strs w B A n l) {k : Nat} (hk : k < n) : (l.getD k ByteArray.empty).size ≤ 9223372036854775807 := by
  have : l.getD k ByteArray.empty = l[k]'(by rw [h.1]; exact hk) := by rw [List.getD_eq_getElem?_getD, List.getElem?_eq_getElem (by rw [h.1]; exact hk)]; rfl
  rw [this]
  exact h.2.1 _ (List.getElem_mem _)

theorem Strs.nil {w : World} {B : Nat} {A : Option Addr} : Strs w B A 0 [] := ⟨rfl, by simp, fun h => absurd h (by omega)⟩
theorem Strs.more {w : World} {B B' n : Nat} {A : Option Addr} {l : List ByteArray} (h : Strs w B A n l) (hB : B ≤ B') : Strs w B' A n l :=
  ⟨h.1, h.2.1, fun hn => by
    obtain ⟨b, off, e, hb, hc⟩ := h.2.2 hn
    exact ⟨b, off, e, by omega, hc⟩⟩
end Go.Proofs.Ytbafbhnnonfkpaa
