/- A slice of bytes, turned into a text. (Over Mem; wants the types []uint8 and string.) -/
import Derived.Test.YtponelbfddfliaaMem
namespace Go.Proofs.Ytponelbfddfliaa
open Go.ChangeShapes Go.WideShapes Go.ChangeAt Go.RowKit

/-- A slice of bytes, turned into a text. -/
theorem conv_bytes {W : World} {B n c : Nat} {A : Option Addr} {l : List Nat} (h : Bytes W B A n l) : nums (textOf l) = l ∧ (textOf l).size = n ∧ (convert 46 9 (.slice A n c)).run Try.prog W = .ok (.string (textOf l)) W := by
  have hn : nums ⟨(l.map UInt8.ofNat).toArray⟩ = l := by
    have : ∀ k : List Nat, (∀ x ∈ k, x < 256) → (k.map UInt8.ofNat).map UInt8.toNat = k := by
      intro k
      induction k with
      | nil => intro _; rfl
      | cons a t ih =>
        intro hk
        rw [List.map_cons, List.map_cons, ih (fun x hx => hk x (by simp [hx])), UInt8.toNat_ofNat_of_lt' (hk a (by simp))]
    exact this l h.2.1
  refine ⟨hn, by rw [← nums_len, show nums (textOf l) = l from hn]; exact h.1, ?_⟩
  rcases A with _ | ad
  · have h0 : n = 0 := by
      rcases Nat.eq_zero_or_pos n with h0 | h0
      · exact h0
      · obtain ⟨b, off, e, _⟩ := h.2.2 h0
        cases e
    subst h0
    obtain rfl : l = [] := List.eq_nil_of_length_eq_zero h.1
    exact run_convert_bytes_nil W _ _ Try.underlying46 Try.underlying5 _ _ _ Try.underlying9
  · have hl : (l.map UInt8.ofNat).length = n := by simp [h.1]
    have := run_convert_bytes_back (P := Try.prog) W 46 9 5 ad c (l.map UInt8.ofNat) Try.underlying46 Try.underlying5 Try.underlying9 (fun j hj => by
      have hj' : j < n := by omega
      obtain ⟨b, off, e, _, hc⟩ := h.2.2 (by omega)
      injection e with e
      subst e
      have hlt : l[j]'(by rw [h.1]; exact hj') < 256 := h.2.1 _ (List.getElem_mem _)
      rw [add_at, hc j hj', List.getD_eq_getElem?_getD, List.getElem?_eq_getElem (by rw [h.1]; exact hj'), List.getElem_map, UInt8.toNat_ofNat_of_lt' hlt]
      rfl)
    rw [hl] at this
    exact this
end Go.Proofs.Ytponelbfddfliaa
