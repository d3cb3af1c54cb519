/- Layer 4's reference: the first part, of any kind. -/
import Derived.Test.YtponelbfddfliaaRefG
namespace Go.Proofs.Ytponelbfddfliaa
open Go.ChangeShapes Go.WideShapes Go.ChangeAt Go.RowKit

/-- What the first part is, and how many bytes it has. -/
def FirstA (w : World) (s : ByteArray) (k : Nat) (e : Ending) (w' : World) : Prop := ∃ (p : PT) (n : Nat), e = .returned (.tuple #[p.val, .int .i64 (n : Int)]) ∧ Below w.heap.size w w' ∧ p.ok ∧ n ≤ s.size ∧ (k = 1 ∨ k = 2 → Ky.fst (nums s) k = if n = 0 then none else some (p.to, n))
theorem refFirst_any (s : ByteArray) (k : Nat) (w : World) (hs : s.size ≤ 1000000) : Calls Try.prog 84 #[.string s, .int .u8 (k : Int)] w (FirstA w s k) := by
  by_cases hk : k = 1
  · subst hk
    by_cases h8 : s.size < 8
    · refine (refFirst_short s w h8).mono ?_
      rintro e w1 ⟨rfl, b1⟩
      refine ⟨⟨0, 0, ⟨#[]⟩⟩, 0, rfl, b1, ⟨by decide, by decide, by decide⟩, by omega, fun _ => ?_⟩
      unfold Ky.fst
      rw [if_pos rfl, if_pos (by rw [nums_len]; exact h8)]
      rfl
    · refine (refFirst_int s w h8 hs).mono ?_
      rintro e w1 ⟨rfl, b1⟩
      have hN : Pk.num ((nums s).take 8) < 18446744073709551616 := by
        have := Pk.num_take_lt (nums s) 8 (nums_byte s) (by rw [nums_len]; omega)
        have e : (256 : Nat) ^ 8 = 18446744073709551616 := by decide
        omega
      refine ⟨⟨1, (Pk.num ((nums s).take 8) : Int) - 9223372036854775808, ⟨#[]⟩⟩, 8, rfl, b1, ⟨by show (1 : Nat) < 256; decide, by show _ ≤ (Pk.num ((nums s).take 8) : Int) - 9223372036854775808 ∧ (Pk.num ((nums s).take 8) : Int) - 9223372036854775808 ≤ _; omega, by show (0 : Nat) ≤ _; omega⟩, by omega, fun _ => ?_⟩
      unfold Ky.fst
      rw [if_pos rfl, if_neg (by rw [nums_len]; exact h8)]
      rfl
  · refine (refFirst_text s k w hk hs).mono ?_
    intro e w1 h
    rcases hr : Ky.rd (nums s) with _ | ⟨t, n⟩
    · rw [hr] at h
      obtain ⟨rfl, b1⟩ := h
      refine ⟨⟨0, 0, ⟨#[]⟩⟩, 0, rfl, b1, ⟨by decide, by decide, by decide⟩, by omega, fun h2 => ?_⟩
      unfold Ky.fst
      rw [if_neg hk, if_pos (by omega), hr]
      rfl
    · rw [hr] at h
      obtain ⟨T, hT, rfl, b1⟩ := h
      simp only at hT
      have hb := Ky.rd_byte (nums s) (nums_byte s) t n hr
      rw [nums_len] at hb
      have hTs : T.size ≤ 1000000 := by rw [← nums_len, hT]; omega
      refine ⟨⟨2, 0, T⟩, n, rfl, b1, ⟨by show (2 : Nat) < 256; decide, by show _ ≤ (0 : Int) ∧ (0 : Int) ≤ _; omega, hTs⟩, hb.2.1, fun h2 => ?_⟩
      unfold Ky.fst
      rw [if_neg hk, if_pos (by omega), hr, if_neg (by omega)]
      simp [PT.to, hT]
end Go.Proofs.Ytponelbfddfliaa
