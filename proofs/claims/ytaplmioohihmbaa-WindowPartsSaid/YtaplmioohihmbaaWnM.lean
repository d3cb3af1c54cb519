/- Plain mathematics of layer 14: which spans might be windows. -/
import Derived.Test.YtaplmioohihmbaaWnA
namespace Go.Proofs.Ytaplmioohihmbaa
open Go.RowKit

namespace Wn
theorem mem_wins {W : Wd} {t : Int} {n : Nat} {x : Int × Int} : x ∈ wins W t n ↔ ∃ j : Nat, j < n ∧ x.1 = first W t + j * step W ∧ x.2 = x.1 + W.s := by
  unfold wins
  rw [List.mem_map]
  constructor
  · rintro ⟨j, hj, rfl⟩
    exact ⟨j, List.mem_range.1 hj, rfl, rfl⟩
  · rintro ⟨j, hj, h1, h2⟩
    refine ⟨j, List.mem_range.2 hj, ?_⟩
    obtain ⟨a, b⟩ := x
    simp only at h1 h2
    rw [h2, h1]
theorem is_no {W : Wd} (h : right W = false) (x : Int × Int) : is W x = false := by
  unfold is
  split
  · rw [h]; rfl
  · rw [ofL_none (by rw [h]; rfl)]; rfl
theorem is_std {W : Wd} {n : Nat} {st : Int} (hs : Std W n st) (h3 : W.k ≠ 3) (hr : right W = true) (a b : Int) : is W (a, b) = true ↔ (b - a = W.s ∧ a.tmod st = 0 ∧ -1099511627776 < b ∧ a ≤ 1099511627776) := by
  have s1 := hs.st_lo
  have hse := hs.s_eq
  have hs0 : st ≤ W.s := by
    have : ((1 : Nat) : Int) * st ≤ n * st := Int.mul_le_mul_of_nonneg_right (by have := hs.n_lo; omega) (by omega)
    omega
  unfold is
  rw [if_neg h3, ofL_std hr (isT_clamp _) h3 hs, List.contains_iff_mem, mem_wins]
  simp only
  obtain ⟨T, hT⟩ : ∃ T, clampT a = T := ⟨_, rfl⟩
  rw [hT]
  have hTr : (a < -1099511627776 ∧ T = -1099511627776) ∨ (a > 1099511627776 ∧ T = 1099511627776) ∨ (-1099511627776 ≤ a ∧ a ≤ 1099511627776 ∧ T = a) := by
    rw [← hT]
    unfold clampT
    split
    · omega
    · split <;> omega
  obtain ⟨e1, e2, e3⟩ := first_eq hs T
  have hx : first W T = (T / st - n + 1) * st := by
    rw [e1, Int.add_mul, Int.sub_mul, Int.one_mul, Int.mul_comm st]
  rw [hs.st_eq]
  constructor
  · rintro ⟨j, hj, h1, h2⟩
    have hj0 : (0 : Int) ≤ (j : Int) * st := Int.mul_nonneg (by omega) (by omega)
    have hj1 : ((j + 1 : Nat) : Int) * st ≤ n * st := Int.mul_le_mul_of_nonneg_right (by omega) (by omega)
    rw [Int.natCast_add, Int.add_mul] at hj1
    refine ⟨by omega, ?_, by omega, by omega⟩
    rw [h1, hx, ← Int.add_mul]
    exact Int.mul_tmod_left _ _
  · rintro ⟨h1, h2, h4, h5⟩
    have hm := Int.mul_tdiv_add_tmod a st
    rw [h2, Int.add_zero] at hm
    obtain ⟨m, hme⟩ : ∃ m, a.tdiv st = m := ⟨_, rfl⟩
    rw [hme] at hm
    have k1 : m ≤ T / st := by
      rcases Int.lt_or_le (T / st) m with h | h
      · have : st * (T / st + 1) ≤ st * m := Int.mul_le_mul_of_nonneg_left (by omega) (by omega)
        rw [Int.mul_add] at this
        omega
      · exact h
    have k2 : T / st < m + n := by
      rcases Int.lt_or_le (T / st) (m + n) with h | h
      · exact h
      · have : st * (m + n) ≤ st * (T / st) := Int.mul_le_mul_of_nonneg_left (by omega) (by omega)
        rw [Int.mul_add, Int.mul_comm st (n : Int)] at this
        omega
    refine ⟨(m - T / st + n - 1).toNat, by omega, ?_, by omega⟩
    rw [Int.toNat_of_nonneg (by omega), hx, ← Int.add_mul, ← hm, Int.mul_comm]
    congr 1
    omega
theorem is_gap {W : Wd} (h3 : W.k = 3) (a b : Int) : is W (a, b) = (right W && isT a && decide (a + W.g ≤ b) && decide (b ≤ 1099511627776 + W.g)) := by unfold is; rw [if_pos h3]
/-- A span that might be a window lies within bounds. -/
theorem is_in {W : Wd} {a b : Int} (h : is W (a, b) = true) : -1099511627776 - 1048576 ≤ a ∧ a ≤ 1099511627776 ∧ -1099511627776 ≤ b ∧ b ≤ 1099511627776 + 1048576 := by
  have hr : right W = true := by
    cases hr : right W
    · rw [is_no hr] at h; cases h
    · rfl
  by_cases h3 : W.k = 3
  · have hg := right_gap hr h3
    rw [is_gap h3, hr, Bool.true_and, Bool.and_eq_true, Bool.and_eq_true, isT_iff] at h
    have h1 := of_decide_eq_true h.1.2
    have h2 := of_decide_eq_true h.2
    omega
  · obtain ⟨n, st, hs⟩ := right_std hr h3
    rw [is_std hs h3 hr] at h
    have := hs.s_hi
    have := hs.st_lo
    omega
end Wn
end Go.Proofs.Ytaplmioohihmbaa
