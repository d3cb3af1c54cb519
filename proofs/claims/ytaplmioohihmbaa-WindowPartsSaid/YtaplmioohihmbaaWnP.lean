/- Plain mathematics of layer 14: what a time's windows are like. -/
import Derived.Test.YtaplmioohihmbaaWnM
namespace Go.Proofs.Ytaplmioohihmbaa
open Go.RowKit

namespace Wn
theorem many {W : Wd} {t : Int} (hr : right W = true) (ht : isT t = true) : ((ofL W t).length : Int) = if W.k = 2 then W.s.tdiv W.l else 1 := by
  by_cases h3 : W.k = 3
  · rw [ofL_gap hr ht h3, if_neg (by omega)]
    rfl
  · obtain ⟨n, st, hs⟩ := right_std hr h3
    rw [ofL_std hr ht h3 hs, wins_len]
    have h1 := hs.st_lo
    have hse := hs.s_eq
    have hst := hs.st_eq
    unfold step at hst
    by_cases h2 : W.k = 2
    · rw [if_pos h2] at hst ⊢
      rw [hst, hse, Int.mul_tdiv_cancel _ (by omega)]
    · rw [if_neg h2] at hst ⊢
      rw [hst] at hse
      have hn := hs.n_lo
      rcases Nat.lt_or_ge n 2 with h | h
      · omega
      · have : ((2 : Nat) : Int) * st ≤ n * st := Int.mul_le_mul_of_nonneg_right (by omega) (by omega)
        omega
/-- What the q-th window is like. -/
structure Good (W : Wd) (t : Int) (q : Nat) (x : Int × Int) : Prop where
  has_ : has x t = true
  long : W.k ≠ 3 → x.2 - x.1 = W.s
  gap : W.k = 3 → x.1 = t ∧ x.2 = t + W.g
  next : ∀ p y, q = p + 1 → (ofL W t)[p]? = some y → x.1 - y.1 = W.l ∧ x.2 - y.2 = W.l
  lo : -4398046511104 ≤ x.1 ∧ x.1 ≤ 4398046511104
  hi : -4398046511104 ≤ x.2 ∧ x.2 ≤ 4398046511104
theorem good {W : Wd} {t : Int} {q : Nat} {x : Int × Int} (hr : right W = true) (ht : isT t = true) (hx : (ofL W t)[q]? = some x) : Good W t q x := by
  have hti := (isT_iff t).1 ht
  by_cases h3 : W.k = 3
  · have hg := right_gap hr h3
    rw [ofL_gap hr ht h3] at hx
    have hq : q = 0 := by
      have := (List.getElem?_eq_some_iff.1 hx).1
      simp at this
      exact this
    subst hq
    have e : (t, t + W.g) = x := by simpa using hx
    subst e
    refine ⟨?_, fun h => absurd h3 h, fun _ => ⟨rfl, rfl⟩, fun p y e => absurd e (by omega), ⟨by simp only; omega, by simp only; omega⟩, ⟨by simp only; omega, by simp only; omega⟩⟩
    unfold has
    simp
    omega
  · obtain ⟨n, st, hs⟩ := right_std hr h3
    have hm := many hr ht
    rw [ofL_std hr ht h3 hs] at hx hm
    rw [wins_len] at hm
    have hq : q < n := by
      have := (List.getElem?_eq_some_iff.1 hx).1
      rwa [wins_len] at this
    rw [wins_at W t hq] at hx
    have e := Option.some.inj hx
    have f1 : x.1 = first W t + q * step W := by rw [← e]
    have f2 : x.2 = first W t + q * step W + W.s := by rw [← e]
    obtain ⟨e1, e2, e3⟩ := first_eq hs t
    have hse := hs.s_eq
    have s1 := hs.st_lo
    have s2 := hs.st_hi
    have s3 := hs.s_hi
    have hj0 : (0 : Int) ≤ (q : Int) * st := Int.mul_nonneg (by omega) (by omega)
    have hj1 : ((q + 1 : Nat) : Int) * st ≤ n * st := Int.mul_le_mul_of_nonneg_right (by omega) (by omega)
    rw [Int.natCast_add, Int.add_mul] at hj1
    rw [hs.st_eq] at f1 f2
    refine ⟨?_, fun _ => by omega, fun h => absurd h h3, fun p y e hy => ?_, by omega, by omega⟩
    · unfold has
      simp
      omega
    · rw [ofL_std hr ht h3 hs, wins_at W t (by omega)] at hy
      have e' := Option.some.inj hy
      have y1 : y.1 = first W t + p * step W := by rw [← e']
      have y2 : y.2 = first W t + p * step W + W.s := by rw [← e']
      rw [hs.st_eq] at y1 y2
      have hk : W.k = 2 := by
        rcases Decidable.em (W.k = 2) with h | h
        · exact h
        · rw [if_neg h] at hm
          omega
      have hl : W.l = st := by
        have := hs.st_eq
        unfold step at this
        rwa [if_pos hk] at this
      have hp : (q : Int) * st = p * st + st := by
        rw [e, Int.natCast_add, Int.add_mul]
        omega
      omega
/-- A span that might be a window has the time just where it is one of its windows. -/
theorem is_has {W : Wd} {t : Int} (hr : right W = true) (ht : isT t = true) (h3 : W.k ≠ 3) (a b : Int) (h : is W (a, b) = true) : has (a, b) t = (ofL W t).contains (a, b) := by
  obtain ⟨n, st, hs⟩ := right_std hr h3
  rw [is_std hs h3 hr] at h
  obtain ⟨h1, h2, -, -⟩ := h
  have s1 := hs.st_lo
  have hse := hs.s_eq
  obtain ⟨e1, e2, e3⟩ := first_eq hs t
  have hx : first W t = (t / st - n + 1) * st := by rw [e1, Int.add_mul, Int.sub_mul, Int.one_mul, Int.mul_comm st]
  rw [Bool.eq_iff_iff, List.contains_iff_mem, ofL_std hr ht h3 hs, mem_wins, hs.st_eq]
  unfold has
  rw [Bool.and_eq_true, decide_eq_true_iff, decide_eq_true_iff]
  simp only
  constructor
  · rintro ⟨k1, k2⟩
    have hm := Int.mul_tdiv_add_tmod a st
    rw [h2, Int.add_zero] at hm
    obtain ⟨m, hme⟩ : ∃ m, a.tdiv st = m := ⟨_, rfl⟩
    rw [hme] at hm
    have k1 : m ≤ t / st := by
      rcases Int.lt_or_le (t / st) m with h | h
      · have : st * (t / st + 1) ≤ st * m := Int.mul_le_mul_of_nonneg_left (by omega) (by omega)
        rw [Int.mul_add] at this
        omega
      · exact h
    have k2 : t / st < m + n := by
      rcases Int.lt_or_le (t / st) (m + n) with h | h
      · exact h
      · have : st * (m + n) ≤ st * (t / st) := Int.mul_le_mul_of_nonneg_left (by omega) (by omega)
        rw [Int.mul_add, Int.mul_comm st (n : Int)] at this
        omega
    refine ⟨(m - t / st + n - 1).toNat, by omega, ?_, by omega⟩
    rw [Int.toNat_of_nonneg (by omega), hx, ← Int.add_mul, ← hm, Int.mul_comm]
    congr 1
    omega
  · rintro ⟨j, hj, k1, k2⟩
    have hj0 : (0 : Int) ≤ (j : Int) * st := Int.mul_nonneg (by omega) (by omega)
    have hj1 : ((j + 1 : Nat) : Int) * st ≤ n * st := Int.mul_le_mul_of_nonneg_right (by omega) (by omega)
    rw [Int.natCast_add, Int.add_mul] at hj1
    omega
theorem contains_snoc (l : List (Int × Int)) (q : Nat) (x y : Int × Int) (h : l[q]? = some x) : (l.take (q + 1)).contains y = ((l.take q).contains y || (x.1 == y.1 && x.2 == y.2)) := by
  have hj := (List.getElem?_eq_some_iff.1 h).1
  rw [List.take_succ_eq_append_getElem hj]
  rw [List.getElem?_eq_getElem hj] at h
  rw [Option.some.inj h, Bool.eq_iff_iff, Bool.or_eq_true, List.contains_iff_mem, List.contains_iff_mem, List.mem_append, List.mem_singleton, Bool.and_eq_true, beq_iff_eq, beq_iff_eq]
  constructor
  · rintro (h | h)
    · exact .inl h
    · exact .inr (h ▸ ⟨rfl, rfl⟩)
  · rintro (h | ⟨h1, h2⟩)
    · exact .inl h
    · exact .inr (Prod.ext h1 h2).symm
end Wn
end Go.Proofs.Ytaplmioohihmbaa
