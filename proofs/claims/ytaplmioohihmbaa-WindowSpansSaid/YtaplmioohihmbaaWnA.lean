/- Plain mathematics of layer 14: windows, and the spans that a time is in. -/
import Derived.Test.YtaplmioohihmbaaNm
namespace Go.Proofs.Ytaplmioohihmbaa
open Go.RowKit

/-- A window: its kind, and its numbers. -/
structure Wd where
  k : Int
  s : Int
  l : Int
  g : Int
namespace Wn
def number (n : Int) : Bool := decide (1 ≤ n) && decide (n ≤ 1048576)
def right (W : Wd) : Bool :=
  if W.k = 1 then number W.s && (W.l == 0) && (W.g == 0)
  else if W.k = 2 then number W.s && number W.l && (W.g == 0) && (W.s.tmod W.l == 0) && decide (W.s.tdiv W.l ≤ 16)
  else if W.k = 3 then number W.g && (W.s == 0) && (W.l == 0) else false
def step (W : Wd) : Int := if W.k = 2 then W.l else W.s
def isT (t : Int) : Bool := decide (-1099511627776 ≤ t) && decide (t ≤ 1099511627776)
def cnt (W : Wd) : Nat := (W.s / step W).toNat
def first (W : Wd) (t : Int) : Int := (t / step W - W.s / step W + 1) * step W
def wins (W : Wd) (t : Int) (n : Nat) : List (Int × Int) := (List.range n).map fun (i : Nat) => (first W t + i * step W, first W t + i * step W + W.s)
def ofL (W : Wd) (t : Int) : List (Int × Int) :=
  if right W && isT t then (if W.k = 3 then [(t, t + W.g)] else wins W t (cnt W)) else []
def clampT (n : Int) : Int := if n < -1099511627776 then -1099511627776 else if n > 1099511627776 then 1099511627776 else n
def is (W : Wd) (x : Int × Int) : Bool :=
  if W.k = 3 then right W && isT x.1 && decide (x.1 + W.g ≤ x.2) && decide (x.2 ≤ 1099511627776 + W.g) else (ofL W (clampT x.1)).contains x
def has (x : Int × Int) (t : Int) : Bool := decide (x.1 ≤ t) && decide (t < x.2)
def imn (a b : Int) : Int := if b < a then b else a
def imx (a b : Int) : Int := if a < b then b else a
def over (x y : Int × Int) : Bool := decide (imx x.1 y.1 < imn x.2 y.2)
def tog : List (Int × Int) → Int × Int
  | [] => (0, 0)
  | x :: l => l.foldl (fun a s => (imn a.1 s.1, imx a.2 s.2)) x
theorem over_comm (x y : Int × Int) : over x y = over y x := by
  unfold over imx imn
  rw [decide_eq_decide]
  split <;> split <;> split <;> split <;> omega
theorem number_iff (n : Int) : number n = true ↔ 1 ≤ n ∧ n ≤ 1048576 := by unfold number; simp
/-- A right window that is no session: how many windows of a time. -/
structure Std (W : Wd) (n : Nat) (st : Int) : Prop where
  st_eq : step W = st
  st_lo : 1 ≤ st
  st_hi : st ≤ 1048576
  s_eq : W.s = n * st
  n_lo : 1 ≤ n
  n_hi : n ≤ 16
  s_hi : W.s ≤ 1048576
  cnt_eq : cnt W = n
theorem right_std {W : Wd} (h : right W = true) (h3 : W.k ≠ 3) : ∃ n st, Std W n st := by
  unfold right at h
  by_cases h1 : W.k = 1
  · rw [if_pos h1] at h
    simp [number_iff] at h
    obtain ⟨⟨⟨a, b⟩, c⟩, d⟩ := h
    have e : step W = W.s := by unfold step; rw [if_neg (by omega)]
    refine ⟨1, W.s, e, a, b, by omega, by omega, by omega, b, ?_⟩
    unfold cnt
    rw [e, Int.ediv_self (by omega)]
    rfl
  · rw [if_neg h1] at h
    by_cases h2 : W.k = 2
    · rw [if_pos h2] at h
      simp [number_iff] at h
      obtain ⟨⟨⟨⟨⟨a, b⟩, c1, c2⟩, d⟩, e⟩, f⟩ := h
      have hs : step W = W.l := by unfold step; rw [if_pos h2]
      have hm := Int.mul_tdiv_add_tmod W.s W.l
      have ht : W.s.tdiv W.l = W.s / W.l := Int.tdiv_eq_ediv_of_nonneg (by omega)
      rw [e] at hm
      obtain ⟨n, hn⟩ : ∃ n : Nat, W.s / W.l = n := ⟨(W.s / W.l).toNat, by have := Int.ediv_nonneg (a := W.s) (b := W.l) (by omega) (by omega); omega⟩
      rw [ht, hn] at hm f
      have hn1 : 1 ≤ n := by
        rcases Nat.eq_zero_or_pos n with h0 | h0
        · subst h0; simp at hm; omega
        · exact h0
      refine ⟨n, W.l, hs, c1, c2, by rw [Int.mul_comm]; omega, hn1, by omega, b, ?_⟩
      unfold cnt
      rw [hs, hn]
      rfl
    · rw [if_neg h2, if_neg h3] at h
      cases h
theorem right_gap {W : Wd} (h : right W = true) (h3 : W.k = 3) : 1 ≤ W.g ∧ W.g ≤ 1048576 ∧ W.s = 0 ∧ W.l = 0 := by
  unfold right at h
  rw [if_neg (by omega), if_neg (by omega), if_pos h3] at h
  simp [number_iff] at h
  omega
theorem isT_iff (t : Int) : isT t = true ↔ -1099511627776 ≤ t ∧ t ≤ 1099511627776 := by unfold isT; simp
theorem isT_clamp (t : Int) : isT (clampT t) = true := by rw [isT_iff]; unfold clampT; split <;> (try split) <;> omega
theorem ofL_none {W : Wd} {t : Int} (h : (right W && isT t) = false) : ofL W t = [] := by unfold ofL; rw [h]; rfl
theorem ofL_gap {W : Wd} {t : Int} (h : right W = true) (ht : isT t = true) (h3 : W.k = 3) : ofL W t = [(t, t + W.g)] := by unfold ofL; simp [h, ht, h3]
theorem ofL_std {W : Wd} {t : Int} (h : right W = true) (ht : isT t = true) (h3 : W.k ≠ 3) {n : Nat} {st : Int} (hs : Std W n st) : ofL W t = wins W t n := by unfold ofL; simp [h, ht, h3, hs.cnt_eq]
theorem wins_len (W : Wd) (t : Int) (n : Nat) : (wins W t n).length = n := by simp [wins]
theorem wins_at (W : Wd) (t : Int) {n i : Nat} (h : i < n) : (wins W t n)[i]? = some (first W t + i * step W, first W t + i * step W + W.s) := by
  unfold wins
  rw [List.getElem?_map, List.getElem?_range h]
  rfl
theorem wins_succ (W : Wd) (t : Int) (n : Nat) : wins W t (n + 1) = wins W t n ++ [(first W t + n * step W, first W t + n * step W + W.s)] := by
  unfold wins
  rw [List.range_succ, List.map_append]
  rfl
/-- The first window's start, and the last one's, in plain numbers. -/
theorem first_eq {W : Wd} {n : Nat} {st : Int} (hs : Std W n st) (t : Int) : first W t = st * (t / st) - n * st + st ∧ st * (t / st) ≤ t ∧ t < st * (t / st) + st := by
  have h1 := Int.mul_ediv_add_emod t st
  have h2 := Int.emod_nonneg t (by have := hs.st_lo; omega : st ≠ 0)
  have h3 := Int.emod_lt_of_pos t (by have := hs.st_lo; omega : 0 < st)
  refine ⟨?_, by omega, by omega⟩
  unfold first
  have e : W.s / st = n := by rw [hs.s_eq, Int.mul_ediv_cancel _ (by have := hs.st_lo; omega)]
  rw [hs.st_eq, e, Int.add_mul, Int.sub_mul, Int.one_mul, Int.mul_comm (t / st) st]
end Wn
end Go.Proofs.Ytaplmioohihmbaa
