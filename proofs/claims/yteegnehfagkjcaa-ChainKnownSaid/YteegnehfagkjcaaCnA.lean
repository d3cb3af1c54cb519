/- Layer 15, plain: versions and chains. -/
import Derived.Test.YteegnehfagkjcaaAg
namespace Go.Proofs.Yteegnehfagkjcaa.Cn

structure Ver where
  e : Nat
  d : Bool
  a : Ag.A
def zero : Ver := ⟨0, false, Ag.none'⟩
def vok (v : Ver) : Bool := Ag.right v.a && (v.d == Ag.blank v.a)
def one (v : Ver) : Bool := decide (0 < v.e) && vok v
def ix (l : List Ver) (i : Nat) : Ver := l.getD i zero
def prev (l : List Ver) (i : Nat) : Nat := if i = 0 then 0 else (ix l (i - 1)).e
def okAt (l : List Ver) (i : Nat) : Bool := decide (prev l i < (ix l i).e) && vok (ix l i)
def right (l : List Ver) : Bool := (List.range l.length).all (okAt l)
def upto (l : List Ver) (x : Nat) : Nat := (l.takeWhile fun v => decide (v.e ≤ x)).length
def at_ (l : List Ver) (x : Nat) : Ag.A × Bool := if upto l x = 0 then (Ag.none', false) else ((ix l (upto l x - 1)).a, !(ix l (upto l x - 1)).d)
def next (l : List Ver) (x : Nat) : Ver × Bool := if upto l x = l.length then (zero, false) else (ix l (upto l x), true)
def behind (l : List Ver) (i : Nat) : Nat := if i + 1 < l.length then (ix l (i + 1)).e else 0
/-- Of a version, whether it is the first, and the epoch behind it: is it garbage? -/
def garbL (v : Ver) (first : Bool) (bh f : Nat) : Bool := (decide (bh ≠ 0) && decide (bh ≤ f)) || (v.d && first && decide (v.e ≤ f))
def garb (l : List Ver) (i f : Nat) : Bool := garbL (ix l i) (i == 0) (behind l i) f
def isAt (l : List Ver) (x f : Nat) : Bool := decide (0 < upto l x) && (decide ((ix l (upto l x - 1)).e = x) && garb l (upto l x - 1) f)
/-- Where the version of an epoch stands, if it is garbage. -/
def place (l : List Ver) (x f : Nat) : Nat × Bool := if isAt l x f then (upto l x - 1, true) else (0, false)
def drop (l : List Ver) (x f : Nat) : List Ver × Bool := if isAt l x f then (l.eraseIdx (upto l x - 1), true) else (l, false)
/-- How many go, the first one first. -/
def trimN : List Ver → Nat → Nat
  | [], _ => 0
  | v :: r, f => if garb (v :: r) 0 f then trimN r f + 1 else 0
def add (l : List Ver) (v : Ver) : List Ver × Int := if one v then (if upto l (v.e - 1) = l.length then (l ++ [v], 0) else (l, 150)) else (l, 2)
theorem ix_lt {l : List Ver} {i : Nat} {v : Ver} (h : l[i]? = some v) : ix l i = v := by rw [ix, List.getD_eq_getElem?_getD, h]; rfl
theorem ix_some {l : List Ver} {i : Nat} (h : i < l.length) : l[i]? = some (ix l i) := by
  rw [List.getElem?_eq_getElem h, ix, List.getD_eq_getElem?_getD, List.getElem?_eq_getElem h]; rfl
theorem right_iff (l : List Ver) : right l = true ↔ ∀ i, i < l.length → prev l i < (ix l i).e ∧ vok (ix l i) = true := by
  unfold right
  rw [List.all_eq_true]
  constructor
  · intro h i hi
    have := h i (List.mem_range.2 hi)
    unfold okAt at this
    rw [Bool.and_eq_true, decide_eq_true_iff] at this
    exact this
  · intro h i hi
    have := h i (List.mem_range.1 hi)
    unfold okAt
    rw [Bool.and_eq_true, decide_eq_true_iff]
    exact this
/-- The first i are as they should. -/
def okTo (l : List Ver) (i : Nat) : Bool := (List.range i).all (okAt l)
theorem okTo_zero (l : List Ver) : okTo l 0 = true := rfl
theorem okTo_succ (l : List Ver) (i : Nat) : okTo l (i + 1) = (okTo l i && okAt l i) := by
  unfold okTo
  rw [List.range_succ, List.all_append]
  simp
theorem okTo_all (l : List Ver) : okTo l l.length = right l := rfl
theorem right_false {l : List Ver} {i : Nat} (hi : i < l.length) (h : okAt l i = false) : right l = false := by
  rw [Bool.eq_false_iff]
  intro e
  have := (right_iff l).1 e i hi
  unfold okAt at h
  rw [this.2, decide_eq_true this.1] at h
  cases h
theorem rising {l : List Ver} (h : right l = true) : ∀ j i, i < j → j < l.length → (ix l i).e < (ix l j).e := by
  intro j
  induction j with
  | zero => intro i hi; omega
  | succ j ih =>
    intro i hi hj
    have h1 := ((right_iff l).1 h (j + 1) hj).1
    unfold prev at h1
    rw [if_neg (by omega), Nat.add_sub_cancel] at h1
    rcases Nat.lt_or_ge i j with h2 | h2
    · have := ih i h2 (by omega)
      omega
    · obtain rfl : i = j := by omega
      exact h1
theorem pos {l : List Ver} (h : right l = true) {i : Nat} (hi : i < l.length) : 0 < (ix l i).e := by
  have h1 := ((right_iff l).1 h i hi).1
  omega
theorem ok_at {l : List Ver} (h : right l = true) {i : Nat} (hi : i < l.length) : vok (ix l i) = true := ((right_iff l).1 h i hi).2
theorem upto_le (l : List Ver) (x : Nat) : upto l x ≤ l.length := List.Sublist.length_le (List.takeWhile_sublist _)
theorem upto_cons (v : Ver) (r : List Ver) (x : Nat) : upto (v :: r) x = if v.e ≤ x then upto r x + 1 else 0 := by
  unfold upto
  rw [List.takeWhile_cons]
  by_cases h : v.e ≤ x
  · rw [if_pos (by simpa using h), if_pos h, List.length_cons]
  · rw [if_neg (by simpa using h), if_neg h]; rfl
theorem upto_lt {l : List Ver} {x i : Nat} (h : i < upto l x) : (ix l i).e ≤ x := by
  induction l generalizing i with
  | nil => exact absurd h (Nat.not_lt_zero _)
  | cons v r ih =>
    rw [upto_cons] at h
    by_cases h1 : v.e ≤ x
    · rw [if_pos h1] at h
      cases i with
      | zero => exact h1
      | succ i => exact ih (by omega)
    · rw [if_neg h1] at h
      omega
theorem upto_at {l : List Ver} {x : Nat} (h : upto l x < l.length) : x < (ix l (upto l x)).e := by
  induction l with
  | nil => simp at h
  | cons v r ih =>
    rw [upto_cons] at h ⊢
    by_cases h1 : v.e ≤ x
    · rw [if_pos h1] at h ⊢
      exact ih (by simpa using h)
    · rw [if_neg h1]
      show x < v.e
      omega
theorem upto_ge {l : List Ver} (hr : right l = true) {x i : Nat} (h : upto l x ≤ i) (hi : i < l.length) : x < (ix l i).e := by
  have h1 := upto_at (l := l) (x := x) (by omega)
  rcases Nat.lt_or_ge (upto l x) i with h2 | h2
  · have := rising hr i _ h2 hi
    omega
  · obtain rfl : i = upto l x := by omega
    exact h1
/-- It is told by its bounds. -/
theorem upto_is {l : List Ver} {x k : Nat} (hk : k ≤ l.length) (h1 : ∀ i, i < k → (ix l i).e ≤ x) (h2 : k < l.length → x < (ix l k).e) : upto l x = k := by
  rcases Nat.lt_trichotomy (upto l x) k with h | h | h
  · have := h1 _ h
    have := upto_at (l := l) (x := x) (by omega)
    omega
  · exact h
  · have := upto_lt h
    have := h2 (by have := upto_le l x; omega)
    omega
theorem right_one (v : Ver) : right [v] = one v := by
  show (okAt [v] 0 && true) = _
  rw [Bool.and_true]
  rfl
end Go.Proofs.Yteegnehfagkjcaa.Cn
