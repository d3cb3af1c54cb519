/- PackBack's words: rows of numbers and of texts in memory; what they are packed as. -/
import Derived.Test.YtadcjllfabihbaaPackW
import Derived.Test.YtadcjllfabihbaaGrow
namespace Go.Proofs.Ytadcjllfabihbaa
open Go.ChangeShapes Go.WideShapes Go.ChangeAt Go.RowKit

/-- A slice at A, of n numbers, below block B, reads as l. -/
def Nums (w : World) (B : Nat) (A : Option Addr) (n : Nat) (l : List Nat) : Prop :=
  l.length = n ∧ (∀ x ∈ l, x < 18446744073709551616) ∧ (0 < n → ∃ b off, A = some ⟨b, off, none⟩ ∧ b < B ∧ ∀ i, i < n → w.cell? ⟨b, off + i, none⟩ = some (.int .u64 ((l.getD i 0 : Nat) : Int)))
theorem Nums.below {w w' : World} {B B' n : Nat} {A : Option Addr} {l : List Nat} (h : Nums w B A n l) (hb : Below B' w w') (hB : B ≤ B') : Nums w' B A n l :=
  ⟨h.1, h.2.1, fun hn => by
    obtain ⟨b, off, e, hp, hc⟩ := h.2.2 hn
    exact ⟨b, off, e, hp, fun i hi => (hb.cell (p := ⟨b, off + i, none⟩) (by show b < B'; omega)).trans (hc i hi)⟩⟩
theorem Nums.lt {w : World} {B n : Nat} {A : Option Addr} {l : List Nat} (h : Nums w B A n l) (k : Nat) : l.getD k 0 < 18446744073709551616 := by
  rw [List.getD_eq_getElem?_getD]
  rcases hx : l[k]? with _ | x
  · simp
  · simp only [Option.getD_some]
    exact h.2.1 x (List.mem_of_getElem? hx)
/-- A slice at A, of n texts, below block B, reads as l. -/
def Strs (w : World) (B : Nat) (A : Option Addr) (n : Nat) (l : List ByteArray) : Prop :=
  l.length = n ∧ (∀ s ∈ l, s.size ≤ 9223372036854775807) ∧ (0 < n → ∃ b off, A = some ⟨b, off, none⟩ ∧ b < B ∧ ∀ i, i < n → w.cell? ⟨b, off + i, none⟩ = some (.string (l.getD i ByteArray.empty)))
theorem Strs.below {w w' : World} {B B' n : Nat} {A : Option Addr} {l : List ByteArray} (h : Strs w B A n l) (hb : Below B' w w') (hB : B ≤ B') : Strs w' B A n l :=
  ⟨h.1, h.2.1, fun hn => by
    obtain ⟨b, off, e, hp, hc⟩ := h.2.2 hn
    exact ⟨b, off, e, hp, fun i hi => (hb.cell (p := ⟨b, off + i, none⟩) (by show b < B'; omega)).trans (hc i hi)⟩⟩
theorem Strs.le {w : World} {B n : Nat} {A : Option Addr} {l : List ByteArray} (h : Strs w B A n l) {k : Nat} (hk : k < n) : (l.getD k ByteArray.empty).size ≤ 9223372036854775807 := by
  have : l.getD k ByteArray.empty = l[k]'(by rw [h.1]; exact hk) := by rw [List.getD_eq_getElem?_getD, List.getElem?_eq_getElem (by rw [h.1]; exact hk)]; rfl
  rw [this]
  exact h.2.1 _ (List.getElem_mem _)

namespace Pk
/-- One number, packed as each of the five kinds. -/
def five (x : Nat) : List Nat := be 1 x ++ (be 2 x ++ (be 4 x ++ (be 8 x ++ be 8 x)))
def fives (l : List Nat) : List Nat := (l.map five).flatten
theorem five_len (x : Nat) : (five x).length = 23 := by simp [five, be_len]
theorem five_lt (x : Nat) : ∀ y ∈ five x, y < 256 := by
  intro y hy
  simp only [five, List.mem_append] at hy
  rcases hy with h | h | h | h | h
  · exact be_lt _ _ y h
  · exact be_lt _ _ y h
  · exact be_lt _ _ y h
  · exact be_lt _ _ y h
  · exact be_lt _ _ y h
theorem fives_lt (l : List Nat) : ∀ y ∈ fives l, y < 256 := by
  intro y hy
  obtain ⟨t, ht, hyt⟩ := List.mem_flatten.1 hy
  obtain ⟨x, _, rfl⟩ := List.mem_map.1 ht
  exact five_lt x y hyt
theorem fives_snoc (l : List Nat) (k : Nat) (h : k < l.length) : fives (l.take (k + 1)) = fives (l.take k) ++ five (l.getD k 0) := by
  unfold fives
  rw [List.take_succ_eq_append_getElem h, List.map_append, List.flatten_append, List.getD_eq_getElem?_getD, List.getElem?_eq_getElem h]
  simp
theorem fives_step (l : List Nat) (k : Nat) (h : k < l.length) : fives (l.drop k) = five (l.getD k 0) ++ fives (l.drop (k + 1)) := by
  unfold fives
  rw [List.drop_eq_getElem_cons h, List.map_cons, List.flatten_cons, List.getD_eq_getElem?_getD, List.getElem?_eq_getElem h]
  rfl
theorem fives_len (l : List Nat) : (fives l).length = 23 * l.length := by
  induction l with
  | nil => rfl
  | cons x t ih =>
    simp only [fives, List.map_cons, List.flatten_cons, List.length_append, List.length_cons] at ih ⊢
    rw [five_len]
    omega
/-- Texts, packed. -/
def texts (l : List (List Nat)) : List Nat := (l.map tx).flatten
theorem texts_snoc (l : List (List Nat)) (k : Nat) (h : k < l.length) : texts (l.take (k + 1)) = texts (l.take k) ++ tx (l.getD k []) := by
  unfold texts
  rw [List.take_succ_eq_append_getElem h, List.map_append, List.flatten_append, List.getD_eq_getElem?_getD, List.getElem?_eq_getElem h]
  simp
theorem texts_step (l : List (List Nat)) (k : Nat) (h : k < l.length) : texts (l.drop k) = tx (l.getD k []) ++ texts (l.drop (k + 1)) := by
  unfold texts
  rw [List.drop_eq_getElem_cons h, List.map_cons, List.flatten_cons, List.getD_eq_getElem?_getD, List.getElem?_eq_getElem h]
  rfl
theorem texts_lt (l : List (List Nat)) (hl : ∀ t ∈ l, ∀ x ∈ t, x < 256) : ∀ y ∈ texts l, y < 256 := by
  intro y hy
  obtain ⟨t, ht, hyt⟩ := List.mem_flatten.1 hy
  obtain ⟨x, hx, rfl⟩ := List.mem_map.1 ht
  exact tx_lt x (hl x hx) y hyt
theorem fails_be (k x : Nat) (r : List Nat) : fails false (be k x ++ r) k = false := by have := fails_at (be k x) r; rwa [be_len] at this
theorem taken_be (k x : Nat) (r : List Nat) : num (taken false (be k x ++ r) k) = x % 256 ^ k := by have := taken_at (be k x) r; rw [be_len] at this; rw [this, num_be]
theorem left_be (k x : Nat) (r : List Nat) : left false (be k x ++ r) k = r := by have := left_at (be k x) r; rwa [be_len] at this
theorem Short.be {l r : List Nat} {f : Bool} {k x : Nat} (h : Short l f (be (k + 1) x ++ r)) : Short (left f l (k + 1)) (fails f l (k + 1)) r := by
  have h2 := Short.take h (by simp [Pk.be])
  rwa [be_len] at h2

/-- Bytes that come ahead. -/
theorem less_be (k x y : Nat) : Op.bytesLess ((be k x).map UInt8.ofNat) ((be k y).map UInt8.ofNat) = decide (x % 256 ^ k < y % 256 ^ k) := by
  induction k with
  | zero => simp [be, Op.bytesLess, Nat.mod_one]
  | succ k ih =>
    simp only [be, List.map_cons, Op.bytesLess, ih]
    have hx : x % 256 ^ (k + 1) = x / 256 ^ k % 256 * 256 ^ k + x % 256 ^ k := by rw [Nat.mod_pow_succ, Nat.mul_comm, Nat.add_comm]
    have hy : y % 256 ^ (k + 1) = y / 256 ^ k % 256 * 256 ^ k + y % 256 ^ k := by rw [Nat.mod_pow_succ, Nat.mul_comm, Nat.add_comm]
    have hp : 0 < 256 ^ k := Nat.pow_pos (by decide)
    have h1 := Nat.mod_lt x hp
    have h2 := Nat.mod_lt y hp
    have h3 := Nat.mod_lt (x / 256 ^ k) (show 0 < 256 by decide)
    have h4 := Nat.mod_lt (y / 256 ^ k) (show 0 < 256 by decide)
    rw [hx, hy]
    generalize x / 256 ^ k % 256 = a at *
    generalize y / 256 ^ k % 256 = b at *
    generalize x % 256 ^ k = c at *
    generalize y % 256 ^ k = d at *
    generalize 256 ^ k = p at *
    have e1 : (UInt8.ofNat a < UInt8.ofNat b) ↔ a < b := by rw [UInt8.lt_iff_toNat_lt, UInt8.toNat_ofNat_of_lt' h3, UInt8.toNat_ofNat_of_lt' h4]
    have e2 : (UInt8.ofNat a == UInt8.ofNat b) = decide (a = b) := by
      rw [Bool.eq_iff_iff]
      simp only [beq_iff_eq, decide_eq_true_eq]
      constructor
      · intro h
        have := congrArg UInt8.toNat h
        rwa [UInt8.toNat_ofNat_of_lt' h3, UInt8.toNat_ofNat_of_lt' h4] at this
      · rintro rfl; rfl
    rw [e2, Bool.eq_iff_iff]
    simp only [e1, Bool.or_eq_true, decide_eq_true_eq, Bool.and_eq_true]
    constructor
    · rintro (h | ⟨rfl, h⟩)
      · have : (a + 1) * p ≤ b * p := Nat.mul_le_mul_right _ h
        rw [Nat.add_mul] at this
        omega
      · omega
    · intro h
      rcases Nat.lt_trichotomy a b with hab | rfl | hab
      · exact .inl hab
      · exact .inr ⟨rfl, by omega⟩
      · have : (b + 1) * p ≤ a * p := Nat.mul_le_mul_right _ hab
        rw [Nat.add_mul] at this
        omega
end Pk
theorem less_text (x y : Nat) (hx : x < 18446744073709551616) (hy : y < 18446744073709551616) : Op.bytesLess (textOf (Pk.be 8 x)).toList (textOf (Pk.be 8 y)).toList = decide (x < y) := by
  have h := Pk.less_be 8 x y
  rw [Nat.mod_eq_of_lt (show x < 256 ^ 8 from hx), Nat.mod_eq_of_lt (show y < 256 ^ 8 from hy)] at h
  rw [← h]
  congr 1
  · rw [ByteArray.toList_eq]; simp [textOf]
  · rw [ByteArray.toList_eq]; simp [textOf]
end Go.Proofs.Ytadcjllfabihbaa
