/- Layer 6's plain mathematics: operations, whether they are right, and as bytes. -/
import Derived.Test.YtbcdacfmhjgfiaaMem
import Derived.Test.YtbcdacfmhjgfiaaTxt
namespace Go.Proofs.Ytbcdacfmhjgfiaa
open Go.ChangeShapes Go.WideShapes Go.ChangeAt Go.RowKit

structure Evo where
  k : Nat
  s : ByteArray
  t : Int
  v : Int
namespace Ev
def right (o : Evo) : Int :=
  if o.k ≠ 1 ∧ o.k ≠ 2 then 80
  else if (o.k = 1 ∧ (o.s.size < 1 ∨ 32 < o.s.size)) ∨ (o.k = 2 ∧ (o.s.size ≠ 0 ∨ o.v ≠ 0)) then 60
  else if o.t < -1099511627776 ∨ 1099511627776 < o.t then 61 else 0
def u64 (x : Int) : Nat := (x % 18446744073709551616).toNat
theorem u64_is (x : Int) : x % 18446744073709551616 = (u64 x : Int) := by unfold u64; omega
theorem u64_lt (x : Int) : u64 x < 18446744073709551616 := by unfold u64; omega
def enc (o : Evo) : List Nat := if o.k = 1 then 1 :: (Pk.tx (nums o.s) ++ (Pk.be 8 (u64 o.t) ++ Pk.be 8 (u64 o.v))) else o.k :: Pk.be 8 (u64 o.t)
def none' : Evo := ⟨0, ⟨#[]⟩, 0, 0⟩
/-- What an operation's cells are. -/
def cl (o : Evo) : List Value := [.int .u8 (o.k : Int), .string o.s, .int .i64 o.t, .int .i64 o.v]
theorem right_tag {o : Evo} (h1 : o.k ≠ 1) (h2 : o.k ≠ 2) : right o = 80 := if_pos ⟨h1, h2⟩
theorem right_one {o : Evo} (h1 : o.k = 1) : right o = if o.s.size < 1 ∨ 32 < o.s.size then 60 else if o.t < -1099511627776 ∨ 1099511627776 < o.t then 61 else 0 := by
  unfold right
  rw [if_neg (by simp [h1])]
  by_cases h : o.s.size < 1 ∨ 32 < o.s.size
  · rw [if_pos (.inl ⟨h1, h⟩), if_pos h]
  · rw [if_neg (fun c => c.elim (fun c => h c.2) (fun c => by have := c.1; omega)), if_neg h]
theorem right_two {o : Evo} (h1 : o.k = 2) : right o = if o.s.size ≠ 0 ∨ o.v ≠ 0 then 60 else if o.t < -1099511627776 ∨ 1099511627776 < o.t then 61 else 0 := by
  unfold right
  rw [if_neg (by simp [h1])]
  by_cases h : o.s.size ≠ 0 ∨ o.v ≠ 0
  · rw [if_pos (.inr ⟨h1, h⟩), if_pos h]
  · rw [if_neg (fun c => c.elim (fun c => by have := c.1; omega) (fun c => h c.2)), if_neg h]
theorem size_zero {s : ByteArray} (h : s.size = 0) : s = ⟨#[]⟩ := by
  apply ByteArray.ext
  exact Array.eq_empty_of_size_eq_zero h
theorem empty_ne {s : ByteArray} (h : s.size ≠ 0) : (s.toList == (⟨#[]⟩ : ByteArray).toList) = false := text_ne (by
  intro e
  apply h
  rw [nums_inj e]
  rfl)
theorem empty_no {s : ByteArray} (h : s.size ≠ 0) : ¬ s.toList = [] := by
  intro e
  have := empty_ne h
  rw [beq_eq_false_iff_ne] at this
  exact this (by rw [e, ByteArray.toList_eq])
end Ev
end Go.Proofs.Ytbcdacfmhjgfiaa
