/- Layer 7's plain mathematics: what stands at a place. -/
import Derived.Test.YtnokbnobnhkmgaaFr
namespace Go.Proofs.Ytnokbnobnhkmgaa
open Go.ChangeShapes Go.WideShapes Go.ChangeAt Go.RowKit
namespace Fr
/-- What stands at place a: the body, the place behind, the error. -/
def tkN (b : List Nat) (a : Nat) : List Nat × Nat × Int :=
  if 8192 < Pk.num ((b.drop a).take 4) then ([], a, 71)
  else if b.length < a + 8 + Pk.num ((b.drop a).take 4) then ([], a, 70)
  else if (b.drop a).take (8 + Pk.num ((b.drop a).take 4)) = enc (((b.drop a).drop 4).take (Pk.num ((b.drop a).take 4))) then (((b.drop a).drop 4).take (Pk.num ((b.drop a).take 4)), a + 8 + Pk.num ((b.drop a).take 4), 0)
  else ([], a + 8 + Pk.num ((b.drop a).take 4), 72)
def tk (b : List Nat) (at_ : Int) : List Nat × Int × Int :=
  if at_ < 0 ∨ (b.length : Int) < at_ + 4 then ([], at_, 70) else ((tkN b at_.toNat).1, ((tkN b at_.toNat).2.1 : Int), (tkN b at_.toNat).2.2)
theorem tk_more {b : List Nat} {at_ : Int} (h : at_ < 0 ∨ (b.length : Int) < at_ + 4) : tk b at_ = ([], at_, 70) := by unfold tk; rw [if_pos h]
theorem tk_at {b : List Nat} {a : Nat} (h : a + 4 ≤ b.length) {body : List Nat} {nx : Nat} {e : Int} (hk : tkN b a = (body, nx, e)) : tk b (a : Int) = (body, (nx : Int), e) := by
  unfold tk
  rw [if_neg (by omega), show ((a : Int)).toNat = a from rfl, hk]
theorem num_4 {l : List Nat} (h : ∀ x ∈ l, x < 256) : Pk.num (l.take 4) < 4294967296 := by
  have := Pk.num_lt (l.take 4) (fun x hx => h x (List.mem_of_mem_take hx))
  have h2 : (l.take 4).length ≤ 4 := by rw [List.length_take]; omega
  have h3 : 256 ^ (l.take 4).length ≤ 256 ^ 4 := Nat.pow_le_pow_right (by decide) h2
  omega
theorem num_step' (l : List Nat) (j : Nat) (h : j < l.length) : Pk.num (l.take (j + 1)) = Pk.num (l.take j) * 256 + l.getD j 0 := by
  rw [take_snoc l j h, Pk.num_snoc]
theorem num_lt' {l : List Nat} (h : ∀ x ∈ l, x < 256) (j : Nat) (hj : j ≤ 4) : Pk.num (l.take j) < 4294967296 := by
  have := Pk.num_lt (l.take j) (fun x hx => h x (List.mem_of_mem_take hx))
  have h2 : (l.take j).length ≤ 4 := by rw [List.length_take]; omega
  have h3 : 256 ^ (l.take j).length ≤ 256 ^ 4 := Nat.pow_le_pow_right (by decide) h2
  omega
end Fr
end Go.Proofs.Ytnokbnobnhkmgaa
