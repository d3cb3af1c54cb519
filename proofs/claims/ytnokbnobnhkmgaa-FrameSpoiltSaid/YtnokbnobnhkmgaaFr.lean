/- Layer 7's plain mathematics: bodies as frames. -/
import Derived.Test.YtnokbnobnhkmgaaCkR
import Derived.Test.YtnokbnobnhkmgaaSpoil
import Derived.Test.YtnokbnobnhkmgaaPk
namespace Go.Proofs.Ytnokbnobnhkmgaa
open Go.ChangeShapes Go.WideShapes Go.ChangeAt Go.RowKit
namespace Fr
def enc (l : List Nat) : List Nat := be4 l.length ++ l ++ be4 (Crc.sum [l])
def bytes (l : List Nat) : List Nat := if 8192 < l.length then [] else enc l
def err (l : List Nat) : Int := if 8192 < l.length then 71 else 0
def allE : List (List Nat) → Int
  | [] => 0
  | l :: ls => if err l = 0 then allE ls else err l
def flat (ls : List (List Nat)) : List Nat := ls.flatMap enc
def allB (ls : List (List Nat)) : List Nat := if allE ls = 0 then flat ls else []
theorem enc_len (l : List Nat) : (enc l).length = l.length + 8 := by simp [enc, be4]
theorem err_zero {l : List Nat} : err l = 0 ↔ l.length ≤ 8192 := by unfold err; split <;> simp <;> omega
theorem err_is {l : List Nat} (h : err l ≠ 0) : err l = 71 := by unfold err at h ⊢; split <;> simp_all
theorem bytes_yes {l : List Nat} (h : err l = 0) : bytes l = enc l := by unfold bytes; rw [if_neg (by have := err_zero.1 h; omega)]
theorem bytes_no {l : List Nat} (h : err l ≠ 0) : bytes l = [] := by
  unfold bytes
  rw [if_pos (by rcases Nat.lt_or_ge 8192 l.length with h1 | h1; exact h1; exact absurd (err_zero.2 h1) h)]
theorem allE_zero (ls : List (List Nat)) : allE ls = 0 ↔ ∀ l ∈ ls, err l = 0 := by
  induction ls with
  | nil => simp [allE]
  | cons l ls ih =>
    unfold allE
    by_cases h : err l = 0
    · rw [if_pos h, ih]; simp [h]
    · rw [if_neg h]; simp [h]
theorem allE_first {ls : List (List Nat)} {j : Nat} (hj : j < ls.length) (h : ∀ l ∈ ls.take j, err l = 0) (h2 : err (ls.getD j []) ≠ 0) : allE ls = err (ls.getD j []) := by
  induction ls generalizing j with
  | nil => simp at hj
  | cons l ls ih =>
    cases j with
    | zero => simp only [List.getD_cons_zero] at h2 ⊢; unfold allE; rw [if_neg h2]
    | succ j =>
      simp only [List.getD_cons_succ] at h2 ⊢
      unfold allE
      rw [if_pos (h l (by simp)), ih (by simpa using hj) (fun x hx => h x (by simp [hx])) h2]
theorem flat_snoc (ls : List (List Nat)) (l : List Nat) : flat (ls ++ [l]) = flat ls ++ enc l := by simp [flat]
theorem flat_len {ls : List (List Nat)} (h : ∀ l ∈ ls, err l = 0) : (flat ls).length ≤ ls.length * 8200 := by
  induction ls with
  | nil => simp [flat]
  | cons l ls ih =>
    have h1 := err_zero.1 (h l (by simp))
    have h2 := ih fun x hx => h x (by simp [hx])
    have e : flat (l :: ls) = enc l ++ flat ls := by simp [flat]
    rw [e, List.length_append, List.length_cons, enc_len]
    omega
end Fr
end Go.Proofs.Ytnokbnobnhkmgaa
