/- Layer 8's plain words: a list that is taken until a reader fails (the reference) against one that is taken whole (the program): what is left is the same, and if nothing failed the lists are. -/
import Derived.Test.YtognlgklepgemaaGreatM8T
namespace Go.Proofs.YtognlgklepgemaaGreat
open Go.ChangeShapes Go.WideShapes Go.ChangeAt Go.RowKit

namespace Rp
def rList {α : Type} (f : St → α × St) : Nat → St → List α × St
  | 0, s => ([], s)
  | n + 1, s => if s.2 = true then ([], s) else ((f s).1 :: (rList f n (f s).2).1, (rList f n (f s).2).2)
theorem nx_dead (l : List Nat) (k : Nat) : nx (l, true) k = (l, true) := by
  have h : Pk.fails true l k = true := Pk.fails_yes (.inl rfl)
  unfold nx
  dsimp only
  rw [h, Pk.left_yes h]
theorem tx_dead (l : List Nat) : tx (l, true) = (l, true) := by
  have h1 : Pk.fails true l 2 = true := Pk.fails_yes (.inl rfl)
  have h : Pk.tfails true l = true := by
    unfold Pk.tfails
    rw [h1]
    exact Pk.fails_yes (.inl rfl)
  unfold tx
  dsimp only
  rw [h, Pk.tleft_yes h]
theorem tPane_dead (l : List Nat) : (tPane (l, true)).2 = (l, true) := by
  unfold tPane
  dsimp only
  rw [tx_dead, nx_dead, nx_dead]
theorem tRow_dead (l : List Nat) : (tRow (l, true)).2 = (l, true) := by
  unfold tRow tAgg
  dsimp only
  rw [tPane_dead, nx_dead, nx_dead, nx_dead, nx_dead]
section
variable {α : Type} {f : St → α × St}
theorem tList_dead (hf : ∀ l, (f (l, true)).2 = (l, true)) (n : Nat) (l : List Nat) : (tList f n (l, true)).2 = (l, true) := by
  induction n with
  | zero => rfl
  | succ n ih =>
    show (tList f n (f (l, true)).2).2 = _
    rw [hf]
    exact ih
theorem rList_state (hf : ∀ l, (f (l, true)).2 = (l, true)) (n : Nat) (s : St) : (rList f n s).2 = (tList f n s).2 := by
  induction n generalizing s with
  | zero => rfl
  | succ n ih =>
    unfold rList
    split
    · rename_i h
      obtain ⟨l, d⟩ := s
      dsimp only at h
      subst h
      exact (tList_dead hf (n + 1) l).symm
    · exact ih _
theorem rList_same (hf : ∀ l, (f (l, true)).2 = (l, true)) (n : Nat) (s : St) (h : (tList f n s).2.2 = false) : rList f n s = tList f n s := by
  induction n generalizing s with
  | zero => rfl
  | succ n ih =>
    have h' : (tList f n (f s).2).2.2 = false := h
    unfold rList
    split
    · rename_i hs
      obtain ⟨l, d⟩ := s
      dsimp only at hs
      subst hs
      rw [tList_dead hf (n + 1) l] at h
      cases h
    · rw [ih _ h']
      rfl
theorem rList_snoc (n : Nat) (s : St) (h : (rList f n s).2.2 = false) : rList f (n + 1) s = ((rList f n s).1 ++ [(f (rList f n s).2).1], (f (rList f n s).2).2) := by
  induction n generalizing s with
  | zero =>
    have h' : s.2 = false := h
    unfold rList
    rw [if_neg (by rw [h']; decide)]
    rfl
  | succ n ih =>
    by_cases hs : s.2 = true
    · have : rList f (n + 1) s = ([], s) := if_pos hs
      rw [this] at h
      rw [hs] at h
      exact absurd h (by decide)
    · have e : rList f (n + 1) s = ((f s).1 :: (rList f n (f s).2).1, (rList f n (f s).2).2) := if_neg hs
      have e2 : rList f (n + 1 + 1) s = ((f s).1 :: (rList f (n + 1) (f s).2).1, (rList f (n + 1) (f s).2).2) := if_neg hs
      rw [e] at h
      rw [e2, e, ih _ h]
      rfl
theorem rList_stop (n m : Nat) (s : St) (h : (rList f n s).2.2 = true) : rList f (n + m) s = rList f n s := by
  induction n generalizing s with
  | zero =>
    have h' : s.2 = true := h
    cases m with
    | zero => rfl
    | succ m =>
      rw [Nat.zero_add]
      exact if_pos h'
  | succ n ih =>
    rw [Nat.succ_add]
    by_cases hs : s.2 = true
    · have e1 : rList f (n + 1) s = ([], s) := if_pos hs
      have e2 : rList f (n + m + 1) s = ([], s) := if_pos hs
      rw [Nat.succ_eq_add_one, e1, e2]
    · have e : rList f (n + 1) s = ((f s).1 :: (rList f n (f s).2).1, (rList f n (f s).2).2) := if_neg hs
      have e2 : rList f (n + m + 1) s = ((f s).1 :: (rList f (n + m) (f s).2).1, (rList f (n + m) (f s).2).2) := if_neg hs
      rw [e] at h
      rw [Nat.succ_eq_add_one, e2, e, ih _ h]
theorem rList_len (n : Nat) (s : St) : (rList f n s).1.length ≤ n := by
  induction n generalizing s with
  | zero => exact Nat.le_refl _
  | succ n ih =>
    unfold rList
    split
    · exact Nat.zero_le _
    · show ((f s).1 :: (rList f n (f s).2).1).length ≤ n + 1
      rw [List.length_cons]
      exact Nat.succ_le_succ (ih _)
end
end Rp
end Go.Proofs.YtognlgklepgemaaGreat
