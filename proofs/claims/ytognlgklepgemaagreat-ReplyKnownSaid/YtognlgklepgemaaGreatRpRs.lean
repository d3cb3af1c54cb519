/- Layer 8's plain words: a reply, taken as the reference takes it (lists until a failure), against the program's: what is left is the same, and where nothing failed all is. -/
import Derived.Test.YtognlgklepgemaaGreatRpRl
import Derived.Test.YtognlgklepgemaaGreatM8T
namespace Go.Proofs.YtognlgklepgemaaGreat
open Go.ChangeShapes Go.WideShapes Go.ChangeAt Go.RowKit

namespace Rp
def Sg.rstep (σ : Sg) (p : Nat) : Sg :=
  if p = 0 then { σ with x := { σ.x with code := vl σ.s 2 }, s := nx σ.s 2 }
  else if p = 1 then { σ with x := { σ.x with last := decide (vl σ.s 1 = 1) }, s := nx σ.s 1, odd := σ.odd || decide (1 < vl σ.s 1) }
  else if p = 8 then { σ with x := { σ.x with n := (rList tRow (vl σ.s 1) (nx σ.s 1)).1.length }, rows := (rList tRow (vl σ.s 1) (nx σ.s 1)).1, s := (rList tRow (vl σ.s 1) (nx σ.s 1)).2 }
  else if p = 9 then { σ with x := { σ.x with m := (rList tPane (vl σ.s 1) (nx σ.s 1)).1.length }, gone := (rList tPane (vl σ.s 1) (nx σ.s 1)).1, s := (rList tPane (vl σ.s 1) (nx σ.s 1)).2 }
  else { σ with x := σ.x.num p (vl σ.s 8), s := nx σ.s 8 }
def rfin (b : List Nat) : Sg := (pparts (s0 b).x.k).foldl Sg.rstep (s0 b)
theorem nx_dead' {s : St} (h : s.2 = true) (k : Nat) : (nx s k).2 = true := by
  obtain ⟨l, d⟩ := s
  dsimp only at h
  subst h
  rw [nx_dead]
theorem tList_dead' {α : Type} {f : St → α × St} (hf : ∀ l, (f (l, true)).2 = (l, true)) (n : Nat) {s : St} (h : s.2 = true) : (tList f n s).2.2 = true := by
  obtain ⟨l, d⟩ := s
  dsimp only at h
  subst h
  rw [tList_dead hf]
theorem Sg.step_dead {σ : Sg} (h : σ.s.2 = true) (p : Nat) : (σ.step p).s.2 = true := by
  unfold Sg.step
  repeat' split
  · exact nx_dead' h 2
  · exact nx_dead' h 1
  · exact tList_dead' tRow_dead _ (nx_dead' h 1)
  · exact tList_dead' tPane_dead _ (nx_dead' h 1)
  · exact nx_dead' h 8
theorem Sg.steps_dead (l : List Nat) {σ : Sg} (h : σ.s.2 = true) : (l.foldl Sg.step σ).s.2 = true := by
  induction l generalizing σ with
  | nil => exact h
  | cons p l ih => exact ih (Sg.step_dead h p)
theorem Sg.rstep_s {σ τ : Sg} (h : σ.s = τ.s) (p : Nat) : (σ.rstep p).s = (τ.step p).s := by
  unfold Sg.rstep Sg.step
  rw [h]
  repeat' split
  · rfl
  · rfl
  · exact rList_state tRow_dead _ _
  · exact rList_state tPane_dead _ _
  · rfl
theorem Sg.rsteps_s (l : List Nat) {σ τ : Sg} (h : σ.s = τ.s) : (l.foldl Sg.rstep σ).s = (l.foldl Sg.step τ).s := by
  induction l generalizing σ τ with
  | nil => exact h
  | cons p l ih => exact ih (Sg.rstep_s h p)
theorem Sg.rstep_same {σ : Sg} (p : Nat) (h : (σ.step p).s.2 = false) : σ.rstep p = σ.step p := by
  unfold Sg.step at h
  unfold Sg.rstep Sg.step
  by_cases h0 : p = 0
  · rw [if_pos h0, if_pos h0]
  rw [if_neg h0] at h
  rw [if_neg h0, if_neg h0]
  by_cases h1 : p = 1
  · rw [if_pos h1, if_pos h1]
  rw [if_neg h1] at h
  rw [if_neg h1, if_neg h1]
  by_cases h8 : p = 8
  · rw [if_pos h8] at h
    rw [if_pos h8, if_pos h8, rList_same tRow_dead _ _ h, tList_len]
  rw [if_neg h8] at h
  rw [if_neg h8, if_neg h8]
  by_cases h9 : p = 9
  · rw [if_pos h9] at h
    rw [if_pos h9, if_pos h9, rList_same tPane_dead _ _ h, tList_len]
  rw [if_neg h9, if_neg h9]
theorem Sg.rsteps_same (l : List Nat) {σ : Sg} (h : (l.foldl Sg.step σ).s.2 = false) : l.foldl Sg.rstep σ = l.foldl Sg.step σ := by
  induction l generalizing σ with
  | nil => rfl
  | cons p l ih =>
    have h1 : (σ.step p).s.2 = false := by
      cases hd : (σ.step p).s.2 with
      | false => rfl
      | true =>
        have h2 : (l.foldl Sg.step (σ.step p)).s.2 = true := Sg.steps_dead l hd
        have h3 : (l.foldl Sg.step (σ.step p)).s.2 = false := h
        rw [h2] at h3
        cases h3
    rw [List.foldl_cons, List.foldl_cons, Sg.rstep_same p h1]
    exact ih h
/-- What is left is the same. -/
theorem rfin_s (b : List Nat) : (rfin b).s = (fin b).s := Sg.rsteps_s _ rfl
theorem rfin_done (b : List Nat) : (rfin b).done = (fin b).done := by
  unfold Sg.done
  rw [rfin_s]
/-- Where nothing is wrong with the bytes' number, all is the same. -/
theorem rfin_same (b : List Nat) (h : (fin b).done = 0) : rfin b = fin b := by
  refine Sg.rsteps_same _ ?_
  cases hd : ((pparts (s0 b).x.k).foldl Sg.step (s0 b)).s.2 with
  | false => rfl
  | true =>
    have h1 : doneOf (fin b).s.2 (fin b).s.1.length = 0 := h
    have h2 : (fin b).s.2 = true := hd
    rw [h2] at h1
    exact absurd h1 (by unfold doneOf; rw [if_pos rfl]; decide)
end Rp
end Go.Proofs.YtognlgklepgemaaGreat
