/- Layer 8's plain words: a reply whose rows and panes lie elsewhere is as right. -/
import Derived.Test.YtognlgklepgemaaRpI
namespace Go.Proofs.Ytognlgklepgemaa
open Go.ChangeShapes Go.WideShapes Go.ChangeAt Go.RowKit

theorem Rp.blank_at (x : Rp.V) (c : Nat) (A : Option Addr) (a : Nat) (G : Option Addr) (d : Nat) : ∃ A' a' G' d', (x.at_ A a G d).blank c = (x.blank c).at_ A' a' G' d' := by
  by_cases h0 : c = 101
  · subst h0; exact ⟨_, _, _, _, rfl⟩
  by_cases h1 : c = 102
  · subst h1; exact ⟨_, _, _, _, rfl⟩
  by_cases h2 : c = 117
  · subst h2; exact ⟨_, _, _, _, rfl⟩
  by_cases h3 : c = 76
  · subst h3; exact ⟨_, _, _, _, rfl⟩
  by_cases h4 : c = 115
  · subst h4; exact ⟨_, _, _, _, rfl⟩
  by_cases h5 : c = 116
  · subst h5; exact ⟨_, _, _, _, rfl⟩
  by_cases h6 : c = 99
  · subst h6; exact ⟨_, _, _, _, rfl⟩
  by_cases h7 : c = 108
  · subst h7; exact ⟨_, _, _, _, rfl⟩
  by_cases h8 : c = 114
  · subst h8; exact ⟨none, 0, _, _, rfl⟩
  · refine ⟨A, a, none, 0, ?_⟩
    unfold Rp.V.blank
    simp only [if_neg h0, if_neg h1, if_neg h2, if_neg h3, if_neg h4, if_neg h5, if_neg h6, if_neg h7, if_neg h8]
    rfl
theorem Rp.blanks_at (l : List Nat) (x : Rp.V) (A : Option Addr) (a : Nat) (G : Option Addr) (d : Nat) : ∃ A' a' G' d', l.foldl Rp.V.blank (x.at_ A a G d) = (l.foldl Rp.V.blank x).at_ A' a' G' d' := by
  induction l generalizing x A a G d with
  | nil => exact ⟨_, _, _, _, rfl⟩
  | cons c l ih =>
    obtain ⟨A', a', G', d', e⟩ := Rp.blank_at x c A a G d
    rw [List.foldl_cons, List.foldl_cons, e]
    exact ih _ _ _ _ _
theorem Rp.right_at (x : Rp.V) (rows : List Rw) (gone : List Pn) (A : Option Addr) (a : Nat) (G : Option Addr) (d : Nat) : (x.at_ A a G d).right rows gone = x.right rows gone := by
  obtain ⟨A', a', G', d', e⟩ := Rp.blanks_at (Rp.parts x.k) x A a G d
  unfold Rp.V.right
  have h1 : (x.at_ A a G d).kind = x.kind := rfl
  have h2 : (Rp.parts (x.at_ A a G d).k).foldl Rp.V.blank (x.at_ A a G d) = ((Rp.parts x.k).foldl Rp.V.blank x).at_ A' a' G' d' := e
  rw [h1, h2]
  rfl
end Go.Proofs.Ytognlgklepgemaa
