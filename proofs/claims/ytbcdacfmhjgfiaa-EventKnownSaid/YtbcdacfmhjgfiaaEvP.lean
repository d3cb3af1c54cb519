/- Layer 6's plain mathematics: bytes parsed, as one operation, and as many. -/
import Derived.Test.YtbcdacfmhjgfiaaEvN
namespace Go.Proofs.Ytbcdacfmhjgfiaa
open Go.ChangeShapes Go.WideShapes Go.ChangeAt Go.RowKit
namespace Ev
def ps (l : List Nat) : Int × Evo :=
  if (nx l).1 ≠ 0 then ((nx l).1, none')
  else if (nx l).2.2 < l.length then (21, none')
  else if right (nx l).2.1 ≠ 0 then (right (nx l).2.1, none') else (0, (nx l).2.1)
/-- The error of the operation ahead: of its bytes, or of itself. -/
def er (l : List Nat) : Int := if (nx l).1 = 0 then right (nx l).2.1 else (nx l).1
def go : Nat → List Nat → Int × List Evo
  | 0, _ => (0, [])
  | f + 1, l => if l = [] then (0, []) else if er l ≠ 0 then (er l, []) else
    (if (go f (l.drop (nx l).2.2)).1 ≠ 0 then ((go f (l.drop (nx l).2.2)).1, []) else (0, (nx l).2.1 :: (go f (l.drop (nx l).2.2)).2))
def psAll (l : List Nat) : Int × List Evo := go l.length l
theorem nx_used {l : List Nat} (h : (nx l).1 = 0) : 9 ≤ (nx l).2.2 ∧ (nx l).2.2 ≤ l.length := by
  cases l with
  | nil => simp [nx] at h
  | cons k r =>
    unfold nx at h ⊢
    dsimp only at h ⊢
    by_cases h1 : k = 1
    · rw [if_pos h1] at h ⊢
      rcases hf : Pk.tfails false r with _ | _
      · rw [hf, if_neg (by decide)] at h
        rw [if_neg (by decide)]
        by_cases h2 : (Pk.tleft false r).length < 16
        · rw [if_pos h2] at h; cases h
        · rw [if_neg h2]
          rw [Pk.tleft_no hf, List.length_drop] at h2
          dsimp only
          have := (Pk.tfails_iff.1 hf)
          have h3 := (Pk.fails_iff.1 this.1).2
          simp
          omega
      · rw [hf, if_pos rfl] at h; cases h
    · rw [if_neg h1] at h ⊢
      by_cases h2 : k = 2
      · rw [if_pos h2] at h ⊢
        by_cases h3 : r.length < 8
        · rw [if_pos h3] at h; cases h
        · rw [if_neg h3]; simp; omega
      · rw [if_neg h2] at h; cases h
theorem er_zero {l : List Nat} (h : er l = 0) : (nx l).1 = 0 ∧ right (nx l).2.1 = 0 := by
  unfold er at h
  by_cases h1 : (nx l).1 = 0
  · rw [if_pos h1] at h; exact ⟨h1, h⟩
  · rw [if_neg h1] at h; exact absurd h h1
theorem go_more (f : Nat) : ∀ (l : List Nat) (g : Nat), l.length ≤ f → f ≤ g → go g l = go f l := by
  induction f with
  | zero =>
    intro l g hl _
    have : l = [] := List.eq_nil_of_length_eq_zero (by omega)
    subst this
    cases g <;> simp [go]
  | succ f ih =>
    intro l g hl hg
    cases g with
    | zero => omega
    | succ g =>
      unfold go
      by_cases h0 : l = []
      · rw [if_pos h0, if_pos h0]
      · rw [if_neg h0, if_neg h0]
        by_cases h1 : er l = 0
        · have hu := nx_used (er_zero h1).1
          have e := ih (l.drop (nx l).2.2) g (by rw [List.length_drop]; omega) (by omega)
          rw [e]
        · rw [if_pos h1, if_pos h1]
theorem psAll_nil : psAll [] = (0, []) := rfl
theorem psAll_err {l : List Nat} (h0 : l ≠ []) (h : er l ≠ 0) : psAll l = (er l, []) := by
  unfold psAll
  have hl : 0 < l.length := List.length_pos_iff.2 h0
  obtain ⟨f, hf⟩ : ∃ f, l.length = f + 1 := ⟨l.length - 1, by omega⟩
  rw [hf]
  unfold go
  rw [if_neg h0, if_pos h]
theorem psAll_step {l : List Nat} (h0 : l ≠ []) (h : er l = 0) : psAll l = if (psAll (l.drop (nx l).2.2)).1 ≠ 0 then ((psAll (l.drop (nx l).2.2)).1, []) else (0, (nx l).2.1 :: (psAll (l.drop (nx l).2.2)).2) := by
  have hu := nx_used (er_zero h).1
  obtain ⟨f, hf⟩ : ∃ f, l.length = f + 1 := ⟨l.length - 1, by omega⟩
  have e : psAll l = go (f + 1) l := by unfold psAll; rw [hf]
  have e2 : go f (l.drop (nx l).2.2) = psAll (l.drop (nx l).2.2) := by
    unfold psAll
    exact go_more _ _ _ (Nat.le_refl _) (by rw [List.length_drop]; omega)
  rw [e]
  conv => lhs; unfold go
  rw [if_neg h0, if_neg (by simp [h]), e2]
/-- What is parsed already, with what is parsed of the rest. -/
def with_ (X : List Evo) (q : Int × List Evo) : Int × List Evo := if q.1 ≠ 0 then (q.1, []) else (0, X ++ q.2)
theorem psAll_with {l : List Nat} (h0 : l ≠ []) (h : er l = 0) (X : List Evo) : with_ X (psAll l) = with_ (X ++ [(nx l).2.1]) (psAll (l.drop (nx l).2.2)) := by
  rw [psAll_step h0 h]
  unfold with_
  by_cases h1 : (psAll (l.drop (nx l).2.2)).1 = 0
  · simp [h1]
  · simp [h1]
theorem psAll_fst {l : List Nat} (h : (psAll l).1 ≠ 0) : psAll l = ((psAll l).1, []) := by
  by_cases h0 : l = []
  · subst h0; simp [psAll_nil] at h
  · by_cases h1 : er l = 0
    · rw [psAll_step h0 h1] at h ⊢
      by_cases h2 : (psAll (l.drop (nx l).2.2)).1 = 0
      · rw [if_neg (by simp [h2])] at h; simp at h
      · rw [if_pos h2]
    · rw [psAll_err h0 h1]
theorem with_nil (l : List Nat) : with_ [] (psAll l) = psAll l := by
  unfold with_
  by_cases h : (psAll l).1 = 0
  · rw [if_neg (by simp [h])]
    conv => rhs; rw [show psAll l = ((psAll l).1, (psAll l).2) from rfl, h]
    rfl
  · rw [if_pos h]
    exact (psAll_fst h).symm
end Ev
end Go.Proofs.Ytbcdacfmhjgfiaa
