/- Layer 7's plain mathematics: what stands in bytes that others lie ahead of, or behind. -/
import Derived.Test.YtnokbnobnhkmgaaFrL
namespace Go.Proofs.Ytnokbnobnhkmgaa
open Go.ChangeShapes Go.WideShapes Go.ChangeAt Go.RowKit
namespace Fr
theorem drop_add (p r : List Nat) (a : Nat) : (p ++ r).drop (p.length + a) = r.drop a := by
  rw [List.drop_append, List.drop_of_length_le (by omega), List.nil_append]
  congr 1
  omega
theorem tkA_shift (p r : List Nat) (a : Nat) : tkA (p ++ r) (p.length + a) = ((tkA r a).1, p.length + (tkA r a).2.1, (tkA r a).2.2) := by
  unfold tkA tkN
  rw [drop_add, List.length_append]
  generalize Pk.num ((r.drop a).take 4) = m
  by_cases h : r.length < a + 4
  · rw [if_pos h, if_pos (by omega)]
  · rw [if_neg h, if_neg (by omega)]
    by_cases h1 : 8192 < m
    · rw [if_pos h1, if_pos h1]
    · rw [if_neg h1, if_neg h1]
      by_cases h2 : r.length < a + 8 + m
      · rw [if_pos h2, if_pos (by omega)]
      · rw [if_neg h2, if_neg (by omega)]
        split
        · dsimp only; congr 2; omega
        · dsimp only; congr 2; omega
theorem all_shift (p r : List Nat) : ∀ f a, all f (p ++ r) (p.length + a) = ((all f r a).1, p.length + (all f r a).2) := by
  intro f
  induction f with
  | zero => intro a; rfl
  | succ f ih =>
    intro a
    unfold all
    rw [tkA_shift]
    dsimp only
    by_cases h1 : (tkA r a).2.2 = 70
    · rw [if_pos h1, if_pos h1]
    · rw [if_neg h1, if_neg h1]
      by_cases h2 : (tkA r a).2.2 = 71
      · rw [if_pos h2, if_pos h2]
      · rw [if_neg h2, if_neg h2, ih]
theorem from_shift (p r : List Nat) (a : Nat) : from_ (p ++ r) (p.length + a) = ((from_ r a).1, p.length + (from_ r a).2) := by
  unfold from_
  rw [List.length_append, show p.length + r.length + 1 - (p.length + a) = r.length + 1 - a by omega]
  exact all_shift p r _ a
theorem tkA_more (b c : List Nat) (a : Nat) (h : (tkA b a).2.2 ≠ 70) : tkA (b ++ c) a = tkA b a := by
  unfold tkA at h ⊢
  by_cases h0 : b.length < a + 4
  · rw [if_pos h0] at h; exact absurd rfl h
  · rw [if_neg h0] at h ⊢
    rw [if_neg (by rw [List.length_append]; omega)]
    have hd : (b ++ c).drop a = b.drop a ++ c := List.drop_append_of_le_length (by omega)
    have hl : (b.drop a).length = b.length - a := List.length_drop
    have h4 : ((b ++ c).drop a).take 4 = (b.drop a).take 4 := by rw [hd, List.take_append_of_le_length (by omega)]
    unfold tkN at h ⊢
    rw [h4]
    generalize hm : Pk.num ((b.drop a).take 4) = m at h ⊢
    by_cases h1 : 8192 < m
    · rw [if_pos h1, if_pos h1]
    · rw [if_neg h1] at h ⊢
      rw [if_neg h1]
      by_cases h2 : b.length < a + 8 + m
      · rw [if_pos h2] at h; exact absurd rfl h
      · rw [if_neg h2, if_neg (by rw [List.length_append]; omega)]
        have h5 : (((b ++ c).drop a).drop 4).take m = ((b.drop a).drop 4).take m := by
          rw [hd, List.drop_append_of_le_length (by omega), List.take_append_of_le_length (by rw [List.length_drop]; omega)]
        have h6 : ((b ++ c).drop a).take (8 + m) = (b.drop a).take (8 + m) := by
          rw [hd, List.take_append_of_le_length (by omega)]
        rw [h5, h6]
/-- Behind what is too long nothing is told. -/
def dead (L : List (List Nat × Int)) : Bool := L.any (fun x => x.2 == 71)
theorem dead_cons (x : List Nat × Int) (L : List (List Nat × Int)) : dead (x :: L) = ((x.2 == 71) || dead L) := rfl
theorem dead_append (L M : List (List Nat × Int)) : dead (L ++ M) = (dead L || dead M) := by unfold dead; rw [List.any_append]
theorem tkA_err (b : List Nat) (a : Nat) (h : (tkA b a).2.2 ≠ 70) (h2 : (tkA b a).2.2 ≠ 71) : (tkA b a).2.2 = 0 ∨ (tkA b a).2.2 = 72 := by
  rcases tkA_cases b a with h1 | h1 | ⟨h1, _⟩
  · rw [h1] at h; exact absurd rfl h
  · rw [h1] at h2; exact absurd rfl h2
  · rcases h1 with h1 | h1
    · exact .inr h1.1
    · exact .inl h1
/-- More bytes: what was told stays; what is kept is told with them. -/
theorem from_append (b c : List Nat) : ∀ n a, b.length + 1 - a ≤ n → a ≤ b.length →
    (a ≤ (from_ b a).2 ∧ (from_ b a).2 ≤ b.length) ∧ from_ (b ++ c) a = (if dead (from_ b a).1 = true then from_ b a else ((from_ b a).1 ++ (from_ (b ++ c) (from_ b a).2).1, (from_ (b ++ c) (from_ b a).2).2)) := by
  intro n
  induction n with
  | zero => intro a h h2; omega
  | succ n ih =>
    intro a h h2
    by_cases h70 : (tkA b a).2.2 = 70
    · rw [from_more h70]
      exact ⟨⟨Nat.le_refl _, h2⟩, by simp [dead]⟩
    · have hm := tkA_more b c a h70
      by_cases h71 : (tkA b a).2.2 = 71
      · rw [from_long h71, from_long (by rw [hm]; exact h71)]
        exact ⟨⟨Nat.le_refl _, h2⟩, by simp [dead]⟩
      · rcases tkA_cases b a with h1 | h1 | ⟨_, h3, h4, _⟩
        · rw [h1] at h70; exact absurd rfl h70
        · rw [h1] at h71; exact absurd rfl h71
        · have ih' := ih (tkA b a).2.1 (by omega) h4
          have e1 := from_step (b := b) (a := a) h70 h71
          have e2 := from_step (b := b ++ c) (a := a) (by rw [hm]; exact h70) (by rw [hm]; exact h71)
          rw [hm] at e2
          rw [e1, e2, ih'.2]
          dsimp only
          have e : ((tkA b a).2.2 == 71) = false := by rw [beq_eq_false_iff_ne]; exact h71
          refine ⟨⟨by have := ih'.1.1; omega, ih'.1.2⟩, ?_⟩
          rw [dead_cons, e, Bool.false_or]
          split <;> rfl
/-- What a stream keeps of bytes: what is not told; nothing, if it is dead. -/
def kept (b : List Nat) : List Nat := if dead (from_ b 0).1 = true then [] else b.drop (from_ b 0).2
theorem from_feed (b c : List Nat) (hd : dead (from_ b 0).1 = false) : from_ (b ++ c) 0 = ((from_ b 0).1 ++ (from_ (kept b ++ c) 0).1, (from_ b 0).2 + (from_ (kept b ++ c) 0).2) := by
  have h := from_append b c (b.length + 1) 0 (by omega) (by omega)
  rw [hd, if_neg (by decide)] at h
  rw [h.2]
  unfold kept
  rw [hd, if_neg (by decide)]
  have hs := from_shift (b.take (from_ b 0).2) (b.drop (from_ b 0).2 ++ c) 0
  rw [← List.append_assoc, List.take_append_drop, List.length_take, Nat.min_eq_left h.1.2, Nat.add_zero] at hs
  rw [hs]
theorem from_dead (b c : List Nat) (hd : dead (from_ b 0).1 = true) : from_ (b ++ c) 0 = from_ b 0 := by
  have h := from_append b c (b.length + 1) 0 (by omega) (by omega)
  rw [hd, if_pos rfl] at h
  exact h.2
end Fr
end Go.Proofs.Ytnokbnobnhkmgaa
