/- Layer 7's plain mathematics: all that stands in bytes; rows of what was found, in memory. -/
import Derived.Test.YtnokbnobnhkmgaaFrT
namespace Go.Proofs.Ytnokbnobnhkmgaa
open Go.ChangeShapes Go.WideShapes Go.ChangeAt Go.RowKit
namespace Fr
/-- What stands at place a, which may be behind all. -/
def tkA (b : List Nat) (a : Nat) : List Nat × Nat × Int := if b.length < a + 4 then ([], a, 70) else tkN b a
theorem tk_nat (b : List Nat) (a : Nat) : tk b (a : Int) = ((tkA b a).1, ((tkA b a).2.1 : Int), (tkA b a).2.2) := by
  unfold tkA
  by_cases h : b.length < a + 4
  · rw [if_pos h, tk_more (.inr (by omega))]
  · rw [if_neg h]
    exact tk_at (by omega) rfl
def all : Nat → List Nat → Nat → List (List Nat × Int) × Nat
  | 0, _, a => ([], a)
  | f + 1, b, a => if (tkA b a).2.2 = 70 then ([], a) else if (tkA b a).2.2 = 71 then ([([], 71)], a) else (((tkA b a).1, (tkA b a).2.2) :: (all f b (tkA b a).2.1).1, (all f b (tkA b a).2.1).2)
/-- All that stands in b, from place a on. -/
def from_ (b : List Nat) (a : Nat) : List (List Nat × Int) × Nat := all (b.length + 1 - a) b a
theorem tkA_cases (b : List Nat) (a : Nat) : tkA b a = ([], a, 70) ∨ tkA b a = ([], a, 71) ∨ ((tkA b a).2.2 = 72 ∧ (tkA b a).1 = [] ∨ (tkA b a).2.2 = 0) ∧ a + 8 ≤ (tkA b a).2.1 ∧ (tkA b a).2.1 ≤ b.length ∧ (tkA b a).1.length ≤ 8192 := by
  unfold tkA
  by_cases h : b.length < a + 4
  · rw [if_pos h]; exact .inl rfl
  · rw [if_neg h]
    unfold tkN
    generalize Pk.num ((b.drop a).take 4) = m
    by_cases h1 : 8192 < m
    · rw [if_pos h1]; exact .inr (.inl rfl)
    · rw [if_neg h1]
      by_cases h2 : b.length < a + 8 + m
      · rw [if_pos h2]; exact .inl rfl
      · rw [if_neg h2]
        split
        · exact .inr (.inr ⟨.inr rfl, by dsimp only; omega, by dsimp only; omega, by dsimp only; rw [List.length_take]; omega⟩)
        · exact .inr (.inr ⟨.inl ⟨rfl, rfl⟩, by dsimp only; omega, by dsimp only; omega, by simp⟩)
theorem tkA_sub (b : List Nat) (a : Nat) : ∀ x ∈ (tkA b a).1, x ∈ b := by
  unfold tkA
  by_cases h : b.length < a + 4
  · rw [if_pos h]; simp
  · rw [if_neg h]
    unfold tkN
    generalize Pk.num ((b.drop a).take 4) = m
    split
    · simp
    · split
      · simp
      · split
        · exact fun x hx => List.mem_of_mem_drop (List.mem_of_mem_drop (List.mem_of_mem_take hx))
        · simp
theorem all_more (b : List Nat) : ∀ (f a g : Nat), b.length + 1 - a ≤ f → f ≤ g → all g b a = all f b a := by
  intro f
  induction f with
  | zero =>
    intro a g h hg
    cases g with
    | zero => rfl
    | succ g =>
      unfold all
      have : tkA b a = ([], a, 70) := by unfold tkA; rw [if_pos (by omega)]
      rw [this]; rfl
  | succ f ih =>
    intro a g h hg
    cases g with
    | zero => omega
    | succ g =>
      unfold all
      rcases tkA_cases b a with h1 | h1 | ⟨h1, h2, h3, _⟩
      · rw [h1]; rfl
      · rw [h1]; rfl
      · rw [ih (tkA b a).2.1 g (by omega) (by omega)]
theorem from_more {b : List Nat} {a : Nat} (h : (tkA b a).2.2 = 70) : from_ b a = ([], a) := by
  unfold from_
  cases hf : b.length + 1 - a with
  | zero => rfl
  | succ f => unfold all; rw [if_pos h]
theorem from_long {b : List Nat} {a : Nat} (h : (tkA b a).2.2 = 71) : from_ b a = ([([], 71)], a) := by
  have ha : a ≤ b.length := by
    unfold tkA at h
    by_cases h1 : b.length < a + 4
    · rw [if_pos h1] at h; cases h
    · omega
  unfold from_
  obtain ⟨f, hf⟩ : ∃ f, b.length + 1 - a = f + 1 := ⟨b.length - a, by omega⟩
  rw [hf]
  unfold all
  rw [if_neg (by rw [h]; decide), if_pos h]
theorem from_step {b : List Nat} {a : Nat} (h : (tkA b a).2.2 ≠ 70) (h2 : (tkA b a).2.2 ≠ 71) : from_ b a = (((tkA b a).1, (tkA b a).2.2) :: (from_ b (tkA b a).2.1).1, (from_ b (tkA b a).2.1).2) := by
  rcases tkA_cases b a with h1 | h1 | ⟨_, h3, h4, _⟩
  · rw [h1] at h; exact absurd rfl h
  · rw [h1] at h2; exact absurd rfl h2
  · unfold from_
    obtain ⟨f, hf⟩ : ∃ f, b.length + 1 - a = f + 1 := ⟨b.length - a, by omega⟩
    rw [hf]
    conv => lhs; unfold all
    rw [if_neg h, if_neg h2, all_more b (b.length + 1 - (tkA b a).2.1) (tkA b a).2.1 f (Nat.le_refl _) (by omega)]
end Fr
/-- A row of what was found, in cells V: bodies in memory of a call's own (from block B on), and errors. -/
def Founds (w : World) (B : Nat) (V : List Value) (L : List (List Nat × Int)) : Prop :=
  V.length = L.length * 2 ∧ ∀ i, i < L.length → ∃ a m c, V[i * 2]? = some (.slice a m c) ∧ V[i * 2 + 1]? = some (.int .i64 (L.getD i ([], 0)).2) ∧ m ≤ 1000000 ∧ w.ownsRow B 5 1 (.slice a m c) m (u8s (L.getD i ([], 0)).1)
theorem Founds.nil (w : World) (B : Nat) : Founds w B [] [] := ⟨rfl, fun i h => absurd h (by simp)⟩
theorem Founds.below {w w' : World} {B : Nat} {V : List Value} {L : List (List Nat × Int)} (h : Founds w B V L) (hb : Below w.heap.size w w') : Founds w' B V L :=
  ⟨h.1, fun i hi => by
    obtain ⟨a, m, c, h1, h2, h3, h4⟩ := h.2 i hi
    exact ⟨a, m, c, h1, h2, h3, own_below h4 hb⟩⟩
/-- A row of another type grows: the bodies stay. -/
theorem Founds.grown {w w' : World} {B b e s n : Nat} {V : List Value} {L : List (List Nat × Int)} {v : Value} {xs : List Value} (h : Founds w B V L) (hv : w.ownsRow b e s v n xs) (hne : 5 ≠ e) (hg : w.grownBy w' v.ownBlock) : Founds w' B V L :=
  ⟨h.1, fun i hi => by
    obtain ⟨a, m, c, h1, h2, h3, h4⟩ := h.2 i hi
    exact ⟨a, m, c, h1, h2, h3, h4.kept hg (own_ne h4 hv hne)⟩⟩
theorem Founds.snoc {w : World} {B : Nat} {V : List Value} {L : List (List Nat × Int)} (h : Founds w B V L) {a : Option Addr} {m c : Nat} {l : List Nat} {e : Int} (hb : w.ownsRow B 5 1 (.slice a m c) m (u8s l)) (hm : m ≤ 1000000) : Founds w B (V ++ [.slice a m c, .int .i64 e]) (L ++ [(l, e)]) := by
  refine ⟨by simp [h.1]; omega, fun i hi => ?_⟩
  rcases Nat.lt_or_ge i L.length with h1 | h1
  · obtain ⟨a', m', c', e1, e2, e3, e4⟩ := h.2 i h1
    have eg : (L ++ [(l, e)]).getD i ([], 0) = L.getD i ([], 0) := by
      rw [List.getD_eq_getElem?_getD, List.getD_eq_getElem?_getD, List.getElem?_append_left h1]
    rw [eg]
    exact ⟨a', m', c', by rw [List.getElem?_append_left (by rw [h.1]; omega)]; exact e1, by rw [List.getElem?_append_left (by rw [h.1]; omega)]; exact e2, e3, e4⟩
  · obtain rfl : i = L.length := by simp at hi; omega
    have eg : (L ++ [(l, e)]).getD L.length ([], 0) = (l, e) := by
      rw [List.getD_eq_getElem?_getD, List.getElem?_append_right (Nat.le_refl _)]; simp
    rw [eg]
    exact ⟨a, m, c, by rw [List.getElem?_append_right (by rw [h.1]; exact Nat.le_refl _), h.1]; simp, by rw [List.getElem?_append_right (by rw [h.1]; omega), h.1]; simp, hm, hb⟩
end Go.Proofs.Ytnokbnobnhkmgaa
