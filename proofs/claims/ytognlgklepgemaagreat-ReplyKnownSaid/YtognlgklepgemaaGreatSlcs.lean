/- Rows of slices of bytes, each in memory of a call's own. -/
import Derived.Test.YtognlgklepgemaaGreatMem
namespace Go.Proofs.YtognlgklepgemaaGreat
open Go.ChangeShapes Go.WideShapes Go.ChangeAt Go.RowKit

def Slcs (w : World) (B : Nat) (V : List Value) (L : List (List Nat)) : Prop :=
  V.length = L.length ∧ ∀ i, i < L.length → ∃ a m c, V[i]? = some (.slice a m c) ∧ m ≤ 1000000 ∧ w.ownsRow B 5 1 (.slice a m c) m (u8s (L.getD i []))
theorem Slcs.nil (w : World) (B : Nat) : Slcs w B [] [] := ⟨rfl, fun i h => absurd h (by simp)⟩
theorem Slcs.below {w w' : World} {B : Nat} {V : List Value} {L : List (List Nat)} (h : Slcs w B V L) (hb : Below w.heap.size w w') : Slcs w' B V L :=
  ⟨h.1, fun i hi => by
    obtain ⟨a, m, c, h1, h2, h3⟩ := h.2 i hi
    exact ⟨a, m, c, h1, h2, own_below h3 hb⟩⟩
theorem Slcs.grown {w w' : World} {B b e s n : Nat} {V : List Value} {L : List (List Nat)} {v : Value} {xs : List Value} (h : Slcs w B V L) (hv : w.ownsRow b e s v n xs) (hne : 5 ≠ e) (hg : w.grownBy w' v.ownBlock) : Slcs w' B V L :=
  ⟨h.1, fun i hi => by
    obtain ⟨a, m, c, h1, h2, h3⟩ := h.2 i hi
    exact ⟨a, m, c, h1, h2, h3.kept hg (own_ne h3 hv hne)⟩⟩
theorem Slcs.snoc {w : World} {B : Nat} {V : List Value} {L : List (List Nat)} (h : Slcs w B V L) {a : Option Addr} {m c : Nat} {l : List Nat} (hb : w.ownsRow B 5 1 (.slice a m c) m (u8s l)) (hm : m ≤ 1000000) : Slcs w B (V ++ [.slice a m c]) (L ++ [l]) := by
  refine ⟨by simp [h.1], fun i hi => ?_⟩
  rcases Nat.lt_or_ge i L.length with h1 | h1
  · obtain ⟨a', m', c', e1, e2, e3⟩ := h.2 i h1
    have eg : (L ++ [l]).getD i [] = L.getD i [] := by
      rw [List.getD_eq_getElem?_getD, List.getD_eq_getElem?_getD, List.getElem?_append_left h1]
    rw [eg]
    exact ⟨a', m', c', by rw [List.getElem?_append_left (by rw [h.1]; omega)]; exact e1, e2, e3⟩
  · obtain rfl : i = L.length := by simp at hi; omega
    have eg : (L ++ [l]).getD L.length [] = l := by
      rw [List.getD_eq_getElem?_getD, List.getElem?_append_right (Nat.le_refl _)]; simp
    rw [eg]
    exact ⟨a, m, c, by rw [List.getElem?_append_right (by rw [h.1]; exact Nat.le_refl _), h.1]; simp, hm, hb⟩
theorem Slcs.rows {w : World} {B b e n c : Nat} {A : Option Addr} {V : List Value} {L : List (List Nat)} (h : Slcs w B V L) (hv : w.ownsRow b e 1 (.slice A n c) n V) (hl : ∀ l ∈ L, ∀ x ∈ l, x < 256) : RowsOf w w.heap.size A n L := by
  have hn : L.length = n := by have := hv.1; rw [← h.1]; omega
  refine ⟨hn, fun h0 => ?_⟩
  obtain ⟨g, cap, he, hc, hlt⟩ := hv.form h0
  injection he with he
  subst he
  refine ⟨g, 0, rfl, hlt, fun i hi => ?_⟩
  obtain ⟨a, m, c', e1, e2, e3⟩ := h.2 i (by omega)
  have := hv.cells (g := g) rfl i _ e1
  rw [add_at] at this
  refine ⟨a, m, c', this, by omega, Bytes.of_own e3 (hl _ ?_)⟩
  rw [List.getD_eq_getElem?_getD, List.getElem?_eq_getElem (by omega)]
  exact List.getElem_mem _
end Go.Proofs.YtognlgklepgemaaGreat
