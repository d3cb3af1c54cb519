/- Rows of aggregates in memory. -/
import Derived.Test.YtponelbfddfliaaAg
import Derived.Test.YtponelbfddfliaaMem
namespace Go.Proofs.Ytponelbfddfliaa
open Go.ChangeShapes Go.WideShapes Go.ChangeAt Go.RowKit

instance : Inhabited Ag.A := ⟨Ag.none'⟩
def i64ok (x : Int) : Prop := -9223372036854775808 ≤ x ∧ x ≤ 9223372036854775807
def aggOk (a : Ag.A) : Prop := i64ok a.c ∧ i64ok a.s ∧ i64ok a.lo ∧ i64ok a.hi
def aggL (a : Ag.A) : List Value := [.int .i64 a.c, .int .i64 a.s, .int .i64 a.lo, .int .i64 a.hi]
def acells (l : List Ag.A) : List Value := l.flatMap aggL
theorem acells_len (l : List Ag.A) : (acells l).length = l.length * 4 := by
  induction l with
  | nil => rfl
  | cons p l ih => simp [acells, aggL] at ih ⊢; omega
theorem acells_snoc (l : List Ag.A) (p : Ag.A) : acells (l ++ [p]) = acells l ++ aggL p := by simp [acells]
theorem acells_at (l : List Ag.A) (i : Nat) (h : i < l.length) : (acells l)[i * 4]? = some (.int .i64 (l.getD i default).c) ∧ (acells l)[i * 4 + 1]? = some (.int .i64 (l.getD i default).s) ∧ (acells l)[i * 4 + 2]? = some (.int .i64 (l.getD i default).lo) ∧ (acells l)[i * 4 + 3]? = some (.int .i64 (l.getD i default).hi) := by
  induction l generalizing i with
  | nil => simp at h
  | cons p l ih =>
    cases i with
    | zero => simp [acells, aggL]
    | succ i =>
      have := ih i (by simpa using h)
      have e : ∀ j, (acells (p :: l))[(i + 1) * 4 + j]? = (acells l)[i * 4 + j]? := by
        intro j
        have : (i + 1) * 4 + j = (i * 4 + j) + 4 := by omega
        rw [this]
        show (aggL p ++ acells l)[i * 4 + j + 4]? = _
        rw [List.getElem?_append_right (by simp [aggL])]
        simp [aggL]
      have e0 := e 0
      simp only [Nat.add_zero] at e0
      rw [e0, e 1, e 2, e 3]
      simpa using this
/-- A slice at A, of n aggregates, below block B, reads as l. -/
def Aggs (w : World) (B : Nat) (A : Option Addr) (n : Nat) (l : List Ag.A) : Prop :=
  l.length = n ∧ (∀ p ∈ l, aggOk p) ∧ (0 < n → ∃ b off, A = some ⟨b, off, none⟩ ∧ b < B ∧ ∀ i, i < n →
    w.cell? ⟨b, off + i * 4, none⟩ = some (.int .i64 (l.getD i default).c) ∧ w.cell? ⟨b, off + i * 4 + 1, none⟩ = some (.int .i64 (l.getD i default).s) ∧ w.cell? ⟨b, off + i * 4 + 2, none⟩ = some (.int .i64 (l.getD i default).lo) ∧ w.cell? ⟨b, off + i * 4 + 3, none⟩ = some (.int .i64 (l.getD i default).hi))
theorem Aggs.keep {w w' : World} {B n : Nat} {A : Option Addr} {l : List Ag.A} (h : Aggs w B A n l) (hk : ∀ b o, b < B → w'.cell? ⟨b, o, none⟩ = w.cell? ⟨b, o, none⟩) : Aggs w' B A n l :=
  ⟨h.1, h.2.1, fun hn => by
    obtain ⟨b, off, e, hb, hc⟩ := h.2.2 hn
    refine ⟨b, off, e, hb, fun i hi => ?_⟩
    obtain ⟨h1, h2, h3, h4⟩ := hc i hi
    exact ⟨(hk b _ hb).trans h1, (hk b _ hb).trans h2, (hk b _ hb).trans h3, (hk b _ hb).trans h4⟩⟩
theorem Aggs.below {w w' : World} {B B' n : Nat} {A : Option Addr} {l : List Ag.A} (h : Aggs w B A n l) (hb : Below B' w w') (hB : B ≤ B') : Aggs w' B A n l := h.keep fun b o hp => hb.cell (p := ⟨b, o, none⟩) (by show b < B'; omega)
theorem Aggs.more {w : World} {B B' n : Nat} {A : Option Addr} {l : List Ag.A} (h : Aggs w B A n l) (hB : B ≤ B') : Aggs w B' A n l :=
  ⟨h.1, h.2.1, fun hn => by
    obtain ⟨b, off, e, hb, hc⟩ := h.2.2 hn
    exact ⟨b, off, e, by omega, hc⟩⟩
theorem Aggs.nil {w : World} {B : Nat} {A : Option Addr} : Aggs w B A 0 [] := ⟨rfl, by simp, fun h => absurd h (by omega)⟩
theorem Aggs.of_own {w : World} {base n c : Nat} {A : Option Addr} {l : List Ag.A} {e : TypeId} (h : w.ownsRow base e 4 (.slice A n c) n (acells l)) (hl : ∀ p ∈ l, aggOk p) : Aggs w w.heap.size A n l := by
  have hlen : l.length = n := by have := h.1; rw [acells_len] at this; omega
  refine ⟨hlen, hl, fun hn => ?_⟩
  obtain ⟨g, cap, hv, hc, hlt⟩ := h.form hn
  have hA : A = some ⟨g, 0, none⟩ := by injection hv
  subst hA
  refine ⟨g, 0, rfl, hlt, fun i hi => ?_⟩
  obtain ⟨h1, h2, h3, h4⟩ := acells_at l i (by omega)
  have c1 := h.cells (g := g) rfl _ _ h1
  have c2 := h.cells (g := g) rfl _ _ h2
  have c3 := h.cells (g := g) rfl _ _ h3
  have c4 := h.cells (g := g) rfl _ _ h4
  rw [add_at] at c1 c2 c3 c4
  exact ⟨c1, c2, c3, c4⟩
theorem asnoc_at (l : List Ag.A) (j : Nat) (h : j < l.length) : l.take (j + 1) = l.take j ++ [l.getD j default] := by
  rw [List.take_succ_eq_append_getElem h, List.getD_eq_getElem?_getD, List.getElem?_eq_getElem h]; rfl
theorem acells4 (w : World) (t : TypeId) (u v x y : Value) : ∀ j z, ([u, v, x, y] : List Value)[j]? = some z → (w.alloc (.cells #[u, v, x, y] t)).cell? ((⟨w.heap.size, 0, none⟩ : Addr).add j) = some z := by
  intro j z h
  rw [add_at, Nat.zero_add, (Blk.new w t _).cell]
  simpa using h
end Go.Proofs.Ytponelbfddfliaa
