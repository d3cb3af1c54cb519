/- Layer 5, the program: rows sorted by insertion. -/
import Derived.Test.YtaahlepgmcgcfaaAgS
namespace Go.Proofs.Ytaahlepgmcgcfaa
open Go.ChangeShapes Go.WideShapes Go.ChangeAt Go.RowKit

/-- Block g holds the rows l, from its start on. -/
def RowBlk (w : World) (g : Nat) (l : List Rw) : Prop := ∃ cs, Blk w g 35 cs ∧ ∀ i, i < l.length → ∀ j, j < 7 → cs[i * 7 + j]? = (rowL (l.getD i default))[j]?
theorem RowBlk.below {w w' : World} {g B : Nat} {l : List Rw} (h : RowBlk w g l) (b : Below B w w') (hg : g < B) : RowBlk w' g l := by
  obtain ⟨cs, h1, h2⟩ := h
  exact ⟨cs, h1.below b hg, h2⟩
theorem RowBlk.lt {w : World} {g : Nat} {l : List Rw} (h : RowBlk w g l) : g < w.heap.size := by
  obtain ⟨cs, h1, h2⟩ := h
  exact h1.lt
theorem RowBlk.cells {w : World} {g : Nat} {l : List Rw} (h : RowBlk w g l) {i : Nat} (hi : i < l.length) {r : Rw} (hr : l.getD i default = r) : w.cell? ⟨g, i * 7, none⟩ = some (.string r.p.k) ∧ w.cell? ⟨g, i * 7 + 1, none⟩ = some (.int .i64 r.p.s) ∧ w.cell? ⟨g, i * 7 + 2, none⟩ = some (.int .i64 r.p.e) ∧ w.cell? ⟨g, i * 7 + 3, none⟩ = some (.int .i64 r.a.c) ∧ w.cell? ⟨g, i * 7 + 4, none⟩ = some (.int .i64 r.a.s) ∧ w.cell? ⟨g, i * 7 + 5, none⟩ = some (.int .i64 r.a.lo) ∧ w.cell? ⟨g, i * 7 + 6, none⟩ = some (.int .i64 r.a.hi) := by
  subst hr
  obtain ⟨cs, h1, h2⟩ := h
  have e := fun j hj => (h1.cell (i * 7 + j)).trans (h2 i hi j hj)
  exact ⟨e 0 (by omega), e 1 (by omega), e 2 (by omega), e 3 (by omega), e 4 (by omega), e 5 (by omega), e 6 (by omega)⟩
theorem RowBlk.frozen {w : World} {g : Nat} {l : List Rw} (h : RowBlk w g l) (i : Nat) : w.frozen? ⟨g, i, none⟩ = false := by
  obtain ⟨cs, h1, h2⟩ := h
  exact h1.frozen i
/-- A row's seven cells, written. -/
def setRow (w : World) (g o : Nat) (r : Rw) : World := ((((((w.setCell ⟨g, o, none⟩ (.string r.p.k)).setCell ⟨g, o + 1, none⟩ (.int .i64 r.p.s)).setCell ⟨g, o + 2, none⟩ (.int .i64 r.p.e)).setCell ⟨g, o + 3, none⟩ (.int .i64 r.a.c)).setCell ⟨g, o + 4, none⟩ (.int .i64 r.a.s)).setCell ⟨g, o + 5, none⟩ (.int .i64 r.a.lo)).setCell ⟨g, o + 6, none⟩ (.int .i64 r.a.hi)
theorem RowBlk.set {w : World} {g : Nat} {l : List Rw} (h : RowBlk w g l) {i : Nat} (hi : i < l.length) (r : Rw) : RowBlk (setRow w g (i * 7) r) g (l.set i r) := by
  obtain ⟨cs, h1, h2⟩ := h
  refine ⟨_, (((((((h1.set_ _ _).set_ _ _).set_ _ _).set_ _ _).set_ _ _).set_ _ _).set_ _ _), fun k hk j hj => ?_⟩
  have hk' : k < l.length := by simpa using hk
  have hz : ∀ j, j < 7 → i * 7 + j < cs.size := fun j hj => by
    have := h2 i hi j hj
    rcases Nat.lt_or_ge (i * 7 + j) cs.size with h | h
    · exact h
    · rw [Array.getElem?_eq_none h] at this
      have e : (rowL (l.getD i default))[j]? ≠ none := by
        rw [List.getElem?_eq_getElem (by simp [rowL]; omega)]; simp
      exact absurd this.symm e
  have z0 := hz 0 (by omega)
  have z1 := hz 1 (by omega)
  have z2 := hz 2 (by omega)
  have z3 := hz 3 (by omega)
  have z4 := hz 4 (by omega)
  have z5 := hz 5 (by omega)
  have z6 := hz 6 (by omega)
  have hb := h2 k hk' j hj
  simp only [Array.getElem?_setIfInBounds, Array.size_setIfInBounds]
  rcases Nat.lt_trichotomy k i with hki | hki | hki
  · have e : (l.set i r).getD k default = l.getD k default := by
      rw [List.getD_eq_getElem?_getD, List.getD_eq_getElem?_getD, List.getElem?_set_ne (by omega)]
    rw [e, if_neg (by omega), if_neg (by omega), if_neg (by omega), if_neg (by omega), if_neg (by omega), if_neg (by omega), if_neg (by omega)]
    exact hb
  · subst hki
    have e : (l.set k r).getD k default = r := by
      rw [List.getD_eq_getElem?_getD, List.getElem?_set_self (by omega)]; rfl
    rw [e]
    rcases (by omega : j = 0 ∨ j = 1 ∨ j = 2 ∨ j = 3 ∨ j = 4 ∨ j = 5 ∨ j = 6) with rfl | rfl | rfl | rfl | rfl | rfl | rfl
    all_goals
      simp only [Nat.add_right_cancel_iff, Nat.add_left_cancel_iff, rowL]
      simp
      try omega
  · have e : (l.set i r).getD k default = l.getD k default := by
      rw [List.getD_eq_getElem?_getD, List.getD_eq_getElem?_getD, List.getElem?_set_ne (by omega)]
    rw [e, if_neg (by omega), if_neg (by omega), if_neg (by omega), if_neg (by omega), if_neg (by omega), if_neg (by omega), if_neg (by omega)]
    exact hb
theorem only_row {a w : World} {g : Nat} (h : a.grownBy w (some g)) (o : Nat) (r : Rw) : a.grownBy (setRow w g o r) (some g) :=
  only_setCell (only_setCell (only_setCell (only_setCell (only_setCell (only_setCell (only_setCell h _ _) _ _) _ _) _ _) _ _) _ _) _ _
theorem only_call {a w w' : World} {g : Nat} (h : a.grownBy w (some g)) (b : Below w.heap.size w w') : a.grownBy w' (some g) :=
  ⟨b.os.trans h.os, b.tape.trans h.tape, b.output.trans h.output, Nat.le_trans h.size b.size, fun k hk hne => (b.block k (by have := h.size; omega)).trans (h.block k hk hne)⟩
end Go.Proofs.Ytaahlepgmcgcfaa
