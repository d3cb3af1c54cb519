/- Rows (a pane and an aggregate): plain words; rows of them in memory. No type of the program is named here. -/
import Derived.Test.YtognlgklepgemaaGreatPnB
namespace Go.Proofs.YtognlgklepgemaaGreat
open Go.ChangeShapes Go.WideShapes Go.ChangeAt Go.RowKit

structure Rw where
  p : Pn
  a : Ag.A
instance : Inhabited Rw := ⟨⟨⟨⟨#[]⟩, 0, 0⟩, Ag.none'⟩⟩
/-- Its seven cells. -/
def rowL (r : Rw) : List Value := [.string r.p.k, .int .i64 r.p.s, .int .i64 r.p.e, .int .i64 r.a.c, .int .i64 r.a.s, .int .i64 r.a.lo, .int .i64 r.a.hi]
def rcells (l : List Rw) : List Value := l.flatMap rowL
def rowOk (r : Rw) : Prop := r.p.k.size ≤ 1000000 ∧ i64ok r.p.s ∧ i64ok r.p.e ∧ aggOk r.a
theorem rcells_len (l : List Rw) : (rcells l).length = l.length * 7 := by
  induction l with
  | nil => rfl
  | cons p l ih => simp [rcells, rowL] at ih ⊢; omega
theorem rcells_snoc (l : List Rw) (p : Rw) : rcells (l ++ [p]) = rcells l ++ rowL p := by simp [rcells]
theorem rcells_append (a b : List Rw) : rcells (a ++ b) = rcells a ++ rcells b := by simp [rcells]
theorem rcells_at (l : List Rw) (i j : Nat) (h : i < l.length) (hj : j < 7) : (rcells l)[i * 7 + j]? = (rowL (l.getD i default))[j]? := by
  induction l generalizing i with
  | nil => simp at h
  | cons p l ih =>
    have e : rcells (p :: l) = rowL p ++ rcells l := by simp [rcells]
    rw [e]
    cases i with
    | zero => rw [List.getElem?_append_left (by simp [rowL]; omega)]; simp
    | succ i =>
      rw [List.getElem?_append_right (by simp [rowL]; omega)]
      have e2 : (i + 1) * 7 + j - (rowL p).length = i * 7 + j := by simp [rowL]; omega
      rw [e2, ih i (by simpa using h)]
      simp
theorem rsnoc_at (l : List Rw) (j : Nat) (h : j < l.length) : l.take (j + 1) = l.take j ++ [l.getD j default] := by
  rw [List.take_succ_eq_append_getElem h, List.getD_eq_getElem?_getD, List.getElem?_eq_getElem h]; rfl
/-- A slice at A, of n rows, below block B, reads as l. -/
def RowsIn (w : World) (B : Nat) (A : Option Addr) (n : Nat) (l : List Rw) : Prop :=
  l.length = n ∧ (0 < n → ∃ b off, A = some ⟨b, off, none⟩ ∧ b < B ∧ ∀ i, i < n → ∀ j, j < 7 → w.cell? ⟨b, off + i * 7 + j, none⟩ = (rowL (l.getD i default))[j]?)
section
variable {w w' : World} {B B' n : Nat} {A : Option Addr} {l : List Rw}
theorem RowsIn.keep (h : RowsIn w B A n l) (hk : ∀ b o, b < B → w'.cell? ⟨b, o, none⟩ = w.cell? ⟨b, o, none⟩) : RowsIn w' B A n l :=
  ⟨h.1, fun hn => by
    obtain ⟨b, off, e, hb, hc⟩ := h.2 hn
    exact ⟨b, off, e, hb, fun i hi j hj => (hk b _ hb).trans (hc i hi j hj)⟩⟩
theorem RowsIn.more (h : RowsIn w B A n l) (hB : B ≤ B') : RowsIn w B' A n l :=
  ⟨h.1, fun hn => by
    obtain ⟨b, off, e, hb, hc⟩ := h.2 hn
    exact ⟨b, off, e, by omega, hc⟩⟩
theorem RowsIn.below (h : RowsIn w B A n l) (hb : Below B' w w') (hB : B ≤ B') : RowsIn w' B A n l := h.keep fun b o hp => hb.cell (p := ⟨b, o, none⟩) (by show b < B'; omega)
theorem RowsIn.alloc (h : RowsIn w B A n l) (hB : B ≤ w.heap.size) (o : Obj) : RowsIn (w.alloc o) B A n l := h.keep fun b f hp => World.cell?_alloc_lt w o ⟨b, f, none⟩ (by show b < w.heap.size; omega)
theorem RowsIn.nil : RowsIn w B A 0 [] := ⟨rfl, fun h => absurd h (by omega)⟩
theorem RowsIn.none_len (h : RowsIn w B none n l) : n = 0 ∧ l = [] := by
  have h0 : n = 0 := by
    rcases Nat.eq_zero_or_pos n with h1 | h1
    · exact h1
    · obtain ⟨b, off, e, _⟩ := h.2 h1
      cases e
  exact ⟨h0, List.eq_nil_of_length_eq_zero (by rw [h.1, h0])⟩
theorem RowsIn.cells {ad : Addr} (h : RowsIn w B (some ad) n l) : ∀ k u, (rcells l)[k]? = some u → w.cell? (ad.add k) = some u := by
  intro k u hu
  have hk : k < (rcells l).length := by
    rcases Nat.lt_or_ge k (rcells l).length with h1 | h1
    · exact h1
    · rw [List.getElem?_eq_none h1] at hu; cases hu
  rw [rcells_len, h.1] at hk
  obtain ⟨b, off, e, _, hc⟩ := h.2 (by omega)
  injection e with e
  subst e
  rw [add_at]
  have hkd : k / 7 < n := by omega
  have hkm : k % 7 < 7 := Nat.mod_lt _ (by omega)
  have e2 : k / 7 * 7 + k % 7 = k := by omega
  have := hc (k / 7) hkd (k % 7) hkm
  rw [show off + k / 7 * 7 + k % 7 = off + k by omega, ← rcells_at l _ _ (by rw [h.1]; exact hkd) hkm, e2, hu] at this
  exact this
end
theorem rowL_one (r : Rw) : ∀ u ∈ rowL r, u.oneCell' = true := by
  intro u hu
  simp only [rowL, List.mem_cons, List.not_mem_nil, or_false] at hu
  rcases hu with rfl | rfl | rfl | rfl | rfl | rfl | rfl <;> rfl
theorem rcells_one (l : List Rw) : ∀ u ∈ rcells l, u.oneCell' = true := by
  intro u hu
  obtain ⟨r, _, hr⟩ := List.mem_flatMap.1 hu
  exact rowL_one r u hr
end Go.Proofs.YtognlgklepgemaaGreat
