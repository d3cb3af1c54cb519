/- Panes: plain words; rows of them in memory. No type of the program is named here. -/
import Derived.Test.YtponelbfddfliaaAggs
namespace Go.Proofs.Ytponelbfddfliaa
open Go.ChangeShapes Go.WideShapes Go.ChangeAt Go.RowKit

/-- A pane: its key, its start, its end. -/
structure Pn where
  k : ByteArray
  s : Int
  e : Int
def Pn.val (p : Pn) : Value := .agg #[.string p.k, .int .i64 p.s, .int .i64 p.e]
instance : Inhabited Pn := ⟨⟨⟨#[]⟩, 0, 0⟩⟩
/-- Its three cells. -/
def panL (r : Pn) : List Value := [.string r.k, .int .i64 r.s, .int .i64 r.e]
def pncells (l : List Pn) : List Value := l.flatMap panL
def panOk (r : Pn) : Prop := r.k.size ≤ 1000000 ∧ i64ok r.s ∧ i64ok r.e
theorem pncells_len (l : List Pn) : (pncells l).length = l.length * 3 := by
  induction l with
  | nil => rfl
  | cons p l ih => simp [pncells, panL] at ih ⊢; omega
theorem pncells_snoc (l : List Pn) (p : Pn) : pncells (l ++ [p]) = pncells l ++ panL p := by simp [pncells]
theorem pncells_append (a b : List Pn) : pncells (a ++ b) = pncells a ++ pncells b := by simp [pncells]
theorem pncells_at (l : List Pn) (i j : Nat) (h : i < l.length) (hj : j < 3) : (pncells l)[i * 3 + j]? = (panL (l.getD i default))[j]? := by
  induction l generalizing i with
  | nil => simp at h
  | cons p l ih =>
    have e : pncells (p :: l) = panL p ++ pncells l := by simp [pncells]
    rw [e]
    cases i with
    | zero => rw [List.getElem?_append_left (by simp [panL]; omega)]; simp
    | succ i =>
      rw [List.getElem?_append_right (by simp [panL]; omega)]
      have e2 : (i + 1) * 3 + j - (panL p).length = i * 3 + j := by simp [panL]; omega
      rw [e2, ih i (by simpa using h)]
      simp
theorem psnoc_at (l : List Pn) (j : Nat) (h : j < l.length) : l.take (j + 1) = l.take j ++ [l.getD j default] := by
  rw [List.take_succ_eq_append_getElem h, List.getD_eq_getElem?_getD, List.getElem?_eq_getElem h]; rfl
/-- A slice at A, of n panes, below block B, reads as l. -/
def PansIn (w : World) (B : Nat) (A : Option Addr) (n : Nat) (l : List Pn) : Prop :=
  l.length = n ∧ (0 < n → ∃ b off, A = some ⟨b, off, none⟩ ∧ b < B ∧ ∀ i, i < n → ∀ j, j < 3 → w.cell? ⟨b, off + i * 3 + j, none⟩ = (panL (l.getD i default))[j]?)
section
variable {w w' : World} {B B' n : Nat} {A : Option Addr} {l : List Pn}
theorem PansIn.keep (h : PansIn w B A n l) (hk : ∀ b o, b < B → w'.cell? ⟨b, o, none⟩ = w.cell? ⟨b, o, none⟩) : PansIn w' B A n l :=
  ⟨h.1, fun hn => by
    obtain ⟨b, off, e, hb, hc⟩ := h.2 hn
    exact ⟨b, off, e, hb, fun i hi j hj => (hk b _ hb).trans (hc i hi j hj)⟩⟩
theorem PansIn.more (h : PansIn w B A n l) (hB : B ≤ B') : PansIn w B' A n l :=
  ⟨h.1, fun hn => by
    obtain ⟨b, off, e, hb, hc⟩ := h.2 hn
    exact ⟨b, off, e, by omega, hc⟩⟩
theorem PansIn.below (h : PansIn w B A n l) (hb : Below B' w w') (hB : B ≤ B') : PansIn w' B A n l := h.keep fun b o hp => hb.cell (p := ⟨b, o, none⟩) (by show b < B'; omega)
theorem PansIn.alloc (h : PansIn w B A n l) (hB : B ≤ w.heap.size) (o : Obj) : PansIn (w.alloc o) B A n l := h.keep fun b f hp => World.cell?_alloc_lt w o ⟨b, f, none⟩ (by show b < w.heap.size; omega)
theorem PansIn.nil : PansIn w B A 0 [] := ⟨rfl, fun h => absurd h (by omega)⟩
theorem PansIn.none_len (h : PansIn w B none n l) : n = 0 ∧ l = [] := by
  have h0 : n = 0 := by
    rcases Nat.eq_zero_or_pos n with h1 | h1
    · exact h1
    · obtain ⟨b, off, e, _⟩ := h.2 h1
      cases e
  exact ⟨h0, List.eq_nil_of_length_eq_zero (by rw [h.1, h0])⟩
theorem PansIn.cells {ad : Addr} (h : PansIn w B (some ad) n l) : ∀ k u, (pncells l)[k]? = some u → w.cell? (ad.add k) = some u := by
  intro k u hu
  have hk : k < (pncells l).length := by
    rcases Nat.lt_or_ge k (pncells l).length with h1 | h1
    · exact h1
    · rw [List.getElem?_eq_none h1] at hu; cases hu
  rw [pncells_len, h.1] at hk
  obtain ⟨b, off, e, _, hc⟩ := h.2 (by omega)
  injection e with e
  subst e
  rw [add_at]
  have hkd : k / 3 < n := by omega
  have hkm : k % 3 < 3 := Nat.mod_lt _ (by omega)
  have e2 : k / 3 * 3 + k % 3 = k := by omega
  have := hc (k / 3) hkd (k % 3) hkm
  rw [show off + k / 3 * 3 + k % 3 = off + k by omega, ← pncells_at l _ _ (by rw [h.1]; exact hkd) hkm, e2, hu] at this
  exact this
end
theorem panL_one (r : Pn) : ∀ u ∈ panL r, u.oneCell' = true := by
  intro u hu
  simp only [panL, List.mem_cons, List.not_mem_nil, or_false] at hu
  rcases hu with rfl | rfl | rfl <;> rfl
theorem pncells_one (l : List Pn) : ∀ u ∈ pncells l, u.oneCell' = true := by
  intro u hu
  obtain ⟨r, _, hr⟩ := List.mem_flatMap.1 hu
  exact panL_one r u hr
end Go.Proofs.Ytponelbfddfliaa
