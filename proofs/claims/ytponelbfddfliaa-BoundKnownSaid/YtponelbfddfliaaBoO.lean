/- Panes in memory of the call's own, one of them turned. No function of the program is named here. -/
import Derived.Test.YtponelbfddfliaaBoV
namespace Go.Proofs.Ytponelbfddfliaa
open Go.ChangeShapes Go.WideShapes Go.ChangeAt Go.RowKit

/-- A pane's three cells, written. -/
def setPan (w : World) (g o : Nat) (r : Pn) : World := ((w.setCell ⟨g, o, none⟩ (.string r.k)).setCell ⟨g, o + 1, none⟩ (.int .i64 r.s)).setCell ⟨g, o + 2, none⟩ (.int .i64 r.e)
/-- Block g is the call's own, and holds the panes X from its start on. -/
def OwnP (T : TypeId) (w : World) (base g n cap : Nat) (X : List Pn) : Prop := base ≤ g ∧ n ≤ cap ∧ cap ≤ maxLen ∧ X.length = n ∧ ∃ cs, Blk w g T cs ∧ cs.size = cap * 3 ∧ ∀ i, i < n → ∀ j, j < 3 → cs[i * 3 + j]? = (panL (X.getD i default))[j]?
section
variable {T : TypeId} {w w' : World} {base g n cap : Nat} {X : List Pn}
theorem OwnP.of_own (h : w.ownsRow base T 3 (.slice (some ⟨g, 0, none⟩) n cap) n (pncells X)) : OwnP T w base g n cap X := by
  have hl : X.length = n := by have := h.1; rw [pncells_len] at this; omega
  rcases h.2 with ⟨e, _⟩ | ⟨g', cap', cur, e, hb, hh, hnc, hcm, hcs, htake⟩
  · cases e
  · injection e with e1 e2 e3
    injection e1 with e1
    injection e1 with e1
    subst e1 e3
    refine ⟨hb, hnc, hcm, hl, cur, hh, hcs, fun i hi j hj => ?_⟩
    rw [← pncells_at X i j (by omega) hj, ← htake, List.getElem?_take_of_lt (by omega), Array.getElem?_toList]
theorem OwnP.to_own (h : OwnP T w base g n cap X) : w.ownsRow base T 3 (.slice (some ⟨g, 0, none⟩) n cap) n (pncells X) := by
  obtain ⟨hb, hnc, hcm, hl, cs, hh, hcs, hc⟩ := h
  refine ⟨by rw [pncells_len, hl], .inr ⟨g, cap, cs, rfl, hb, hh, hnc, hcm, hcs, ?_⟩⟩
  apply List.ext_getElem?
  intro k
  rcases Nat.lt_or_ge k (n * 3) with hk | hk
  · have hkd : k / 3 < n := by omega
    have hkm : k % 3 < 3 := Nat.mod_lt _ (by omega)
    have e2 : k / 3 * 3 + k % 3 = k := by omega
    have h1 := hc (k / 3) hkd (k % 3) hkm
    have h2 := pncells_at X (k / 3) (k % 3) (by omega) hkm
    rw [e2] at h1 h2
    rw [List.getElem?_take_of_lt hk, Array.getElem?_toList, h1, h2]
  · rw [List.getElem?_eq_none (by simp; omega), List.getElem?_eq_none (by rw [pncells_len, hl]; omega)]
theorem OwnP.below (h : OwnP T w base g n cap X) (b : Below w.heap.size w w') : OwnP T w' base g n cap X := by
  obtain ⟨hb, hnc, hcm, hl, cs, hh, r⟩ := h
  exact ⟨hb, hnc, hcm, hl, cs, hh.below b hh.lt, r⟩
theorem OwnP.cells (h : OwnP T w base g n cap X) {i : Nat} (hi : i < n) {r : Pn} (hr : X.getD i default = r) : w.cell? ⟨g, i * 3, none⟩ = some (.string r.k) ∧ w.cell? ⟨g, i * 3 + 1, none⟩ = some (.int .i64 r.s) ∧ w.cell? ⟨g, i * 3 + 2, none⟩ = some (.int .i64 r.e) := by
  subst hr
  obtain ⟨hb, hnc, hcm, hl, cs, hh, hcs, hc⟩ := h
  have e := fun j hj => (hh.cell (i * 3 + j)).trans (hc i hi j hj)
  exact ⟨e 0 (by omega), e 1 (by omega), e 2 (by omega)⟩
theorem OwnP.frozen (h : OwnP T w base g n cap X) (i : Nat) : w.frozen? ⟨g, i, none⟩ = false := by
  obtain ⟨hb, hnc, hcm, hl, cs, hh, hcs, hc⟩ := h
  exact hh.frozen i
theorem OwnP.set (h : OwnP T w base g n cap X) {i : Nat} (hi : i < n) (r : Pn) : OwnP T (setPan w g (i * 3) r) base g n cap (X.set i r) := by
  obtain ⟨hb, hnc, hcm, hl, cs, h1, hcs, h2⟩ := h
  refine ⟨hb, hnc, hcm, by rw [List.length_set]; exact hl, _, (((h1.set_ _ _).set_ _ _).set_ _ _), by simp only [Array.size_setIfInBounds]; exact hcs, fun k hk j hj => ?_⟩
  have hz : ∀ j, j < 3 → i * 3 + j < cs.size := fun j hj => by rw [hcs]; omega
  have z0 := hz 0 (by omega)
  have z1 := hz 1 (by omega)
  have z2 := hz 2 (by omega)
  have hb := h2 k hk j hj
  simp only [Array.getElem?_setIfInBounds, Array.size_setIfInBounds]
  rcases Nat.lt_trichotomy k i with hki | hki | hki
  · have e : (X.set i r).getD k default = X.getD k default := by
      rw [List.getD_eq_getElem?_getD, List.getD_eq_getElem?_getD, List.getElem?_set_ne (by omega)]
    rw [e, if_neg (by omega), if_neg (by omega), if_neg (by omega)]
    exact hb
  · subst hki
    have e : (X.set k r).getD k default = r := by
      rw [List.getD_eq_getElem?_getD, List.getElem?_set_self (by omega)]; rfl
    rw [e]
    rcases (by omega : j = 0 ∨ j = 1 ∨ j = 2) with rfl | rfl | rfl
    all_goals
      simp only [Nat.add_right_cancel_iff, Nat.add_left_cancel_iff, panL]
      simp
      try omega
  · have e : (X.set i r).getD k default = X.getD k default := by
      rw [List.getD_eq_getElem?_getD, List.getD_eq_getElem?_getD, List.getElem?_set_ne (by omega)]
    rw [e, if_neg (by omega), if_neg (by omega), if_neg (by omega)]
    exact hb
end
theorem PansIn.pan {w : World} {B n : Nat} {A : Option Addr} {l : List Pn} (h : PansIn w B A n l) {j : Nat} (hj : j < n) {p : Pn} (hp : l.getD j default = p) : ∃ b off, A = some ⟨b, off, none⟩ ∧ b < B ∧ w.cell? ⟨b, off + j * 3, none⟩ = some (.string p.k) ∧ w.cell? ⟨b, off + j * 3 + 1, none⟩ = some (.int .i64 p.s) ∧ w.cell? ⟨b, off + j * 3 + 2, none⟩ = some (.int .i64 p.e) := by
  subst hp
  obtain ⟨b, off, e, hb, hc⟩ := h.2 (by omega)
  exact ⟨b, off, e, hb, hc j hj 0 (by omega), hc j hj 1 (by omega), hc j hj 2 (by omega)⟩
theorem PansIn.of_own {w : World} {base n c : Nat} {A : Option Addr} {l : List Pn} {t : TypeId} (h : w.ownsRow base t 3 (.slice A n c) n (pncells l)) : PansIn w w.heap.size A n l := by
  have hl : l.length = n := by have := h.1; rw [pncells_len] at this; omega
  refine ⟨hl, fun hn => ?_⟩
  rcases h.2 with ⟨_, h1⟩ | ⟨g', cap', cur, e, hb, hh, hnc, hcm, hcs, htake⟩
  · omega
  · injection e with e1 e2 e3
    subst e1
    have hk : Blk w g' t cur := hh
    refine ⟨g', 0, rfl, hk.lt, fun i hi j hj => ?_⟩
    rw [Nat.zero_add, hk.cell, ← pncells_at l i j (by omega) hj, ← htake, List.getElem?_take_of_lt (by omega), Array.getElem?_toList]
theorem below_pan {B : Nat} {w W : World} {g : Nat} (h : Below B w W) (hg : B ≤ g) (o : Nat) (r : Pn) : Below B w (setPan W g o r) :=
  ((h.setCell (p := ⟨g, _, none⟩) hg _).setCell (p := ⟨g, _, none⟩) hg _).setCell (p := ⟨g, _, none⟩) hg _
theorem pcells3 (w : World) (t : TypeId) (x : Pn) : ∀ j z, ([.string x.k, .int .i64 x.s, .int .i64 x.e] : List Value)[j]? = some z → (w.alloc (.cells #[.string x.k, .int .i64 x.s, .int .i64 x.e] t)).cell? ((⟨w.heap.size, 0, none⟩ : Addr).add j) = some z := by
  intro j z hz
  rw [add_at, Nat.zero_add, (Blk.new w t _).cell]
  simpa using hz
/-- New panes, answered. -/
def PansP (T : TypeId) (w : World) (l : List Pn) (e : Ending) (w' : World) : Prop := ∃ A n c, e = .returned (.slice A n c) ∧ w'.ownsRow w.heap.size T 3 (.slice A n c) n (pncells l) ∧ Below w.heap.size w w'
end Go.Proofs.Ytponelbfddfliaa
