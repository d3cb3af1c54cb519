/- Rows of operations in memory; what all of them are as bytes. -/
import Derived.Test.YtbcdacfmhjgfiaaEv
namespace Go.Proofs.Ytbcdacfmhjgfiaa
open Go.ChangeShapes Go.WideShapes Go.ChangeAt Go.RowKit

instance : Inhabited Evo := ⟨Ev.none'⟩
/-- A slice at A, of n operations, below block B, reads as l. -/
def EvIn (w : World) (B : Nat) (A : Option Addr) (n : Nat) (l : List Evo) : Prop :=
  l.length = n ∧ (0 < n → ∃ b off, A = some ⟨b, off, none⟩ ∧ b < B ∧ ∀ i, i < n → ∀ j, j < 4 → w.cell? ⟨b, off + i * 4 + j, none⟩ = (Ev.cl (l.getD i default))[j]?)
section
variable {w w' : World} {B B' n : Nat} {A : Option Addr} {l : List Evo}
theorem EvIn.keep (h : EvIn w B A n l) (hk : ∀ b o, b < B → w'.cell? ⟨b, o, none⟩ = w.cell? ⟨b, o, none⟩) : EvIn w' B A n l :=
  ⟨h.1, fun hn => by
    obtain ⟨b, off, e, hb, hc⟩ := h.2 hn
    exact ⟨b, off, e, hb, fun i hi j hj => (hk b _ hb).trans (hc i hi j hj)⟩⟩
theorem EvIn.more (h : EvIn w B A n l) (hB : B ≤ B') : EvIn w B' A n l :=
  ⟨h.1, fun hn => by
    obtain ⟨b, off, e, hb, hc⟩ := h.2 hn
    exact ⟨b, off, e, by omega, hc⟩⟩
theorem EvIn.below (h : EvIn w B A n l) (hb : Below B' w w') (hB : B ≤ B') : EvIn w' B A n l := h.keep fun b o hp => hb.cell (p := ⟨b, o, none⟩) (by show b < B'; omega)
theorem EvIn.nil : EvIn w B A 0 [] := ⟨rfl, fun h => absurd h (by omega)⟩
theorem EvIn.at_ (h : EvIn w B A n l) {i : Nat} (hi : i < n) : ∃ b off, A = some ⟨b, off, none⟩ ∧ b < B ∧ ∀ o, l.getD i default = o → w.cell? ⟨b, off + i * 4, none⟩ = some (.int .u8 (o.k : Int)) ∧ w.cell? ⟨b, off + i * 4 + 1, none⟩ = some (.string o.s) ∧ w.cell? ⟨b, off + i * 4 + 2, none⟩ = some (.int .i64 o.t) ∧ w.cell? ⟨b, off + i * 4 + 3, none⟩ = some (.int .i64 o.v) := by
  obtain ⟨b, off, e, hb, hc⟩ := h.2 (by omega)
  refine ⟨b, off, e, hb, fun o ho => ?_⟩
  subst ho
  exact ⟨hc i hi 0 (by omega), hc i hi 1 (by omega), hc i hi 2 (by omega), hc i hi 3 (by omega)⟩
end
def ecells (l : List Evo) : List Value := l.flatMap Ev.cl
theorem ecells_len (l : List Evo) : (ecells l).length = l.length * 4 := by
  induction l with
  | nil => rfl
  | cons p l ih => simp [ecells, Ev.cl] at ih ⊢; omega
theorem ecells_snoc (l : List Evo) (p : Evo) : ecells (l ++ [p]) = ecells l ++ Ev.cl p := by simp [ecells]
theorem ecells_at (l : List Evo) (i j : Nat) (h : i < l.length) (hj : j < 4) : (ecells l)[i * 4 + j]? = (Ev.cl (l.getD i default))[j]? := by
  induction l generalizing i with
  | nil => simp at h
  | cons p l ih =>
    have e : ecells (p :: l) = Ev.cl p ++ ecells l := by simp [ecells]
    rw [e]
    cases i with
    | zero => rw [List.getElem?_append_left (by simp [Ev.cl]; omega)]; simp
    | succ i =>
      rw [List.getElem?_append_right (by simp [Ev.cl]; omega)]
      have e2 : (i + 1) * 4 + j - (Ev.cl p).length = i * 4 + j := by simp [Ev.cl]; omega
      rw [e2, ih i (by simpa using h)]
      simp
theorem EvIn.of_own {w : World} {base n c : Nat} {A : Option Addr} {T : TypeId} {l : List Evo} (h : w.ownsRow base T 4 (.slice A n c) n (ecells l)) : EvIn w w.heap.size A n l := by
  have hl : l.length = n := by have := h.1; rw [ecells_len] at this; omega
  refine ⟨hl, fun hn => ?_⟩
  rcases h.2 with ⟨_, h1⟩ | ⟨g', cap', cur, e, hb, hh, hnc, hcm, hcs, htake⟩
  · omega
  · injection e with e1 e2 e3
    subst e1
    have hk : Blk w g' T cur := hh
    refine ⟨g', 0, rfl, hk.lt, fun i hi j hj => ?_⟩
    rw [Nat.zero_add, hk.cell, ← ecells_at l i j (by omega) hj, ← htake, List.getElem?_take_of_lt (by omega), Array.getElem?_toList]
theorem esnoc_at (l : List Evo) (j : Nat) (h : j < l.length) : l.take (j + 1) = l.take j ++ [l.getD j default] := by
  rw [List.take_succ_eq_append_getElem h, List.getD_eq_getElem?_getD, List.getElem?_eq_getElem h]; rfl
namespace Ev
/-- The first error, of all in a row. -/
def allE : List Evo → Int
  | [] => 0
  | o :: l => if right o = 0 then allE l else right o
def flat (l : List Evo) : List Nat := l.flatMap enc
def allB (l : List Evo) : List Nat := if allE l = 0 then flat l else []
theorem allE_zero (l : List Evo) : allE l = 0 ↔ ∀ o ∈ l, right o = 0 := by
  induction l with
  | nil => simp [allE]
  | cons o l ih =>
    unfold allE
    by_cases h : right o = 0
    · rw [if_pos h, ih]; simp [h]
    · rw [if_neg h]; simp [h]
theorem allE_first {l : List Evo} {j : Nat} (hj : j < l.length) (h : ∀ o ∈ l.take j, right o = 0) (h2 : right (l.getD j default) ≠ 0) : allE l = right (l.getD j default) := by
  induction l generalizing j with
  | nil => simp at hj
  | cons o l ih =>
    cases j with
    | zero => simp only [List.getD_cons_zero] at h2 ⊢; unfold allE; rw [if_neg h2]
    | succ j =>
      simp only [List.getD_cons_succ] at h2 ⊢
      unfold allE
      rw [if_pos (h o (by simp)), ih (by simpa using hj) (fun x hx => h x (by simp [hx])) h2]
theorem flat_snoc (l : List Evo) (o : Evo) : flat (l ++ [o]) = flat l ++ enc o := by simp [flat]
theorem enc_len {o : Evo} (h : right o = 0) : 9 ≤ (enc o).length ∧ (enc o).length ≤ 51 := by
  unfold right at h
  unfold enc
  by_cases h1 : o.k = 1
  · rw [if_pos h1]
    rw [if_neg (by simp [h1])] at h
    have : ¬ (o.s.size < 1 ∨ 32 < o.s.size) := fun c => by rw [if_pos (.inl ⟨h1, c⟩)] at h; cases h
    simp [Pk.tx, Pk.be_len, nums_len]
    omega
  · rw [if_neg h1]
    simp [Pk.be_len]
theorem flat_len {l : List Evo} (h : ∀ o ∈ l, right o = 0) : (flat l).length ≤ l.length * 51 := by
  induction l with
  | nil => simp [flat]
  | cons o l ih =>
    have h1 := enc_len (h o (by simp))
    have h2 := ih fun x hx => h x (by simp [hx])
    have e : flat (o :: l) = enc o ++ flat l := by simp [flat]
    rw [e, List.length_append, List.length_cons]
    omega
end Ev
end Go.Proofs.Ytbcdacfmhjgfiaa
