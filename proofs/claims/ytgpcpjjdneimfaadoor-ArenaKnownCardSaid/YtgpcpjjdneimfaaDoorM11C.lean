/- ArenaPlays: Free's two answers agree. -/
import Derived.Test.YtgpcpjjdneimfaaDoorPlM
namespace Go.Proofs.YtgpcpjjdneimfaaDoor
open Go.ChangeShapes Go.WideShapes Go.ChangeAt Go.RowKit

/-- The program's arena g has the places L, in blocks of P; the reference's at A has M, in blocks of R; both were made since w0. -/
structure Two (w0 w : World) (g : Nat) (L M : List Ar.Pl) (A : Option Addr) (n : Nat) (P R : Nat → Prop) : Prop where
  ar : ArIn w P g L
  pl : PlIn w R A n M
  apart : ∀ b, R b → ¬ P b
  plt : ∀ b, P b → b < w.heap.size
  rlt : ∀ b, R b → b < w.heap.size
  pge : ∀ b, P b → w0.heap.size ≤ b
  bel : Below w0.heap.size w0 w
  vars : Vars w
  low : 0 < w0.heap.size
section
variable {w0 w w' : World} {g : Nat} {L M L' M' : List Ar.Pl} {A A' : Option Addr} {n n' : Nat} {P R G : Nat → Prop}
theorem Two.off (h : Two w0 w g L M A n P R) (ht : Turns G w w') (hG : ∀ b, G b → ¬ P b ∧ ¬ R b ∧ w0.heap.size ≤ b) : Two w0 w' g L M A n P R where
  ar := h.ar.turn ht fun b hb hg => (hG b hg).1 hb
  pl := h.pl.turn ht fun b hb hg => (hG b hg).2.1 hb
  apart := h.apart
  plt b hb := Nat.lt_of_lt_of_le (h.plt b hb) ht.size
  rlt b hb := Nat.lt_of_lt_of_le (h.rlt b hb) ht.size
  pge := h.pge
  bel := h.bel.trans (ht.below h.bel.size fun b hb => (hG b hb).2.2)
  vars := by
    refine h.vars.turn ht fun e => ?_
    have h1 := (hG 0 e).2.2
    have h2 := h.low
    omega
  low := h.low
theorem Two.below (h : Two w0 w g L M A n P R) (hb : Below w.heap.size w w') : Two w0 w' g L M A n P R where
  ar := h.ar.below hb
  pl := h.pl.below hb
  apart := h.apart
  plt b e := Nat.lt_of_lt_of_le (h.plt b e) hb.size
  rlt b e := Nat.lt_of_lt_of_le (h.rlt b e) hb.size
  pge := h.pge
  bel := h.bel.trans (hb.mono h.bel.size)
  vars := h.vars.next hb
  low := h.low
theorem Two.prog (h : Two w0 w g L M A n P R) (ha : ArIn w' (grow P w w') g L') (ht : Turns P w w') : Two w0 w' g L' M A n (grow P w w') R where
  ar := ha
  pl := h.pl.turn ht h.apart
  apart b hb := by
    rintro (e | e)
    · exact h.apart b hb e
    · have := h.rlt b hb
      omega
  plt b := by
    have hs := ht.size
    rintro (e | e)
    · have := h.plt b e
      omega
    · exact e.2
  rlt b hb := Nat.lt_of_lt_of_le (h.rlt b hb) ht.size
  pge b := by
    have hs := h.bel.size
    rintro (e | e)
    · exact h.pge b e
    · omega
  bel := h.bel.trans (ht.below h.bel.size h.pge)
  vars := h.vars.turn ht fun e => by have := h.ar.low.1 0 e; omega
  low := h.low
theorem Two.ref (h : Two w0 w g L M A n P R) (hb : Below w.heap.size w w') (hp : PlIn w' (fun b => R b ∨ w.heap.size ≤ b) A' n' M') : Two w0 w' g L M' A' n' P (fun b => (R b ∨ w.heap.size ≤ b) ∧ b < w'.heap.size) where
  ar := h.ar.below hb
  pl := hp.mono fun b hl e => ⟨e, hl⟩
  apart b := by
    rintro ⟨e | e, -⟩ hP
    · exact h.apart b e hP
    · have := h.plt b hP
      omega
  plt b e := Nat.lt_of_lt_of_le (h.plt b e) hb.size
  rlt b e := e.2
  pge := h.pge
  bel := h.bel.trans (hb.mono h.bel.size)
  vars := h.vars.next hb
  low := h.low
theorem Two.start (w0 w : World) (hv : Vars w0) (hb : Below w0.heap.size w0 w) : Two w0 (w.alloc (.cells #[.slice none 0 0, .map none, .int .i64 0] 73)) w.heap.size [] [] none 0 (fun b => b = w.heap.size) (fun _ => False) := by
  have h1 : Below w.heap.size w (w.alloc (.cells #[.slice none 0 0, .map none, .int .i64 0] 73)) := (Below.refl _ _).alloc (Nat.le_refl _) _
  have hs := hb.size
  exact ⟨arIn_new w (by have := hv.1; omega), PlIn.nil _ _, fun b e => e.elim, fun b e => by subst e; simp, fun b e => e.elim, fun b e => by subst e; exact hs, hb.trans (h1.mono hs), (hv.next hb).next h1, by have := hv.1; omega⟩
end
end Go.Proofs.YtgpcpjjdneimfaaDoor

namespace Go.Proofs.YtgpcpjjdneimfaaDoor
open Go.ChangeShapes Go.WideShapes Go.ChangeAt Go.RowKit

theorem has_free1 {L : List Ar.Pl} {x y : Int × Int} (hx : Ar.has L x = true) : Ar.has (Ar.free1 L x) y = true ↔ (Ar.has L y = true ∧ y ≠ x) := by
  have hl := Ar.has_lt _ _ hx
  constructor
  · intro h
    rcases Nat.decEq y.1.toNat x.1.toNat with h1 | h1
    · have h2 : Ar.has L y = true := by
        unfold Ar.has at h ⊢
        unfold Ar.free1 at h
        rw [Ar.put_other _ _ _ _ h1] at h
        exact h
      exact ⟨h2, fun e => h1 (by rw [e])⟩
    · exfalso
      unfold Ar.has Ar.free1 at h
      rw [h1, Ar.put_at _ _ _ (by omega)] at h
      simp at h
  · rintro ⟨h1, h2⟩
    exact has_other hx h1 h2
theorem free_all {L : List Ar.Pl} (l : List (Int × Int)) : Ar.free L l = if (l.all (Ar.has L) && decide l.Nodup) = true then some (freed L l) else none := by
  induction l generalizing L with
  | nil => rfl
  | cons x r ih =>
    have e : Ar.free L (x :: r) = if Ar.has L x then Ar.free (Ar.free1 L x) r else none := rfl
    rw [e]
    cases hx : Ar.has L x with
    | false =>
      rw [if_neg (by decide), if_neg]
      rw [List.all_cons, hx]
      simp
    | true =>
      rw [if_pos rfl, ih]
      have e2 : freed L (x :: r) = freed (Ar.free1 L x) r := rfl
      rw [e2]
      have e3 : ((r.all (Ar.has (Ar.free1 L x)) && decide r.Nodup) = true) ↔ (((x :: r).all (Ar.has L) && decide (x :: r).Nodup) = true) := by
        rw [List.all_cons, hx, Bool.true_and, Bool.and_eq_true, Bool.and_eq_true, decide_eq_true_eq, decide_eq_true_eq, List.all_eq_true, List.all_eq_true, List.nodup_cons]
        constructor
        · rintro ⟨h1, h2⟩
          exact ⟨fun y hy => ((has_free1 hx).1 (h1 y hy)).1, fun hm => ((has_free1 hx).1 (h1 x hm)).2 rfl, h2⟩
        · rintro ⟨h1, h2, h3⟩
          exact ⟨fun y hy => (has_free1 hx).2 ⟨h1 y hy, fun e => h2 (e ▸ hy)⟩, h3⟩
      by_cases h : (r.all (Ar.has (Ar.free1 L x)) && decide r.Nodup) = true
      · rw [if_pos h, if_pos (e3.1 h)]
      · rw [if_neg h, if_neg (fun h2 => h (e3.2 h2))]
/-- The program's Free, beside the reference's arena. -/
theorem Two.freed {w0 w Z : World} {g k : Nat} {L : List Ar.Pl} {A : Option Addr} {n : Nat} {P R : Nat → Prop} {l : List (Int × Int)} {e : Ending} (h : Two w0 w g L L A n P R) (hf : Few L k) (hZ : FreeP w P g L l e Z) : ∃ (r : Int) (L1 : List Ar.Pl) (P1 : Nat → Prop), e = .returned (.int .i64 r) ∧ Two w0 Z g L1 L A n P1 R ∧ Few L1 k ∧ ((r = 0 ∧ Ar.free L l = some L1) ∨ (r = 110 ∧ Ar.free L l = none ∧ L1 = L)) ∧ Turns P w Z ∧ ∀ b, P1 b → P b ∨ w.heap.size ≤ b := by
  rcases hZ with ⟨h1, rfl, h2, h3⟩ | ⟨h1, rfl, h2⟩
  · rw [Bool.and_eq_true, List.all_eq_true, decide_eq_true_eq] at h1
    refine ⟨0, _, _, rfl, h.prog h2 h3, freed_few l hf h1.1 h1.2, .inl ⟨rfl, ?_⟩, h3, fun b hb => hb.elim .inl (fun e => .inr e.1)⟩
    rw [free_all, if_pos]
    rw [Bool.and_eq_true, List.all_eq_true, decide_eq_true_eq]
    exact h1
  · refine ⟨110, L, P, rfl, h.below h2, hf, .inr ⟨rfl, ?_, rfl⟩, Turns.of_below h2, fun b hb => .inl hb⟩
    rw [free_all, if_neg (by rw [h1]; decide)]
end Go.Proofs.YtgpcpjjdneimfaaDoor
