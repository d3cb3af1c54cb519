/- ArenaPlays: Make's and Put's answers, beside the reference's arena. -/
import Derived.Test.YtgpcpjjdneimfaaDoorM11C
namespace Go.Proofs.YtgpcpjjdneimfaaDoor
open Go.ChangeShapes Go.WideShapes Go.ChangeAt Go.RowKit

theorem Few.used {L : List Ar.Pl} {k i : Nat} {p : Ar.Pl} (h : Few L k) (hp : L[i]? = some p) (d : Ar.Nd) : Few (L.set i ⟨true, p.turn, d⟩) k := by
  refine ⟨by rw [List.length_set]; exact h.len, fun j q hq => ?_⟩
  rcases Nat.decEq i j with h1 | h1
  · rw [List.getElem?_set_ne h1] at hq
    exact h.turn j q hq
  · subst h1
    rw [List.getElem?_set_self (List.getElem?_eq_some_iff.1 hp).1] at hq
    cases hq
    exact h.turn i p hp
theorem Two.made {w0 w Z : World} {g : Nat} {L M : List Ar.Pl} {A : Option Addr} {n : Nat} {P R : Nat → Prop} {d : Ar.Nd} {e : Ending} (h : Two w0 w g L M A n P R) (hZ : MakeP w P g L d e Z) : e = .returned (.agg #[.int .i64 (Ar.lo L : Int), .int .i64 (Ar.next L : Int)]) ∧ Two w0 Z g (Ar.make L d) M A n (grow P w Z) R ∧ Turns P w Z :=
  ⟨hZ.1, h.prog hZ.2.1 hZ.2.2, hZ.2.2⟩
theorem Two.putted {w0 w Z : World} {g k : Nat} {L : List Ar.Pl} {A : Option Addr} {n : Nat} {P R : Nat → Prop} {x : Int × Int} {d : Ar.Nd} {e : Ending} (h : Two w0 w g L L A n P R) (hf : Few L k) (hZ : PutP w P g L x d e Z) : ∃ (r : Int) (L1 : List Ar.Pl) (P1 : Nat → Prop), e = .returned (.int .i64 r) ∧ Two w0 Z g L1 L A n P1 R ∧ Few L1 k ∧ ((∃ (i : Nat) (p : Ar.Pl), x = ((i : Int), (p.turn : Int)) ∧ L[i]? = some p ∧ p.used = true ∧ r = 0 ∧ L1 = L.set i ⟨true, p.turn, d⟩) ∨ (Ar.has L x = false ∧ r = 110 ∧ L1 = L)) ∧ Turns P w Z ∧ ∀ b, P1 b → P b ∨ (w.heap.size ≤ b ∧ b < Z.heap.size) := by
  rcases hZ with ⟨i, p, rfl, hp, hu, rfl, h2, h3⟩ | ⟨h1, rfl, h2⟩
  · exact ⟨0, _, _, rfl, h.prog h2 h3, hf.used hp d, .inl ⟨i, p, rfl, hp, hu, rfl, rfl⟩, h3, fun b hb => hb⟩
  · exact ⟨110, L, P, rfl, h.below h2, hf, .inr ⟨h1, rfl, rfl⟩, Turns.of_below h2, fun b hb => .inl hb⟩
/-- One call put, by both: they agree. -/
theorem put_agree {L L1 M : List Ar.Pl} {x : Int × Int} {d : Ar.Nd} {r r2 : Int} (h : (∃ (i : Nat) (p : Ar.Pl), x = ((i : Int), (p.turn : Int)) ∧ L[i]? = some p ∧ p.used = true ∧ r = 0 ∧ L1 = L.set i ⟨true, p.turn, d⟩) ∨ (Ar.has L x = false ∧ r = 110 ∧ L1 = L)) (h2 : (∃ (i : Nat) (p : Ar.Pl), x = ((i : Int), (p.turn : Int)) ∧ L[i]? = some p ∧ p.used = true ∧ r2 = 0 ∧ M = L.set i ⟨true, p.turn, d⟩) ∨ (Ar.has L x = false ∧ r2 = 110 ∧ M = L)) : r2 = r ∧ M = L1 := by
  have hno : ∀ (i : Nat) (p : Ar.Pl), x = ((i : Int), (p.turn : Int)) → L[i]? = some p → p.used = true → Ar.has L x = true := by
    rintro i p rfl hp hu
    unfold Ar.has
    simp [hp, hu]
  rcases h with ⟨i, p, rfl, hp, hu, rfl, rfl⟩ | ⟨h1, rfl, rfl⟩ <;> rcases h2 with ⟨i', p', he, hp', hu', rfl, rfl⟩ | ⟨g1, rfl, rfl⟩
  · injection he with e1 e2
    have e3 : i = i' := by omega
    subst e3
    rw [hp] at hp'
    cases hp'
    exact ⟨rfl, rfl⟩
  · rw [hno i p rfl hp hu] at g1
    cases g1
  · rw [hno i' p' he hp' hu'] at h1
    cases h1
  · exact ⟨rfl, rfl⟩
end Go.Proofs.YtgpcpjjdneimfaaDoor
