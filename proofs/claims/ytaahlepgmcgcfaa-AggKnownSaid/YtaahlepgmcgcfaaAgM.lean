/- Stage 5's theorem: values parted and joined, in plain words. -/
import Derived.Test.YtaahlepgmcgcfaaAgJ
import Derived.Test.YtaahlepgmcgcfaaHeld
namespace Go.Proofs.Ytaahlepgmcgcfaa
open Go.ChangeShapes Go.WideShapes Go.ChangeAt Go.RowKit

/-- What All tells: the aggregate, and the error. -/
def outA (l : List Int) : Ag.A := if fitB l.sum then Ag.of l else Ag.none'
def outE (l : List Int) : Int := if fitB l.sum then 0 else 30
theorem outA_right (l : List Int) : Ag.right (outA l) = true := by
  unfold outA
  split
  · exact Ag.of_right l
  · rfl
theorem of_ok {l : List Int} (h : ∀ x ∈ l, i64ok x) (hl : l.length ≤ 1000) (hs : fitB l.sum = true) : aggOk (Ag.of l) := by
  have hs' := of_decide_eq_true hs
  refine ⟨⟨?_, ?_⟩, hs', ?_, ?_⟩
  · show (-9223372036854775808 : Int) ≤ ((l.length : Nat) : Int); omega
  · show ((l.length : Nat) : Int) ≤ 9223372036854775807; omega
  · by_cases e : l = []
    · subst e; exact ⟨by decide, by decide⟩
    · exact h _ (Ag.mn_spec e).1
  · by_cases e : l = []
    · subst e; exact ⟨by decide, by decide⟩
    · exact h _ (Ag.mx_spec e).1
theorem outA_ok {l : List Int} (h : ∀ x ∈ l, i64ok x) (hl : l.length ≤ 1000) : aggOk (outA l) := by
  unfold outA
  rcases hb : fitB l.sum with _ | _
  · show aggOk Ag.none'
    exact ⟨⟨by decide, by decide⟩, ⟨by decide, by decide⟩, ⟨by decide, by decide⟩, ⟨by decide, by decide⟩⟩
  · exact of_ok h hl hb
theorem outE_zero {l : List Int} (h : outE l = 0) : fitB l.sum = true ∧ outA l = Ag.of l ∧ Ag.all l = some (Ag.of l) := by
  unfold outE at h
  rcases hb : fitB l.sum with _ | _
  · rw [hb] at h; cases h
  · exact ⟨rfl, by unfold outA; rw [hb]; rfl, all_yes hb⟩
theorem outE_range (l : List Int) : outE l = 0 ∨ outE l = 30 := by
  unfold outE
  split
  · exact .inl rfl
  · exact .inr rfl
/-- A call of All, or of Join, that tells what All tells of l. -/
def OutP (w : World) (x : Ag.A) (r : Int) (e : Ending) (w' : World) : Prop := e = .returned (.tuple #[.agg #[.int .i64 x.c, .int .i64 x.s, .int .i64 x.lo, .int .i64 x.hi], .int .i64 r]) ∧ Below w.heap.size w w'
theorem aggE_out {w w' : World} {l : List Int} {e : Ending} (h : AggE w (Ag.all l) e w') : OutP w (outA l) (outE l) e w' := by
  unfold outA outE
  rcases hb : fitB l.sum with _ | _
  · rw [all_no hb] at h
    exact ⟨h.2, h.1⟩
  · rw [all_yes hb] at h
    exact ⟨h.2, h.1⟩
theorem all_out (n c B : Nat) (A : Option Addr) (l : List Int) (w : World) (h : Ints w B A n l) (hB : B ≤ w.heap.size) (hn : n ≤ 1000000) {x : Ag.A} {r : Int} (hx : outA l = x) (hr : outE l = r) :
    Calls Try.prog 19 #[.slice A n c] w (OutP w x r) := by
  subst hx hr
  exact (all_any n c B A l w h hB hn).mono fun e w' hp => aggE_out hp
theorem join_three {a b c : List Int} (ha : outE a = 0) (hb : outE b = 0) (hc : outE c = 0) (hl : (a ++ b ++ c).length ≤ 1000) : Ag.join [outA a, outA b, outA c] = Ag.all (a ++ b ++ c) := by
  have := Ag.join_of [a, b, c] (by simp at hl ⊢; omega)
  rw [(outE_zero ha).2.1, (outE_zero hb).2.1, (outE_zero hc).2.1]
  simpa using this
theorem join_four {a b c : List Int} (ha : outE a = 0) (hb : outE b = 0) (hc : outE c = 0) (hl : (a ++ b ++ c).length ≤ 1000) : Ag.join [outA c, outA a, Ag.none', outA b] = Ag.all (a ++ b ++ c) := by
  have := Ag.join_of [c, a, [], b] (by simp at hl ⊢; omega)
  rw [(outE_zero ha).2.1, (outE_zero hb).2.1, (outE_zero hc).2.1]
  rw [show ([c, a, [], b] : List (List Int)).map Ag.of = [Ag.of c, Ag.of a, Ag.none', Ag.of b] from rfl] at this
  rw [this]
  apply Ag.all_same
  simp only [List.flatten_cons, List.flatten_nil, List.nil_append, List.append_nil, List.append_assoc]
  exact (List.perm_append_comm (l₁ := c) (l₂ := a ++ b)).trans (by rw [List.append_assoc])
theorem three_parts (l : List Int) (k m : Nat) (hk : k ≤ m) : l.take k ++ (l.take m).drop k ++ l.drop m = l := by
  have h1 : l.take k = (l.take m).take k := by rw [List.take_take, Nat.min_eq_left hk]
  rw [h1, List.take_append_drop, List.take_append_drop]
theorem right_true (x : Ag.A) (w : World) (h : Ag.right x = true) : Calls Try.prog 20 #[.agg #[.int .i64 x.c, .int .i64 x.s, .int .i64 x.lo, .int .i64 x.hi]] w fun e w' => e = .returned (.bool true) ∧ Below w.heap.size w w' := by
  have := right_any x w
  rw [h] at this
  exact this
/-- Put's round: the values ahead of j fit; the one at j is put. -/
theorem put_round {l : List Int} {j : Nat} (hj : j < l.length) (hl : l.length ≤ 1000) : Ag.put (Ag.of (l.take j)) (l.getD j 0) = Ag.all (l.take (j + 1)) := by
  rw [Ag.put_of _ _ (by simp; omega), ← isnoc_at l j hj]
end Go.Proofs.Ytaahlepgmcgcfaa
