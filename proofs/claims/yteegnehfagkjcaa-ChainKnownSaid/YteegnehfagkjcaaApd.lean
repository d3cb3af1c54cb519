/- A list put behind none, and an append whose run is known. No function of the program is named here. -/
import Derived.Test.YteegnehfagkjcaaCells
import Derived.Maps.AppendAt
namespace Go.Proofs.Yteegnehfagkjcaa
open Go.ChangeShapes Go.WideShapes Go.ChangeAt Go.RowKit

theorem wpList_append_eq {P : Program} {w w' : World} {ops : Array Oper} {rest : List Oper} {o : Oper} {a : Act} {Q : Exit → Act → World → Prop} (hgd : o.guard = none) (s x : Operand) (t : TypeId)
    (hop : o.op = .call { callee := .builtin .append, args := #[s, x], argTypes := #[t, t] }) {v xv v' : Value} (hs : a.eval s = v) (hx : a.eval x = xv) (hrun : (Builtin.append_ #[t, t] o.type #[v, xv]).run P w = .ok v' w') (hK : wpList P ops Q rest (a.put o.dst v') w') :
    wpList P ops Q (o :: rest) a w := by
  refine wpList_plain hgd fun K hK' => ?_
  unfold Oper.wp
  simp [execOp, hop, resolve, invoke, builtin, hs, hx, hrun, Result.andThen]
  exact hK' _ _ hK
/-- A list put behind none: a row of the call's own. -/
theorem append_copy {P : Program} {w : World} {F : Nat → Prop} {A : Option Addr} {n c s : Nat} {xs : List Value} (T E : TypeId) (i : TypeInfo) (z : Value) (by_ : Nat) (ht : P.underlying T = some (.slice E)) (hi : P.info? E = some i) (hz : i.zero = some z) (hsize : i.size = s) (hby : i.bytes = by_) (hzs : z.cells.size = s) (hsz : 0 < s) (ty : TypeId)
    (h : Cells w F A n s xs) (h1 : ∀ u ∈ xs, u.oneCell' = true) (hn : n ≤ 1000000) (hb2 : by_ ≤ 1000) :
    ∃ A' c' w', (Builtin.append_ #[T, T] ty #[.slice none 0 0, .slice A n c]).run P w = .ok (.slice A' n c') w' ∧ w'.ownsRow w.heap.size E s (.slice A' n c') n xs ∧ Below w.heap.size w w' := by
  cases A with
  | none =>
    obtain rfl : n = 0 := by
      rcases Nat.eq_zero_or_pos n with h0 | h0
      · exact h0
      · obtain ⟨b, off, e, _⟩ := h.2 h0
        cases e
    obtain rfl : xs = [] := List.length_eq_zero_iff.1 (by rw [h.1, Nat.zero_mul])
    exact ⟨none, 0, w, run_append_nil T ty E i ht hi c, own_nil _ _ _ _, Below.refl _ _⟩
  | some ad =>
    have hnews : ∀ j u, xs[j]? = some u → w.cell? (ad.add j) = some u := fun j u hu => by
      rcases Nat.eq_zero_or_pos n with h0 | h0
      · subst h0
        have : xs = [] := List.length_eq_zero_iff.1 (by rw [h.1, Nat.zero_mul])
        rw [this] at hu
        cases hu
      · obtain ⟨b, off, e, _, _, hc⟩ := h.2 h0
        cases e
        rw [add_at]
        exact hc j u hu
    have hbb : n * by_ ≤ 1000000 * 1000 := Nat.mul_le_mul hn hb2
    obtain ⟨v', w', hr, h2, h3, -, -⟩ := run_append_own_at (P := P) w w.heap.size T ty E i z s by_ ht hi hz hsize hby hzs hsz (.slice none 0 0) 0 [] (own_nil _ _ _ _) ad n c xs h.1 hnews h1 (by unfold maxLen; omega) (by rw [Nat.zero_add]; omega) (Nat.le_refl _)
    rw [Nat.zero_add, List.nil_append] at h2
    obtain ⟨A', c', rfl⟩ := own_slice h2
    exact ⟨A', c', w', hr, h2, below_none h3⟩
end Go.Proofs.Yteegnehfagkjcaa
