/- Rows of pairs of numbers. No function of the program is named here. -/
import Derived.Test.YtaplmioohihmbaaCells
import Derived.Laws.AppendOwn
namespace Go.Proofs.Ytaplmioohihmbaa
open Go.ChangeShapes Go.WideShapes Go.ChangeAt Go.RowKit

def spL (l : List (Int × Int)) : List Value := l.flatMap fun h => [.int .i64 h.1, .int .i64 h.2]
theorem spL_one (l : List (Int × Int)) : ∀ u ∈ spL l, u.oneCell' = true := by
  intro u hu
  simp [spL] at hu
  obtain ⟨a, b, -, h⟩ := hu
  rcases h with rfl | rfl <;> rfl
theorem spL_len (l : List (Int × Int)) : (spL l).length = l.length * 2 := by
  induction l with
  | nil => rfl
  | cons y r ih =>
    rw [spL, List.flatMap_cons, List.length_append]
    have : (r.flatMap fun h : Int × Int => [Value.int .i64 h.1, Value.int .i64 h.2]).length = r.length * 2 := ih
    rw [this]
    simp
    omega
theorem spL_append (a b : List (Int × Int)) : spL (a ++ b) = spL a ++ spL b := by simp [spL]
theorem spL_at (l : List (Int × Int)) (i : Nat) (x : Int × Int) (h : l[i]? = some x) : (spL l)[i * 2]? = some (.int .i64 x.1) ∧ (spL l)[i * 2 + 1]? = some (.int .i64 x.2) := by
  induction l generalizing i with
  | nil => simp at h
  | cons y r ih =>
    have e : spL (y :: r) = [.int .i64 y.1, .int .i64 y.2] ++ spL r := by simp [spL]
    rw [e]
    cases i with
    | zero =>
      simp at h
      subst h
      exact ⟨rfl, rfl⟩
    | succ i =>
      simp at h
      have := ih i h
      rw [show (i + 1) * 2 = i * 2 + 1 + 1 by omega]
      exact ⟨by simpa using this.1, by simpa using this.2⟩
theorem spL_snoc (l : List (Int × Int)) (j : Nat) (x : Int × Int) (h : l[j]? = some x) : spL (l.take (j + 1)) = spL (l.take j) ++ [.int .i64 x.1, .int .i64 x.2] := by
  have hj := (List.getElem?_eq_some_iff.1 h).1
  rw [List.take_succ_eq_append_getElem hj, spL_append]
  rw [List.getElem?_eq_getElem hj] at h
  rw [Option.some.inj h]
  rfl
theorem cell_two' (W : World) (x0 x1 : Value) (T : TypeId) (g : Nat) (hg : g = W.heap.size) : ∀ j u, [x0, x1][j]? = some u → (W.alloc (.cells #[x0, x1] T)).cell? ((⟨g, 0, none⟩ : Addr).add j) = some u := by
  intro j u hj
  subst hg
  rw [add_at, Nat.zero_add, (Blk.new W T _).cell]
  simpa using hj
/-- A call that answers a new row of pairs. -/
def SpP (w : World) (T : TypeId) (l : List (Int × Int)) (e : Ending) (w' : World) : Prop := ∃ A c, e = .returned (.slice A l.length c) ∧ w'.ownsRow w.heap.size T 2 (.slice A l.length c) l.length (spL l) ∧ Below w.heap.size w w'
/-- The cells of an element of a row. -/
theorem sp_cells {w : World} {F : Nat → Prop} {A : Option Addr} {n : Nat} {l : List (Int × Int)} (h : Cells w F A n 2 (spL l)) {i : Nat} {x : Int × Int} (hx : l[i]? = some x) : ∃ b off, A = some ⟨b, off, none⟩ ∧ F b ∧ b < w.heap.size ∧ w.cell? ⟨b, off + i * 2, none⟩ = some (.int .i64 x.1) ∧ w.cell? ⟨b, off + i * 2 + 1, none⟩ = some (.int .i64 x.2) := by
  have hl : l.length = n := by have := h.1; rw [spL_len] at this; omega
  have hi := (List.getElem?_eq_some_iff.1 hx).1
  obtain ⟨b, off, e, hF, hb, hc⟩ := h.at_ (i := i) (by omega)
  have := spL_at l i x hx
  exact ⟨b, off, e, hF, hb, (hc 0 (by omega)).trans this.1, (hc 1 (by omega)).trans this.2⟩
/-- A row of one pair, just made. -/
theorem own_pair (w : World) (T : TypeId) (x : Int × Int) : (w.alloc (.cells #[.int .i64 x.1, .int .i64 x.2] T)).ownsRow w.heap.size T 2 (.slice (some ⟨w.heap.size, 0, none⟩) 1 1) 1 (spL [x]) :=
  ⟨rfl, .inr ⟨w.heap.size, 1, _, rfl, Nat.le_refl _, Blk.new w T _, Nat.le_refl _, by unfold maxLen; omega, rfl, rfl⟩⟩
end Go.Proofs.Ytaplmioohihmbaa
