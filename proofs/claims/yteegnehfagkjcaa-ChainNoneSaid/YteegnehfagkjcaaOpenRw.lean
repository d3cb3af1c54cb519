/- How a row of things of s cells each, that came in, is opened. No type of the program is named here. -/
import Derived.Test.YteegnehfagkjcaaOpenA
import Derived.Test.YteegnehfagkjcaaCells
import Derived.Deep.Slices
import Derived.Deep.Strs
namespace Go.Proofs.Yteegnehfagkjcaa
open Go.ChangeShapes Go.WideShapes Go.ChangeAt Go.RowKit

theorem flat_at {α : Type} {row : α → List Value} {s : Nat} (hrow : ∀ a, (row a).length = s) (l : List α) (i : Nat) (a : α) (h : l[i]? = some a) (q : Nat) (hq : q < s) : (l.flatMap row)[i * s + q]? = (row a)[q]? := by
  induction l generalizing i with
  | nil => simp at h
  | cons y r ih =>
    rw [List.flatMap_cons]
    cases i with
    | zero =>
      simp at h
      subst h
      rw [Nat.zero_mul, Nat.zero_add, List.getElem?_append_left (by rw [hrow]; exact hq)]
    | succ i =>
      simp at h
      rw [List.getElem?_append_right (by rw [hrow, Nat.add_mul]; omega), hrow, show (i + 1) * s + q - s = i * s + q by rw [Nat.add_mul]; omega]
      exact ih i h
theorem flat_len {α : Type} {row : α → List Value} {s : Nat} (hrow : ∀ a, (row a).length = s) (l : List α) : (l.flatMap row).length = l.length * s := by
  induction l with
  | nil => simp
  | cons y r ih =>
    rw [List.flatMap_cons, List.length_append, hrow, ih, List.length_cons, Nat.add_mul]
    omega
section
variable {H : Type} {enc : TypeId × Value → H} {W : World} {base : Nat} {sp : Nat → Bool} {hd : Bool}
/-- A row of things of s cells each, opened. -/
theorem open_row {α : Type} [Inhabited α] (row : α → List Value) (s : Nat) (good : α → Prop) {T E : TypeId} {fuel len cap : Nat} {A : Option Addr} {x : DataW H × List MemPlace} (hT : Try.prog.underlying T = some (.slice E)) (hE : Try.prog.cellsOf E = s) (hs : 0 < s) (hrow : ∀ a, (row a).length = s)
    (dec : ∀ n cs y, DataW.trod enc Try.prog W base sp hd n E cs = some y → ∃ a, cs = row a ∧ good a)
    (h : DataW.trod enc Try.prog W base sp hd fuel T [.slice A len cap] = some x) :
    ∃ l : List α, l.length = len ∧ Cells W (fun b => b < W.heap.size) A len s (l.flatMap row) ∧ (∀ a ∈ l, good a) ∧ len ≤ cap ∧ cap ≤ maxLen := by
  rcases Deep.open_slice hT h with ⟨hcs, _⟩ | ⟨p, l, c, m, n, D, Pl, hcs, _, hl, hm, hmm, _, hel⟩
  · simp at hcs
    obtain ⟨rfl, rfl, rfl⟩ := hcs
    exact ⟨[], rfl, by simpa using Cells.nil W (fun b => b < W.heap.size) none s, by simp, by omega, by omega⟩
  · simp at hcs
    obtain ⟨rfl, rfl, rfl⟩ := hcs
    have hlm : len ≤ m := by rw [hmm]; split <;> omega
    rw [hE] at hel
    have key : ∀ i, ∃ q : α, i < m → (∀ j, j < s → W.cell? ((p.add (i * s)).add j) = (row q)[j]?) ∧ good q := by
      intro i
      by_cases hi : i < m
      · obtain ⟨cs, h1, h2⟩ := hel i hi
        obtain ⟨q, rfl, hq⟩ := dec _ _ _ h2
        exact ⟨q, fun _ => ⟨(World.cells?_some h1).2.2, hq⟩⟩
      · exact ⟨default, fun h => absurd h hi⟩
    obtain ⟨f, hf'⟩ := Classical.axiomOfChoice key
    refine ⟨(List.range len).map f, by simp, ⟨by rw [flat_len hrow]; simp, fun h0 => ?_⟩, fun o ho => ?_, hl, hm⟩
    · have hc0 := (hf' 0 (by omega)).1 0 hs
      obtain ⟨u0, hu0⟩ : ∃ u, (row (f 0))[0]? = some u := ⟨_, List.getElem?_eq_getElem (by rw [hrow]; exact hs)⟩
      rw [hu0] at hc0
      have hspot : p.spot = none := by
        have := World.cell?_spot hc0
        simpa [Addr.add] using this
      obtain ⟨b, off, spot⟩ := p
      simp only at hspot
      subst hspot
      rw [add_at, add_at] at hc0
      have hlt := block_lt_of_cell hc0
      refine ⟨b, off, rfl, hlt, hlt, fun j u hj => ?_⟩
      have hjl : j < len * s := by
        have := (List.getElem?_eq_some_iff.1 hj).1
        rw [flat_len hrow] at this
        simpa using this
      have hi : j / s < len := Nat.div_lt_of_lt_mul (by rw [Nat.mul_comm]; exact hjl)
      have hq : j % s < s := Nat.mod_lt _ hs
      have he : j / s * s + j % s = j := Nat.div_add_mod' j s
      have h3 := (hf' (j / s) (by omega)).1 (j % s) hq
      rw [add_at, add_at] at h3
      have h4 := flat_at hrow ((List.range len).map f) (j / s) (f (j / s)) (by rw [List.getElem?_map, List.getElem?_range hi]; rfl) (j % s) hq
      rw [he, hj] at h4
      rw [← h4, Nat.add_assoc, he] at h3
      exact h3
    · obtain ⟨i, hi, rfl⟩ := List.mem_map.1 ho
      exact (hf' i (by have := List.mem_range.1 hi; omega)).2
theorem slice_form {T E : TypeId} {fuel : Nat} {cs : List Value} {x : DataW H × List MemPlace} (hT : Try.prog.underlying T = some (.slice E)) (h : DataW.trod enc Try.prog W base sp hd fuel T cs = some x) : ∃ A len cap, cs = [.slice A len cap] := by
  rcases Deep.open_slice hT h with ⟨hcs, _⟩ | ⟨p, l, c, m, n, D, Pl, hcs, _⟩
  · exact ⟨none, 0, 0, hcs⟩
  · exact ⟨_, _, _, hcs⟩
end
end Go.Proofs.Yteegnehfagkjcaa
