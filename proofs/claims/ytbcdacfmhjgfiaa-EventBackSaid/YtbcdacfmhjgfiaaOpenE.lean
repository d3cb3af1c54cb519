/- How the arguments of stage 6 are opened: operations that came in. -/
import Derived.Test.YtbcdacfmhjgfiaaOpenA
import Derived.Test.YtbcdacfmhjgfiaaOpenY
import Derived.Test.YtbcdacfmhjgfiaaEvB
import Derived.Deep.Slices
import Derived.Deep.Strs
namespace Go.Proofs.Ytbcdacfmhjgfiaa
open Go.ChangeShapes Go.WideShapes Go.ChangeAt Go.RowKit

theorem trod_four {P : Program} {H : Type} {enc : TypeId × Value → H} {w : World} {base : Nat} {spare : Nat → Bool} {held : Bool} {t : TypeId} {f0 f1 f2 f3 : Field} {fuel : Nat} {cs : List Value} {x : DataW H × List MemPlace} (ht : P.underlying t = some (.struct #[f0, f1, f2, f3])) (h : DataW.trod enc P w base spare held fuel t cs = some x) :
    ∃ y0 y1 y2 y3 n, cs.length = P.cellsOf t ∧ DataW.trod enc P w base spare held n f0.type ((cs.drop f0.offset).take (P.cellsOf f0.type)) = some y0 ∧
      DataW.trod enc P w base spare held n f1.type ((cs.drop f1.offset).take (P.cellsOf f1.type)) = some y1 ∧ DataW.trod enc P w base spare held n f2.type ((cs.drop f2.offset).take (P.cellsOf f2.type)) = some y2 ∧ DataW.trod enc P w base spare held n f3.type ((cs.drop f3.offset).take (P.cellsOf f3.type)) = some y3 := by
  obtain ⟨xs, n, _, rfl, hl, hlen, hf⟩ := DataW.trod_struct ht h
  match xs, hlen with
  | [y0, y1, y2, y3], _ => exact ⟨y0, y1, y2, y3, n, hl, by simpa using hf 0 f0 rfl, by simpa using hf 1 f1 rfl, by simpa using hf 2 f2 rfl, by simpa using hf 3 f3 rfl⟩
section
variable {H : Type} {enc : TypeId × Value → H} {W : World}
theorem op_read {base fuel : Nat} {sp : Nat → Bool} {hd : Bool} {cs : List Value} {x : DataW H × List MemPlace} (h : DataW.trod enc Try.prog W base sp hd fuel 26 cs = some x) :
    ∃ o : Evo, cs = Ev.cl o ∧ Ev.ok o := by
  obtain ⟨z0, z1, z2, z3, n2, hl, v0, v1, v2, v3⟩ := trod_four Try.underlying26 h
  have hc : Try.prog.cellsOf 26 = 4 := by kernel_rfl
  have e5 : Try.prog.cellsOf 5 = 1 := by kernel_rfl
  have e2 : Try.prog.cellsOf 2 = 1 := by kernel_rfl
  have e9 : Try.prog.cellsOf 9 = 1 := by kernel_rfl
  rw [hc] at hl
  match cs, hl with
  | [c0, c1, c2, c3], _ =>
    simp only [e2, e9, e5] at v0 v1 v2 v3
    obtain ⟨k, hk, _, wk⟩ := DataW.trod_int Try.underlying5 v0
    obtain ⟨s, hs, _, _⟩ := DataW.trod_string Try.underlying9 v1
    obtain ⟨t, ht, _, wt⟩ := DataW.trod_int Try.underlying2 v2
    obtain ⟨v, hv, _, wv⟩ := DataW.trod_int Try.underlying2 v3
    simp at hk hs ht hv
    subst hk hs ht hv
    obtain ⟨j, rfl⟩ : ∃ j : Nat, k = j := ⟨k.toNat, by have := byte_wf wk; omega⟩
    exact ⟨⟨j, s, t, v⟩, rfl, i64_wf wt, i64_wf wv⟩
theorem open_ops {base : Nat} {a : Option Addr} {len cap : Nat} {d : DataW H} {p : List MemPlace} {sp : Nat → Bool} {hd : Bool}
    (h : DataW.Trod enc Try.prog W base sp hd 22 (.slice a len cap) d p) : ∃ l : List Evo, (EvIn W W.heap.size a len l ∧ ∀ o ∈ l, Ev.ok o) ∧ len ≤ cap ∧ cap ≤ maxLen := by
  obtain ⟨fuel, hf⟩ := h
  rcases Deep.open_slice Try.underlying22 hf with ⟨hcs, _⟩ | ⟨x, l, c, m, n, D, Pl, hcs, _, hl, hm, hmm, _, hel⟩
  · simp [Value.cells] at hcs
    obtain ⟨rfl, rfl, rfl⟩ := hcs
    exact ⟨[], ⟨⟨rfl, fun h => absurd h (by omega)⟩, by simp⟩, by omega, by omega⟩
  · simp [Value.cells] at hcs
    obtain ⟨rfl, rfl, rfl⟩ := hcs
    have hlm : len ≤ m := by rw [hmm]; split <;> omega
    have hc : Try.prog.cellsOf 26 = 4 := by kernel_rfl
    rw [hc] at hel
    have key : ∀ i, ∃ q : Evo, i < m → (∀ j, j < 4 → W.cell? ((x.add (i * 4)).add j) = (Ev.cl q)[j]?) ∧ Ev.ok q := by
      intro i
      by_cases hi : i < m
      · obtain ⟨cs, h1, h2⟩ := hel i hi
        obtain ⟨q, rfl, hq⟩ := op_read h2
        exact ⟨q, fun _ => ⟨(World.cells?_some h1).2.2, hq⟩⟩
      · exact ⟨default, fun h => absurd h hi⟩
    obtain ⟨f, hf'⟩ := Classical.axiomOfChoice key
    have hget : ∀ i, i < len → ((List.range len).map f).getD i default = f i := by
      intro i hi
      rw [List.getD_eq_getElem?_getD, List.getElem?_map, List.getElem?_range hi]
      rfl
    refine ⟨(List.range len).map f, ⟨⟨by simp, fun h0 => ?_⟩, fun o ho => ?_⟩, hl, hm⟩
    · have hc0 := (hf' 0 (by omega)).1 0 (by omega)
      have hspot : x.spot = none := by
        have := World.cell?_spot hc0
        simpa [Addr.add] using this
      obtain ⟨b, off, spot⟩ := x
      simp only at hspot
      subst hspot
      rw [add_at, add_at] at hc0
      refine ⟨b, off, rfl, block_lt_of_cell hc0, fun i hi j hj => ?_⟩
      have h3 := (hf' i (by omega)).1 j hj
      rw [add_at, add_at] at h3
      rw [hget i hi]
      exact h3
    · obtain ⟨i, hi, rfl⟩ := List.mem_map.1 ho
      exact (hf' i (by have := List.mem_range.1 hi; omega)).2
end
end Go.Proofs.Ytbcdacfmhjgfiaa
