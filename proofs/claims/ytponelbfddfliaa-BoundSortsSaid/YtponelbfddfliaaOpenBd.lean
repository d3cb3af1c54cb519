/- How layer 10's arguments are opened: a filter; panes that came in. -/
import Derived.Test.YtponelbfddfliaaOpenA
import Derived.Test.YtponelbfddfliaaBoV
import Derived.Deep.Slices
import Derived.Deep.Strs
namespace Go.Proofs.Ytponelbfddfliaa
open Go.ChangeShapes Go.WideShapes Go.ChangeAt Go.RowKit

theorem trod_five {P : Program} {H : Type} {enc : TypeId × Value → H} {w : World} {base : Nat} {spare : Nat → Bool} {held : Bool} {t : TypeId} {f0 f1 f2 f3 f4 : Field} {fuel : Nat} {cs : List Value} {x : DataW H × List MemPlace} (ht : P.underlying t = some (.struct #[f0, f1, f2, f3, f4])) (h : DataW.trod enc P w base spare held fuel t cs = some x) :
    ∃ y0 y1 y2 y3 y4 n, cs.length = P.cellsOf t ∧ DataW.trod enc P w base spare held n f0.type ((cs.drop f0.offset).take (P.cellsOf f0.type)) = some y0 ∧
      DataW.trod enc P w base spare held n f1.type ((cs.drop f1.offset).take (P.cellsOf f1.type)) = some y1 ∧ DataW.trod enc P w base spare held n f2.type ((cs.drop f2.offset).take (P.cellsOf f2.type)) = some y2 ∧ DataW.trod enc P w base spare held n f3.type ((cs.drop f3.offset).take (P.cellsOf f3.type)) = some y3 ∧ DataW.trod enc P w base spare held n f4.type ((cs.drop f4.offset).take (P.cellsOf f4.type)) = some y4 := by
  obtain ⟨xs, n, _, rfl, hl, hlen, hf⟩ := DataW.trod_struct ht h
  match xs, hlen with
  | [y0, y1, y2, y3, y4], _ => exact ⟨y0, y1, y2, y3, y4, n, hl, by simpa using hf 0 f0 rfl, by simpa using hf 1 f1 rfl, by simpa using hf 2 f2 rfl, by simpa using hf 3 f3 rfl, by simpa using hf 4 f4 rfl⟩
set_option maxRecDepth 100000 in
theorem open_filter {H : Type} {enc : TypeId × Value → H} {W : World} {base b0 : Nat} {r : Reach} {v : Value} {d : DataW H} {p : List MemPlace} {sp : Nat → Bool} {hd : Bool}
    (hval : Value.okWide Try.prog W r b0 23 v) (h : DataW.Trod enc Try.prog W base sp hd 23 v d p) : ∃ (k : Nat) (K T : ByteArray) (l m : Int), v = .agg #[.int .u8 (k : Int), .string K, .string T, .int .i64 l, .int .i64 m] ∧ k < 256 ∧ i64ok l ∧ i64ok m := by
  obtain ⟨cs, rfl, _⟩ := okWide_struct Try.underlying23 hval
  obtain ⟨fuel, hf⟩ := h
  obtain ⟨y0, y1, y2, y3, y4, n, hl, t0, t1, t2, t3, t4⟩ := trod_five Try.underlying23 hf
  have hc : Try.prog.cellsOf 23 = 5 := by kernel_rfl
  have e5 : Try.prog.cellsOf 5 = 1 := by kernel_rfl
  have e2 : Try.prog.cellsOf 2 = 1 := by kernel_rfl
  have e9 : Try.prog.cellsOf 9 = 1 := by kernel_rfl
  rw [hc] at hl
  simp only [Value.cells] at hl t0 t1 t2 t3 t4
  obtain ⟨cs⟩ := cs
  simp only at hl t0 t1 t2 t3 t4
  match cs, hl with
  | [c0, c1, c2, c3, c4], _ =>
    simp only [e5, e2, e9] at t0 t1 t2 t3 t4
    obtain ⟨a, ha, _, wa⟩ := DataW.trod_int Try.underlying5 t0
    obtain ⟨s, hs, _, _⟩ := DataW.trod_string Try.underlying9 t1
    obtain ⟨u, hu, _, _⟩ := DataW.trod_string Try.underlying9 t2
    obtain ⟨b, hb, _, wb⟩ := DataW.trod_int Try.underlying2 t3
    obtain ⟨c, hcc, _, wc⟩ := DataW.trod_int Try.underlying2 t4
    simp at ha hs hu hb hcc
    subst ha hs hu hb hcc
    have w1 := byte_wf wa
    obtain ⟨k, rfl⟩ := Int.eq_ofNat_of_zero_le w1.1
    exact ⟨k, s, u, b, c, rfl, by omega, i64_wf wb, i64_wf wc⟩
set_option maxRecDepth 100000 in
theorem pan_read {H : Type} {enc : TypeId × Value → H} {W : World} {base fuel : Nat} {sp : Nat → Bool} {hd : Bool} {cs : List Value} {x : DataW H × List MemPlace} (h : DataW.trod enc Try.prog W base sp hd fuel 33 cs = some x) :
    ∃ p : Pn, (i64ok p.s ∧ i64ok p.e) ∧ cs = panL p := by
  obtain ⟨y0, y1, y2, n, _, hl, t0, t1, t2⟩ := Deep.trod_struct3 Try.underlying33 h
  have hc : Try.prog.cellsOf 33 = 3 := by kernel_rfl
  have e2 : Try.prog.cellsOf 2 = 1 := by kernel_rfl
  have e9 : Try.prog.cellsOf 9 = 1 := by kernel_rfl
  rw [hc] at hl
  match cs, hl with
  | [c0, c1, c2], _ =>
    simp only [e2, e9] at t0 t1 t2
    obtain ⟨s, hs, _, _⟩ := DataW.trod_string Try.underlying9 t0
    obtain ⟨a, ha, _, wa⟩ := DataW.trod_int Try.underlying2 t1
    obtain ⟨b, hb, _, wb⟩ := DataW.trod_int Try.underlying2 t2
    simp at ha hb hs
    subst ha hb hs
    exact ⟨⟨s, a, b⟩, ⟨i64_wf wa, i64_wf wb⟩, rfl⟩
set_option maxRecDepth 100000 in
theorem open_pans {H : Type} {enc : TypeId × Value → H} {W : World} {base : Nat} {a : Option Addr} {len cap : Nat} {d : DataW H} {p : List MemPlace} {sp : Nat → Bool} {hd : Bool}
    (h : DataW.Trod enc Try.prog W base sp hd 29 (.slice a len cap) d p) : ∃ l : List Pn, (PansIn W W.heap.size a len l ∧ ∀ p ∈ l, i64ok p.s ∧ i64ok p.e) ∧ len ≤ cap ∧ cap ≤ maxLen := by
  obtain ⟨fuel, hf⟩ := h
  rcases Deep.open_slice Try.underlying29 hf with ⟨hcs, _⟩ | ⟨x, l, c, m, n, D, Pl, hcs, _, hl, hm, hmm, _, hel⟩
  · simp [Value.cells] at hcs
    obtain ⟨rfl, rfl, rfl⟩ := hcs
    exact ⟨[], ⟨⟨rfl, fun h => absurd h (by omega)⟩, by simp⟩, by omega, by omega⟩
  · simp [Value.cells] at hcs
    obtain ⟨rfl, rfl, rfl⟩ := hcs
    have hlm : len ≤ m := by rw [hmm]; split <;> omega
    have hc : Try.prog.cellsOf 33 = 3 := by kernel_rfl
    rw [hc] at hel
    have key : ∀ i, ∃ q : Pn, i < m → (i64ok q.s ∧ i64ok q.e) ∧ ∀ j, j < 3 → W.cell? ((x.add (i * 3)).add j) = (panL q)[j]? := by
      intro i
      by_cases hi : i < m
      · obtain ⟨cs, h1, h2⟩ := hel i hi
        obtain ⟨q, hq, rfl⟩ := pan_read h2
        exact ⟨q, fun _ => ⟨hq, (World.cells?_some h1).2.2⟩⟩
      · exact ⟨default, fun h => absurd h hi⟩
    obtain ⟨f, hf'⟩ := Classical.axiomOfChoice key
    have hget : ∀ i, i < len → ((List.range len).map f).getD i default = f i := by
      intro i hi
      rw [List.getD_eq_getElem?_getD, List.getElem?_map, List.getElem?_range hi]
      rfl
    refine ⟨(List.range len).map f, ⟨⟨by simp, fun h0 => ?_⟩, fun q hq => ?_⟩, hl, hm⟩
    · have hc0 := (hf' 0 (by omega)).2 0 (by omega)
      have hspot : x.spot = none := by
        have := World.cell?_spot hc0
        simpa [Addr.add] using this
      obtain ⟨b, off, spot⟩ := x
      simp only at hspot
      subst hspot
      rw [add_at, add_at] at hc0
      refine ⟨b, off, rfl, block_lt_of_cell hc0, fun i hi j hj => ?_⟩
      have h3 := (hf' i (by omega)).2 j hj
      rw [add_at, add_at] at h3
      rw [hget i hi]
      exact h3
    · rw [List.mem_map] at hq
      obtain ⟨i, hi, rfl⟩ := hq
      exact (hf' i (by have := List.mem_range.1 hi; omega)).1
end Go.Proofs.Ytponelbfddfliaa
