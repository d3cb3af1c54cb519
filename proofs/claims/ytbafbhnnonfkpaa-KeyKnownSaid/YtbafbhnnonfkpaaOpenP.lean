/- How the arguments of stage 4 are opened: rows of parts, and a pane, that came in. -/
import Derived.Test.YtbafbhnnonfkpaaOpenA
import Derived.Test.YtbafbhnnonfkpaaKeyP
import Derived.Deep.Slices
import Derived.Deep.Strs
namespace Go.Proofs.Ytbafbhnnonfkpaa
open Go.ChangeShapes Go.WideShapes Go.ChangeAt Go.RowKit

def PT.raw (p : PT) : Prop := p.k < 256 ∧ big p.n ∧ p.s.size ≤ 9223372036854775807
/-- A slice at A, of n parts of whatever size, below block B, reads as l. -/
def PartsR (w : World) (B : Nat) (A : Option Addr) (n : Nat) (l : List PT) : Prop :=
  l.length = n ∧ (∀ p ∈ l, p.raw) ∧ (0 < n → ∃ b off, A = some ⟨b, off, none⟩ ∧ b < B ∧ ∀ i, i < n →
    w.cell? ⟨b, off + i * 3, none⟩ = some (.int .u8 ((l.getD i default).k : Int)) ∧ w.cell? ⟨b, off + i * 3 + 1, none⟩ = some (.int .i64 (l.getD i default).n) ∧ w.cell? ⟨b, off + i * 3 + 2, none⟩ = some (.string (l.getD i default).s))
theorem PartsR.small {w : World} {B n : Nat} {A : Option Addr} {l : List PT} (h : PartsR w B A n l) (hs : ∀ p ∈ l, p.s.size ≤ 1000000) : Parts w B A n l :=
  ⟨h.1, fun p hp => ⟨(h.2.1 p hp).1, (h.2.1 p hp).2.1, hs p hp⟩, h.2.2⟩
theorem Parts.raw {w : World} {B n : Nat} {A : Option Addr} {l : List PT} (h : Parts w B A n l) : PartsR w B A n l :=
  ⟨h.1, fun p hp => ⟨(h.2.1 p hp).1, (h.2.1 p hp).2.1, by have := (h.2.1 p hp).2.2; omega⟩, h.2.2⟩
theorem PartsR.keep {w w' : World} {B n : Nat} {A : Option Addr} {l : List PT} (h : PartsR w B A n l) (hk : ∀ b o, b < B → w'.cell? ⟨b, o, none⟩ = w.cell? ⟨b, o, none⟩) : PartsR w' B A n l :=
  ⟨h.1, h.2.1, fun hn => by
    obtain ⟨b, off, e, hb, hc⟩ := h.2.2 hn
    refine ⟨b, off, e, hb, fun i hi => ?_⟩
    obtain ⟨h1, h2, h3⟩ := hc i hi
    exact ⟨(hk b _ hb).trans h1, (hk b _ hb).trans h2, (hk b _ hb).trans h3⟩⟩
theorem PartsR.below {w w' : World} {B B' n : Nat} {A : Option Addr} {l : List PT} (h : PartsR w B A n l) (hb : Below B' w w') (hB : B ≤ B') : PartsR w' B A n l := h.keep fun b o hp => hb.cell (p := ⟨b, o, none⟩) (by show b < B'; omega)
theorem PartsR.raw_at {w : World} {B n : Nat} {A : Option Addr} {l : List PT} (h : PartsR w B A n l) {i : Nat} (hi : i < n) : (l.getD i default).raw := by
  have hl : i < l.length := by rw [h.1]; exact hi
  rw [List.getD_eq_getElem?_getD, List.getElem?_eq_getElem hl]
  exact h.2.1 _ (List.getElem_mem hl)
theorem max_is : maxLen = 9223372036854775807 := rfl
theorem part_read {H : Type} {enc : TypeId × Value → H} {W : World} {base fuel : Nat} {sp : Nat → Bool} {hd : Bool} {cs : List Value} {x : DataW H × List MemPlace} (h : DataW.trod enc Try.prog W base sp hd fuel 39 cs = some x) :
    ∃ p : PT, p.raw ∧ cs = [.int .u8 (p.k : Int), .int .i64 p.n, .string p.s] := by
  obtain ⟨y0, y1, y2, n, _, hl, t0, t1, t2⟩ := Deep.trod_struct3 Try.underlying39 h
  have hc : Try.prog.cellsOf 39 = 3 := by kernel_rfl
  have e5 : Try.prog.cellsOf 5 = 1 := by kernel_rfl
  have e2 : Try.prog.cellsOf 2 = 1 := by kernel_rfl
  have e9 : Try.prog.cellsOf 9 = 1 := by kernel_rfl
  rw [hc] at hl
  match cs, hl with
  | [c0, c1, c2], _ =>
    simp only [e5, e2, e9] at t0 t1 t2
    obtain ⟨a, ha, _, wa⟩ := DataW.trod_int Try.underlying5 t0
    obtain ⟨b, hb, _, wb⟩ := DataW.trod_int Try.underlying2 t1
    obtain ⟨s, hs, _, ws⟩ := DataW.trod_string Try.underlying9 t2
    simp at ha hb hs
    subst ha hb hs
    have w1 := byte_wf wa
    have w2 := i64_wf wb
    obtain ⟨k, rfl⟩ := Int.eq_ofNat_of_zero_le w1.1
    exact ⟨⟨k, b, s⟩, ⟨by show k < 256; omega, w2, by rw [max_is] at ws; exact ws⟩, rfl⟩
theorem open_parts {H : Type} {enc : TypeId × Value → H} {W : World} {base : Nat} {a : Option Addr} {len cap : Nat} {d : DataW H} {p : List MemPlace} {sp : Nat → Bool} {hd : Bool}
    (h : DataW.Trod enc Try.prog W base sp hd 22 (.slice a len cap) d p) : ∃ l : List PT, PartsR W W.heap.size a len l ∧ len ≤ cap ∧ cap ≤ maxLen := by
  obtain ⟨fuel, hf⟩ := h
  rcases Deep.open_slice Try.underlying22 hf with ⟨hcs, _⟩ | ⟨x, l, c, m, n, D, Pl, hcs, _, hl, hm, hmm, _, hel⟩
  · simp [Value.cells] at hcs
    obtain ⟨rfl, rfl, rfl⟩ := hcs
    exact ⟨[], ⟨rfl, by simp, fun h => absurd h (by omega)⟩, by omega, by omega⟩
  · simp [Value.cells] at hcs
    obtain ⟨rfl, rfl, rfl⟩ := hcs
    have hlm : len ≤ m := by rw [hmm]; split <;> omega
    have hc : Try.prog.cellsOf 39 = 3 := by kernel_rfl
    rw [hc] at hel
    have key : ∀ i, ∃ q : PT, i < m → q.raw ∧ ∀ j, j < 3 → W.cell? ((x.add (i * 3)).add j) = [Value.int .u8 (q.k : Int), .int .i64 q.n, .string q.s][j]? := by
      intro i
      by_cases hi : i < m
      · obtain ⟨cs, h1, h2⟩ := hel i hi
        obtain ⟨q, hq, rfl⟩ := part_read h2
        exact ⟨q, fun _ => ⟨hq, (World.cells?_some h1).2.2⟩⟩
      · exact ⟨default, fun h => absurd h hi⟩
    obtain ⟨f, hf'⟩ := Classical.axiomOfChoice key
    have hget : ∀ i, i < len → ((List.range len).map f).getD i default = f i := by
      intro i hi
      rw [List.getD_eq_getElem?_getD, List.getElem?_map, List.getElem?_range hi]
      rfl
    refine ⟨(List.range len).map f, ⟨by simp, fun q hq => ?_, fun h0 => ?_⟩, hl, hm⟩
    · rw [List.mem_map] at hq
      obtain ⟨i, hi, rfl⟩ := hq
      exact (hf' i (by have := List.mem_range.1 hi; omega)).1
    · have hc0 := (hf' 0 (by omega)).2 0 (by omega)
      have hspot : x.spot = none := by
        have := World.cell?_spot hc0
        simpa [Addr.add] using this
      obtain ⟨b, off, spot⟩ := x
      simp only at hspot
      subst hspot
      rw [add_at, add_at] at hc0
      refine ⟨b, off, rfl, block_lt_of_cell hc0, fun i hi => ?_⟩
      have h3 := (hf' i (by omega)).2
      rw [hget i hi]
      have c0 := h3 0 (by omega)
      have c1 := h3 1 (by omega)
      have c2 := h3 2 (by omega)
      rw [add_at, add_at] at c0 c1 c2
      exact ⟨c0, c1, c2⟩
theorem open_pane {H : Type} {enc : TypeId × Value → H} {W : World} {base b0 : Nat} {r : Reach} {v : Value} {d : DataW H} {p : List MemPlace} {sp : Nat → Bool} {hd : Bool}
    (hval : Value.okWide Try.prog W r b0 44 v) (h : DataW.Trod enc Try.prog W base sp hd 44 v d p) : ∃ k st en, v = paneV k st en ∧ big st ∧ big en := by
  obtain ⟨cs, rfl, _⟩ := okWide_struct Try.underlying44 hval
  obtain ⟨fuel, hf⟩ := h
  obtain ⟨y0, y1, y2, n, _, hl, t0, t1, t2⟩ := Deep.trod_struct3 Try.underlying44 hf
  have hc : Try.prog.cellsOf 44 = 3 := by kernel_rfl
  have e2 : Try.prog.cellsOf 2 = 1 := by kernel_rfl
  have e9 : Try.prog.cellsOf 9 = 1 := by kernel_rfl
  rw [hc] at hl
  simp only [Value.cells] at hl t0 t1 t2
  obtain ⟨cs⟩ := cs
  simp only at hl t0 t1 t2
  match cs, hl with
  | [c0, c1, c2], _ =>
    simp only [e2, e9] at t0 t1 t2
    obtain ⟨s, hs, _, _⟩ := DataW.trod_string Try.underlying9 t0
    obtain ⟨a, ha, _, wa⟩ := DataW.trod_int Try.underlying2 t1
    obtain ⟨b, hb, _, wb⟩ := DataW.trod_int Try.underlying2 t2
    simp at ha hb hs
    subst ha hb hs
    exact ⟨s, a, b, rfl, i64_wf wa, i64_wf wb⟩
end Go.Proofs.Ytbafbhnnonfkpaa
