/- How windows and spans that came in are opened. -/
import Derived.Test.YtaplmioohihmbaaOpenRw
import Derived.Test.YtaplmioohihmbaaSpn
namespace Go.Proofs.Ytaplmioohihmbaa
open Go.ChangeShapes Go.WideShapes Go.ChangeAt Go.RowKit

section
variable {H : Type} {enc : TypeId × Value → H} {W : World} {base : Nat} {sp : Nat → Bool} {hd : Bool}
set_option maxRecDepth 100000 in
theorem read_span {fuel : Nat} {cs : List Value} {x : DataW H × List MemPlace} (h : DataW.trod enc Try.prog W base sp hd fuel 25 cs = some x) : ∃ y : Int × Int, cs = [.int .i64 y.1, .int .i64 y.2] := by
  obtain ⟨xs, n, _, _, hl, hlen, hg⟩ := DataW.trod_struct Try.underlying25 h
  have hc : Try.prog.cellsOf 25 = 2 := by kernel_rfl
  have e1 : Try.prog.cellsOf 2 = 1 := by kernel_rfl
  rw [hc] at hl
  have g0 := hg 0 _ rfl
  have g1 := hg 1 _ rfl
  clear hg
  match cs, hl with
  | [c0, c1], _ =>
    match xs, hlen with
    | [z0, z1], _ =>
      simp [e1] at g0 g1
      obtain ⟨a0, ha0, _, _⟩ := DataW.trod_int Try.underlying2 g0
      obtain ⟨a1, ha1, _, _⟩ := DataW.trod_int Try.underlying2 g1
      simp at ha0 ha1
      subst ha0 ha1
      exact ⟨(a0, a1), rfl⟩
set_option maxRecDepth 100000 in
theorem open_span {b0 : Nat} {r : Reach} {v : Value} {D : DataW H} {p : List MemPlace} (hval : Value.okWide Try.prog W r b0 25 v) (h : DataW.Trod enc Try.prog W base sp hd 25 v D p) : ∃ a b : Int, v = .agg #[.int .i64 a, .int .i64 b] := by
  obtain ⟨cs, rfl, _⟩ := okWide_struct Try.underlying25 hval
  obtain ⟨fuel, hf⟩ := h
  obtain ⟨cs⟩ := cs
  obtain ⟨y, hc⟩ := read_span hf
  simp only [Value.cells] at hc
  subst hc
  exact ⟨y.1, y.2, rfl⟩
set_option maxRecDepth 100000 in
theorem open_win {b0 : Nat} {r : Reach} {v : Value} {D : DataW H} {p : List MemPlace} (hval : Value.okWide Try.prog W r b0 23 v) (h : DataW.Trod enc Try.prog W base sp hd 23 v D p) : ∃ k s l g : Int, v = .agg #[.int .u8 k, .int .i64 s, .int .i64 l, .int .i64 g] := by
  obtain ⟨cs, rfl, _⟩ := okWide_struct Try.underlying23 hval
  obtain ⟨fuel, hf⟩ := h
  obtain ⟨cs⟩ := cs
  obtain ⟨xs, n, _, _, hl, hlen, hg⟩ := DataW.trod_struct Try.underlying23 hf
  simp only [Value.cells] at hl hg
  have hc : Try.prog.cellsOf 23 = 4 := by kernel_rfl
  have e1 : Try.prog.cellsOf 2 = 1 := by kernel_rfl
  have e0 : Try.prog.cellsOf 5 = 1 := by kernel_rfl
  rw [hc] at hl
  have g0 := hg 0 _ rfl
  have g1 := hg 1 _ rfl
  have g2 := hg 2 _ rfl
  have g3 := hg 3 _ rfl
  clear hg
  match cs, hl with
  | [c0, c1, c2, c3], _ =>
    match xs, hlen with
    | [z0, z1, z2, z3], _ =>
      simp [e0, e1] at g0 g1 g2 g3
      obtain ⟨a0, ha0, _, _⟩ := DataW.trod_int Try.underlying5 g0
      obtain ⟨a1, ha1, _, _⟩ := DataW.trod_int Try.underlying2 g1
      obtain ⟨a2, ha2, _, _⟩ := DataW.trod_int Try.underlying2 g2
      obtain ⟨a3, ha3, _, _⟩ := DataW.trod_int Try.underlying2 g3
      simp at ha0 ha1 ha2 ha3
      subst ha0 ha1 ha2 ha3
      exact ⟨a0, a1, a2, a3, rfl⟩
theorem open_spans {A : Option Addr} {len cap : Nat} {D : DataW H} {p : List MemPlace} (h : DataW.Trod enc Try.prog W base sp hd 30 (.slice A len cap) D p) : ∃ l : List (Int × Int), Cells W (fun b => b < W.heap.size) A len 2 (spL l) ∧ len ≤ cap ∧ cap ≤ maxLen := by
  obtain ⟨fuel, hf⟩ := h
  obtain ⟨l, -, hc, -, h1, h2⟩ := open_row (fun s : Int × Int => [Value.int .i64 s.1, .int .i64 s.2]) 2 (fun _ => True) Try.underlying30 (by kernel_rfl) (by omega) (fun _ => rfl) (fun n cs y hy => by
    obtain ⟨s, hs⟩ := read_span hy
    exact ⟨s, hs, trivial⟩) hf
  exact ⟨l, hc, h1, h2⟩
end
end Go.Proofs.Ytaplmioohihmbaa
