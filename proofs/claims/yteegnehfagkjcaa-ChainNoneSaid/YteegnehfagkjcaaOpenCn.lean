/- How versions and calls of a chain that came in are opened. -/
import Derived.Test.YteegnehfagkjcaaOpenRw
import Derived.Test.YteegnehfagkjcaaLaw15P
namespace Go.Proofs.Yteegnehfagkjcaa
open Go.ChangeShapes Go.WideShapes Go.ChangeAt Go.RowKit

instance : Inhabited Cn.Ver := ⟨Cn.zero⟩
instance : Inhabited Cn.Ac := ⟨⟨0, Cn.zero, 0⟩⟩
section
variable {H : Type} {enc : TypeId × Value → H} {W : World} {base : Nat} {sp : Nat → Bool} {hd : Bool}
set_option maxRecDepth 100000 in
theorem read_cagg {fuel : Nat} {cs : List Value} {x : DataW H × List MemPlace} (h : DataW.trod enc Try.prog W base sp hd fuel 33 cs = some x) : ∃ a : Ag.A, cs = [.int .i64 a.c, .int .i64 a.s, .int .i64 a.lo, .int .i64 a.hi] := by
  obtain ⟨xs, n, _, _, hl, hlen, hg⟩ := DataW.trod_struct Try.underlying33 h
  have hc : Try.prog.cellsOf 33 = 4 := by kernel_rfl
  have e1 : Try.prog.cellsOf 2 = 1 := by kernel_rfl
  rw [hc] at hl
  have g0 := hg 0 _ rfl
  have g1 := hg 1 _ rfl
  have g2 := hg 2 _ rfl
  have g3 := hg 3 _ rfl
  clear hg
  match cs, hl with
  | [c0, c1, c2, c3], _ =>
    match xs, hlen with
    | [z0, z1, z2, z3], _ =>
      simp [e1] at g0 g1 g2 g3
      obtain ⟨a0, ha0, _, _⟩ := DataW.trod_int Try.underlying2 g0
      obtain ⟨a1, ha1, _, _⟩ := DataW.trod_int Try.underlying2 g1
      obtain ⟨a2, ha2, _, _⟩ := DataW.trod_int Try.underlying2 g2
      obtain ⟨a3, ha3, _, _⟩ := DataW.trod_int Try.underlying2 g3
      simp at ha0 ha1 ha2 ha3
      subst ha0 ha1 ha2 ha3
      exact ⟨⟨a0, a1, a2, a3⟩, rfl⟩
set_option maxRecDepth 100000 in
theorem read_ver {fuel : Nat} {cs : List Value} {x : DataW H × List MemPlace} (h : DataW.trod enc Try.prog W base sp hd fuel 35 cs = some x) : ∃ v : Cn.Ver, cs = verC v ∧ v.e < 18446744073709551616 := by
  obtain ⟨xs, n, _, _, hl, hlen, hg⟩ := DataW.trod_struct Try.underlying35 h
  have hc : Try.prog.cellsOf 35 = 6 := by kernel_rfl
  have e1 : Try.prog.cellsOf 23 = 1 := by kernel_rfl
  have e2 : Try.prog.cellsOf 4 = 1 := by kernel_rfl
  have e3 : Try.prog.cellsOf 33 = 4 := by kernel_rfl
  rw [hc] at hl
  have g0 := hg 0 _ rfl
  have g1 := hg 1 _ rfl
  have g2 := hg 2 _ rfl
  clear hg
  match cs, hl with
  | [c0, c1, c2, c3, c4, c5], _ =>
    match xs, hlen with
    | [z0, z1, z2], _ =>
      simp [e1, e2, e3] at g0 g1 g2
      obtain ⟨i, hi, _, wi⟩ := DataW.trod_int Try.underlying23 g0
      obtain ⟨b, hb, _⟩ := DataW.trod_bool Try.underlying4 g1
      obtain ⟨a, ha⟩ := read_cagg g2
      have wi := u64_wf wi
      simp at hi hb ha
      obtain ⟨rfl, rfl, rfl, rfl⟩ := ha
      subst hi hb
      obtain ⟨k, rfl⟩ : ∃ k : Nat, i = (k : Int) := ⟨i.toNat, by omega⟩
      exact ⟨⟨k, b, a⟩, rfl, by show k < _; omega⟩
set_option maxRecDepth 100000 in
theorem read_cact {fuel : Nat} {cs : List Value} {x : DataW H × List MemPlace} (h : DataW.trod enc Try.prog W base sp hd fuel 58 cs = some x) : ∃ a : Cn.Ac, cs = acC a ∧ (a.v.e < 18446744073709551616 ∧ a.k < 256) := by
  obtain ⟨xs, n, _, _, hl, hlen, hg⟩ := DataW.trod_struct Try.underlying58 h
  have hc : Try.prog.cellsOf 58 = 8 := by kernel_rfl
  have e0 : Try.prog.cellsOf 5 = 1 := by kernel_rfl
  have e1 : Try.prog.cellsOf 23 = 1 := by kernel_rfl
  have e3 : Try.prog.cellsOf 35 = 6 := by kernel_rfl
  rw [hc] at hl
  have g0 := hg 0 _ rfl
  have g1 := hg 1 _ rfl
  have g2 := hg 2 _ rfl
  clear hg
  match cs, hl with
  | [c0, c1, c2, c3, c4, c5, c6, c7], _ =>
    match xs, hlen with
    | [z0, z1, z2], _ =>
      simp [e0, e1, e3] at g0 g1 g2
      obtain ⟨k, hk, _, wk⟩ := DataW.trod_int Try.underlying5 g0
      obtain ⟨v, hv, hv'⟩ := read_ver g1
      obtain ⟨f, hf, _, wf⟩ := DataW.trod_int Try.underlying23 g2
      have wk := byte_wf wk
      have wf := u64_wf wf
      simp [verC] at hk hv hf
      obtain ⟨rfl, rfl, rfl, rfl, rfl, rfl⟩ := hv
      subst hk hf
      obtain ⟨k, rfl⟩ : ∃ j : Nat, k = (j : Int) := ⟨k.toNat, by omega⟩
      obtain ⟨f, rfl⟩ : ∃ j : Nat, f = (j : Int) := ⟨f.toNat, by omega⟩
      exact ⟨⟨k, v, f⟩, rfl, hv', by show k < _; omega⟩
set_option maxRecDepth 100000 in
theorem open_ver {b0 : Nat} {r : Reach} {v : Value} {D : DataW H} {p : List MemPlace} (hval : Value.okWide Try.prog W r b0 35 v) (h : DataW.Trod enc Try.prog W base sp hd 35 v D p) : ∃ u : Cn.Ver, v = .agg #[.int .u64 (u.e : Int), .bool u.d, .int .i64 u.a.c, .int .i64 u.a.s, .int .i64 u.a.lo, .int .i64 u.a.hi] ∧ u.e < 18446744073709551616 := by
  obtain ⟨cs, rfl, _⟩ := okWide_struct Try.underlying35 hval
  obtain ⟨fuel, hf⟩ := h
  obtain ⟨cs⟩ := cs
  obtain ⟨y, hc, hy⟩ := read_ver hf
  simp only [Value.cells] at hc
  subst hc
  exact ⟨y, rfl, hy⟩
theorem open_vers {A : Option Addr} {len cap : Nat} {D : DataW H} {p : List MemPlace} (h : DataW.Trod enc Try.prog W base sp hd 22 (.slice A len cap) D p) : ∃ l : List Cn.Ver, (Cells W (fun b => b < W.heap.size) A len 6 (vrL l) ∧ ∀ v ∈ l, v.e < 18446744073709551616) ∧ len ≤ cap ∧ cap ≤ maxLen := by
  obtain ⟨fuel, hf⟩ := h
  obtain ⟨l, -, hc, hg, h1, h2⟩ := open_row verC 6 (fun v => v.e < 18446744073709551616) Try.underlying22 (by kernel_rfl) (by omega) (fun _ => rfl) (fun n cs y hy => read_ver hy) hf
  exact ⟨l, ⟨hc, hg⟩, h1, h2⟩
theorem open_cacts {A : Option Addr} {len cap : Nat} {D : DataW H} {p : List MemPlace} (h : DataW.Trod enc Try.prog W base sp hd 56 (.slice A len cap) D p) : ∃ l : List Cn.Ac, (Cells W (fun b => b < W.heap.size) A len 8 (acL l) ∧ ∀ a ∈ l, a.v.e < 18446744073709551616 ∧ a.k < 256) ∧ len ≤ cap ∧ cap ≤ maxLen := by
  obtain ⟨fuel, hf⟩ := h
  obtain ⟨l, -, hc, hg, h1, h2⟩ := open_row acC 8 (fun a => a.v.e < 18446744073709551616 ∧ a.k < 256) Try.underlying56 (by kernel_rfl) (by omega) (fun _ => rfl) (fun n cs y hy => read_cact hy) hf
  exact ⟨l, ⟨hc, hg⟩, h1, h2⟩
end
end Go.Proofs.Yteegnehfagkjcaa
