/- How the arguments of stage 8 are opened: replies that came in. -/
import Derived.Test.YtbdalpfpkofmlaaOpenA
import Derived.Test.YtbdalpfpkofmlaaRpE
import Derived.Deep.Slices
import Derived.Deep.Strs
import Derived.Lib.SmallJoins
namespace Go.Proofs.Ytbdalpfpkofmlaa
open Go.ChangeShapes Go.WideShapes Go.ChangeAt Go.RowKit

section
variable {H : Type} {enc : TypeId × Value → H} {W : World}
set_option maxRecDepth 100000 in
theorem pan_read8 {base fuel : Nat} {sp : Nat → Bool} {hd : Bool} {cs : List Value} {x : DataW H × List MemPlace} (h : DataW.trod enc Try.prog W base sp hd fuel 77 cs = some x) : ∃ r : Pn, cs = panL r ∧ i64ok r.s ∧ i64ok r.e := by
  have hp : Try.prog.cellsOf 77 = 3 := by kernel_rfl
  have e2 : Try.prog.cellsOf 2 = 1 := by kernel_rfl
  have e9 : Try.prog.cellsOf 9 = 1 := by kernel_rfl
  obtain ⟨y0, y1, y2, n1, _, hl, u0, u1, u2⟩ := Deep.trod_struct3 Try.underlying77 h
  rw [hp] at hl
  match cs, hl with
  | [c0, c1, c2], _ =>
    simp only [e2, e9] at u0 u1 u2
    obtain ⟨s, hs, _, _⟩ := DataW.trod_string Try.underlying9 u0
    obtain ⟨a, ha, _, wa⟩ := DataW.trod_int Try.underlying2 u1
    obtain ⟨b, hb, _, wb⟩ := DataW.trod_int Try.underlying2 u2
    simp at hs ha hb
    subst hs ha hb
    exact ⟨⟨s, a, b⟩, rfl, i64_wf wa, i64_wf wb⟩
set_option maxRecDepth 100000 in
theorem row_read8 {base fuel : Nat} {sp : Nat → Bool} {hd : Bool} {cs : List Value} {x : DataW H × List MemPlace} (h : DataW.trod enc Try.prog W base sp hd fuel 81 cs = some x) : ∃ r : Rw, cs = rowL r ∧ (i64ok r.p.s ∧ i64ok r.p.e) ∧ aggOk r.a := by
  obtain ⟨p0, p1, n, _, hl, t0, t1⟩ := trod_struct2 Try.underlying81 h
  have hc : Try.prog.cellsOf 81 = 7 := by kernel_rfl
  have hp : Try.prog.cellsOf 77 = 3 := by kernel_rfl
  have ha : Try.prog.cellsOf 79 = 4 := by kernel_rfl
  have e2 : Try.prog.cellsOf 2 = 1 := by kernel_rfl
  have e9 : Try.prog.cellsOf 9 = 1 := by kernel_rfl
  rw [hc] at hl
  match cs, hl with
  | [c0, c1, c2, c3, c4, c5, c6], _ =>
    simp only [hp, ha] at t0 t1
    obtain ⟨y0, y1, y2, n1, _, _, u0, u1, u2⟩ := Deep.trod_struct3 Try.underlying77 t0
    obtain ⟨xs, n2, _, rfl, _, hlen, hf⟩ := DataW.trod_struct Try.underlying79 t1
    have v0 := hf 0 _ rfl
    have v1 := hf 1 _ rfl
    have v2 := hf 2 _ rfl
    have v3 := hf 3 _ rfl
    simp only [e2, e9] at u0 u1 u2
    match xs, hlen with
    | [z0, z1, z2, z3], _ =>
      simp [e2] at v0 v1 v2 v3
      obtain ⟨s, hs, _, _⟩ := DataW.trod_string Try.underlying9 u0
      obtain ⟨a, ha, _, wa⟩ := DataW.trod_int Try.underlying2 u1
      obtain ⟨b, hb, _, wb⟩ := DataW.trod_int Try.underlying2 u2
      obtain ⟨c, hc, _, wc⟩ := DataW.trod_int Try.underlying2 v0
      obtain ⟨d, hd, _, wd⟩ := DataW.trod_int Try.underlying2 v1
      obtain ⟨e, he, _, we⟩ := DataW.trod_int Try.underlying2 v2
      obtain ⟨f, hff, _, wf⟩ := DataW.trod_int Try.underlying2 v3
      simp at hs ha hb hc hd he hff
      subst hs ha hb hc hd he hff
      exact ⟨⟨⟨s, a, b⟩, ⟨c, d, e, f⟩⟩, rfl, ⟨i64_wf wa, i64_wf wb⟩, i64_wf wc, i64_wf wd, i64_wf we, i64_wf wf⟩
set_option maxRecDepth 100000 in
theorem rows_cs {base fuel : Nat} {sp : Nat → Bool} {hd : Bool} {cs : List Value} {y : DataW H × List MemPlace} (hf : DataW.trod enc Try.prog W base sp hd fuel 25 cs = some y) :
    ∃ (a : Option Addr) (len cap : Nat) (l : List Rw), cs = [.slice a len cap] ∧ RowsIn W W.heap.size a len l ∧ ∀ q ∈ l, (i64ok q.p.s ∧ i64ok q.p.e) ∧ aggOk q.a := by
  rcases Deep.open_slice Try.underlying25 hf with ⟨hcs, _⟩ | ⟨x, l, c, m, n, D, Pl, hcs, _, hl, hm, hmm, _, hel⟩
  · exact ⟨none, 0, 0, [], hcs, ⟨rfl, fun h => absurd h (by omega)⟩, by simp⟩
  · have hlm : l ≤ m := by rw [hmm]; split <;> omega
    have hc : Try.prog.cellsOf 81 = 7 := by kernel_rfl
    rw [hc] at hel
    have key : ∀ i, ∃ q : Rw, i < m → ((i64ok q.p.s ∧ i64ok q.p.e) ∧ aggOk q.a) ∧ ∀ j, j < 7 → W.cell? ((x.add (i * 7)).add j) = (rowL q)[j]? := by
      intro i
      by_cases hi : i < m
      · obtain ⟨cs, h1, h2⟩ := hel i hi
        obtain ⟨q, rfl, hq⟩ := row_read8 h2
        exact ⟨q, fun _ => ⟨hq, (World.cells?_some h1).2.2⟩⟩
      · exact ⟨default, fun h => absurd h hi⟩
    obtain ⟨f, hf'⟩ := Classical.axiomOfChoice key
    have hget : ∀ i, i < l → ((List.range l).map f).getD i default = f i := by
      intro i hi
      rw [List.getD_eq_getElem?_getD, List.getElem?_map, List.getElem?_range hi]
      rfl
    refine ⟨some x, l, c, (List.range l).map f, hcs, ⟨by simp, fun h0 => ?_⟩, fun q hq => ?_⟩
    rotate_left
    · obtain ⟨i, hi, rfl⟩ := List.mem_map.1 hq
      have hi := List.mem_range.1 hi
      exact (hf' i (by omega)).1
    have hc0 := (hf' 0 (by omega)).2 0 (by omega)
    have hspot : x.spot = none := by
      have := World.cell?_spot hc0
      simpa [Addr.add] using this
    obtain ⟨b, off, spot⟩ := x
    simp only at hspot
    subst hspot
    rw [add_at, add_at] at hc0
    refine ⟨b, off, rfl, block_lt_of_cell hc0, fun i hi j hj => ?_⟩
    have h3 := (hf' i (by omega)).2 j hj
    rw [add_at, add_at] at h3
    rw [hget i hi]
    exact h3
set_option maxRecDepth 100000 in
theorem pans_cs {base fuel : Nat} {sp : Nat → Bool} {hd : Bool} {cs : List Value} {y : DataW H × List MemPlace} (hf : DataW.trod enc Try.prog W base sp hd fuel 26 cs = some y) :
    ∃ (a : Option Addr) (len cap : Nat) (l : List Pn), cs = [.slice a len cap] ∧ PansIn W W.heap.size a len l ∧ ∀ q ∈ l, i64ok q.s ∧ i64ok q.e := by
  rcases Deep.open_slice Try.underlying26 hf with ⟨hcs, _⟩ | ⟨x, l, c, m, n, D, Pl, hcs, _, hl, hm, hmm, _, hel⟩
  · exact ⟨none, 0, 0, [], hcs, ⟨rfl, fun h => absurd h (by omega)⟩, by simp⟩
  · have hlm : l ≤ m := by rw [hmm]; split <;> omega
    have hc : Try.prog.cellsOf 77 = 3 := by kernel_rfl
    rw [hc] at hel
    have key : ∀ i, ∃ q : Pn, i < m → (i64ok q.s ∧ i64ok q.e) ∧ ∀ j, j < 3 → W.cell? ((x.add (i * 3)).add j) = (panL q)[j]? := by
      intro i
      by_cases hi : i < m
      · obtain ⟨cs, h1, h2⟩ := hel i hi
        obtain ⟨q, rfl, hq⟩ := pan_read8 h2
        exact ⟨q, fun _ => ⟨hq, (World.cells?_some h1).2.2⟩⟩
      · exact ⟨default, fun h => absurd h hi⟩
    obtain ⟨f, hf'⟩ := Classical.axiomOfChoice key
    have hget : ∀ i, i < l → ((List.range l).map f).getD i default = f i := by
      intro i hi
      rw [List.getD_eq_getElem?_getD, List.getElem?_map, List.getElem?_range hi]
      rfl
    refine ⟨some x, l, c, (List.range l).map f, hcs, ⟨by simp, fun h0 => ?_⟩, fun q hq => ?_⟩
    rotate_left
    · obtain ⟨i, hi, rfl⟩ := List.mem_map.1 hq
      have hi := List.mem_range.1 hi
      exact (hf' i (by omega)).1
    have hc0 := (hf' 0 (by omega)).2 0 (by omega)
    have hspot : x.spot = none := by
      have := World.cell?_spot hc0
      simpa [Addr.add] using this
    obtain ⟨b, off, spot⟩ := x
    simp only at hspot
    subst hspot
    rw [add_at, add_at] at hc0
    refine ⟨b, off, rfl, block_lt_of_cell hc0, fun i hi j hj => ?_⟩
    have h3 := (hf' i (by omega)).2 j hj
    rw [add_at, add_at] at h3
    rw [hget i hi]
    exact h3
theorem u16_wf8 {n : Int} (h : (Lit.int .u16 n).wf = true) : 0 ≤ n ∧ n < 65536 := by
  simp [Lit.wf, IntKind.min, IntKind.max, IntKind.signed, IntKind.bits] at h
  omega
set_option maxRecDepth 100000 in
theorem open_rep {base b0 : Nat} {r : Reach} {v : Value} {d : DataW H} {p : List MemPlace} {sp : Nat → Bool} {hd : Bool}
    (hval : Value.okWide Try.prog W r b0 28 v) (h : DataW.Trod enc Try.prog W base sp hd 28 v d p) : ∃ (x : Rp.V) (rows : List Rw) (gone : List Pn), v = x.val ∧ x.ok ∧ x.In W W.heap.size rows gone ∧ (∀ q ∈ rows, (i64ok q.p.s ∧ i64ok q.p.e) ∧ aggOk q.a) ∧ ∀ q ∈ gone, i64ok q.s ∧ i64ok q.e := by
  obtain ⟨cs, rfl, _⟩ := okWide_struct Try.underlying28 hval
  obtain ⟨fuel, hf⟩ := h
  obtain ⟨xs, n, _, _, hl, hlen, hg⟩ := DataW.trod_struct Try.underlying28 hf
  have hc : Try.prog.cellsOf 28 = 12 := by kernel_rfl
  have e1 : Try.prog.cellsOf 5 = 1 := by kernel_rfl
  have e2 : Try.prog.cellsOf 22 = 1 := by kernel_rfl
  have e3 : Try.prog.cellsOf 23 = 1 := by kernel_rfl
  have e4 : Try.prog.cellsOf 4 = 1 := by kernel_rfl
  have e5 : Try.prog.cellsOf 24 = 1 := by kernel_rfl
  have e6 : Try.prog.cellsOf 25 = 1 := by kernel_rfl
  have e7 : Try.prog.cellsOf 26 = 1 := by kernel_rfl
  rw [hc] at hl
  simp only [Value.cells] at hl hg
  obtain ⟨cs⟩ := cs
  simp only at hl hg
  have g0 := hg 0 _ rfl
  have g1 := hg 1 _ rfl
  have g2 := hg 2 _ rfl
  have g3 := hg 3 _ rfl
  have g4 := hg 4 _ rfl
  have g5 := hg 5 _ rfl
  have g6 := hg 6 _ rfl
  have g7 := hg 7 _ rfl
  have g8 := hg 8 _ rfl
  have g9 := hg 9 _ rfl
  have g10 := hg 10 _ rfl
  have g11 := hg 11 _ rfl
  clear hg
  match cs, hl with
  | [c0, c1, c2, c3, c4, c5, c6, c7, c8, c9, c10, c11], _ =>
    match xs, hlen with
    | [z0, z1, z2, z3, z4, z5, z6, z7, z8, z9, z10, z11], _ =>
      simp [e1, e2, e3, e4, e5, e6, e7] at g0 g1 g2 g3 g4 g5 g6 g7 g8 g9 g10 g11
      obtain ⟨a0, ha0, _, wa0⟩ := DataW.trod_int Try.underlying5 g0
      obtain ⟨a1, ha1, _, wa1⟩ := DataW.trod_int Try.underlying22 g1
      obtain ⟨a2, ha2, _, wa2⟩ := DataW.trod_int Try.underlying23 g2
      obtain ⟨a3, ha3, _⟩ := DataW.trod_bool Try.underlying4 g3
      obtain ⟨a4, ha4, _, wa4⟩ := DataW.trod_int Try.underlying24 g4
      obtain ⟨a5, ha5, _, wa5⟩ := DataW.trod_int Try.underlying24 g5
      obtain ⟨a6, ha6, _, wa6⟩ := DataW.trod_int Try.underlying24 g6
      obtain ⟨a7, ha7, _, wa7⟩ := DataW.trod_int Try.underlying24 g7
      obtain ⟨a8, ha8, _, wa8⟩ := DataW.trod_int Try.underlying24 g8
      obtain ⟨a9, ha9, _, wa9⟩ := DataW.trod_int Try.underlying24 g9
      obtain ⟨A, n1, c, rows, ha10, hr, hr'⟩ := rows_cs g10
      obtain ⟨G, m1, d1, gone, ha11, hg, hg'⟩ := pans_cs g11
      simp at ha0 ha1 ha2 ha3 ha4 ha5 ha6 ha7 ha8 ha9 ha10 ha11
      subst ha0 ha1 ha2 ha3 ha4 ha5 ha6 ha7 ha8 ha9 ha10 ha11
      have w0 := byte_wf wa0
      obtain ⟨b0, rfl⟩ := Int.eq_ofNat_of_zero_le w0.1
      have w1 := u32_wf wa1
      obtain ⟨b1, rfl⟩ := Int.eq_ofNat_of_zero_le w1.1
      have w2 := u16_wf8 wa2
      obtain ⟨b2, rfl⟩ := Int.eq_ofNat_of_zero_le w2.1
      have w4 := u64_wf wa4
      obtain ⟨b4, rfl⟩ := Int.eq_ofNat_of_zero_le w4.1
      have w5 := u64_wf wa5
      obtain ⟨b5, rfl⟩ := Int.eq_ofNat_of_zero_le w5.1
      have w6 := u64_wf wa6
      obtain ⟨b6, rfl⟩ := Int.eq_ofNat_of_zero_le w6.1
      have w7 := u64_wf wa7
      obtain ⟨b7, rfl⟩ := Int.eq_ofNat_of_zero_le w7.1
      have w8 := u64_wf wa8
      obtain ⟨b8, rfl⟩ := Int.eq_ofNat_of_zero_le w8.1
      have w9 := u64_wf wa9
      obtain ⟨b9, rfl⟩ := Int.eq_ofNat_of_zero_le w9.1
      exact ⟨⟨b0, b1, b2, a3, b4, b5, b6, b7, b8, b9, A, n1, c, G, m1, d1⟩, rows, gone, rfl, ⟨by show b0 < 256; omega, by show b1 < 4294967296; omega, by show b2 < 65536; omega, by show b4 < 18446744073709551616; omega, by show b5 < 18446744073709551616; omega, by show b6 < 18446744073709551616; omega, by show b7 < 18446744073709551616; omega, by show b8 < 18446744073709551616; omega, by show b9 < 18446744073709551616; omega⟩, ⟨hr, hg⟩, hr', hg'⟩
end
end Go.Proofs.Ytbdalpfpkofmlaa
