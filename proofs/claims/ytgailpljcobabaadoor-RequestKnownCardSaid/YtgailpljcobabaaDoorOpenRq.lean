/- How the arguments of stage 9 are opened: requests that came in; the tables that start-up lays. -/
import Derived.Test.YtgailpljcobabaaDoorOpenA
import Derived.Test.YtgailpljcobabaaDoorRqA
import Derived.LaidMore
import Derived.LaidLaws
import Derived.Stop.Joined
namespace Go.Proofs.YtgailpljcobabaaDoor
open Go.ChangeShapes Go.WideShapes Go.ChangeAt Go.RowKit

/-- The variables that a row lists. -/
def laidAll : List (String × DataW Unit) := [("tidepool/request.parts", Rows.laid_tidepool_request_parts), ("tidepool/request.words", Rows.laid_tidepool_request_words)]
theorem door_met (os : Os) (args : Array Value) : laidMetH Tryd.prog laidAll ((World.doorLaid Tryd.prog 19 os).forCall (fun _ _ => 0) ⟨#[], args, []⟩).memory :=
  laidMetH_of_parts3 (fuel := 8) (laidMet_of_run' 8 (by kernel_rfl) (by kernel_rfl)) (by kernel_rfl) (by kernel_rfl)
theorem gParts : Tryd.prog.globalNamed "tidepool/request.parts" = some 1 := by kernel_rfl
theorem gWords : Tryd.prog.globalNamed "tidepool/request.words" = some 0 := by kernel_rfl
theorem tParts : (Tryd.prog.globals[1]?).map (·.type) = some 65 := by kernel_rfl
theorem tWords : (Tryd.prog.globals[0]?).map (·.type) = some 65 := by kernel_rfl
/-- An array of nine texts, opened. -/
theorem nine_texts {H : Type} {enc : TypeId × Value → H} {W : World} {base fuel : Nat} {sp : Nat → Bool} {hd : Bool} {cs : List Value} {p : List MemPlace} {T : List (List UInt8)}
    (h : DataW.trod enc Tryd.prog W base sp hd fuel 65 cs = some (.agg (T.map fun t => .lit (.string t)), p)) : ∀ k, k < 9 → cs[k]? = (T[k]?).map fun t => Value.string ⟨t.toArray⟩ := by
  have e1 : Tryd.prog.cellsOf 9 = 1 := by kernel_rfl
  have e9 : Tryd.prog.cellsOf 65 = 9 := by kernel_rfl
  obtain ⟨xs, m, _, hx, hl, hlen, hg⟩ := DataW.trod_array Tryd.underlying65 h
  rw [e9] at hl
  rw [e1] at hg
  simp only [Prod.mk.injEq, DataW.agg.injEq] at hx
  obtain ⟨hx, -⟩ := hx
  intro k hk
  have h1 := hg k hk
  rw [Nat.mul_one] at h1
  have hxk : xs[k]? = some (xs[k]'(by omega)) := List.getElem?_eq_getElem _
  rw [hxk] at h1
  obtain ⟨s, hs, hd', _⟩ := DataW.trod_string Tryd.underlying9 h1
  have h2 : (xs.map (·.1))[k]? = some (.lit (.string s.data.toList)) := by
    rw [List.getElem?_map, hxk, hd']; rfl
  rw [← hx, List.getElem?_map] at h2
  have h3 : cs[k]? = some (.string s) := by
    have := congrArg (·[0]?) hs
    simp only [List.getElem?_take, List.getElem?_drop] at this
    simpa using this
  rw [h3]
  cases hT : T[k]? with
  | none => rw [hT] at h2; cases h2
  | some t =>
    rw [hT] at h2
    simp at h2
    subst h2
    rfl
/-- What the condition gives the walks. -/
theorem vars_of_laid {W : World} (h : laidMetH Tryd.prog laidAll W) : Vars W := by
  rw [MakeChecks.laidMetH_plain _ _ _ (by kernel_rfl)] at h
  obtain ⟨ps, ⟨g0, t0, cs0, f0, p0, q0, hg0, ht0, hv0, hd0, ⟨g1, t1, cs1, f1, p1, q1, hg1, ht1, hv1, hd1, _, _⟩, _⟩, _, _⟩ := h
  obtain rfl := Option.some.inj (gParts.symm.trans hg0)
  obtain rfl := Option.some.inj (gWords.symm.trans hg1)
  obtain rfl := Option.some.inj (tParts.symm.trans ht0)
  obtain rfl := Option.some.inj (tWords.symm.trans ht1)
  have c0 := fun k => World.var?_cell hg0 hv0 k
  have c1 := fun k => World.var?_cell hg1 hv1 k
  have n0 := nine_texts (T := [[], [65, 80, 87], [65, 68], [76, 68], [76], [68, 87], [76, 80, 68], [76], []]) hd0
  have n1 := nine_texts (T := [[], [97, 115, 107], [103, 114, 97, 110, 116], [114, 101, 110, 101, 119], [114, 101, 108, 101, 97, 115, 101], [111, 112, 101, 110], [112, 111, 108, 108], [99, 108, 111, 115, 101], [115, 116, 97, 116, 117, 115]]) hd1
  have z0 : ∀ k, k < 9 → W.cell? ⟨1, k, none⟩ = some (.string (textOf (Rq.letters k))) := fun k hk => by
    have e := n0 k hk
    rw [Array.getElem?_toList] at e
    rw [c0 k, e]
    have : k = 0 ∨ k = 1 ∨ k = 2 ∨ k = 3 ∨ k = 4 ∨ k = 5 ∨ k = 6 ∨ k = 7 ∨ k = 8 := by omega
    rcases this with rfl | rfl | rfl | rfl | rfl | rfl | rfl | rfl | rfl <;> rfl
  have z1 : ∀ k, k < 9 → W.cell? ⟨0, k, none⟩ = some (.string (textOf (Rq.word k))) := fun k hk => by
    have e := n1 k hk
    rw [Array.getElem?_toList] at e
    rw [c1 k, e]
    have : k = 0 ∨ k = 1 ∨ k = 2 ∨ k = 3 ∨ k = 4 ∨ k = 5 ∨ k = 6 ∨ k = 7 ∨ k = 8 := by omega
    rcases this with rfl | rfl | rfl | rfl | rfl | rfl | rfl | rfl | rfl <;> rfl
  have hlt := World.block_lt_of_cell? W _ (z0 0 (by omega))
  exact ⟨by have : 1 < W.heap.size := hlt; omega, z0, z1⟩
theorem u16_wf {n : Int} (h : (Lit.int .u16 n).wf = true) : 0 ≤ n ∧ n < 65536 := by
  simp [Lit.wf, IntKind.min, IntKind.max, IntKind.signed, IntKind.bits] at h
  omega
section
variable {H : Type} {enc : TypeId × Value → H} {W : World}
set_option maxRecDepth 100000 in
theorem open_req {base b0 : Nat} {r : Reach} {v : Value} {d : DataW H} {p : List MemPlace} {sp : Nat → Bool} {hd : Bool}
    (hval : Value.okWide Tryd.prog W r b0 26 v) (h : DataW.Trod enc Tryd.prog W base sp hd 26 v d p) : ∃ x : Rq.V, v = x.val ∧ x.ok := by
  obtain ⟨cs, rfl, _⟩ := okWide_struct Tryd.underlying26 hval
  obtain ⟨fuel, hf⟩ := h
  obtain ⟨xs, n, _, _, hl, hlen, hg⟩ := DataW.trod_struct Tryd.underlying26 hf
  have hc : Tryd.prog.cellsOf 26 = 11 := by kernel_rfl
  have e1 : Tryd.prog.cellsOf 5 = 1 := by kernel_rfl
  have e2 : Tryd.prog.cellsOf 22 = 1 := by kernel_rfl
  have e3 : Tryd.prog.cellsOf 23 = 1 := by kernel_rfl
  have e4 : Tryd.prog.cellsOf 9 = 1 := by kernel_rfl
  have e5 : Tryd.prog.cellsOf 24 = 1 := by kernel_rfl
  have e6 : Tryd.prog.cellsOf 2 = 1 := by kernel_rfl
  rw [hc] at hl
  simp only [Value.cells] at hl hg
  obtain ⟨cs⟩ := cs
  simp only at hl hg
  have g0 := hg 0 _ rfl
  have g1 := hg 1 _ rfl
  have g2 := hg 2 _ rfl
  have g3 := hg 3 _ rfl
  have g4 := hg 4 _ rfl
  have g5 := hg 5 _ rfl
  have g6 := hg 6 _ rfl
  have g7 := hg 7 _ rfl
  have g8 := hg 8 _ rfl
  have g9 := hg 9 _ rfl
  have g10 := hg 10 _ rfl
  clear hg
  match cs, hl with
  | [c0, c1, c2, c3, c4, c5, c6, c7, c8, c9, c10], _ =>
    match xs, hlen with
    | [z0, z1, z2, z3, z4, z5, z6, z7, z8, z9, z10], _ =>
      simp [e1, e2, e3, e4, e5, e6] at g0 g1 g2 g3 g4 g5 g6 g7 g8 g9 g10
      obtain ⟨a0, ha0, _, wa0⟩ := DataW.trod_int Tryd.underlying5 g0
      obtain ⟨a1, ha1, _, wa1⟩ := DataW.trod_int Tryd.underlying22 g1
      obtain ⟨a2, ha2, _, wa2⟩ := DataW.trod_int Tryd.underlying5 g2
      obtain ⟨a3, ha3, _, wa3⟩ := DataW.trod_int Tryd.underlying23 g3
      obtain ⟨a4, ha4, _, wa4⟩ := DataW.trod_int Tryd.underlying24 g4
      obtain ⟨a5, ha5, _, wa5⟩ := DataW.trod_int Tryd.underlying24 g5
      obtain ⟨a6, ha6, _, wa6⟩ := DataW.trod_int Tryd.underlying5 g6
      obtain ⟨a7, ha7, _⟩ := DataW.trod_string Tryd.underlying9 g7
      obtain ⟨a8, ha8, _⟩ := DataW.trod_string Tryd.underlying9 g8
      obtain ⟨a9, ha9, _, wa9⟩ := DataW.trod_int Tryd.underlying2 g9
      obtain ⟨a10, ha10, _, wa10⟩ := DataW.trod_int Tryd.underlying2 g10
      simp at ha0 ha1 ha2 ha3 ha4 ha5 ha6 ha7 ha8 ha9 ha10
      subst ha0 ha1 ha2 ha3 ha4 ha5 ha6 ha7 ha8 ha9 ha10
      have w0 := byte_wf wa0
      obtain ⟨b0, rfl⟩ := Int.eq_ofNat_of_zero_le w0.1
      have w1 := u32_wf wa1
      obtain ⟨b1, rfl⟩ := Int.eq_ofNat_of_zero_le w1.1
      have w2 := byte_wf wa2
      obtain ⟨b2, rfl⟩ := Int.eq_ofNat_of_zero_le w2.1
      have w3 := u16_wf wa3
      obtain ⟨b3, rfl⟩ := Int.eq_ofNat_of_zero_le w3.1
      have w4 := u64_wf wa4
      obtain ⟨b4, rfl⟩ := Int.eq_ofNat_of_zero_le w4.1
      have w5 := u64_wf wa5
      obtain ⟨b5, rfl⟩ := Int.eq_ofNat_of_zero_le w5.1
      have w6 := byte_wf wa6
      obtain ⟨b6, rfl⟩ := Int.eq_ofNat_of_zero_le w6.1
      have w9 := i64_wf wa9
      have w10 := i64_wf wa10
      exact ⟨⟨b0, b1, b2, b3, b4, b5, b6, a7, a8, a9, a10⟩, rfl, by show b0 < 256; omega, by show b1 < 4294967296; omega, by show b2 < 256; omega, by show b3 < 65536; omega, by show b4 < 18446744073709551616; omega, by show b5 < 18446744073709551616; omega, by show b6 < 256; omega, w9, w10⟩
end
end Go.Proofs.YtgailpljcobabaaDoor
