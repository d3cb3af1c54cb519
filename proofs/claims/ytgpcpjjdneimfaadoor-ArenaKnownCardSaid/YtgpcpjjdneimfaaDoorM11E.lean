/- How the arguments of stage 11 are opened: handles and nodes that came in; the table that start-up lays. -/
import Derived.Test.YtgpcpjjdneimfaaDoorMem
import Derived.OpenShut
import Derived.ShutString
import Derived.ChangeOld
import Derived.Deep.Matrix
import Derived.Test.YtgpcpjjdneimfaaDoorTz
import Derived.LaidMore
import Derived.LaidLaws
import Derived.Stop.Joined
namespace Go.Proofs.YtgpcpjjdneimfaaDoor
open Go.ChangeShapes Go.WideShapes Go.ChangeAt Go.RowKit

theorem Tryd.own : ownKnob Tryd.prog.godebug = none := by kernel_rfl
theorem Tryd.laidOut : laidOutB Tryd.prog = true := by kernel_rfl

theorem byte_wf {n : Int} (h : (Lit.int .u8 n).wf = true) : 0 ≤ n ∧ n < 256 := by
  simp [Lit.wf, IntKind.min, IntKind.max, IntKind.signed, IntKind.bits] at h
  omega
theorem u32_wf {n : Int} (h : (Lit.int .u32 n).wf = true) : 0 ≤ n ∧ n < 4294967296 := by
  simp [Lit.wf, IntKind.min, IntKind.max, IntKind.signed, IntKind.bits] at h
  omega
theorem u64_wf {n : Int} (h : (Lit.int .u64 n).wf = true) : 0 ≤ n ∧ n < 18446744073709551616 := by
  simp [Lit.wf, IntKind.min, IntKind.max, IntKind.signed, IntKind.bits] at h
  omega
theorem i64_wf {n : Int} (h : (Lit.int .i64 n).wf = true) : -9223372036854775808 ≤ n ∧ n ≤ 9223372036854775807 := by
  simp [Lit.wf, IntKind.min, IntKind.max, IntKind.signed, IntKind.bits] at h
  omega
end Go.Proofs.YtgpcpjjdneimfaaDoor

namespace Go.Proofs.YtgpcpjjdneimfaaDoor
open Go.ChangeShapes Go.WideShapes Go.ChangeAt Go.RowKit

/-- The variable that a row lists. -/
def laidAll : List (String × DataW Unit) := [("math/bits.deBruijn64tab", Rows.laid_math_bits_deBruijn64tab)]
theorem door_met (os : Os) (args : Array Value) : laidMetH Tryd.prog laidAll ((World.doorLaid Tryd.prog 14 os).forCall (fun _ _ => 0) ⟨#[], args, []⟩).memory :=
  laidMetH_of_parts3 (fuel := 8) (laidMet_of_run' 8 (by kernel_rfl) (by kernel_rfl)) (by kernel_rfl) (by kernel_rfl)
theorem gTab : Tryd.prog.globalNamed "math/bits.deBruijn64tab" = some 0 := by kernel_rfl
theorem tTab : (Tryd.prog.globals[0]?).map (·.type) = some 111 := by kernel_rfl
/-- An array of small numbers, opened. -/
theorem small_numbers {H : Type} {enc : TypeId × Value → H} {W : World} {base fuel : Nat} {sp : Nat → Bool} {hd : Bool} {cs : List Value} {p : List MemPlace} {T : List Nat}
    (h : DataW.trod enc Tryd.prog W base sp hd fuel 111 cs = some (.agg (T.map fun (t : Nat) => .lit (.int .u8 (t : Int))), p)) : ∀ k, k < 64 → cs[k]? = (T[k]?).map fun (t : Nat) => Value.int .u8 (t : Int) := by
  have e1 : Tryd.prog.cellsOf 5 = 1 := by kernel_rfl
  have e9 : Tryd.prog.cellsOf 111 = 64 := by kernel_rfl
  obtain ⟨xs, m, _, hx, hl, hlen, hg⟩ := DataW.trod_array Tryd.underlying111 h
  rw [e9] at hl
  rw [e1] at hg
  simp only [Prod.mk.injEq, DataW.agg.injEq] at hx
  obtain ⟨hx, -⟩ := hx
  intro k hk
  have h1 := hg k hk
  rw [Nat.mul_one] at h1
  have hxk : xs[k]? = some (xs[k]'(by omega)) := List.getElem?_eq_getElem _
  rw [hxk] at h1
  obtain ⟨s, hs, hd', _⟩ := DataW.trod_int Tryd.underlying5 h1
  have h2 : (xs.map (·.1))[k]? = some (.lit (.int .u8 s)) := by
    rw [List.getElem?_map, hxk, hd']; rfl
  rw [← hx, List.getElem?_map] at h2
  have h3 : cs[k]? = some (.int .u8 s) := by
    have := congrArg (·[0]?) hs
    simp only [List.getElem?_take, List.getElem?_drop] at this
    simpa using this
  rw [h3]
  cases hT : T[k]? with
  | none => rw [hT] at h2; cases h2
  | some t =>
    rw [hT] at h2
    simp at h2
    subst h2
    rfl
/-- What the condition gives the walks. -/
theorem vars_of_laid {W : World} (h : laidMetH Tryd.prog laidAll W) : Vars W := by
  rw [MakeChecks.laidMetH_plain _ _ _ (by kernel_rfl)] at h
  obtain ⟨ps, ⟨g0, t0, cs0, f0, p0, q0, hg0, ht0, hv0, hd0, _, _⟩, _, _⟩ := h
  obtain rfl := Option.some.inj (gTab.symm.trans hg0)
  obtain rfl := Option.some.inj (tTab.symm.trans ht0)
  have c0 := fun k => World.var?_cell hg0 hv0 k
  have n0 := small_numbers (T := Lib.deBruijn64tab) hd0
  have z0 : ∀ k, k < 64 → W.cell? ⟨0, k, none⟩ = some (.int .u8 ((Lib.deBruijn64tab.getD k 0 : Nat) : Int)) := fun k hk => by
    have e := n0 k hk
    rw [Array.getElem?_toList] at e
    rw [c0 k, e, List.getD_eq_getElem?_getD]
    have hl : k < Lib.deBruijn64tab.length := hk
    rw [List.getElem?_eq_getElem hl]
    rfl
  have hlt := World.block_lt_of_cell? W _ (z0 0 (by omega))
  exact ⟨by have : 0 < W.heap.size := hlt; omega, z0⟩
section
variable {H : Type} {enc : TypeId × Value → H} {W : World}
set_option maxRecDepth 100000 in
theorem open_handle {base b0 : Nat} {r : Reach} {v : Value} {d : DataW H} {p : List MemPlace} {sp : Nat → Bool} {hd : Bool}
    (hval : Value.okWide Tryd.prog W r b0 42 v) (h : DataW.Trod enc Tryd.prog W base sp hd 42 v d p) : ∃ x1 x2 : Int, v = .agg #[.int .i64 x1, .int .i64 x2] ∧ (Lit.int .i64 x1).wf = true ∧ (Lit.int .i64 x2).wf = true := by
  obtain ⟨cs, rfl, _⟩ := okWide_struct Tryd.underlying42 hval
  obtain ⟨fuel, hf⟩ := h
  obtain ⟨xs, n, _, _, hl, hlen, hg⟩ := DataW.trod_struct Tryd.underlying42 hf
  have hc : Tryd.prog.cellsOf 42 = 2 := by kernel_rfl
  have e1 : Tryd.prog.cellsOf 3 = 1 := by kernel_rfl
  rw [hc] at hl
  simp only [Value.cells] at hl hg
  obtain ⟨cs⟩ := cs
  simp only at hl hg
  have g0 := hg 0 _ rfl
  have g1 := hg 1 _ rfl
  clear hg
  match cs, hl with
  | [c0, c1], _ =>
    match xs, hlen with
    | [z0, z1], _ =>
      simp [e1] at g0 g1
      obtain ⟨a0, ha0, _, wa0⟩ := DataW.trod_int Tryd.underlying3 g0
      obtain ⟨a1, ha1, _, wa1⟩ := DataW.trod_int Tryd.underlying3 g1
      simp at ha0 ha1
      subst ha0 ha1
      exact ⟨a0, a1, rfl, wa0, wa1⟩
set_option maxRecDepth 100000 in
theorem four_cells {b0 : Nat} {r : Reach} {v : Value} (hval : Value.okWide Tryd.prog W r b0 36 v) : ∃ u0 u1 u2 u3, v = .agg #[u0, u1, u2, u3] := by
  simp only [Value.okWide, Tryd.underlying36] at hval
  obtain ⟨cs, h1, h2, _⟩ := hval
  have hc : Tryd.prog.cellsOf 36 = 4 := by kernel_rfl
  rw [hc] at h2
  obtain ⟨l⟩ := cs
  match l, h2 with
  | [c0, c1, c2, c3], _ => exact ⟨c0, c1, c2, c3, h1⟩
end
end Go.Proofs.YtgpcpjjdneimfaaDoor
