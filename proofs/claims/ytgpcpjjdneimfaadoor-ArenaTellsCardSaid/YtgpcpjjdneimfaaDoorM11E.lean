/- How the calls of stage 11's statements are opened: a row of acts that came in, each with a node and handles. -/
import Derived.Test.YtgpcpjjdneimfaaDoorMem
import Derived.OpenShut
import Derived.ShutString
import Derived.ChangeOld
import Derived.Deep.Matrix
import Derived.Test.YtgpcpjjdneimfaaDoorTz
import Derived.LaidMore
import Derived.LaidLaws
import Derived.Stop.Joined
import Derived.Test.YtgpcpjjdneimfaaDoorM11D
import Derived.Deep.Slices
import Derived.Deep.Strs
namespace Go.Proofs.YtgpcpjjdneimfaaDoor
open Go.ChangeShapes Go.WideShapes Go.ChangeAt Go.RowKit

theorem Tryd.own : ownKnob Tryd.prog.godebug = none := by kernel_rfl
theorem Tryd.laidOut : laidOutB Tryd.prog = true := by kernel_rfl

theorem byte_wf {n : Int} (h : (Lit.int .u8 n).wf = true) : 0 ≤ n ∧ n < 256 := by
  simp [Lit.wf, IntKind.min, IntKind.max, IntKind.signed, IntKind.bits] at h
  omega
theorem u32_wf {n : Int} (h : (Lit.int .u32 n).wf = true) : 0 ≤ n ∧ n < 4294967296 := by
  simp [Lit.wf, IntKind.min, IntKind.max, IntKind.signed, IntKind.bits] at h
  omega
theorem u64_wf {n : Int} (h : (Lit.int .u64 n).wf = true) : 0 ≤ n ∧ n < 18446744073709551616 := by
  simp [Lit.wf, IntKind.min, IntKind.max, IntKind.signed, IntKind.bits] at h
  omega
theorem i64_wf {n : Int} (h : (Lit.int .i64 n).wf = true) : -9223372036854775808 ≤ n ∧ n ≤ 9223372036854775807 := by
  simp [Lit.wf, IntKind.min, IntKind.max, IntKind.signed, IntKind.bits] at h
  omega
end Go.Proofs.YtgpcpjjdneimfaaDoor

namespace Go.Proofs.YtgpcpjjdneimfaaDoor
open Go.ChangeShapes Go.WideShapes Go.ChangeAt Go.RowKit

/-- The variable that a row lists. -/
def laidAll : List (String × DataW Unit) := [("math/bits.deBruijn64tab", Rows.laid_math_bits_deBruijn64tab)]
theorem door_met (os : Os) (args : Array Value) : laidMetH Tryd.prog laidAll ((World.doorLaid Tryd.prog 14 os).forCall (fun _ _ => 0) ⟨#[], args, []⟩).memory :=
  laidMetH_of_parts3 (fuel := 8) (laidMet_of_run' 8 (by kernel_rfl) (by kernel_rfl)) (by kernel_rfl) (by kernel_rfl)
theorem gTab : Tryd.prog.globalNamed "math/bits.deBruijn64tab" = some 0 := by kernel_rfl
theorem tTab : (Tryd.prog.globals[0]?).map (·.type) = some 111 := by kernel_rfl
/-- An array of small numbers, opened. -/
theorem small_numbers {H : Type} {enc : TypeId × Value → H} {W : World} {base fuel : Nat} {sp : Nat → Bool} {hd : Bool} {cs : List Value} {p : List MemPlace} {T : List Nat}
    (h : DataW.trod enc Tryd.prog W base sp hd fuel 111 cs = some (.agg (T.map fun (t : Nat) => .lit (.int .u8 (t : Int))), p)) : ∀ k, k < 64 → cs[k]? = (T[k]?).map fun (t : Nat) => Value.int .u8 (t : Int) := by
  have e1 : Tryd.prog.cellsOf 5 = 1 := by kernel_rfl
  have e9 : Tryd.prog.cellsOf 111 = 64 := by kernel_rfl
  obtain ⟨xs, m, _, hx, hl, hlen, hg⟩ := DataW.trod_array Tryd.underlying111 h
  rw [e9] at hl
  rw [e1] at hg
  simp only [Prod.mk.injEq, DataW.agg.injEq] at hx
  obtain ⟨hx, -⟩ := hx
  intro k hk
  have h1 := hg k hk
  rw [Nat.mul_one] at h1
  have hxk : xs[k]? = some (xs[k]'(by omega)) := List.getElem?_eq_getElem _
  rw [hxk] at h1
  obtain ⟨s, hs, hd', _⟩ := DataW.trod_int Tryd.underlying5 h1
  have h2 : (xs.map (·.1))[k]? = some (.lit (.int .u8 s)) := by
    rw [List.getElem?_map, hxk, hd']; rfl
  rw [← hx, List.getElem?_map] at h2
  have h3 : cs[k]? = some (.int .u8 s) := by
    have := congrArg (·[0]?) hs
    simp only [List.getElem?_take, List.getElem?_drop] at this
    simpa using this
  rw [h3]
  cases hT : T[k]? with
  | none => rw [hT] at h2; cases h2
  | some t =>
    rw [hT] at h2
    simp at h2
    subst h2
    rfl
/-- What the condition gives the walks. -/
theorem vars_of_laid {W : World} (h : laidMetH Tryd.prog laidAll W) : Vars W := by
  rw [MakeChecks.laidMetH_plain _ _ _ (by kernel_rfl)] at h
  obtain ⟨ps, ⟨g0, t0, cs0, f0, p0, q0, hg0, ht0, hv0, hd0, _, _⟩, _, _⟩ := h
  obtain rfl := Option.some.inj (gTab.symm.trans hg0)
  obtain rfl := Option.some.inj (tTab.symm.trans ht0)
  have c0 := fun k => World.var?_cell hg0 hv0 k
  have n0 := small_numbers (T := Lib.deBruijn64tab) hd0
  have z0 : ∀ k, k < 64 → W.cell? ⟨0, k, none⟩ = some (.int .u8 ((Lib.deBruijn64tab.getD k 0 : Nat) : Int)) := fun k hk => by
    have e := n0 k hk
    rw [Array.getElem?_toList] at e
    rw [c0 k, e, List.getD_eq_getElem?_getD]
    have hl : k < Lib.deBruijn64tab.length := hk
    rw [List.getElem?_eq_getElem hl]
    rfl
  have hlt := World.block_lt_of_cell? W _ (z0 0 (by omega))
  exact ⟨by have : 0 < W.heap.size := hlt; omega, z0⟩
section
variable {H : Type} {enc : TypeId × Value → H} {W : World}
set_option maxRecDepth 100000 in
theorem open_handle {base b0 : Nat} {r : Reach} {v : Value} {d : DataW H} {p : List MemPlace} {sp : Nat → Bool} {hd : Bool}
    (hval : Value.okWide Tryd.prog W r b0 42 v) (h : DataW.Trod enc Tryd.prog W base sp hd 42 v d p) : ∃ x1 x2 : Int, v = .agg #[.int .i64 x1, .int .i64 x2] ∧ (Lit.int .i64 x1).wf = true ∧ (Lit.int .i64 x2).wf = true := by
  obtain ⟨cs, rfl, _⟩ := okWide_struct Tryd.underlying42 hval
  obtain ⟨fuel, hf⟩ := h
  obtain ⟨xs, n, _, _, hl, hlen, hg⟩ := DataW.trod_struct Tryd.underlying42 hf
  have hc : Tryd.prog.cellsOf 42 = 2 := by kernel_rfl
  have e1 : Tryd.prog.cellsOf 3 = 1 := by kernel_rfl
  rw [hc] at hl
  simp only [Value.cells] at hl hg
  obtain ⟨cs⟩ := cs
  simp only at hl hg
  have g0 := hg 0 _ rfl
  have g1 := hg 1 _ rfl
  clear hg
  match cs, hl with
  | [c0, c1], _ =>
    match xs, hlen with
    | [z0, z1], _ =>
      simp [e1] at g0 g1
      obtain ⟨a0, ha0, _, wa0⟩ := DataW.trod_int Tryd.underlying3 g0
      obtain ⟨a1, ha1, _, wa1⟩ := DataW.trod_int Tryd.underlying3 g1
      simp at ha0 ha1
      subst ha0 ha1
      exact ⟨a0, a1, rfl, wa0, wa1⟩
set_option maxRecDepth 100000 in
theorem four_cells {b0 : Nat} {r : Reach} {v : Value} (hval : Value.okWide Tryd.prog W r b0 36 v) : ∃ u0 u1 u2 u3, v = .agg #[u0, u1, u2, u3] := by
  simp only [Value.okWide, Tryd.underlying36] at hval
  obtain ⟨cs, h1, h2, _⟩ := hval
  have hc : Tryd.prog.cellsOf 36 = 4 := by kernel_rfl
  rw [hc] at h2
  obtain ⟨l⟩ := cs
  match l, h2 with
  | [c0, c1, c2, c3], _ => exact ⟨c0, c1, c2, c3, h1⟩
end
end Go.Proofs.YtgpcpjjdneimfaaDoor

namespace Go.Proofs.YtgpcpjjdneimfaaDoor
open Go.ChangeShapes Go.WideShapes Go.ChangeAt Go.RowKit

theorem flat_at {α : Type} {row : α → List Value} {s : Nat} (hrow : ∀ a, (row a).length = s) (l : List α) (i : Nat) (a : α) (h : l[i]? = some a) (q : Nat) (hq : q < s) : (l.flatMap row)[i * s + q]? = (row a)[q]? := by
  induction l generalizing i with
  | nil => simp at h
  | cons y r ih =>
    rw [List.flatMap_cons]
    cases i with
    | zero =>
      simp at h
      subst h
      rw [Nat.zero_mul, Nat.zero_add, List.getElem?_append_left (by rw [hrow]; exact hq)]
    | succ i =>
      simp at h
      rw [List.getElem?_append_right (by rw [hrow, Nat.add_mul]; omega), hrow, show (i + 1) * s + q - s = i * s + q by rw [Nat.add_mul]; omega]
      exact ih i h
theorem flat_len {α : Type} {row : α → List Value} {s : Nat} (hrow : ∀ a, (row a).length = s) (l : List α) : (l.flatMap row).length = l.length * s := by
  induction l with
  | nil => simp
  | cons y r ih =>
    rw [List.flatMap_cons, List.length_append, hrow, ih, List.length_cons, Nat.add_mul]
    omega
section
variable {H : Type} {enc : TypeId × Value → H} {W : World} {base : Nat} {sp : Nat → Bool} {hd : Bool}
/-- A row of things of s cells each, opened. -/
theorem open_row {α : Type} [Inhabited α] (row : α → List Value) (s : Nat) (good : α → Prop) {T E : TypeId} {fuel len cap : Nat} {A : Option Addr} {x : DataW H × List MemPlace} (hT : Tryd.prog.underlying T = some (.slice E)) (hE : Tryd.prog.cellsOf E = s) (hs : 0 < s) (hrow : ∀ a, (row a).length = s)
    (dec : ∀ n cs y, DataW.trod enc Tryd.prog W base sp hd n E cs = some y → ∃ a, cs = row a ∧ good a)
    (h : DataW.trod enc Tryd.prog W base sp hd fuel T [.slice A len cap] = some x) :
    ∃ l : List α, l.length = len ∧ Cells W (fun b => b < W.heap.size) A len s (l.flatMap row) ∧ (∀ a ∈ l, good a) ∧ len ≤ cap ∧ cap ≤ maxLen := by
  rcases Deep.open_slice hT h with ⟨hcs, _⟩ | ⟨p, l, c, m, n, D, Pl, hcs, _, hl, hm, hmm, _, hel⟩
  · simp at hcs
    obtain ⟨rfl, rfl, rfl⟩ := hcs
    exact ⟨[], rfl, by simpa using Cells.nil W (fun b => b < W.heap.size) none s, by simp, by omega, by omega⟩
  · simp at hcs
    obtain ⟨rfl, rfl, rfl⟩ := hcs
    have hlm : len ≤ m := by rw [hmm]; split <;> omega
    rw [hE] at hel
    have key : ∀ i, ∃ q : α, i < m → (∀ j, j < s → W.cell? ((p.add (i * s)).add j) = (row q)[j]?) ∧ good q := by
      intro i
      by_cases hi : i < m
      · obtain ⟨cs, h1, h2⟩ := hel i hi
        obtain ⟨q, rfl, hq⟩ := dec _ _ _ h2
        exact ⟨q, fun _ => ⟨(World.cells?_some h1).2.2, hq⟩⟩
      · exact ⟨default, fun h => absurd h hi⟩
    obtain ⟨f, hf'⟩ := Classical.axiomOfChoice key
    refine ⟨(List.range len).map f, by simp, ⟨by rw [flat_len hrow]; simp, fun h0 => ?_⟩, fun o ho => ?_, hl, hm⟩
    · have hc0 := (hf' 0 (by omega)).1 0 hs
      obtain ⟨u0, hu0⟩ : ∃ u, (row (f 0))[0]? = some u := ⟨_, List.getElem?_eq_getElem (by rw [hrow]; exact hs)⟩
      rw [hu0] at hc0
      have hspot : p.spot = none := by
        have := World.cell?_spot hc0
        simpa [Addr.add] using this
      obtain ⟨b, off, spot⟩ := p
      simp only at hspot
      subst hspot
      rw [add_at, add_at] at hc0
      have hlt := block_lt_of_cell hc0
      refine ⟨b, off, rfl, hlt, hlt, fun j u hj => ?_⟩
      have hjl : j < len * s := by
        have := (List.getElem?_eq_some_iff.1 hj).1
        rw [flat_len hrow] at this
        simpa using this
      have hi : j / s < len := Nat.div_lt_of_lt_mul (by rw [Nat.mul_comm]; exact hjl)
      have hq : j % s < s := Nat.mod_lt _ hs
      have he : j / s * s + j % s = j := Nat.div_add_mod' j s
      have h3 := (hf' (j / s) (by omega)).1 (j % s) hq
      rw [add_at, add_at] at h3
      have h4 := flat_at hrow ((List.range len).map f) (j / s) (f (j / s)) (by rw [List.getElem?_map, List.getElem?_range hi]; rfl) (j % s) hq
      rw [he, hj] at h4
      rw [← h4, Nat.add_assoc, he] at h3
      exact h3
    · obtain ⟨i, hi, rfl⟩ := List.mem_map.1 ho
      exact (hf' i (by have := List.mem_range.1 hi; omega)).2
theorem slice_form {T E : TypeId} {fuel : Nat} {cs : List Value} {x : DataW H × List MemPlace} (hT : Tryd.prog.underlying T = some (.slice E)) (h : DataW.trod enc Tryd.prog W base sp hd fuel T cs = some x) : ∃ A len cap, cs = [.slice A len cap] := by
  rcases Deep.open_slice hT h with ⟨hcs, _⟩ | ⟨p, l, c, m, n, D, Pl, hcs, _⟩
  · exact ⟨none, 0, 0, hcs⟩
  · exact ⟨_, _, _, hcs⟩
theorem strL_flat (l : List ByteArray) : (l.flatMap fun s => [Value.string s]) = strL l := by
  induction l with
  | nil => rfl
  | cons y r ih =>
    rw [List.flatMap_cons, ih]
    rfl
theorem intL_flat (l : List Int) : (l.flatMap fun s => [Value.int .i64 s]) = intL l := by
  induction l with
  | nil => rfl
  | cons y r ih =>
    rw [List.flatMap_cons, ih]
    rfl
instance : Inhabited Ac := ⟨⟨0, NdV.blank, Ar.Nd.blank, none, 0, 0, []⟩⟩
theorem read_strs {fuel : Nat} {cs : List Value} {x : DataW H × List MemPlace} (h : DataW.trod enc Tryd.prog W base sp hd fuel 32 cs = some x) : ∃ A len cap l, cs = [.slice A len cap] ∧ Cells W (fun b => b < W.heap.size) A len 1 (strL l) := by
  obtain ⟨A, len, cap, rfl⟩ := slice_form Tryd.underlying32 h
  obtain ⟨l, -, hc, -⟩ := open_row (fun s : ByteArray => [Value.string s]) 1 (fun _ => True) Tryd.underlying32 (by kernel_rfl) (by omega) (fun _ => rfl) (fun n cs y hy => by
    obtain ⟨s, hs, -, -⟩ := DataW.trod_string Tryd.underlying9 hy
    exact ⟨s, hs, trivial⟩) h
  rw [strL_flat] at hc
  exact ⟨A, len, cap, l, rfl, hc⟩
theorem read_ints {fuel : Nat} {cs : List Value} {x : DataW H × List MemPlace} (h : DataW.trod enc Tryd.prog W base sp hd fuel 34 cs = some x) : ∃ A len cap l, cs = [.slice A len cap] ∧ Cells W (fun b => b < W.heap.size) A len 1 (intL l) := by
  obtain ⟨A, len, cap, rfl⟩ := slice_form Tryd.underlying34 h
  obtain ⟨l, -, hc, -⟩ := open_row (fun s : Int => [Value.int .i64 s]) 1 (fun _ => True) Tryd.underlying34 (by kernel_rfl) (by omega) (fun _ => rfl) (fun n cs y hy => by
    obtain ⟨s, hs, -, -⟩ := DataW.trod_int Tryd.underlying3 hy
    exact ⟨s, hs, trivial⟩) h
  rw [intL_flat] at hc
  exact ⟨A, len, cap, l, rfl, hc⟩
set_option maxRecDepth 100000 in
theorem read_han {fuel : Nat} {cs : List Value} {x : DataW H × List MemPlace} (h : DataW.trod enc Tryd.prog W base sp hd fuel 42 cs = some x) : ∃ y : Int × Int, cs = [.int .i64 y.1, .int .i64 y.2] := by
  obtain ⟨xs, n, _, _, hl, hlen, hg⟩ := DataW.trod_struct Tryd.underlying42 h
  have hc : Tryd.prog.cellsOf 42 = 2 := by kernel_rfl
  have e1 : Tryd.prog.cellsOf 3 = 1 := by kernel_rfl
  rw [hc] at hl
  have g0 := hg 0 _ rfl
  have g1 := hg 1 _ rfl
  clear hg
  match cs, hl with
  | [c0, c1], _ =>
    match xs, hlen with
    | [z0, z1], _ =>
      simp [e1] at g0 g1
      obtain ⟨a0, ha0, _, _⟩ := DataW.trod_int Tryd.underlying3 g0
      obtain ⟨a1, ha1, _, _⟩ := DataW.trod_int Tryd.underlying3 g1
      simp at ha0 ha1
      subst ha0 ha1
      exact ⟨(a0, a1), rfl⟩
theorem read_hans {fuel : Nat} {cs : List Value} {x : DataW H × List MemPlace} (h : DataW.trod enc Tryd.prog W base sp hd fuel 33 cs = some x) : ∃ A len cap l, cs = [.slice A len cap] ∧ Cells W (fun b => b < W.heap.size) A len 2 (hanL l) := by
  obtain ⟨A, len, cap, rfl⟩ := slice_form Tryd.underlying33 h
  obtain ⟨l, -, hc, -⟩ := open_row (fun s : Int × Int => [Value.int .i64 s.1, .int .i64 s.2]) 2 (fun _ => True) Tryd.underlying33 (by kernel_rfl) (by omega) (fun _ => rfl) (fun n cs y hy => by
    obtain ⟨s, hs⟩ := read_han hy
    exact ⟨s, hs, trivial⟩) h
  exact ⟨A, len, cap, l, rfl, hc⟩
set_option maxRecDepth 100000 in
/-- A node's four cells. -/
theorem read_node {fuel : Nat} {cs : List Value} {x : DataW H × List MemPlace} (h : DataW.trod enc Tryd.prog W base sp hd fuel 36 cs = some x) : ∃ (v : NdV) (d : Ar.Nd), cs = [.bool d.leaf, .slice v.A1 v.n1 v.c1, .slice v.A2 v.n2 v.c2, .slice v.A3 v.n3 v.c3] ∧ Cells W (fun b => b < W.heap.size) v.A1 v.n1 1 (strL d.keys) ∧ Cells W (fun b => b < W.heap.size) v.A2 v.n2 2 (hanL d.kids) ∧ Cells W (fun b => b < W.heap.size) v.A3 v.n3 1 (intL d.vals) := by
  obtain ⟨xs, n, _, _, hl, hlen, hg⟩ := DataW.trod_struct Tryd.underlying36 h
  have hc : Tryd.prog.cellsOf 36 = 4 := by kernel_rfl
  have e1 : Tryd.prog.cellsOf 4 = 1 := by kernel_rfl
  have e2 : Tryd.prog.cellsOf 32 = 1 := by kernel_rfl
  have e3 : Tryd.prog.cellsOf 33 = 1 := by kernel_rfl
  have e4 : Tryd.prog.cellsOf 34 = 1 := by kernel_rfl
  rw [hc] at hl
  have g0 := hg 0 _ rfl
  have g1 := hg 1 _ rfl
  have g2 := hg 2 _ rfl
  have g3 := hg 3 _ rfl
  clear hg
  match cs, hl with
  | [c0, c1, c2, c3], _ =>
    match xs, hlen with
    | [z0, z1, z2, z3], _ =>
      simp [e1, e2, e3, e4] at g0 g1 g2 g3
      obtain ⟨b, hb, _⟩ := DataW.trod_bool Tryd.underlying4 g0
      obtain ⟨A1, n1, k1, l1, h1, q1⟩ := read_strs g1
      obtain ⟨A2, n2, k2, l2, h2, q2⟩ := read_hans g2
      obtain ⟨A3, n3, k3, l3, h3, q3⟩ := read_ints g3
      simp at hb h1 h2 h3
      subst hb h1 h2 h3
      exact ⟨⟨A1, n1, k1, A2, n2, k2, A3, n3, k3⟩, ⟨b, l1, l2, l3⟩, rfl, q1, q2, q3⟩
set_option maxRecDepth 100000 in
theorem read_act {fuel : Nat} {cs : List Value} {x : DataW H × List MemPlace} (h : DataW.trod enc Tryd.prog W base sp hd fuel 38 cs = some x) : ∃ a : Ac, cs = acRow a ∧ AcRaw W (fun b => b < W.heap.size) a := by
  obtain ⟨xs, n, _, _, hl, hlen, hg⟩ := DataW.trod_struct Tryd.underlying38 h
  have hc : Tryd.prog.cellsOf 38 = 6 := by kernel_rfl
  have e1 : Tryd.prog.cellsOf 3 = 1 := by kernel_rfl
  have e2 : Tryd.prog.cellsOf 36 = 4 := by kernel_rfl
  have e3 : Tryd.prog.cellsOf 33 = 1 := by kernel_rfl
  rw [hc] at hl
  have g0 := hg 0 _ rfl
  have g1 := hg 1 _ rfl
  have g2 := hg 2 _ rfl
  clear hg
  match cs, hl with
  | [c0, c1, c2, c3, c4, c5], _ =>
    match xs, hlen with
    | [z0, z1, z2], _ =>
      simp [e1, e2, e3] at g0 g1 g2
      obtain ⟨i, hi, _, _⟩ := DataW.trod_int Tryd.underlying3 g0
      obtain ⟨v, d, hv, q1, q2, q3⟩ := read_node g1
      obtain ⟨A, m, k, l, h2, q⟩ := read_hans g2
      simp at hi hv h2
      obtain ⟨rfl, rfl, rfl, rfl⟩ := hv
      subst hi h2
      exact ⟨⟨i, v, d, A, m, k, l⟩, rfl, q1, q2, q3, q⟩
theorem open_acts {A : Option Addr} {len cap : Nat} {D : DataW H} {p : List MemPlace} (h : DataW.Trod enc Tryd.prog W base sp hd 22 (.slice A len cap) D p) : ∃ q : List Ac, ActIn W (fun b => b < W.heap.size) A len q ∧ len ≤ cap ∧ cap ≤ maxLen := by
  obtain ⟨fuel, hf⟩ := h
  obtain ⟨l, hll, hc, hg, h1, h2⟩ := open_row acRow 6 (AcRaw W (fun b => b < W.heap.size)) Tryd.underlying22 (by kernel_rfl) (by omega) (fun _ => rfl) (fun n cs y hy => read_act hy) hf
  refine ⟨l, ⟨hll, fun h0 => ?_, fun i a hi => hg a (List.mem_of_getElem? hi)⟩, h1, h2⟩
  obtain ⟨b, off, rfl, hb, hb', hcc⟩ := hc.2 h0
  refine ⟨b, off, rfl, hb, hb', fun i a hi j hj => ?_⟩
  have h3 := flat_at (row := acRow) (s := 6) (fun _ => rfl) l i a hi j hj
  obtain ⟨u, hu⟩ : ∃ u, (acRow a)[j]? = some u := ⟨_, List.getElem?_eq_getElem (by show j < 6; exact hj)⟩
  rw [hu] at h3 ⊢
  rw [Nat.add_assoc]
  exact hcc _ _ h3
set_option maxRecDepth 100000 in
/-- A node that came in by itself. -/
theorem open_node {b0 : Nat} {r : Reach} {v : Value} {D : DataW H} {p : List MemPlace} (hval : Value.okWide Tryd.prog W r b0 36 v) (h : DataW.Trod enc Tryd.prog W base sp hd 36 v D p) : ∃ (u : NdV) (d : Ar.Nd), v = .agg #[.bool d.leaf, .slice u.A1 u.n1 u.c1, .slice u.A2 u.n2 u.c2, .slice u.A3 u.n3 u.c3] ∧ AcRaw W (fun b => b < W.heap.size) ⟨0, u, d, none, 0, 0, []⟩ := by
  obtain ⟨cs, rfl, _⟩ := okWide_struct Tryd.underlying36 hval
  obtain ⟨fuel, hf⟩ := h
  obtain ⟨cs⟩ := cs
  obtain ⟨u, d, hc, q1, q2, q3⟩ := read_node hf
  simp only [Value.cells] at hc
  subst hc
  exact ⟨u, d, rfl, q1, q2, q3, Cells.nil _ _ _ _⟩
end
end Go.Proofs.YtgpcpjjdneimfaaDoor
