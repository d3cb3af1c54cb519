/- Layer 11, the program: an arena in memory. -/
import Derived.Test.YtgpcpjjdneimfaaDoorArN
import Derived.Test.YtgpcpjjdneimfaaDoorWk
import Derived.Test.YtgpcpjjdneimfaaDoorWh
import Derived.Laws.StructEq
namespace Go.Proofs.YtgpcpjjdneimfaaDoor
open Go.ChangeShapes Go.WideShapes Go.ChangeAt Go.RowKit

theorem Tryd.info88 : (Tryd.prog.info? 88).map (fun i => (i.zero, i.size, i.bytes)) = some (some (.agg #[.int .i64 0, .int .i64 0, .bool false, .slice none 0 0, .slice none 0 0, .slice none 0 0]), 6, 96) := by kernel_rfl
/-- The cells of a place. -/
def rowOf (i : Nat) (p : Ar.Pl) (v : NdV) : List Value := [.int .i64 (i : Int), .int .i64 (p.turn : Int), .bool p.nd.leaf, .slice v.A1 v.n1 v.c1, .slice v.A2 v.n2 v.c2, .slice v.A3 v.n3 v.c3]
def adOf (A : Option Nat) : Option Addr := A.map fun b => ⟨b, 0, none⟩
/-- The slice of the places. -/
def CellsB (w : World) (A : Option Nat) (c : Nat) (L : List Ar.Pl) (V : List NdV) : Prop :=
  match A with
  | none => L = [] ∧ c = 0
  | some b => ∃ cs, Blk w b 88 cs ∧ L.length ≤ c ∧ c ≤ maxLen ∧ cs.size = c * 6 ∧ ∀ (i : Nat) (p : Ar.Pl) (v : NdV), L[i]? = some p → V[i]? = some v → ∀ j, j < 6 → cs[i * 6 + j]? = (rowOf i p v)[j]?
/-- The numbers that are free. -/
def Fr (L : List Ar.Pl) : Nat → Prop := fun n => ∃ p, L[n]? = some p ∧ p.used = false
/-- How many are free. -/
def freeN (L : List Ar.Pl) : Nat := L.countP fun p => !p.used
/-- Block g is an arena, of the blocks P, that has the places L. -/
structure ArMem (w : World) (P : Nat → Prop) (g : Nat) (L : List Ar.Pl) (A : Option Nat) (c : Nat) (mv : Option Nat) (f : Nat → Nat → Nat) (V : List NdV) : Prop where
  blk : Blk w g 73 #[.slice (adOf A) L.length c, .map mv, .int .i64 (freeN L : Int)]
  cells : CellsB w A c L V
  words : Words w mv f
  rep : Wt.Rep (Fr L) f
  nd : ∀ (i : Nat) (p : Ar.Pl) (v : NdV), L[i]? = some p → V[i]? = some v → NdIn w (fun b => P b ∧ b ≠ g ∧ A ≠ some b ∧ mv ≠ some b) v p.nd
  len : V.length = L.length
  pg : P g
  pA : ∀ b, A = some b → P b
  pmv : ∀ mb, mv = some mb → P mb
  low : ∀ b, P b → 0 < b
def ArIn (w : World) (P : Nat → Prop) (g : Nat) (L : List Ar.Pl) : Prop := ∃ A c mv f V, ArMem w P g L A c mv f V
/-- Few places, given few times. -/
structure Few (L : List Ar.Pl) (k : Nat) : Prop where
  len : L.length ≤ k
  turn : ∀ (i : Nat) (p : Ar.Pl), L[i]? = some p → p.turn ≤ k
section
variable {w w' : World} {P G : Nat → Prop} {g : Nat} {L : List Ar.Pl} {A : Option Nat} {c : Nat} {mv : Option Nat} {f : Nat → Nat → Nat} {V : List NdV}
theorem CellsB.turn (h : CellsB w A c L V) (ht : Turns G w w') (hd : ∀ b, A = some b → ¬ G b) : CellsB w' A c L V := by
  cases A with
  | none => exact h
  | some b =>
    obtain ⟨cs, h1, h2⟩ := h
    exact ⟨cs, ht.blk h1 (hd b rfl), h2⟩
theorem ArMem.turn (h : ArMem w P g L A c mv f V) (ht : Turns G w w') (hd : ∀ b, P b → ¬ G b) : ArMem w' P g L A c mv f V where
  blk := ht.blk h.blk (hd g h.pg)
  cells := h.cells.turn ht fun b e => hd b (h.pA b e)
  words := h.words.keep fun mb e => by
    subst e
    exact ht.block mb h.words.lt (hd mb (h.pmv mb rfl))
  rep := h.rep
  nd := fun i p v hp hv => (h.nd i p v hp hv).turn ht fun b hb => hd b hb.1
  len := h.len
  pg := h.pg
  pA := h.pA
  pmv := h.pmv
  low := h.low
theorem ArMem.below (h : ArMem w P g L A c mv f V) (hb : Below w.heap.size w w') : ArMem w' P g L A c mv f V := h.turn (G := fun _ => False) (Turns.of_below hb) fun _ _ e => e
theorem ArIn.turn (h : ArIn w P g L) (ht : Turns G w w') (hd : ∀ b, P b → ¬ G b) : ArIn w' P g L := by
  obtain ⟨A, c, mv, f, V, h⟩ := h
  exact ⟨A, c, mv, f, V, h.turn ht hd⟩
theorem ArIn.below (h : ArIn w P g L) (hb : Below w.heap.size w w') : ArIn w' P g L := h.turn (G := fun _ => False) (Turns.of_below hb) fun _ _ e => e
/-- The blocks may be more. -/
theorem ArMem.mono (h : ArMem w P g L A c mv f V) (hP : ∀ b, P b → G b) (hG : ∀ b, G b → 0 < b) : ArMem w G g L A c mv f V where
  blk := h.blk
  cells := h.cells
  words := h.words
  rep := h.rep
  nd := fun i p v hp hv => (h.nd i p v hp hv).mono fun b _ hb => ⟨hP b hb.1, hb.2⟩
  len := h.len
  pg := hP g h.pg
  pA := fun b e => hP b (h.pA b e)
  pmv := fun b e => hP b (h.pmv b e)
  low := hG
theorem ArIn.mono (h : ArIn w P g L) (hP : ∀ b, P b → G b) (hG : ∀ b, G b → 0 < b) : ArIn w G g L := by
  obtain ⟨A, c, mv, f, V, h⟩ := h
  exact ⟨A, c, mv, f, V, h.mono hP hG⟩
theorem ArMem.view (h : ArMem w P g L A c mv f V) {i : Nat} {p : Ar.Pl} (hp : L[i]? = some p) : ∃ v, V[i]? = some v := by
  have : i < V.length := by
    rw [h.len]
    exact (List.getElem?_eq_some_iff.1 hp).1
  exact ⟨V[i], List.getElem?_eq_getElem this⟩
/-- A place's cells. -/
theorem CellsB.at_ (h : CellsB w A c L V) {i : Nat} {p : Ar.Pl} {v : NdV} (hp : L[i]? = some p) (hv : V[i]? = some v) : ∃ b, A = some b ∧ ∀ j, j < 6 → w.cell? ⟨b, i * 6 + j, none⟩ = (rowOf i p v)[j]? := by
  cases A with
  | none => rw [h.1] at hp; cases hp
  | some b =>
    obtain ⟨cs, h1, _, _, _, h5⟩ := h
    exact ⟨b, rfl, fun j hj => (h1.cell _).trans (h5 i p v hp hv j hj)⟩
theorem CellsB.cap (h : CellsB w A c L V) : L.length ≤ c := by
  cases A with
  | none => rw [h.1]; simp
  | some b => exact h.choose_spec.2.1
theorem Fr.get {i : Nat} {p : Ar.Pl} (hp : L[i]? = some p) : Fr L i ↔ p.used = false := by
  constructor
  · rintro ⟨q, hq, hu⟩
    rw [hp] at hq
    cases hq
    exact hu
  · intro hu
    exact ⟨p, hp, hu⟩
end
theorem handle_guard : Tryd.prog.eqGuardType Tryd.prog.depth 42 = false := by kernel_rfl
theorem handle_same (a b x y : Int) (w : World) : (Op.equalIn 10000 42 (.agg #[.int .i64 a, .int .i64 b]) (.agg #[.int .i64 x, .int .i64 y])).run Tryd.prog w = .ok (decide (a = x) && decide (b = y)) w := by
  have hS : Tryd.prog.underlying 42 = some (.struct (Tryd.prog.fieldsOf 42)) := by kernel_rfl
  have hp : Tryd.prog.stoodInHeld 42 = false := by kernel_rfl
  rw [show (10000 : Nat) = 9999 + 1 from rfl, run_equalIn_agg w 9999 42 _ _ hS hp]
  simp only [Program.fieldsOf, Tryd.underlying42]
  go_simp
  (repeat' split) <;> simp [*]
end Go.Proofs.YtgpcpjjdneimfaaDoor
