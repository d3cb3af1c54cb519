/- Layer 8's plain words: a reply, its parts. No function of the program is named here. -/
import Derived.Test.YtognlgklepgemaaGreatRwB
import Derived.Test.YtognlgklepgemaaGreatPk
namespace Go.Proofs.YtognlgklepgemaaGreat
open Go.ChangeShapes Go.WideShapes Go.ChangeAt Go.RowKit
namespace Rp
/-- A reply, as a value: its numbers, and where its rows and panes lie. -/
structure V where
  k : Nat
  id : Nat
  code : Nat
  last : Bool
  ep : Nat
  fl : Nat
  un : Nat
  le : Nat
  st : Nat
  ti : Nat
  A : Option Addr
  n : Nat
  c : Nat
  G : Option Addr
  m : Nat
  d : Nat
def V.cells (x : V) : Array Value := #[.int .u8 (x.k : Int), .int .u32 (x.id : Int), .int .u16 (x.code : Int), .bool x.last, .int .u64 (x.ep : Int), .int .u64 (x.fl : Int), .int .u64 (x.un : Int), .int .u64 (x.le : Int), .int .u64 (x.st : Int), .int .u64 (x.ti : Int), .slice x.A x.n x.c, .slice x.G x.m x.d]
def V.val (x : V) : Value := .agg x.cells
def V.ok (x : V) : Prop := x.k < 256 ∧ x.id < 4294967296 ∧ x.code < 65536 ∧ x.ep < 18446744073709551616 ∧ x.fl < 18446744073709551616 ∧ x.un < 18446744073709551616 ∧ x.le < 18446744073709551616 ∧ x.st < 18446744073709551616 ∧ x.ti < 18446744073709551616
/-- Which parts a kind has, each as a letter. -/
def parts (k : Nat) : List Nat :=
  if k = 1 then [101, 108, 114] else if k = 2 ∨ k = 3 then [76, 101, 117] else if k = 4 then [101, 108, 114, 103] else if k = 5 then [101, 102, 115, 116] else if k = 7 then [99, 102] else []
/-- The reply without the part of a letter. -/
def V.blank (x : V) (c : Nat) : V :=
  if c = 101 then { x with ep := 0 } else if c = 102 then { x with fl := 0 } else if c = 117 then { x with un := 0 } else if c = 76 then { x with le := 0 } else if c = 115 then { x with st := 0 } else if c = 116 then { x with ti := 0 }
  else if c = 99 then { x with code := 0 } else if c = 108 then { x with last := false } else if c = 114 then { x with A := none, n := 0, c := 0 } else { x with G := none, m := 0, d := 0 }
def V.bare (x : V) : Bool := x.code == 0 && !x.last && x.ep == 0 && x.fl == 0 && x.un == 0 && x.le == 0 && x.st == 0 && x.ti == 0 && x.n == 0 && x.m == 0
def name (p : Pn) : Bool := decide (1 ≤ p.k.size ∧ p.k.size ≤ 32)
def rowRight (r : Rw) : Bool := name r.p && Ag.right r.a && !Ag.blank r.a
def V.kind (x : V) : Bool := decide (1 ≤ x.k ∧ x.k ≤ 7 ∧ ¬ (x.k = 7 ∧ x.code = 0) ∧ x.n + x.m ≤ 64)
def V.right (x : V) (rows : List Rw) (gone : List Pn) : Bool := x.kind && rows.all rowRight && gone.all name && ((parts x.k).foldl V.blank x).bare
/-- Its rows and panes, in memory. -/
def V.In (x : V) (w : World) (B : Nat) (rows : List Rw) (gone : List Pn) : Prop := RowsIn w B x.A x.n rows ∧ PansIn w B x.G x.m gone
/-- The letters that there are. -/
def letter (c : Nat) : Prop := c = 101 ∨ c = 102 ∨ c = 117 ∨ c = 76 ∨ c = 115 ∨ c = 116 ∨ c = 99 ∨ c = 108 ∨ c = 114 ∨ c = 103
theorem parts_letter (k : Nat) : ∀ c ∈ parts k, letter c := by
  unfold parts letter
  intro c hc
  split at hc
  · simp at hc; omega
  · split at hc
    · simp at hc; omega
    · split at hc
      · simp at hc; omega
      · split at hc
        · simp at hc; omega
        · split at hc
          · simp at hc; omega
          · simp at hc
theorem parts_len (k : Nat) : (parts k).length ≤ 4 := by
  unfold parts
  repeat' split
  all_goals simp
end Rp
end Go.Proofs.YtognlgklepgemaaGreat
