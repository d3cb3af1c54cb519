/- Layer 9's plain words: a request, its parts, when it is right, its bytes. No function of the program is named here. -/
import Derived.Test.YtgailpljcobabaaDoorMem
import Derived.Test.YtgailpljcobabaaDoorPk
namespace Go.Proofs.YtgailpljcobabaaDoor
open Go.ChangeShapes Go.WideShapes Go.ChangeAt Go.RowKit
namespace Rq
/-- A request, as a value. -/
structure V where
  k : Nat
  id : Nat
  pg : Nat
  du : Nat
  at_ : Nat
  le : Nat
  so : Nat
  ky : ByteArray
  to : ByteArray
  lo : Int
  hi : Int
def V.cells (x : V) : Array Value := #[.int .u8 (x.k : Int), .int .u32 (x.id : Int), .int .u8 (x.pg : Int), .int .u16 (x.du : Int), .int .u64 (x.at_ : Int), .int .u64 (x.le : Int), .int .u8 (x.so : Int), .string x.ky, .string x.to, .int .i64 x.lo, .int .i64 x.hi]
def V.val (x : V) : Value := .agg x.cells
def V.ok (x : V) : Prop := x.k < 256 ∧ x.id < 4294967296 ∧ x.pg < 256 ∧ x.du < 65536 ∧ x.at_ < 18446744073709551616 ∧ x.le < 18446744073709551616 ∧ x.so < 256 ∧ (-9223372036854775808 ≤ x.lo ∧ x.lo ≤ 9223372036854775807) ∧ (-9223372036854775808 ≤ x.hi ∧ x.hi ≤ 9223372036854775807)
/-- A request of a kind and an id alone. -/
def only (k id : Nat) : V := ⟨k, id, 0, 0, 0, 0, 0, ⟨#[]⟩, ⟨#[]⟩, 0, 0⟩
/-- A kind's parts, as letters; and as the fields that they are. -/
def letters (k : Nat) : List Nat :=
  if k = 1 then [65, 80, 87] else if k = 2 then [65, 68] else if k = 3 then [76, 68] else if k = 4 then [76] else if k = 5 then [68, 87] else if k = 6 then [76, 80, 68] else if k = 7 then [76] else []
def fields (c : Nat) : List Nat := if c = 65 then [4] else if c = 76 then [5] else if c = 80 then [2] else if c = 68 then [3] else if c = 87 then [6, 7, 8, 9, 10] else []
def fparts (k : Nat) : List Nat := (letters k).flatMap fields
theorem fparts_1 : fparts 1 = [4, 2, 6, 7, 8, 9, 10] := rfl
theorem fparts_2 : fparts 2 = [4, 3] := rfl
theorem fparts_3 : fparts 3 = [5, 3] := rfl
theorem fparts_4 : fparts 4 = [5] := rfl
theorem fparts_5 : fparts 5 = [3, 6, 7, 8, 9, 10] := rfl
theorem fparts_6 : fparts 6 = [5, 2, 3] := rfl
theorem fparts_7 : fparts 7 = [5] := rfl
theorem fparts_8 : fparts 8 = [] := rfl
def word (k : Nat) : List Nat :=
  if k = 1 then [97, 115, 107] else if k = 2 then [103, 114, 97, 110, 116] else if k = 3 then [114, 101, 110, 101, 119] else if k = 4 then [114, 101, 108, 101, 97, 115, 101] else if k = 5 then [111, 112, 101, 110] else if k = 6 then [112, 111, 108, 108] else if k = 7 then [99, 108, 111, 115, 101] else if k = 8 then [115, 116, 97, 116, 117, 115] else []
def isK (k : Nat) : Bool := decide (1 ≤ k ∧ k ≤ 8)
theorem isK_cases {k : Nat} (h : isK k = true) : k = 1 ∨ k = 2 ∨ k = 3 ∨ k = 4 ∨ k = 5 ∨ k = 6 ∨ k = 7 ∨ k = 8 := by
  have := of_decide_eq_true h
  omega
theorem letters_no {k : Nat} (h : isK k = false) : letters k = [] := by
  have : ¬ (1 ≤ k ∧ k ≤ 8) := of_decide_eq_false h
  unfold letters
  rw [if_neg (by omega), if_neg (by omega), if_neg (by omega), if_neg (by omega), if_neg (by omega), if_neg (by omega), if_neg (by omega)]
theorem word_no {k : Nat} (h : isK k = false) : word k = [] := by
  have : ¬ (1 ≤ k ∧ k ≤ 8) := of_decide_eq_false h
  unfold word
  rw [if_neg (by omega), if_neg (by omega), if_neg (by omega), if_neg (by omega), if_neg (by omega), if_neg (by omega), if_neg (by omega), if_neg (by omega)]
def letter (c : Nat) : Prop := c = 65 ∨ c = 76 ∨ c = 80 ∨ c = 68 ∨ c = 87
theorem letters_all (k : Nat) : ∀ c ∈ letters k, letter c := by
  unfold letters letter
  intro c hc
  repeat' split at hc
  all_goals simp at hc
  all_goals omega
theorem letters_len (k : Nat) : (letters k).length ≤ 3 := by
  unfold letters
  repeat' split
  all_goals simp
theorem fields_lt (c : Nat) : ∀ i ∈ fields c, 2 ≤ i ∧ i ≤ 10 := by
  unfold fields
  intro i hi
  repeat' split at hi
  all_goals simp at hi
  all_goals omega
theorem fparts_lt (k : Nat) : ∀ i ∈ fparts k, 2 ≤ i ∧ i ≤ 10 := by
  intro i hi
  obtain ⟨c, -, h⟩ := List.mem_flatMap.1 hi
  exact fields_lt c i h
/-- The request without one of its fields. -/
def V.out (x : V) (i : Nat) : V :=
  if i = 2 then { x with pg := 0 } else if i = 3 then { x with du := 0 } else if i = 4 then { x with at_ := 0 } else if i = 5 then { x with le := 0 } else if i = 6 then { x with so := 0 }
  else if i = 7 then { x with ky := ⟨#[]⟩ } else if i = 8 then { x with to := ⟨#[]⟩ } else if i = 9 then { x with lo := 0 } else { x with hi := 0 }
def zero (i : Nat) : Value := if i = 2 then .int .u8 0 else if i = 3 then .int .u16 0 else if i = 4 then .int .u64 0 else if i = 5 then .int .u64 0 else if i = 6 then .int .u8 0 else if i = 7 then .string ⟨#[]⟩ else if i = 8 then .string ⟨#[]⟩ else .int .i64 0
theorem field_cases {i : Nat} (h : 2 ≤ i ∧ i ≤ 10) : i = 2 ∨ i = 3 ∨ i = 4 ∨ i = 5 ∨ i = 6 ∨ i = 7 ∨ i = 8 ∨ i = 9 ∨ i = 10 := by omega
theorem V.out_cells (x : V) (i : Nat) (h : 2 ≤ i ∧ i ≤ 10) : (x.out i).cells = x.cells.setIfInBounds i (zero i) := by
  rcases field_cases h with rfl | rfl | rfl | rfl | rfl | rfl | rfl | rfl | rfl <;> rfl
theorem V.out_k (x : V) (i : Nat) (h : 2 ≤ i ∧ i ≤ 10) : (x.out i).k = x.k ∧ (x.out i).id = x.id := by
  rcases field_cases h with rfl | rfl | rfl | rfl | rfl | rfl | rfl | rfl | rfl <;> exact ⟨rfl, rfl⟩
/-- Two requests, held against each other. -/
def eqb (a b : V) : Bool := (a.k : Int) == (b.k : Int) && (a.id : Int) == (b.id : Int) && (a.pg : Int) == (b.pg : Int) && (a.du : Int) == (b.du : Int) && (a.at_ : Int) == (b.at_ : Int) && (a.le : Int) == (b.le : Int) && (a.so : Int) == (b.so : Int) && a.ky.toList == b.ky.toList && a.to.toList == b.to.toList && a.lo == b.lo && a.hi == b.hi
theorem toList_inj {a b : ByteArray} (h : a.toList = b.toList) : a = b := by
  rw [ByteArray.toList_eq, ByteArray.toList_eq] at h
  exact ByteArray.ext (Array.ext' h)
theorem eqb_iff (a b : V) : eqb a b = true ↔ a = b := by
  obtain ⟨a1, a2, a3, a4, a5, a6, a7, a8, a9, a10, a11⟩ := a
  obtain ⟨b1, b2, b3, b4, b5, b6, b7, b8, b9, b10, b11⟩ := b
  simp only [eqb, V.mk.injEq, Bool.and_eq_true, beq_iff_eq]
  constructor
  · rintro ⟨⟨⟨⟨⟨⟨⟨⟨⟨⟨h1, h2⟩, h3⟩, h4⟩, h5⟩, h6⟩, h7⟩, h8⟩, h9⟩, h10⟩, h11⟩
    exact ⟨by omega, by omega, by omega, by omega, by omega, by omega, by omega, toList_inj h8, toList_inj h9, h10, h11⟩
  · rintro ⟨rfl, rfl, rfl, rfl, rfl, rfl, rfl, rfl, rfl, rfl, rfl⟩
    exact ⟨⟨⟨⟨⟨⟨⟨⟨⟨⟨rfl, rfl⟩, rfl⟩, rfl⟩, rfl⟩, rfl⟩, rfl⟩, rfl⟩, rfl⟩, rfl⟩, rfl⟩
theorem eqb_self (a : V) : eqb a a = true := (eqb_iff a a).2 rfl
theorem eqb_no {a b : V} (h : a ≠ b) : eqb a b = false := by
  rcases Bool.eq_false_or_eq_true (eqb a b) with h1 | h1
  · exact absurd ((eqb_iff a b).1 h1) h
  · exact h1
def V.blanked (x : V) : V := (fparts x.k).foldl V.out x
def V.bare (x : V) : Bool := eqb x.blanked (only x.k x.id)
theorem V.outs_k (x : V) (l : List Nat) (hl : ∀ i ∈ l, 2 ≤ i ∧ i ≤ 10) : (l.foldl V.out x).k = x.k ∧ (l.foldl V.out x).id = x.id := by
  induction l generalizing x with
  | nil => exact ⟨rfl, rfl⟩
  | cons i l ih =>
    obtain ⟨h1, h2⟩ := ih (x.out i) (fun j hj => hl j (List.mem_cons_of_mem _ hj))
    obtain ⟨k1, k2⟩ := x.out_k i (hl i (List.mem_cons_self ..))
    exact ⟨h1.trans k1, h2.trans k2⟩
theorem V.blanked_k (x : V) : x.blanked.k = x.k ∧ x.blanked.id = x.id := x.outs_k _ (fparts_lt _)
/-- The request with the parts of its kind alone, as the reference tells it. -/
def hasA (k : Nat) : Bool := decide (k = 1 ∨ k = 2)
def hasL (k : Nat) : Bool := decide (k = 3 ∨ k = 4 ∨ k = 6 ∨ k = 7)
def hasP (k : Nat) : Bool := decide (k = 1 ∨ k = 6)
def hasD (k : Nat) : Bool := decide (k = 2 ∨ k = 3 ∨ k = 5 ∨ k = 6)
def hasW (k : Nat) : Bool := decide (k = 1 ∨ k = 5)
def V.keep (x : V) : V := ⟨x.k, x.id, if hasP x.k then x.pg else 0, if hasD x.k then x.du else 0, if hasA x.k then x.at_ else 0, if hasL x.k then x.le else 0, if hasW x.k then x.so else 0, if hasW x.k then x.ky else ⟨#[]⟩, if hasW x.k then x.to else ⟨#[]⟩, if hasW x.k then x.lo else 0, if hasW x.k then x.hi else 0⟩
theorem V.bare_keep (x : V) : x.bare = true ↔ x.keep = x := by
  unfold V.bare
  rw [eqb_iff]
  obtain ⟨k, id, pg, du, a, l, s, ky, to, lo, hi⟩ := x
  unfold V.blanked
  dsimp only
  cases hK : isK k
  · have e : fparts k = [] := by unfold fparts; rw [letters_no hK]; rfl
    have : ¬ (1 ≤ k ∧ k ≤ 8) := of_decide_eq_false hK
    rw [e]
    unfold V.keep hasA hasL hasP hasD hasW only
    dsimp only [List.foldl_nil]
    rw [decide_eq_false (show ¬ (k = 1 ∨ k = 2) by omega), decide_eq_false (show ¬ (k = 3 ∨ k = 4 ∨ k = 6 ∨ k = 7) by omega), decide_eq_false (show ¬ (k = 1 ∨ k = 6) by omega), decide_eq_false (show ¬ (k = 2 ∨ k = 3 ∨ k = 5 ∨ k = 6) by omega), decide_eq_false (show ¬ (k = 1 ∨ k = 5) by omega)]
    simp only [V.mk.injEq, Bool.false_eq_true, if_false, true_and]
    constructor
    · rintro ⟨rfl, rfl, rfl, rfl, rfl, rfl, rfl, rfl, rfl⟩; exact ⟨rfl, rfl, rfl, rfl, rfl, rfl, rfl, rfl, rfl⟩
    · rintro ⟨rfl, rfl, rfl, rfl, rfl, rfl, rfl, rfl, rfl⟩; exact ⟨rfl, rfl, rfl, rfl, rfl, rfl, rfl, rfl, rfl⟩
  · rcases isK_cases hK with rfl | rfl | rfl | rfl | rfl | rfl | rfl | rfl <;>
    · simp only [fparts_1, fparts_2, fparts_3, fparts_4, fparts_5, fparts_6, fparts_7, fparts_8, List.foldl_cons, List.foldl_nil, V.out, V.keep, hasA, hasL, hasP, hasD, hasW, only, V.mk.injEq]
      simp
      constructor
      · intro h
        simp_all
      · intro h
        iterate 9 (try (obtain ⟨h0, h⟩ := h; subst h0))
        subst h
        simp
/-- When a request is right. -/
def V.durOk (x : V) : Bool := decide (0 < x.du) || decide (x.k = 6) || !hasD x.k
def V.which (x : V) : Bool :=
  if x.so = 1 then decide (1 ≤ x.ky.size ∧ x.ky.size ≤ 32 ∧ x.to.size = 0 ∧ x.hi = 0)
  else if x.so = 2 then decide (x.ky.size ≤ 32 ∧ x.to.size ≤ 32 ∧ x.lo = 0 ∧ x.hi = 0)
  else if x.so = 3 then decide (x.ky.size = 0 ∧ x.to.size = 0) else false
def V.panesOk (x : V) : Bool := !hasW x.k || x.which
def V.right (x : V) : Bool := isK x.k && decide (x.pg ≤ 64) && x.durOk && x.panesOk && x.bare
/-- A whole number as 8 bytes tell it. -/
def u (x : Int) : Nat := (x % 18446744073709551616).toNat
theorem u_eq (x : Int) : x % 18446744073709551616 = ((u x : Nat) : Int) := (Int.toNat_of_nonneg (Int.emod_nonneg _ (by decide))).symm
theorem u_lt (x : Int) : u x < 18446744073709551616 := by
  have h1 := u_eq x
  have h2 := Int.emod_lt_of_pos x (show (0 : Int) < 18446744073709551616 by decide)
  omega
/-- A field, packed; the pieces; the bytes. -/
def V.enc (x : V) (i : Nat) : List Nat :=
  if i = 2 then Pk.be 1 x.pg else if i = 3 then Pk.be 2 x.du else if i = 4 then Pk.be 8 x.at_ else if i = 5 then Pk.be 8 x.le else if i = 6 then Pk.be 1 x.so else if i = 7 then Pk.tx (nums x.ky) else if i = 8 then Pk.tx (nums x.to) else if i = 9 then Pk.be 8 (u x.lo) else Pk.be 8 (u x.hi)
def V.chunks (x : V) : List (List Nat) := [Pk.be 1 x.k, Pk.be 4 x.id] ++ (fparts x.k).map x.enc
def V.bytes (x : V) : List Nat := x.chunks.flatten
def V.putB (x : V) : List Nat := if x.right then x.bytes else []
def V.putE (x : V) : Int := if x.right then 0 else 81
theorem nums_lt (s : ByteArray) : ∀ x ∈ nums s, x < 256 := by
  intro x hx
  simp [nums] at hx
  obtain ⟨b, _, rfl⟩ := hx
  exact b.toNat_lt
theorem V.enc_lt (x : V) (i : Nat) : ∀ y ∈ x.enc i, y < 256 := by
  unfold V.enc
  repeat' split
  all_goals first | exact Pk.be_lt _ _ | exact Pk.tx_lt _ (nums_lt _)
theorem V.chunks_lt (x : V) : ∀ l ∈ x.chunks, ∀ y ∈ l, y < 256 := by
  intro l hl
  unfold V.chunks at hl
  simp only [List.cons_append, List.nil_append, List.mem_cons, List.mem_map] at hl
  rcases hl with rfl | rfl | ⟨i, -, rfl⟩
  · exact Pk.be_lt _ _
  · exact Pk.be_lt _ _
  · exact x.enc_lt i
theorem V.bytes_lt (x : V) : ∀ y ∈ x.bytes, y < 256 := by
  intro y hy
  obtain ⟨l, hl, h⟩ := List.mem_flatten.1 hy
  exact x.chunks_lt l hl y h
theorem fparts_len (k : Nat) : (fparts k).length ≤ 7 := by
  unfold fparts letters fields
  repeat' split
  all_goals simp
theorem tx_len (l : List Nat) : (Pk.tx l).length = 2 + l.length := by simp [Pk.tx, Pk.be_len]
theorem V.right_iff (x : V) : x.right = true ↔ isK x.k = true ∧ x.pg ≤ 64 ∧ x.durOk = true ∧ x.panesOk = true ∧ x.keep = x := by
  unfold V.right
  simp only [Bool.and_eq_true, decide_eq_true_eq, V.bare_keep]
  constructor
  · rintro ⟨⟨⟨⟨h1, h2⟩, h3⟩, h4⟩, h5⟩; exact ⟨h1, h2, h3, h4, h5⟩
  · rintro ⟨h1, h2, h3, h4, h5⟩; exact ⟨⟨⟨⟨h1, h2⟩, h3⟩, h4⟩, h5⟩
theorem V.which_le {x : V} (h : x.which = true) : x.ky.size ≤ 32 ∧ x.to.size ≤ 32 := by
  unfold V.which at h
  split at h
  · have := of_decide_eq_true h; omega
  · split at h
    · have := of_decide_eq_true h; omega
    · split at h
      · have := of_decide_eq_true h; omega
      · cases h
/-- What is right has short texts. -/
theorem V.right_keys {x : V} (h : x.right = true) : x.ky.size ≤ 32 ∧ x.to.size ≤ 32 := by
  obtain ⟨h1, -, -, h4, h5⟩ := x.right_iff.1 h
  unfold V.panesOk at h4
  cases hW : hasW x.k
  · have e1 : x.keep.ky = x.ky := by rw [h5]
    have e2 : x.keep.to = x.to := by rw [h5]
    unfold V.keep at e1 e2
    dsimp only at e1 e2
    rw [hW] at e1 e2
    simp only [Bool.false_eq_true, if_false] at e1 e2
    rw [← e1, ← e2]
    exact ⟨Nat.zero_le _, Nat.zero_le _⟩
  · rw [hW] at h4
    exact V.which_le (by simpa using h4)
theorem V.bytes_le {x : V} (h : x.right = true) : x.bytes.length ≤ 99 ∧ 5 ≤ x.bytes.length := by
  obtain ⟨h1, h2⟩ := V.right_keys h
  have hk := (x.right_iff.1 h).1
  obtain ⟨k, id, pg, du, a, l, s, ky, to, lo, hi⟩ := x
  dsimp only at hk h1 h2
  have l1 := nums_len ky
  have l2 := nums_len to
  rcases isK_cases hk with rfl | rfl | rfl | rfl | rfl | rfl | rfl | rfl <;>
  · simp only [V.bytes, V.chunks, fparts_1, fparts_2, fparts_3, fparts_4, fparts_5, fparts_6, fparts_7, fparts_8, V.enc, List.append_nil, List.cons_append, List.nil_append, List.map_cons, List.map_nil, List.flatten_cons, List.flatten_nil, List.length_append, Pk.be_len, tx_len, if_true, if_false, Nat.reduceEqDiff, Nat.reduceAdd]
    omega
theorem V.putB_lt (x : V) : ∀ y ∈ x.putB, y < 256 := by
  unfold V.putB
  split
  · exact x.bytes_lt
  · simp
theorem V.putB_len (x : V) : x.putB.length ≤ 99 := by
  unfold V.putB
  split
  · rename_i h; exact (V.bytes_le h).1
  · simp
end Rq
end Go.Proofs.YtgailpljcobabaaDoor
