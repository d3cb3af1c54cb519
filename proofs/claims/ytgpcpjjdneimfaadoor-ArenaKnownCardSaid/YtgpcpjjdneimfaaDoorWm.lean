/- Numbers that wait, in memory: a struct of a map and a count. -/
import Derived.Test.YtgpcpjjdneimfaaDoorMp
import Derived.Test.YtgpcpjjdneimfaaDoorWt
import Derived.BigQuiet
namespace Go.Proofs.YtgpcpjjdneimfaaDoor
open Go.ChangeShapes Go.WideShapes Go.ChangeAt Go.RowKit Go.MapKept
open Go.Maps (Keyed)
open Go.ChangeMaps (setBlock)

def wkey (l a : Nat) : Value := .agg #[.int .i64 (l : Int), .int .i64 (a : Int)]
theorem wkey_inj {l a l' a' : Nat} (h : wkey l a = wkey l' a') : l = l' ∧ a = a' := by
  unfold wkey at h
  injection h with h
  have := congrArg Array.toList h
  simp at this
  omega
theorem laid_out11 : laidOutB Tryd.prog = true := by kernel_rfl
theorem row_word : (107 : TypeId) < Tryd.prog.types.size := of_decide_eq_true (by kernel_rfl)
theorem row_handle : (42 : TypeId) < Tryd.prog.types.size := of_decide_eq_true (by kernel_rfl)
theorem word_keyed : Keyed Tryd.prog 107 := Keyed.of_law (deep_law_laid laid_out11 (m := 3) (by omega) row_word (by kernel_rfl) (by kernel_rfl))
theorem handle_keyed : Keyed Tryd.prog 42 := Keyed.of_law (deep_law_laid laid_out11 (m := 3) (by omega) row_handle (by kernel_rfl) (by kernel_rfl))
theorem cells_word : Tryd.prog.cellsOf 107 = 2 := by kernel_rfl
theorem cells_handle : Tryd.prog.cellsOf 42 = 2 := by kernel_rfl
theorem cells_int : Tryd.prog.cellsOf 3 = 1 := by kernel_rfl
theorem key_word : Tryd.prog.keyType 107 = true := by kernel_rfl
theorem key_handle : Tryd.prog.keyType 42 = true := by kernel_rfl
theorem lits_int (n : Nat) (x : Int) (hx : (Lit.int .i64 x).wf = true) : Tryd.prog.keyLits (n + 1) 3 [.int .i64 x] = some [.int .i64 x] := by
  unfold Program.keyLits
  rw [Tryd.underlying3]
  simp [hx]
theorem lits_word (n : Nat) (x y : Int) (hx : (Lit.int .i64 x).wf = true) (hy : (Lit.int .i64 y).wf = true) : Tryd.prog.keyLits (n + 1 + 1) 107 [.int .i64 x, .int .i64 y] = some [.int .i64 x, .int .i64 y] := by
  unfold Program.keyLits
  rw [Tryd.underlying107]
  simp [cells_word, cells_int, lits_int n x hx, lits_int n y hy]
theorem lits_handle (n : Nat) (x y : Int) (hx : (Lit.int .i64 x).wf = true) (hy : (Lit.int .i64 y).wf = true) : Tryd.prog.keyLits (n + 1 + 1) 42 [.int .i64 x, .int .i64 y] = some [.int .i64 x, .int .i64 y] := by
  unfold Program.keyLits
  rw [Tryd.underlying42]
  simp [cells_handle, cells_int, lits_int n x hx, lits_int n y hy]
theorem formed_word (x y : Int) : Value.formed Tryd.prog 107 (.agg #[.int .i64 x, .int .i64 y]) = true := by
  simp [Value.formed, Tryd.underlying107, cells_word]
theorem formed_handle (x y : Int) : Value.formed Tryd.prog 42 (.agg #[.int .i64 x, .int .i64 y]) = true := by
  simp [Value.formed, Tryd.underlying42, cells_handle]
theorem pair_reads_word (x y : Int) (hx : (Lit.int .i64 x).wf = true) (hy : (Lit.int .i64 y).wf = true) : ∃ k, keyOf Tryd.prog 107 (.agg #[.int .i64 x, .int .i64 y]) = some k := by
  obtain ⟨n, hn⟩ := Nat.exists_eq_add_of_lt row_word
  unfold keyOf
  rw [Tryd.underlying107]
  simp only [key_word, formed_word, Bool.and_self, if_true]
  rw [hn]
  have := lits_word (107 + n) x y hx hy
  exact ⟨_, by rw [show (Value.agg #[.int .i64 x, .int .i64 y]).cells.toList = [.int .i64 x, .int .i64 y] from rfl, this]; rfl⟩
theorem pair_reads_handle (x y : Int) (hx : (Lit.int .i64 x).wf = true) (hy : (Lit.int .i64 y).wf = true) : ∃ k, keyOf Tryd.prog 42 (.agg #[.int .i64 x, .int .i64 y]) = some k := by
  obtain ⟨n, hn⟩ := Nat.exists_eq_add_of_lt row_word
  unfold keyOf
  rw [Tryd.underlying42]
  simp only [key_handle, formed_handle, Bool.and_self, if_true]
  rw [hn]
  have := lits_handle (107 + n) x y hx hy
  exact ⟨_, by rw [show (Value.agg #[.int .i64 x, .int .i64 y]).cells.toList = [.int .i64 x, .int .i64 y] from rfl, this]; rfl⟩
theorem wkey_reads (l a : Nat) (hl : l < 9223372036854775808) (ha : a < 9223372036854775808) : ∃ k, keyOf Tryd.prog 107 (wkey l a) = some k :=
  pair_reads_word _ _ (WalkArith.wf_i64 (by omega)) (WalkArith.wf_i64 (by omega))
theorem zero_u64 (W : World) : (zeroValue 105).run Tryd.prog W = .ok (.int .u64 0) W := by kernel_rfl
/-- The map at mv tells the words f. -/
def Words (w : World) (mv : Option Nat) (f : Nat → Nat → Nat) : Prop :=
  match mv with
  | none => ∀ l a, f l a = 0
  | some mb => ∃ es clock g, w.heap[mb]? = some (.map es clock) ∧ Ent Tryd.prog 107 es clock g ∧ ∀ l a : Nat, (g (wkey l a)).getD (.int .u64 0) = .int .u64 (f l a : Int)
theorem Words.look {w W : World} {mv : Option Nat} {f : Nat → Nat → Nat} (h : Words w mv f) (hW : ∀ mb, mv = some mb → W.heap[mb]? = w.heap[mb]?) (l a : Nat) (hl : l < 9223372036854775808) (ha : a < 9223372036854775808) :
    (Instr.lookup 69 (.map mv) (.agg #[.int .i64 (l : Int), .int .i64 (a : Int)]) false).run Tryd.prog W = .ok (.int .u64 (f l a : Int)) W := by
  obtain ⟨k, hk⟩ := wkey_reads l a hl ha
  cases mv with
  | none =>
    have h0 : f l a = 0 := h l a
    rw [h0]
    exact look_none word_keyed Tryd.underlying69 zero_u64 hk W
  | some mb =>
    obtain ⟨es, clock, g, hb, he, hg⟩ := h
    rw [← hg l a]
    exact he.look word_keyed Tryd.underlying69 zero_u64 hk W ((hW mb rfl).trans hb)
theorem digit_of (v k : Nat) (hv : v < 18446744073709551616) : (bits .and .u64 ((v : Int) / 2 ^ k) 1 == 1) = v.testBit k := by
  have h := u64_and_nat (v / 2 ^ k) 1 (Nat.lt_of_le_of_lt (Nat.div_le_self _ _) hv) (by decide)
  rw [show ((1 : Nat) : Int) = 1 from rfl, show ((v / 2 ^ k : Nat) : Int) = (v : Int) / 2 ^ k by rw [Int.natCast_ediv]; simp] at h
  rw [h, Nat.and_one_is_mod, Nat.testBit_eq_decide_div_mod_eq]
  rw [Bool.eq_iff_iff, beq_iff_eq, decide_eq_true_eq]
  omega
theorem Words.looki {w W : World} {mv : Option Nat} {f : Nat → Nat → Nat} (h : Words w mv f) (hW : ∀ mb, mv = some mb → W.heap[mb]? = w.heap[mb]?) (l a : Nat) (x y : Int) (hx : x = l) (hy : y = a) (hl : l < 9223372036854775808) (ha : a < 9223372036854775808) :
    (Instr.lookup 69 (.map mv) (.agg #[.int .i64 x, .int .i64 y]) false).run Tryd.prog W = .ok (.int .u64 (f l a : Int)) W := by
  subst hx hy
  exact h.look hW l a hl ha
end Go.Proofs.YtgpcpjjdneimfaaDoor
