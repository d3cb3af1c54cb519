/- What NumBack leans on: rows turned, and parted. -/
import Derived.Test.YthnmphaehalceaaNumS
import Derived.Test.YthnmphaehalceaaPick
import Derived.Test.YthnmphaehalceaaAppNil
import Derived.Deep.DeepCutAuto
namespace Go.Proofs.Ythnmphaehalceaa
open Go.ChangeShapes Go.WideShapes Go.ChangeAt Go.RowKit

theorem sum_rev (l : List Int) : l.reverse.sum = l.sum := by
  induction l with
  | nil => rfl
  | cons a t ih => rw [List.reverse_cons, List.sum_append, ih, List.sum_cons]; simp; omega
theorem turned_sum (l : List Int) (k : Nat) (hk : k ≤ l.length) : (l.reverse.take (l.length - k) ++ l.take k).sum = l.sum := by
  rw [List.sum_append, List.take_reverse, sum_rev, show l.length - (l.length - k) = k by omega]
  have := congrArg List.sum (List.take_append_drop k l)
  rw [List.sum_append] at this
  omega
theorem part_sum (l : List Int) (k : Nat) : (l.take k).sum + (l.drop k).sum = l.sum := by
  rw [← List.sum_append, List.take_append_drop]
theorem rev_step (l : List Int) (j : Nat) (hj : j < l.length) : l.reverse.take (j + 1) = l.reverse.take j ++ [l.getD (l.length - 1 - j) 0] := by
  rw [List.take_succ_eq_append_getElem (by simpa using hj), List.getElem_reverse, List.getD_eq_getElem?_getD, List.getElem?_eq_getElem (by omega)]
  rfl
theorem turned_lt (l : List Int) (k : Nat) (hl : ∀ x ∈ l, -9223372036854775808 ≤ x ∧ x ≤ 9223372036854775807) : ∀ x ∈ l.reverse.take (l.length - k) ++ l.take k, -9223372036854775808 ≤ x ∧ x ≤ 9223372036854775807 := by
  intro x hx
  rcases List.mem_append.mp hx with h | h
  · exact hl x (by simpa using List.mem_of_mem_take h)
  · exact hl x (List.mem_of_mem_take h)
theorem run_append_none {P : Program} {w : World} (t ty e : TypeId) (i : TypeInfo) (ht : P.underlying t = some (.slice e)) (hi : P.info? e = some i) (A : Option Addr) (c : Nat) : (Builtin.append_ #[t, t] ty #[.slice none 0 0, .slice A 0 c]).run P w = .ok (.slice none 0 0) w := by
  cases A with
  | none => simp [Builtin.append_, run_underlying ht, sizeOf, typeInfo, hi, Builtin.lenOf, Builtin.firstCells]
  | some a =>
    have h0 := run_loadCells (P := P) w a 0 (fun _ => .int .i64 0) (fun j hj => absurd hj (by omega))
    simp [Builtin.append_, run_underlying ht, sizeOf, typeInfo, hi, Builtin.lenOf, Builtin.firstCells, h0]
theorem sumE_eq (t : Int) : (sumE t == 0) = fitB t := by
  unfold sumE
  cases fitB t <;> rfl
theorem sumE_yes {t : Int} (h : fitB t = true) : sumE t = 0 ∧ fitN t = t := by
  refine ⟨by unfold sumE; rw [if_pos h], ?_⟩
  unfold fitB at h
  unfold fitN
  rw [if_pos (of_decide_eq_true h)]
theorem sumE_30 {t : Int} (h : fitB t = false) : sumE t = 30 := by
  unfold sumE
  rw [if_neg (by rw [h]; decide)]
theorem sumE_no {t : Int} (h : fitB t = false) : (sumE t == 0) = false := by rw [sumE_eq, h]
/-- Where a row lies, if it is not empty. -/
theorem Ints.where_ {w : World} {n : Nat} {A : Option Addr} {l : List Int} (h : Ints w w.heap.size A n l) : ∃ b off, 0 < n → A = some ⟨b, off, none⟩ ∧ b < w.heap.size ∧ ∀ i, i < n → w.cell? ⟨b, off + i, none⟩ = some (.int .i64 (l.getD i 0)) := by
  rcases Nat.eq_zero_or_pos n with hz | hz
  · exact ⟨0, 0, fun h => absurd h (by omega)⟩
  · obtain ⟨b, off, h1, h2, h3⟩ := h.2.2 hz
    exact ⟨b, off, fun _ => ⟨h1, h2, h3⟩⟩
theorem pick_all (i : Int) (n : Nat) (w : World) (hm : n ≤ 1000000) : ∃ k : Nat, k ≤ n ∧ Calls Try.prog 27 #[.int .i64 i, .int .i64 (n : Int)] w fun e w' => e = .returned (.int .i64 (k : Int)) ∧ w = w' := by
  rcases Nat.eq_zero_or_pos n with hz | hz
  · subst hz
    exact ⟨0, Nat.le_refl _, pick_none i w⟩
  · obtain ⟨k, hk, hc⟩ := pick_any i n w hz hm
    exact ⟨k, by omega, hc⟩
/-- What is told of n and d > 0: q, m and p = q d. -/
theorem down_facts (n d : Int) (hdp : 0 < d) (hn : -9223372036854775808 ≤ n ∧ n ≤ 9223372036854775807) (hd : -9223372036854775808 ≤ d ∧ d ≤ 9223372036854775807) :
    ∃ q m p : Int, (∀ v, Calls Try.prog 21 #[.int .i64 n, .int .i64 d] v (TwoE q 0 v)) ∧ (∀ v, Calls Try.prog 23 #[.int .i64 n, .int .i64 d] v (TwoE m 0 v)) ∧ (∀ v, Calls Try.prog 25 #[.int .i64 n, .int .i64 d] v (TwoE (fitN p) (sumE p) v)) ∧ (∀ v, Calls Try.prog 12 #[.int .i64 q, .int .i64 d] v (TwoB (fitN p) (fitB p) v)) ∧ 0 ≤ m ∧ m < d ∧ p + m = n ∧ (0 ≤ n → 0 ≤ q) ∧ (n < 0 → q < 0) := by
  have hq := fun v => floorDiv_any n d v hn hd
  have hm := fun v => floorMod_any n d v hd
  have hw := fun v => down_any n d v hn hd
  rw [show flE d = 0 by unfold flE; rw [if_pos hdp], show flD n d = n / d by unfold flD; rw [if_pos hdp]] at hq
  rw [show flE d = 0 by unfold flE; rw [if_pos hdp], show flM n d = n % d by unfold flM; rw [if_pos hdp]] at hm
  rw [show dnN n d = fitN (n / d * d) by unfold dnN; rw [if_pos hdp, Int.mul_comm], show dnE n d = sumE (n / d * d) by unfold dnE sumE; rw [if_pos hdp, Int.mul_comm]] at hw
  exact ⟨n / d, n % d, n / d * d, hq, hm, hw, fun v => mul_any (n / d) d v (ediv_in n d hdp hn) hd, Int.emod_nonneg n (by omega : d ≠ 0), Int.emod_lt_of_pos n hdp, Int.ediv_mul_add_emod n d, fun h => Int.ediv_nonneg h (by omega), fun h => Int.ediv_neg_of_neg_of_pos h hdp⟩
/-- The row, turned. -/
def Turned (w : World) (n k : Nat) (l : List Int) (v : Value) (wx : World) : Prop := ∃ T cT, v = .slice T n cT ∧ Ints wx wx.heap.size T n (l.reverse.take (n - k) ++ l.take k) ∧ Below w.heap.size w wx
end Go.Proofs.Ythnmphaehalceaa
