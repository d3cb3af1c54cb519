/- tidepoolkit's Pick: a number brought from 0 up to n. -/
import Derived.Test.YtgpcpjjdneimfaaDoorMem
namespace Go.Proofs.YtgpcpjjdneimfaaDoor
open Go.ChangeShapes Go.WideShapes Go.ChangeAt Go.RowKit

theorem pick_math (i n : Int) (hn : 0 < n) : (i.tmod n + n).tmod n = i % n := by
  have h1 := Int.mul_tdiv_add_tmod i n
  have h2 : (i.tmod n).natAbs < n.natAbs := by rw [Int.natAbs_tmod]; exact Nat.mod_lt _ (by omega)
  rw [Int.tmod_eq_emod_of_nonneg (by omega), Int.add_emod_right]
  have e : i % n = (n * i.tdiv n + i.tmod n) % n := by rw [h1]
  rw [e, Int.mul_add_emod_self_left]
theorem pick_none (i : Int) (w : World) : Calls Tryd.prog 22 #[.int .i64 i, .int .i64 0] w fun e w' => e = .returned (.int .i64 0) ∧ w = w' := by
  go_enter Tryd.func22, Tryd.ntmps22
  go_wp2
  go_ret
  exact ⟨rfl, rfl⟩
/-- A place in a row of n things. -/
theorem pick_any (i : Int) (n : Nat) (w : World) (hn : 0 < n) (hm : n ≤ 1000000) : ∃ k : Nat, k < n ∧ Calls Tryd.prog 22 #[.int .i64 i, .int .i64 (n : Int)] w fun e w' => e = .returned (.int .i64 (k : Int)) ∧ w = w' := by
  have h0 := Int.emod_nonneg i (by omega : (n : Int) ≠ 0)
  have h1 := Int.emod_lt_of_pos i (by omega : 0 < (n : Int))
  obtain ⟨k, hk⟩ := Int.eq_ofNat_of_zero_le h0
  refine ⟨k, by omega, ?_⟩
  have hp := pick_math i n (by omega)
  rw [hk] at hp
  have h2 : -(n : Int) < i.tmod n ∧ i.tmod n < n := by
    have : (i.tmod n).natAbs < (n : Int).natAbs := by rw [Int.natAbs_tmod]; exact Nat.mod_lt _ (by omega)
    omega
  generalize ht : i.tmod n = t at hp h2
  clear hk h0 h1
  go_enter Tryd.func22, Tryd.ntmps22
  go_wp2
  go_ret
  exact ⟨rfl, rfl⟩
end Go.Proofs.YtgpcpjjdneimfaaDoor
