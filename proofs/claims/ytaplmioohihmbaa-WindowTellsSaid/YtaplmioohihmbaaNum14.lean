/- What num's functions answer that layer 14 leans on: Sub, Clamp, FloorMod, Down. -/
import Derived.Test.YtaplmioohihmbaaMem
import Derived.Test.YtaplmioohihmbaaNm
import Derived.WalkLawsBesides
namespace Go.Proofs.Ytaplmioohihmbaa
open Go.ChangeShapes Go.WideShapes Go.ChangeAt Go.RowKit

/-- Two answers: a number, and whether it fits; a number, and an error. -/
def TwoB (n : Int) (b : Bool) (w : World) (e : Ending) (w' : World) : Prop := e = .returned (.tuple #[.int .i64 n, .bool b]) ∧ w = w'
def TwoE (n k : Int) (w : World) (e : Ending) (w' : World) : Prop := e = .returned (.tuple #[.int .i64 n, .int .i64 k]) ∧ w = w'
set_option maxHeartbeats 400000 in
theorem sub_any (a b : Int) (w : World) (ha : -9223372036854775808 ≤ a ∧ a ≤ 9223372036854775807) (hb : -9223372036854775808 ≤ b ∧ b ≤ 9223372036854775807) :
    Calls Try.prog 38 #[.int .i64 a, .int .i64 b] w (TwoB (fitN (a - b)) (fitB (a - b)) w) := by
  have hs := sub_sign a b ha hb
  by_cases hf : -9223372036854775808 ≤ a - b ∧ a - b ≤ 9223372036854775807
  · rw [(fit_yes hf).1, IntWalk.wrap64_in _ hf, Bool.not_true] at hs
    rw [(fit_yes hf).1, (fit_yes hf).2]
    go_enter Try.func38, Try.ntmps38
    go_wp2
    go_ret2
    exact ⟨rfl, rfl⟩
  · rw [(fit_no hf).1, Bool.not_false] at hs
    rw [(fit_no hf).1, (fit_no hf).2]
    go_enter Try.func38, Try.ntmps38
    go_wp2
    go_ret2
    exact ⟨rfl, rfl⟩
def clampN (n l m : Int) : Int := if n > m then (if m < l then l else m) else (if n < l then l else n)
set_option maxHeartbeats 400000 in
theorem clamp_any (a b c : Int) (w : World) :
    Calls Try.prog 31 #[.int .i64 a, .int .i64 b, .int .i64 c] w fun e w' => e = .returned (.int .i64 (clampN a b c)) ∧ w = w' := by
  go_enter Try.func31, Try.ntmps31
  go_wp2
  all_goals
    go_ret
    refine ⟨ret_int ?_, rfl⟩
    unfold clampN
    split <;> split <;> omega
def flM (n d : Int) : Int := if 0 < d then n % d else 0
def flE (d : Int) : Int := if 0 < d then 0 else 2
set_option maxHeartbeats 400000 in
theorem floorMod_any (n d : Int) (w : World) (hd : -9223372036854775808 ≤ d ∧ d ≤ 9223372036854775807) :
    Calls Try.prog 37 #[.int .i64 n, .int .i64 d] w (TwoE (flM n d) (flE d) w) := by
  unfold flM flE
  by_cases h : 0 < d
  · have h2 := Int.emod_nonneg n (by omega : d ≠ 0)
    have h3 := Int.emod_lt_of_pos n h
    have hx := floor_mod n d h
    rw [if_pos h, if_pos h]
    by_cases hm : n.tmod d < 0
    · rw [if_pos hm] at hx
      rw [hx] at h2 h3 ⊢
      clear hx
      go_enter Try.func37, Try.ntmps37
      go_wp2
      go_ret2
      exact ⟨rfl, rfl⟩
    · rw [if_neg hm] at hx
      rw [hx] at h2 h3 ⊢
      clear hx
      go_enter Try.func37, Try.ntmps37
      go_wp2
      go_ret2
      exact ⟨rfl, rfl⟩
  · rw [if_neg h, if_neg h]
    go_enter Try.func37, Try.ntmps37
    go_wp2
    go_ret2
    exact ⟨rfl, rfl⟩
def dnN (n d : Int) : Int := if 0 < d then fitN (d * (n / d)) else 0
def dnE (n d : Int) : Int := if 0 < d then (if fitB (d * (n / d)) = true then 0 else 30) else 2
theorem down_sub (n d : Int) : n - n % d = d * (n / d) := by have := Int.mul_ediv_add_emod n d; omega
theorem errno_ne (k : Int) : (k != 0) = !(k == 0) := rfl
set_option maxHeartbeats 400000 in
theorem down_any (n d : Int) (w : World) (hn : -9223372036854775808 ≤ n ∧ n ≤ 9223372036854775807) (hd : -9223372036854775808 ≤ d ∧ d ≤ 9223372036854775807) :
    Calls Try.prog 30 #[.int .i64 n, .int .i64 d] w (TwoE (dnN n d) (dnE n d) w) := by
  unfold dnN dnE
  by_cases h : 0 < d
  · rw [if_pos h, if_pos h, ← down_sub]
    have h2 := Int.emod_nonneg n (by omega : d ≠ 0)
    have h3 := Int.emod_lt_of_pos n h
    have hfm : Calls Try.prog 37 #[.int .i64 n, .int .i64 d] w (TwoE (n % d) 0 w) := by
      have := floorMod_any n d w hd
      unfold flM flE at this
      rwa [if_pos h, if_pos h] at this
    have hsb := sub_any n (n % d) w hn (by omega)
    by_cases hf : -9223372036854775808 ≤ n - n % d ∧ n - n % d ≤ 9223372036854775807
    · rw [(fit_yes hf).1, (fit_yes hf).2] at hsb ⊢
      rw [if_pos rfl]
      go_enter Try.func30, Try.ntmps30
      go_wp2_with (first | (go_at_call 37; (with_reducible refine hfm.mono ?_); rintro e w' ⟨rfl, rfl⟩) | (go_at_call 38; (with_reducible refine hsb.mono ?_); rintro e w' ⟨rfl, rfl⟩))
      go_ret2
      exact ⟨rfl, rfl⟩
    · rw [(fit_no hf).1, (fit_no hf).2] at hsb ⊢
      rw [if_neg (by decide)]
      go_enter Try.func30, Try.ntmps30
      go_wp2_with (first | (go_at_call 37; (with_reducible refine hfm.mono ?_); rintro e w' ⟨rfl, rfl⟩) | (go_at_call 38; (with_reducible refine hsb.mono ?_); rintro e w' ⟨rfl, rfl⟩))
      go_ret2
      exact ⟨rfl, rfl⟩
  · rw [if_neg h, if_neg h]
    have hfm : Calls Try.prog 37 #[.int .i64 n, .int .i64 d] w (TwoE 0 2 w) := by
      have := floorMod_any n d w hd
      unfold flM flE at this
      rwa [if_neg h, if_neg h] at this
    go_enter Try.func30, Try.ntmps30
    go_wp2_with (go_at_call 37; (with_reducible refine hfm.mono ?_); rintro e w' ⟨rfl, rfl⟩)
    go_ret2
    exact ⟨rfl, rfl⟩
end Go.Proofs.Ytaplmioohihmbaa
