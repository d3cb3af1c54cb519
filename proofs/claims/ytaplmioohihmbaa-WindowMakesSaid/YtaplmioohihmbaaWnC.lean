/- Layer 14, the program: whether a window is right. -/
import Derived.Test.YtaplmioohihmbaaWnB
import Derived.Deep.RegionHeld3
namespace Go.Proofs.Ytaplmioohihmbaa
open Go.ChangeShapes Go.WideShapes Go.ChangeAt Go.RowKit

def mnf (f : Nat → Int) : Nat → Int
  | 0 => f 0
  | k + 1 => Wn.imn (mnf f k) (f (k + 1))
def mxf (f : Nat → Int) : Nat → Int
  | 0 => f 0
  | k + 1 => Wn.imx (mxf f k) (f (k + 1))
set_option maxRecDepth 100000 in
set_option maxHeartbeats 1000000 in
theorem min_any (b n c : Nat) (f : Nat → Int) (w : World) (h : ∀ i, i ≤ n → w.cell? ⟨b, i, none⟩ = some (.int .i64 (f i))) (hn : n ≤ 1000) :
    Calls Try.prog 34 #[.slice (some ⟨b, 0, none⟩) (n + 1) c] w fun e w' => e = .returned (.int .i64 (mnf f n)) ∧ w = w' := by
  obtain ⟨N, hN⟩ : ∃ N, n + 1 = N := ⟨_, rfl⟩
  rw [hN]
  have h1 := h 0 (by omega)
  have HC := Lib.hid (And.intro h hN)
  have i0 : (0 : Int) < N := by omega
  have i1 : ¬ (N : Int) < 1 := by omega
  clear h hN
  go_enter Try.func34, Try.ntmps34
  go_wp2_with fail
  clear h1
  go_loop [3, 4] (fun m i => ∃ k : Nat, k ≤ n ∧ i = .int .i64 ((k + 1 : Nat) : Int) ∧ m = .int .i64 (mnf f k)) (fun _ i => N - (intOf i).toNat)
  case atStart => exact ⟨0, by omega, rfl, rfl⟩
  case round =>
    obtain ⟨k, hk, rfl, rfl⟩ := hrel
    obtain ⟨K, hK⟩ : ∃ K, k + 1 = K := ⟨_, rfl⟩
    rw [hK]
    by_cases hlt : K < N
    · have hcell := HC.out.1 K (by have := HC.out.2; omega)
      have hm := fun W => imn_run (mnf f k) (f K) W
      have E : Hid (mnf f K = Wn.imn (mnf f k) (f K)) := Lib.hid (by rw [← hK]; rfl)
      have HKK := Lib.hid hK
      generalize f K = x at hcell hm E
      have i2 : (K : Int) < N := by omega
      have i3 : (0 : Int) ≤ K := by omega
      have i4 : (K : Int) ≤ 1001 := by omega
      clear i0 i1 hK
      go_wp2_with fail
      go_round
      case rel => exact ⟨K, by have := HC.out.2; omega, by go_num, by rw [E.out]⟩
      case measure => simp [intOf]; omega
    · obtain rfl : k = n := by have := HC.out.2; omega
      obtain rfl : K = N := by have := HC.out.2; omega
      clear i0 i1 hK
      go_wp2_with fail
      go_ret
      exact ⟨rfl, rfl⟩
set_option maxRecDepth 100000 in
set_option maxHeartbeats 1000000 in
theorem max_any (b n c : Nat) (f : Nat → Int) (w : World) (h : ∀ i, i ≤ n → w.cell? ⟨b, i, none⟩ = some (.int .i64 (f i))) (hn : n ≤ 1000) :
    Calls Try.prog 35 #[.slice (some ⟨b, 0, none⟩) (n + 1) c] w fun e w' => e = .returned (.int .i64 (mxf f n)) ∧ w = w' := by
  obtain ⟨N, hN⟩ : ∃ N, n + 1 = N := ⟨_, rfl⟩
  rw [hN]
  have h1 := h 0 (by omega)
  have HC := Lib.hid (And.intro h hN)
  have i0 : (0 : Int) < N := by omega
  have i1 : ¬ (N : Int) < 1 := by omega
  clear h hN
  go_enter Try.func35, Try.ntmps35
  go_wp2_with fail
  clear h1
  go_loop [3, 4] (fun m i => ∃ k : Nat, k ≤ n ∧ i = .int .i64 ((k + 1 : Nat) : Int) ∧ m = .int .i64 (mxf f k)) (fun _ i => N - (intOf i).toNat)
  case atStart => exact ⟨0, by omega, rfl, rfl⟩
  case round =>
    obtain ⟨k, hk, rfl, rfl⟩ := hrel
    obtain ⟨K, hK⟩ : ∃ K, k + 1 = K := ⟨_, rfl⟩
    rw [hK]
    by_cases hlt : K < N
    · have hcell := HC.out.1 K (by have := HC.out.2; omega)
      have hm := fun W => imx_run (mxf f k) (f K) W
      have E : Hid (mxf f K = Wn.imx (mxf f k) (f K)) := Lib.hid (by rw [← hK]; rfl)
      have HKK := Lib.hid hK
      generalize f K = x at hcell hm E
      have i2 : (K : Int) < N := by omega
      have i3 : (0 : Int) ≤ K := by omega
      have i4 : (K : Int) ≤ 1001 := by omega
      clear i0 i1 hK
      go_wp2_with fail
      go_round
      case rel => exact ⟨K, by have := HC.out.2; omega, by go_num, by rw [E.out]⟩
      case measure => simp [intOf]; omega
    · obtain rfl : k = n := by have := HC.out.2; omega
      obtain rfl : K = N := by have := HC.out.2; omega
      clear i0 i1 hK
      go_wp2_with fail
      go_ret
      exact ⟨rfl, rfl⟩
theorem win_guard : Try.prog.eqGuardType Try.prog.depth 23 = false := by kernel_rfl
def eqw (k s l g k' s' l' g' : Int) : Bool := (k == k') && (s == s') && (l == l') && (g == g')
theorem win_same (k k' s s' l l' g g' : Int) (w : World) : (Op.equalIn 10000 23 (.agg #[.int .u8 k, .int .i64 s, .int .i64 l, .int .i64 g]) (.agg #[.int .u8 k', .int .i64 s', .int .i64 l', .int .i64 g'])).run Try.prog w = .ok (eqw k s l g k' s' l' g') w := by
  have hS : Try.prog.underlying 23 = some (.struct (Try.prog.fieldsOf 23)) := by kernel_rfl
  have hp : Try.prog.stoodInHeld 23 = false := by kernel_rfl
  rw [show (10000 : Nat) = 9999 + 1 from rfl, run_equalIn_agg w 9999 23 _ _ hS hp]
  simp only [Program.fieldsOf, Try.underlying23, eqw]
  go_simp
  (repeat' split) <;> simp_all
/-- The closure: is a window just that one, with numbers that may be? -/
def closB (k s l g k' s' l' g' : Int) (f : Nat → Int) (n : Nat) : Bool := eqw k s l g k' s' l' g' && decide (1 ≤ mnf f n) && decide (mxf f n ≤ 1048576)
set_option maxRecDepth 100000 in
set_option maxHeartbeats 1000000 in
theorem clos_any (k s l g k' s' l' g' : Int) (b0 b n c : Nat) (f : Nat → Int) (w : World) (hb : Blk w b0 23 #[.int .u8 k, .int .i64 s, .int .i64 l, .int .i64 g]) (h : ∀ i, i ≤ n → w.cell? ⟨b, i, none⟩ = some (.int .i64 (f i))) (hlt : b < w.heap.size) (hn : n ≤ 1000) :
    Calls Try.prog 33 #[.agg #[.int .u8 k', .int .i64 s', .int .i64 l', .int .i64 g'], .slice (some ⟨b, 0, none⟩) (n + 1) c, .pointer (some ⟨b0, 0, none⟩)] w (ValP w (.bool (closB k s l g k' s' l' g' f n))) := by
  have g1 := win_guard
  have q1 := fun W => win_same k k' s s' l l' g g' W
  have hB := below_al1 w (.cells #[.int .u8 k', .int .i64 s', .int .i64 l', .int .i64 g'] 23)
  have hk := hb.below hB hb.lt
  have c0 := hk.cell 0
  have c1 := hk.cell 1
  have c2 := hk.cell 2
  have c3 := hk.cell 3
  have hmn := min_any b n c f _ (fun i hi => (hB.cell (p := ⟨b, i, none⟩) hlt).trans (h i hi)) hn
  have hmx := max_any b n c f _ (fun i hi => (hB.cell (p := ⟨b, i, none⟩) hlt).trans (h i hi)) hn
  unfold closB
  clear h hb hk hlt
  obtain ⟨q, hq⟩ : ∃ q, eqw k s l g k' s' l' g' = q := ⟨_, rfl⟩
  rw [hq] at q1 ⊢
  clear hq
  cases q
  · go_enter Try.func33, Try.ntmps33
    go_wp2_with fail
    go_ret
    exact ⟨by simp, hB⟩
  · by_cases h1 : 1 ≤ mnf f n
    · go_enter Try.func33, Try.ntmps33
      go_wp2_with (first
        | (go_at_call 34; (with_reducible refine hmn.mono ?_); rintro e w1 ⟨rfl, rfl⟩)
        | (go_at_call 35; (with_reducible refine hmx.mono ?_); rintro e w2 ⟨rfl, rfl⟩))
      go_ret
      exact ⟨by simp [h1], hB⟩
    · go_enter Try.func33, Try.ntmps33
      go_wp2_with (first
        | (go_at_call 34; (with_reducible refine hmn.mono ?_); rintro e w1 ⟨rfl, rfl⟩)
        | (go_at_call 35; (with_reducible refine hmx.mono ?_); rintro e w2 ⟨rfl, rfl⟩))
      go_ret
      exact ⟨by simp; omega, hB⟩
end Go.Proofs.Ytaplmioohihmbaa
