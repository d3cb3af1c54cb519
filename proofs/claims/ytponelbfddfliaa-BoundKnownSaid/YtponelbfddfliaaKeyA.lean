/- Layer 4, the program: a number and a text, written. -/
import Derived.Test.YtponelbfddfliaaBldW
namespace Go.Proofs.Ytponelbfddfliaa
open Go.ChangeShapes Go.WideShapes Go.ChangeAt Go.RowKit

theorem xor_top (a : Nat) (h : a < 18446744073709551616) : a ^^^ 9223372036854775808 = (a + 9223372036854775808) % 18446744073709551616 := by
  apply Nat.eq_of_testBit_eq
  intro j
  have e1 : (9223372036854775808 : Nat) = 2 ^ 63 := by decide
  have e2 : (18446744073709551616 : Nat) = 2 ^ 64 := by decide
  rw [e1, e2, Nat.testBit_xor, Nat.testBit_mod_two_pow, Nat.testBit_two_pow, Nat.add_comm]
  rw [e2] at h
  rcases Nat.lt_trichotomy j 63 with hj | rfl | hj
  · rw [Nat.testBit_two_pow_add_gt hj]
    simp [show j < 64 by omega, show ¬ 63 = j by omega]
  · rw [Nat.testBit_two_pow_add_eq]
    simp
  · have h1 : a.testBit j = false := Nat.testBit_lt_two_pow (Nat.lt_of_lt_of_le h (Nat.pow_le_pow_right (by omega) (by omega)))
    simp [h1, show ¬ j < 64 by omega, show ¬ 63 = j by omega]
theorem xor_turn (v : Int) (hv : -9223372036854775808 ≤ v ∧ v ≤ 9223372036854775807) : bits .xor .u64 (IntKind.u64.wrap v) 9223372036854775808 = (Ky.turn v : Int) := by
  obtain ⟨n, hn⟩ := Int.eq_ofNat_of_zero_le (Int.emod_nonneg v (by decide : (18446744073709551616 : Int) ≠ 0))
  have hw : IntKind.u64.wrap v = (n : Int) := by
    rw [← hn]
    simp [IntKind.wrap, IntKind.bits, IntKind.signed]
  have hn2 : n < 18446744073709551616 := by
    have := Int.emod_lt_of_pos v (by decide : (0 : Int) < 18446744073709551616)
    omega
  rw [hw, show (9223372036854775808 : Int) = ((9223372036854775808 : Nat) : Int) from rfl, u64_xor_nat _ _ hn2 (by decide), xor_top n hn2]
  unfold Ky.turn
  omega
theorem turn_lt (v : Int) (hv : v ≤ 9223372036854775807) : Ky.turn v < 18446744073709551616 := by unfold Ky.turn; omega
theorem byte_at (t j : Nat) (hj : j < 8) : (t : Int) / 2 ^ (56 - 8 * j) % 256 = ((t / 256 ^ (8 - 1 - j) % 256 : Nat) : Int) := by
  have e : (256 : Nat) ^ (8 - 1 - j) = 2 ^ (56 - 8 * j) := by
    rw [show (256 : Nat) = 2 ^ 8 from rfl, ← Nat.pow_mul]
    congr 1
    omega
  rw [e]
  simp
theorem be_step (k n j : Nat) (h : j < k) : (Pk.be k n).take (j + 1) = (Pk.be k n).take j ++ [n / 256 ^ (k - 1 - j) % 256] := by
  induction k generalizing j with
  | zero => omega
  | succ k ih =>
    show (n / 256 ^ k % 256 :: Pk.be k n).take (j + 1) = (n / 256 ^ k % 256 :: Pk.be k n).take j ++ _
    match j with
    | 0 => simp
    | j + 1 =>
      rw [List.take_succ_cons, List.take_succ_cons, ih j (by omega), List.cons_append]
      rw [show k + 1 - 1 - (j + 1) = k - 1 - j by omega]
set_option maxRecDepth 100000 in
set_option maxHeartbeats 1000000 in
theorem putNumber_any (B b : Nat) (l : List Nat) (v : Int) (w : World) (h : Bd w B b l) (hv : -9223372036854775808 ≤ v ∧ v ≤ 9223372036854775807) (hlen : l.length ≤ 100000000000) (hBw : B ≤ w.heap.size) :
    Calls Try.prog 56 #[.pointer (some ⟨b, 0, none⟩), .int .i64 v] w fun e w' => e = .returned (.tuple #[]) ∧ Bd w' B b (l ++ Pk.be 8 (Ky.turn v)) ∧ Below B w w' ∧ Kept b w w' := by
  go_enter Try.func56, Try.ntmps56
  go_wp2_with fail
  simp only [xor_turn v hv]
  go_loopw [5] (fun i wr => ∃ j : Nat, j ≤ 8 ∧ i = .int .i64 (56 - 8 * (j : Int)) ∧ Bd wr B b (l ++ (Pk.be 8 (Ky.turn v)).take j) ∧ Below B w wr ∧ Kept b w wr) (fun i _ => (intOf i + 8).toNat)
  case atStart =>
    exact ⟨0, by omega, rfl, by simpa using h, Below.refl _ _, Lib.OthersKept.refl _ _ _⟩
  case round =>
    obtain ⟨j, hj, rfl, hbd, hbel, hkp⟩ := hrel
    by_cases hlt : j < 8
    · have hge : (0 : Int) ≤ 56 - 8 * (j : Int) := by omega
      have HB := Lib.hid (And.intro hbd (And.intro hbel hkp))
      clear hbd hbel hkp
      go_wp2_with fail
      rw [byte_at _ _ hlt]
      refine (writeByte_any B b _ _ wr HB.out.1 (Nat.mod_lt _ (by omega)) (by simp; omega) (by have := HB.out.2.1.size; omega)).mono ?_
      rintro e w1 ⟨rfl, h1, b1, k1⟩
      rw [List.append_assoc, ← be_step 8 _ j hlt] at h1
      have H1 := Lib.hid (And.intro h1 (And.intro (HB.out.2.1.trans b1) (HB.out.2.2.trans k1)))
      clear h1 b1 k1
      go_wp2_with fail
      refine ⟨⟨j + 1, by omega, by go_num, H1.out.1, H1.out.2.1, H1.out.2.2⟩, by simp [intOf]; omega⟩
    · obtain rfl : j = 8 := by omega
      have HB := Lib.hid (And.intro hbd (And.intro hbel hkp))
      clear hbd hbel hkp
      go_wp2_with fail
      go_end0
      refine ⟨rfl, ?_, HB.out.2.1, HB.out.2.2⟩
      have := HB.out.1
      rwa [List.take_of_length_le (by rw [Pk.be_len]; omega)] at this
set_option maxRecDepth 100000 in
set_option maxHeartbeats 1000000 in
theorem putText_any (B b : Nat) (l : List Nat) (s : ByteArray) (w : World) (h : Bd w B b l) (hs : s.size ≤ 1000000) (hlen : l.length ≤ 100000000000) (hBw : B ≤ w.heap.size) :
    Calls Try.prog 57 #[.pointer (some ⟨b, 0, none⟩), .string s] w fun e w' => e = .returned (.tuple #[]) ∧ Bd w' B b (l ++ Ky.text (nums s)) ∧ Below B w w' ∧ Kept b w w' := by
  go_enter Try.func57, Try.ntmps57
  go_wp2_with fail
  go_loopw [7] (fun i wr => ∃ j : Nat, j ≤ s.size ∧ i = .int .i64 (j : Int) ∧ Bd wr B b (l ++ Ky.esc ((nums s).take j)) ∧ Below B w wr ∧ Kept b w wr) (fun i _ => s.size - (intOf i).toNat)
  case atStart => exact ⟨0, by omega, rfl, by simpa [Ky.esc] using h, Below.refl _ _, Lib.OthersKept.refl _ _ _⟩
  case round =>
    obtain ⟨j, hj, rfl, hbd, hbel, hkp⟩ := hrel
    have HB := Lib.hid (And.intro hbd (And.intro hbel hkp))
    clear hbd hbel hkp
    have hel : (Ky.esc ((nums s).take j)).length ≤ 2 * s.size := by
      have h1 := esc_len ((nums s).take j)
      have h2 : ((nums s).take j).length ≤ s.size := by rw [List.length_take, nums_len]; omega
      omega
    by_cases hlt : j < s.size
    · have hst := esc_step s j hlt
      have hat := nums_at s j hlt
      rw [hat] at hst
      have HST := Lib.hid hst
      have hxl : s[j].toNat < 256 := s[j].toNat_lt
      clear hst hat
      go_wp2_with fail
      refine (writeByte_any B b _ s[j].toNat wr HB.out.1 hxl (by simp; omega) (by have := HB.out.2.1.size; omega)).mono ?_
      rintro e w1 ⟨rfl, h1, b1, k1⟩
      have H1 := Lib.hid (And.intro h1 (And.intro (HB.out.2.1.trans b1) (HB.out.2.2.trans k1)))
      clear h1 b1 k1
      by_cases hx0 : s[j].toNat = 0
      · rw [if_pos hx0] at HST
        rw [hx0] at H1 ⊢
        go_wp2_with fail
        refine (writeByte_any B b _ 255 w1 H1.out.1 (by omega) (by simp; omega) (by have := H1.out.2.1.size; omega)).mono ?_
        rintro e w2 ⟨rfl, h2, b2, k2⟩
        have H2 := Lib.hid (And.intro h2 (And.intro (H1.out.2.1.trans b2) (H1.out.2.2.trans k2)))
        clear h2 b2 k2
        go_wp2_with fail
        refine ⟨⟨j + 1, by omega, by go_num, ?_, H2.out.2.1, H2.out.2.2⟩, by simp [intOf]; omega⟩
        have := H2.out.1
        rw [HST.out]
        simpa [List.append_assoc] using this
      · rw [if_neg hx0] at HST
        have hxb : ((s[j].toNat : Int) == 0) = false := by rw [beq_eq_false_iff_ne]; omega
        have hxn : ¬ (s[j].toNat : Int) = 0 := by omega
        go_wp2_with fail
        refine ⟨⟨j + 1, by omega, by go_num, ?_, H1.out.2.1, H1.out.2.2⟩, by simp [intOf]; omega⟩
        have := H1.out.1
        rw [HST.out]
        simpa [List.append_assoc] using this
    · obtain rfl : j = s.size := by omega
      have hge : ¬ ((s.size : Int) < (s.size : Int)) := by omega
      go_wp2_with fail
      refine (writeString_any B b _ ⟨#[0, 0]⟩ wr HB.out.1 (by rw [List.length_append, show (⟨#[0, 0]⟩ : ByteArray).size = 2 from rfl]; omega) (by have := HB.out.2.1.size; omega)).mono ?_
      rintro e w1 ⟨rfl, h1, b1, k1⟩
      have H1 := Lib.hid (And.intro h1 (And.intro (HB.out.2.1.trans b1) (HB.out.2.2.trans k1)))
      clear h1 b1 k1
      go_wp2_with fail
      go_end0
      refine ⟨rfl, ?_, H1.out.2.1, H1.out.2.2⟩
      have := H1.out.1
      rw [List.take_of_length_le (by rw [nums_len]; omega)] at this
      simpa [nums, Ky.text, List.append_assoc] using this
end Go.Proofs.Ytponelbfddfliaa
