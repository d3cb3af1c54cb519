/- The calls of layer 1 that only compute: a register that is halved eight times, one that takes a byte, and the document's own. -/
import Derived.Test.YtflfmcicidgkmaaRows
import Derived.Test.YtflfmcicidgkmaaCrc
import Derived.WalkKit
import Derived.ProofKit
import Derived.Laws.BitsAllLaws
import Derived.Lib.Hide
namespace Go.Proofs.Ytflfmcicidgkmaa
open Go.ChangeShapes Go.WideShapes Go.ChangeAt Go.RowKit

theorem ret_int {k : IntKind} {a b : Int} (h : a = b) : Ending.returned (.int k a) = .returned (.int k b) := by rw [h]
theorem int_eq {k : IntKind} {a b : Int} (h : a = b) : Value.int k a = .int k b := by rw [h]

theorem bits_and_one (c : Nat) (hc : c < 4294967296) : bits .and .u32 (c : Int) 1 = ((c % 2 : Nat) : Int) := by
  have h := u32_and_nat c 1 hc (by omega)
  rw [Nat.and_one_is_mod] at h
  exact h
theorem bits_xor_poly (c : Nat) (hc : c < 4294967296) : bits .xor .u32 ((c : Int) / 2) 3988292384 = ((c / 2 ^^^ 3988292384 : Nat) : Int) :=
  u32_xor_nat (c / 2) 3988292384 (by omega) (by omega)
theorem bits_xor (a b : Int) (h1 : 0 ≤ a) (h2 : a < 4294967296) (h3 : 0 ≤ b) (h4 : b < 4294967296) : bits .xor .u32 a b = ((a.toNat ^^^ b.toNat : Nat) : Int) := u32_xor a b h1 h2 h3 h4
theorem half_odd (c : Nat) (h : c % 2 = 1) : Crc.half c = c / 2 ^^^ 3988292384 := by unfold Crc.half; rw [if_pos h]
theorem half_even (c : Nat) (h : ¬ c % 2 = 1) : Crc.half c = c / 2 := by unfold Crc.half; rw [if_neg h]
theorem halves_step {k c n : Nat} (h : k < 8) (hh : Crc.halves (8 - k) c = n) : Crc.halves (8 - (k + 1)) (Crc.half c) = n := by
  rw [← hh, show 8 - k = (8 - (k + 1)) + 1 from by omega]; rfl
theorem halves_end {k c n : Nat} (h : ¬ k < 8) (hh : Crc.halves (8 - k) c = n) : c = n := by
  rw [← hh, show 8 - k = 0 from by omega]; rfl
theorem mod_beq_true {c : Nat} (h : (((c % 2 : Nat) : Int) == 1) = true) : c % 2 = 1 := by simp at h; omega
theorem mod_beq_false {c : Nat} (h : (((c % 2 : Nat) : Int) == 1) = false) : ¬ c % 2 = 1 := by simp at h; omega

theorem halved_any (n : Int) (w : World) (h0 : 0 ≤ n) (h1 : n < 4294967296) :
    Calls Try.prog 24 #[.int .u32 n] w fun e w' => e = .returned (.int .u32 ((Crc.eight n.toNat : Nat) : Int)) ∧ w = w' := by
  go_enter Try.func24, Try.ntmps24
  go_wp2
  go_loop [0, 4] (fun t i => ∃ k c : Nat, k ≤ 8 ∧ i = .int .i64 k ∧ c < 4294967296 ∧ Crc.halves (8 - k) c = Crc.eight n.toNat ∧ t = .int .u32 c) (fun _ i => 8 - (intOf i).toNat)
  case atStart => exact ⟨0, n.toNat, by omega, rfl, by omega, rfl, by rw [Int.toNat_of_nonneg h0]⟩
  case round =>
    obtain ⟨k, c, hk, rfl, hc, hh, rfl⟩ := hrel
    have HH := Lib.hid hh
    clear hh
    by_cases hlt : k < 8
    · have he := bits_and_one c hc
      by_cases hp : c % 2 = 1
      · have hb : (((c % 2 : Nat) : Int) == 1) = true := by rw [hp]; rfl
        have HP := Lib.hid hp
        clear hp
        go_wp2
        go_round
        case rel => exact ⟨k + 1, Crc.half c, by omega, by go_num, Crc.half_lt hc, halves_step hlt HH.out, int_eq (by rw [bits_xor_poly c hc, half_odd c HP.out])⟩
        case measure => simp [intOf]; omega
      · have hb : (((c % 2 : Nat) : Int) == 1) = false := by simp; omega
        have HP := Lib.hid hp
        clear hp
        go_wp2
        go_round
        case rel => exact ⟨k + 1, Crc.half c, by omega, by go_num, Crc.half_lt hc, halves_step hlt HH.out, int_eq (by rw [half_even c HP.out]; omega)⟩
        case measure => simp [intOf]; omega
    · go_wp2
      go_ret
      exact ⟨ret_int (by rw [halves_end hlt HH.out]), rfl⟩

theorem take_any (n b : Int) (w : World) (h0 : 0 ≤ n) (h1 : n < 4294967296) (h2 : 0 ≤ b) (h3 : b < 256) :
    Calls Try.prog 14 #[.int .u32 n, .int .u8 b] w fun e w' => e = .returned (.int .u32 ((Crc.take n.toNat b.toNat : Nat) : Int)) ∧ w = w' := by
  have hx := bits_xor n b h0 h1 h2 (by omega)
  have hl := Crc.xor_lt (a := n.toNat) (b := b.toNat) (by omega) (by omega)
  go_enter Try.func14, Try.ntmps14
  go_wp2_with (go_at_call 24; refine (halved_any _ _ (by omega) (by omega)).mono ?_; rintro e w' ⟨rfl, rfl⟩)
  go_ret
  exact ⟨rfl, rfl⟩

theorem refTake_any (n b : Int) (w : World) (h0 : 0 ≤ n) (h1 : n < 4294967296) (h2 : 0 ≤ b) (h3 : b < 256) :
    Calls Try.prog 15 #[.int .u32 n, .int .u8 b] w fun e w' => e = .returned (.int .u32 ((Crc.take n.toNat b.toNat : Nat) : Int)) ∧ w = w' := by
  have hx := bits_xor n b h0 h1 h2 (by omega)
  have hl := Crc.xor_lt (a := n.toNat) (b := b.toNat) (by omega) (by omega)
  go_enter Try.func15, Try.ntmps15
  go_wp2
  go_loop [5, 6] (fun t i => ∃ k c : Nat, k ≤ 8 ∧ i = .int .i64 k ∧ c < 4294967296 ∧ Crc.halves (8 - k) c = Crc.take n.toNat b.toNat ∧ t = .int .u32 c) (fun _ i => 8 - (intOf i).toNat)
  case atStart => exact ⟨0, _, by omega, rfl, hl, rfl, rfl⟩
  case round =>
    obtain ⟨k, c, hk, rfl, hc, hh, rfl⟩ := hrel
    have HH := Lib.hid hh
    clear hh hx hl
    by_cases hlt : k < 8
    · by_cases hp : c % 2 = 1
      · have hb : (((c : Int) % 2) == 1) = true := by simp; omega
        have HP := Lib.hid hp
        clear hp
        go_wp2
        go_round
        case rel => exact ⟨k + 1, Crc.half c, by omega, by go_num, Crc.half_lt hc, halves_step hlt HH.out, int_eq (by rw [bits_xor_poly c hc, half_odd c HP.out])⟩
        case measure => simp [intOf]; omega
      · have hb : (((c : Int) % 2) == 1) = false := by simp; omega
        have HP := Lib.hid hp
        clear hp
        go_wp2
        go_round
        case rel => exact ⟨k + 1, Crc.half c, by omega, by go_num, Crc.half_lt hc, halves_step hlt HH.out, int_eq (by rw [half_even c HP.out]; omega)⟩
        case measure => simp [intOf]; omega
    · go_wp2
      go_ret
      exact ⟨ret_int (by rw [halves_end hlt HH.out]), rfl⟩
end Go.Proofs.Ytflfmcicidgkmaa
