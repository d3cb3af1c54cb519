/- Plain mathematics of layer 3: numbers that fit, signs of bits, wide numbers in places of 2^32. -/
import Derived.IntWalk
import Derived.Laws.BitsAllLaws
import Derived.Laws.Shifts
namespace Go.Proofs.Ytaplmioohihmbaa
open Go.RowKit
/-- Does a number fit? and what is told of it. -/
def fitB (n : Int) : Bool := decide (-9223372036854775808 ≤ n ∧ n ≤ 9223372036854775807)
def fitN (n : Int) : Int := if -9223372036854775808 ≤ n ∧ n ≤ 9223372036854775807 then n else 0
theorem fit_yes {n : Int} (h : -9223372036854775808 ≤ n ∧ n ≤ 9223372036854775807) : fitB n = true ∧ fitN n = n := ⟨by unfold fitB; exact decide_eq_true h, by unfold fitN; rw [if_pos h]⟩
theorem fit_no {n : Int} (h : ¬ (-9223372036854775808 ≤ n ∧ n ≤ 9223372036854775807)) : fitB n = false ∧ fitN n = 0 := ⟨by unfold fitB; exact decide_eq_false h, by unfold fitN; rw [if_neg h]⟩
theorem fitN_in (n : Int) : -9223372036854775808 ≤ fitN n ∧ fitN n ≤ 9223372036854775807 := by unfold fitN; split <;> omega
theorem wrap_toInt (b : BitVec 64) : IntKind.i64.wrap (b.toNat : Int) = b.toInt := by
  rw [IntKind.wrap_i64, BitVec.toInt_eq_toNat_cond]
  have := b.isLt
  split <;> omega
theorem ofInt_neg (x : Int) (h : -9223372036854775808 ≤ x ∧ x ≤ 9223372036854775807) : (BitVec.ofInt 64 x).msb = decide (x < 0) := by
  rw [BitVec.msb_eq_toInt, BitVec.toInt_ofInt, Int.bmod_eq_of_le (by omega) (by omega)]
theorem bits_and_i64 (x y : Int) : bits .and .i64 x y = (BitVec.ofInt 64 x &&& BitVec.ofInt 64 y).toInt := wrap_toInt _
theorem bits_or_i64 (x y : Int) : bits .or .i64 x y = (BitVec.ofInt 64 x ||| BitVec.ofInt 64 y).toInt := wrap_toInt _
theorem bits_xor_i64 (x y : Int) : bits .xor .i64 x y = (BitVec.ofInt 64 x ^^^ BitVec.ofInt 64 y).toInt := wrap_toInt _
theorem toInt_in (b : BitVec 64) : -9223372036854775808 ≤ b.toInt ∧ b.toInt ≤ 9223372036854775807 := by
  have h1 := BitVec.le_toInt b
  have h2 := BitVec.toInt_lt (x := b)
  simp at h1 h2
  omega
theorem xor_neg (x y : Int) (hx : -9223372036854775808 ≤ x ∧ x ≤ 9223372036854775807) (hy : -9223372036854775808 ≤ y ∧ y ≤ 9223372036854775807) :
    (-9223372036854775808 ≤ bits .xor .i64 x y ∧ bits .xor .i64 x y ≤ 9223372036854775807) ∧ (bits .xor .i64 x y < 0 ↔ ((x < 0 ∧ 0 ≤ y) ∨ (0 ≤ x ∧ y < 0))) := by
  rw [bits_xor_i64]
  refine ⟨toInt_in _, ?_⟩
  have h := BitVec.msb_eq_toInt (x := BitVec.ofInt 64 x ^^^ BitVec.ofInt 64 y)
  rw [BitVec.msb_xor, ofInt_neg x hx, ofInt_neg y hy] at h
  by_cases a : x < 0 <;> by_cases b : y < 0 <;> simp [a, b] at h ⊢ <;> omega
theorem and_neg (x y : Int) (hx : -9223372036854775808 ≤ x ∧ x ≤ 9223372036854775807) (hy : -9223372036854775808 ≤ y ∧ y ≤ 9223372036854775807) :
    bits .and .i64 x y < 0 ↔ (x < 0 ∧ y < 0) := by
  rw [bits_and_i64]
  have h := BitVec.msb_eq_toInt (x := BitVec.ofInt 64 x &&& BitVec.ofInt 64 y)
  rw [BitVec.msb_and, ofInt_neg x hx, ofInt_neg y hy] at h
  by_cases a : x < 0 <;> by_cases b : y < 0 <;> simp [a, b] at h ⊢ <;> omega
/-- A sum of two numbers ran over just where its sign is neither's. -/
theorem add_sign (a b : Int) (ha : -9223372036854775808 ≤ a ∧ a ≤ 9223372036854775807) (hb : -9223372036854775808 ≤ b ∧ b ≤ 9223372036854775807) :
    decide (bits .and .i64 (bits .xor .i64 a (wrap64 (a + b))) (bits .xor .i64 b (wrap64 (a + b))) < 0) = !fitB (a + b) := by
  have hs : -9223372036854775808 ≤ wrap64 (a + b) ∧ wrap64 (a + b) ≤ 9223372036854775807 := by unfold wrap64; omega
  have e : wrap64 (a + b) = (a + b + 9223372036854775808) % 18446744073709551616 - 9223372036854775808 := by unfold wrap64; rfl
  obtain ⟨x1, x2⟩ := xor_neg a _ ha hs
  obtain ⟨y1, y2⟩ := xor_neg b _ hb hs
  rw [Bool.eq_iff_iff, decide_eq_true_iff, and_neg _ _ x1 y1, x2, y2]
  unfold fitB
  simp only [Bool.not_eq_true', decide_eq_false_iff_not]
  rw [e]
  omega
theorem sub_sign (a b : Int) (ha : -9223372036854775808 ≤ a ∧ a ≤ 9223372036854775807) (hb : -9223372036854775808 ≤ b ∧ b ≤ 9223372036854775807) :
    decide (bits .and .i64 (bits .xor .i64 a b) (bits .xor .i64 a (wrap64 (a - b))) < 0) = !fitB (a - b) := by
  have hs : -9223372036854775808 ≤ wrap64 (a - b) ∧ wrap64 (a - b) ≤ 9223372036854775807 := by unfold wrap64; omega
  have e : wrap64 (a - b) = (a - b + 9223372036854775808) % 18446744073709551616 - 9223372036854775808 := by unfold wrap64; rfl
  obtain ⟨x1, x2⟩ := xor_neg a _ ha hb
  obtain ⟨y1, y2⟩ := xor_neg a _ ha hs
  rw [Bool.eq_iff_iff, decide_eq_true_iff, and_neg _ _ x1 y1, x2, y2]
  unfold fitB
  simp only [Bool.not_eq_true', decide_eq_false_iff_not]
  rw [e]
  omega
/-- The low 32 digits. -/
theorem and_low (x : Int) : bits .and .i64 x 4294967295 = x % 4294967296 := by
  have h : (BitVec.ofInt 64 x &&& BitVec.ofInt 64 4294967295).toNat = (x % 18446744073709551616).toNat % 2 ^ 32 := by
    rw [BitVec.toNat_and, BitVec.toNat_ofInt, BitVec.toNat_ofInt]
    exact Nat.and_two_pow_sub_one_eq_mod _ 32
  rw [bits_and_i64, BitVec.toInt_eq_toNat_cond, h]
  split <;> omega
theorem or_parts (b a : Int) (ha : 0 ≤ a ∧ a < 4294967296) (hb : 0 ≤ b ∧ b < 4294967296) : bits .or .i64 (wrap64 (b * 4294967296)) a = wrap64 (b * 4294967296 + a) := by
  obtain ⟨A, rfl⟩ := Int.eq_ofNat_of_zero_le ha.1
  obtain ⟨B, rfl⟩ := Int.eq_ofNat_of_zero_le hb.1
  have e1 : (BitVec.ofInt 64 (wrap64 ((B : Int) * 4294967296))).toNat = B <<< 32 := by
    rw [BitVec.toNat_ofInt, Nat.shiftLeft_eq]
    unfold wrap64
    omega
  have e2 : (BitVec.ofInt 64 (A : Int)).toNat = A := by rw [BitVec.toNat_ofInt]; omega
  have h : (BitVec.ofInt 64 (wrap64 ((B : Int) * 4294967296)) ||| BitVec.ofInt 64 (A : Int)).toNat = B * 4294967296 + A := by
    rw [BitVec.toNat_or, e1, e2, ← Nat.shiftLeft_add_eq_or_of_lt (i := 32) (by omega), Nat.shiftLeft_eq]
  rw [bits_or_i64, BitVec.toInt_eq_toNat_cond, h]
  unfold wrap64
  split <;> omega
/-- A product ran over just where dividing does not bring the number back. -/
theorem tdiv_le_abs (p b : Int) : (p.tdiv b).natAbs ≤ p.natAbs := by rw [Int.natAbs_tdiv]; exact Nat.div_le_self _ _
theorem mul_back (a b : Int) (hb : -9223372036854775808 ≤ b ∧ b ≤ 9223372036854775807) (h0 : b ≠ 0) (h1 : b ≠ -1) :
    ((wrap64 ((wrap64 (a * b)).tdiv b)) == a) = fitB (a * b) := by
  have hp : -9223372036854775808 ≤ wrap64 (a * b) ∧ wrap64 (a * b) ≤ 9223372036854775807 := by unfold wrap64; omega
  have e : wrap64 (a * b) = (a * b + 9223372036854775808) % 18446744073709551616 - 9223372036854775808 := by unfold wrap64; rfl
  generalize hP : wrap64 (a * b) = p at hp e ⊢
  have hq : -9223372036854775808 ≤ p.tdiv b ∧ p.tdiv b ≤ 9223372036854775807 := by
    by_cases hb1 : b = 1
    · subst hb1; rw [Int.tdiv_one]; omega
    · have h2 : (p.tdiv b).natAbs * 2 ≤ p.natAbs := by
        have e2 : (p.tdiv b).natAbs = p.natAbs / b.natAbs := Int.natAbs_tdiv ..
        have : p.natAbs / b.natAbs ≤ p.natAbs / 2 := Nat.div_le_div_left (by omega) (by decide)
        omega
      omega
  have hw : wrap64 (p.tdiv b) = p.tdiv b := IntWalk.wrap64_in _ hq
  rw [hw]
  have hdm := Int.mul_tdiv_add_tmod p b
  have hr : (p.tmod b).natAbs < b.natAbs := by
    rw [Int.natAbs_tmod]
    exact Nat.mod_lt _ (by omega)
  by_cases hf : -9223372036854775808 ≤ a * b ∧ a * b ≤ 9223372036854775807
  · rw [(fit_yes hf).1]
    have : p = a * b := by omega
    subst this
    rw [Int.mul_tdiv_cancel _ h0]
    simp
  · rw [(fit_no hf).1]
    refine beq_eq_false_iff_ne.mpr fun hx => hf ?_
    rw [hx, Int.mul_comm] at hdm
    omega
theorem floor_div (n d : Int) (hd : 0 < d) : n / d = if n.tmod d < 0 then n.tdiv d - 1 else n.tdiv d := by
  have h1 := Int.mul_tdiv_add_tmod n d
  have h2 : (n.tmod d).natAbs < d.natAbs := by rw [Int.natAbs_tmod]; exact Nat.mod_lt _ (by omega)
  split
  · refine ((Int.ediv_emod_unique (r := n.tmod d + d) hd).2 ⟨?_, by omega, by omega⟩).1
    rw [Int.mul_sub]; omega
  · exact ((Int.ediv_emod_unique (r := n.tmod d) hd).2 ⟨by omega, by omega, by omega⟩).1
theorem floor_mod (n d : Int) (hd : 0 < d) : n % d = if n.tmod d < 0 then n.tmod d + d else n.tmod d := by
  have h1 := Int.mul_tdiv_add_tmod n d
  have h2 : (n.tmod d).natAbs < d.natAbs := by rw [Int.natAbs_tmod]; exact Nat.mod_lt _ (by omega)
  split
  · refine ((Int.ediv_emod_unique (q := n.tdiv d - 1) hd).2 ⟨?_, by omega, by omega⟩).2
    rw [Int.mul_sub]; omega
  · exact ((Int.ediv_emod_unique (q := n.tdiv d) hd).2 ⟨by omega, by omega, by omega⟩).2
theorem floor_neg (n d : Int) (hd : 0 < d) : n / d = -1 - (-(n + 1)) / d ∧ n % d = d - 1 - (-(n + 1)) % d := by
  have h1 := Int.mul_ediv_add_emod (-(n + 1)) d
  have h2 := Int.emod_nonneg (-(n + 1)) (by omega : d ≠ 0)
  have h3 := Int.emod_lt_of_pos (-(n + 1)) hd
  have := (Int.ediv_emod_unique (a := n) (q := -1 - (-(n + 1)) / d) (r := d - 1 - (-(n + 1)) % d) hd).2 ⟨by rw [Int.mul_sub]; omega, by omega, by omega⟩
  exact this
theorem ediv_in (n d : Int) (hd : 0 < d) (hn : -9223372036854775808 ≤ n ∧ n ≤ 9223372036854775807) : -9223372036854775808 ≤ n / d ∧ n / d ≤ 9223372036854775807 := by
  have h1 := Int.mul_ediv_add_emod n d
  have h2 := Int.emod_nonneg n (by omega : d ≠ 0)
  have h3 := Int.emod_lt_of_pos n hd
  constructor
  · rcases Int.lt_or_le (n / d) (-9223372036854775808) with h | h
    · have : d * (n / d) ≤ d * (-9223372036854775809) := Int.mul_le_mul_of_nonneg_left (by omega) (by omega)
      omega
    · exact h
  · rcases Int.lt_or_le 9223372036854775807 (n / d) with h | h
    · have : d * 9223372036854775808 ≤ d * (n / d) := Int.mul_le_mul_of_nonneg_left (by omega) (by omega)
      omega
    · exact h
/-- The places of a wide number. -/
def pA (m : Int) : Int := m % 4294967296
def pB (m : Int) : Int := m / 4294967296 % 4294967296
def pC (m : Int) : Int := m / 18446744073709551616 % 4294967296
def pD (m : Int) : Int := m / 79228162514264337593543950336
/-- A number that has room. -/
def Room (m : Int) : Prop := -170141183460469231731687303715884105728 ≤ m ∧ m ≤ 170141183460469231731687303715884105728
theorem pA_in (m : Int) : 0 ≤ pA m ∧ pA m < 4294967296 := by unfold pA; omega
theorem pB_in (m : Int) : 0 ≤ pB m ∧ pB m < 4294967296 := by unfold pB; omega
theorem pC_in (m : Int) : 0 ≤ pC m ∧ pC m < 4294967296 := by unfold pC; omega
theorem pD_in (m : Int) (h : Room m) : -2147483648 ≤ pD m ∧ pD m ≤ 2147483648 := by unfold Room at h; unfold pD; omega
theorem places (m : Int) : m = pA m + 4294967296 * pB m + 18446744073709551616 * pC m + 79228162514264337593543950336 * pD m := by unfold pA pB pC pD; omega
theorem places_eq {m n : Int} (h1 : pA m = pA n) (h2 : pB m = pB n) (h3 : pC m = pC n) (h4 : pD m = pD n) : m = n := by
  rw [places m, places n, h1, h2, h3, h4]
/-- The number that four places make. -/
def num4 (a b c d : Int) : Int := a + 4294967296 * b + 18446744073709551616 * c + 79228162514264337593543950336 * d
theorem settle_A (a b c d : Int) : a % 4294967296 = pA (num4 a b c d) := by unfold pA num4; omega
theorem settle_B (a b c d : Int) : (b + a / 4294967296) % 4294967296 = pB (num4 a b c d) := by unfold pB num4; omega
theorem settle_C (a b c d : Int) : (c + (b + a / 4294967296) / 4294967296) % 4294967296 = pC (num4 a b c d) := by unfold pC num4; omega
theorem settle_D (a b c d : Int) : d + (c + (b + a / 4294967296) / 4294967296) / 4294967296 = pD (num4 a b c d) := by unfold pD num4; omega
theorem num4_of (n : Int) : num4 (n % 4294967296) (n / 4294967296) 0 0 = n := by unfold num4; omega
theorem num4_plus (m n : Int) : num4 (pA m + pA n) (pB m + pB n) (pC m + pC n) (pD m + pD n) = m + n := by
  have h1 := places m
  have h2 := places n
  unfold num4
  omega
theorem num4_less (m : Int) : num4 (-pA m) (-pB m) (-pC m) (-pD m) = -m := by
  have h1 := places m
  unfold num4
  omega
theorem num4_self (m : Int) : num4 (pA m) (pB m) (pC m) (pD m) = m := (places m).symm
/-- What the two low places make. -/
theorem low_two (m : Int) : wrap64 (pB m * 4294967296 + pA m) = wrap64 m := by unfold wrap64 pA pB; omega
theorem wrap_fits (m : Int) : (wrap64 m = m) ↔ (-9223372036854775808 ≤ m ∧ m ≤ 9223372036854775807) := by unfold wrap64; omega
theorem and_one (x : Int) : bits .and .i64 x 1 = x % 2 := by
  have h : (BitVec.ofInt 64 x &&& BitVec.ofInt 64 1).toNat = (x % 18446744073709551616).toNat % 2 ^ 1 := by
    rw [BitVec.toNat_and, BitVec.toNat_ofInt, BitVec.toNat_ofInt]
    exact Nat.and_two_pow_sub_one_eq_mod _ 1
  rw [bits_and_i64, BitVec.toInt_eq_toNat_cond, h]
  split <;> omega
theorem bit_of {a b i j : Nat} (h : a.testBit i = b.testBit j) : a / 2 ^ i % 2 = b / 2 ^ j % 2 := by
  rw [Nat.testBit_eq_decide_div_mod_eq, Nat.testBit_eq_decide_div_mod_eq] at h
  have := decide_eq_decide.mp h
  omega
theorem digA (Y k : Nat) (h : k < 32) : (Y % 4294967296) / 2 ^ k % 2 = Y / 2 ^ k % 2 := by
  refine bit_of ?_
  rw [show 4294967296 = 2 ^ 32 by decide, Nat.testBit_mod_two_pow]
  simp [h]
theorem digB (Y k : Nat) (h : 32 ≤ k) (h2 : k < 64) : (Y / 4294967296 % 4294967296) / 2 ^ (k - 32) % 2 = Y / 2 ^ k % 2 := by
  refine bit_of ?_
  rw [show 4294967296 = 2 ^ 32 by decide, Nat.testBit_mod_two_pow, Nat.testBit_div_two_pow, show k - 32 + 32 = k by omega]
  have : k - 32 < 32 := by omega
  simp [this]
theorem pA_nat (Y : Nat) : pA (Y : Int) = ((Y % 4294967296 : Nat) : Int) := by unfold pA; omega
theorem pB_nat (Y : Nat) : pB (Y : Int) = ((Y / 4294967296 % 4294967296 : Nat) : Int) := by unfold pB; omega
/-- The digit of a number that the document's product looks at. -/
def dig (Y k : Nat) : Int := ((Y / 2 ^ k % 2 : Nat) : Int)
theorem dig_A (Y k : Nat) (h : k < 32) : pA (Y : Int) / 2 ^ k % 2 = dig Y k := by
  rw [pA_nat, dig, ← digA Y k h]
  norm_cast
theorem dig_B (Y k : Nat) (h : 32 ≤ k) (h2 : k < 64) : pB (Y : Int) / 2 ^ (k - 32) % 2 = dig Y k := by
  rw [pB_nat, dig, ← digB Y k h h2]
  norm_cast
/-- What is added up of the product behind k digits. -/
def prod (x : Int) (Y k : Nat) : Int := x * ((Y % 2 ^ k : Nat) : Int)
theorem prod_zero (x : Int) (Y : Nat) : prod x Y 0 = 0 := by unfold prod; rw [Nat.pow_zero, Nat.mod_one]; simp
theorem prod_one (x : Int) (Y k : Nat) (h : dig Y k = 1) : prod x Y (k + 1) = prod x Y k + x * 2 ^ k := by
  unfold prod dig at *
  have h1 : Y / 2 ^ k % 2 = 1 := by omega
  rw [Nat.mod_pow_succ, h1, Nat.mul_one, Int.natCast_add, Int.mul_add]
  norm_cast
theorem prod_no (x : Int) (Y k : Nat) (h : dig Y k ≠ 1) : prod x Y (k + 1) = prod x Y k := by
  unfold prod dig at *
  have h1 : Y / 2 ^ k % 2 = 0 := by omega
  rw [Nat.mod_pow_succ, h1, Nat.mul_zero, Nat.add_zero]
theorem prod_all (x : Int) (Y : Nat) (h : Y < 18446744073709551616) : prod x Y 64 = x * Y := by
  unfold prod
  rw [Nat.mod_eq_of_lt (by omega)]
theorem room_mul (x : Int) (y : Nat) (hx : -9223372036854775808 ≤ x ∧ x ≤ 9223372036854775808) (hy : y ≤ 18446744073709551616) : Room (x * y) := by
  have h1 : x.natAbs * y ≤ 9223372036854775808 * 18446744073709551616 := Nat.mul_le_mul (by omega) hy
  have h2 : (x * y).natAbs = x.natAbs * y := by rw [Int.natAbs_mul]; rfl
  unfold Room
  omega
theorem room_prod (x : Int) (Y k : Nat) (hx : -9223372036854775808 ≤ x ∧ x ≤ 9223372036854775808) (hy : Y ≤ 9223372036854775808) : Room (prod x Y k) :=
  room_mul x _ hx (Nat.le_trans (Nat.mod_le _ _) (by omega))
theorem room_two (x : Int) (k : Nat) (hx : -9223372036854775808 ≤ x ∧ x ≤ 9223372036854775808) (hk : k ≤ 64) : Room (x * 2 ^ k) := by
  have h := room_mul x (2 ^ k) hx (Nat.pow_le_pow_right (by decide) hk : 2 ^ k ≤ 2 ^ 64)
  have e : ((2 ^ k : Nat) : Int) = 2 ^ k := by norm_cast
  rwa [e] at h
theorem two_step (x : Int) (k : Nat) : x * 2 ^ k + x * 2 ^ k = x * 2 ^ (k + 1) := by rw [Int.pow_succ, ← Int.mul_assoc]; omega
end Go.Proofs.Ytaplmioohihmbaa
