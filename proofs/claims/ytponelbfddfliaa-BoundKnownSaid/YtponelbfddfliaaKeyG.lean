/- Layer 4, the program: a number taken. -/
import Derived.Test.YtponelbfddfliaaKeyF
import Derived.Test.YtponelbfddfliaaKyS
import Derived.Test.YtponelbfddfliaaRefF
namespace Go.Proofs.Ytponelbfddfliaa
open Go.ChangeShapes Go.WideShapes Go.ChangeAt Go.RowKit

/-- What a taking tells: the part, what is left, whether. -/
def Took (w : World) (v : Value) (L : ByteArray) (ok : Bool) (e : Ending) (w' : World) : Prop := e = .returned (.tuple #[v, .string L, .bool ok]) ∧ Below w.heap.size w w'
theorem num_shift (l : List Nat) (j : Nat) (hj : j < l.length) (hl : ∀ x ∈ l, x < 256) (h8 : j < 8) : (Pk.num (l.take j) * 256) % 18446744073709551616 ||| l.getD j 0 = Pk.num (l.take (j + 1)) := by
  obtain ⟨h1, h2⟩ := num_step l j hj hl h8
  have hm : Pk.num (l.take j) * 256 % 18446744073709551616 = Pk.num (l.take j) * 256 := Nat.mod_eq_of_lt (Nat.lt_of_le_of_lt (Nat.le_add_right _ _) h2)
  have hx : l.getD j 0 < 2 ^ 8 := by
    rw [List.getD_eq_getElem?_getD, List.getElem?_eq_getElem hj]
    exact hl _ (List.getElem_mem _)
  have hj2 : ∀ x y : Nat, x % 256 = 0 → y < 256 → x ||| y = x + y := fun x y => nat_join 8 x y
  rw [hm, h1, hj2 _ _ (Nat.mul_mod_left _ _) hx]
theorem or_step (a x y : Nat) (hx : x < 256) (h : a * 256 % 18446744073709551616 ||| x = y) : bits .or .u64 (IntKind.u64.wrap ((a : Int) * 256)) (x : Int) = (y : Int) := by
  have e : IntKind.u64.wrap ((a : Int) * 256) = ((a * 256 % 18446744073709551616 : Nat) : Int) := by
    simp [IntKind.wrap, IntKind.bits, IntKind.signed]
  rw [e, u64_or_nat _ _ (Nat.mod_lt _ (by decide)) (by omega), h]
theorem xor_back (n : Nat) (h : n < 18446744073709551616) : wrap64 (bits .xor .u64 (n : Int) 9223372036854775808) = (n : Int) - 9223372036854775808 := by
  rw [show (9223372036854775808 : Int) = ((9223372036854775808 : Nat) : Int) from rfl, u64_xor_nat _ _ h (by decide), xor_top n h]
  unfold wrap64
  omega
set_option maxRecDepth 100000 in
set_option maxHeartbeats 1000000 in
theorem takeNumber_short (s : ByteArray) (w : World) (h8 : s.size < 8) : Calls Try.prog 87 #[.string s] w (Took w zeroP ⟨#[]⟩ false) := by
  have h8' : (s.size : Int) < 8 := by omega
  go_enter Try.func87, Try.ntmps87
  go_wp2_with fail
  refine bodyPost_ret (v := .tuple #[zeroP, .string ⟨#[]⟩, .bool false]) ?_ rfl ⟨rfl, ?_⟩
  · simp [results, Try.results87, go_sem, zeroP, partV]
  · exact (Below.refl _ _).alloc (Nat.le_refl _) _
set_option maxRecDepth 100000 in
set_option maxHeartbeats 1000000 in
theorem takeNumber_full (s : ByteArray) (w : World) (h8 : ¬ s.size < 8) (hs : s.size ≤ 1000000) : Calls Try.prog 87 #[.string s] w (Took w (partV 1 ((Pk.num ((nums s).take 8) : Int) - 9223372036854775808) ⟨#[]⟩) (s.extract 8 s.size) true) := by
  have h8' : ¬ (s.size : Int) < 8 := by omega
  have hbk := Blk.new w 67 #[.int .u8 0, .int .i64 0, .string ⟨#[]⟩]
  have hbe : Below w.heap.size w (w.alloc (.cells #[.int .u8 0, .int .i64 0, .string ⟨#[]⟩] 67)) := (Below.refl _ _).alloc (Nat.le_refl _) _
  have hz : (w.alloc (.cells #[.int .u8 0, .int .i64 0, .string ⟨#[]⟩] 67)).heap.size = w.heap.size + 1 := by simp
  obtain ⟨w0, hw0⟩ : ∃ w0, w.alloc (.cells #[.int .u8 0, .int .i64 0, .string ⟨#[]⟩] 67) = w0 := ⟨_, rfl⟩
  rw [hw0] at hbk hbe hz
  have HK := Lib.hid (And.intro hbk (And.intro hbe hz))
  clear hbk hbe hz
  go_enter Try.func87, Try.ntmps87
  go_wp2_with fail
  clear hw0
  go_loopw [5, 11] (fun r i wr => ∃ j : Nat, j ≤ 8 ∧ i = .int .i64 (j : Int) ∧ r = .int .u64 (Pk.num ((nums s).take j) : Int) ∧ wr = w0) (fun _ i _ => 8 - (intOf i).toNat)
  case atStart => exact ⟨0, by omega, rfl, rfl, rfl⟩
  case round =>
    obtain ⟨j, hj, rfl, rfl, rfl⟩ := hrel
    by_cases hlt : j < 8
    · have hjs : j < s.size := by omega
      have hst := num_shift (nums s) j (by rw [nums_len]; exact hjs) (nums_byte s) hlt
      rw [nums_at s j hjs] at hst
      have HST := Lib.hid hst
      have hj1 : (j : Int) < s.size := by omega
      have hxl : s[j].toNat < 256 := s[j].toNat_lt
      clear hst
      generalize Pk.num ((nums s).take j) = a at HST
      go_wp2_with fail
      refine ⟨⟨j + 1, by omega, by go_num, int_eq (or_step a _ _ hxl HST.out), trivial⟩, by simp [intOf]; omega⟩
    · obtain rfl : j = 8 := by omega
      have hN : Pk.num ((nums s).take 8) < 18446744073709551616 := by
        have := Pk.num_take_lt (nums s) 8 (nums_byte s) (by rw [nums_len]; omega)
        have e : (256 : Nat) ^ 8 = 18446744073709551616 := by decide
        omega
      have hw := xor_back _ hN
      obtain ⟨N, hNN⟩ : ∃ N, Pk.num ((nums s).take 8) = N := ⟨_, rfl⟩
      have HNN := Lib.hid hNN
      rw [hNN] at hw hN
      rw [hNN]
      clear hNN
      obtain ⟨Y, hY⟩ : ∃ Y, bits .xor .u64 (N : Int) 9223372036854775808 = Y := ⟨_, rfl⟩
      rw [hY] at hw
      obtain ⟨V, hV⟩ : ∃ V, (N : Int) - 9223372036854775808 = V := ⟨_, rfl⟩
      rw [hV] at hw
      have hw2 : IntKind.i64.wrap Y = V := by rw [IntKind.wrap_i64]; unfold wrap64 at hw; exact hw
      have HV := Lib.hid hV
      clear hV
      go_wp2_with fail
      go_region_held3 (fun _ => True) (trivial) (first | (go_at_call 36; (refine (numberP_any _ _).mono ?_); rintro e w1 ⟨rfl, b1⟩; have hb1 := HK.out.1.below ((Below.refl _ wr).drew.trans b1) (by have := HK.out.2.2; show w.heap.size < wr.heap.size; omega); have hc0 := hb1.cell 0; have hc1 := hb1.cell 1; have hc2 := hb1.cell 2; have hf0 := hb1.frozen 0; have hf1 := hb1.frozen 1; have hf2 := hb1.frozen 2; have HB1 := Lib.hid (And.intro hb1 ((Below.refl wr.heap.size wr).drew.trans b1)); unfold partV; clear hb1 b1))
      have hb2 := ((HB1.out.1.set_ 0 (.int .u8 1)).set_ 1 (.int .i64 V)).set_ 2 (.string ⟨#[]⟩)
      have e0 := hb2.cell 0
      have e1 := hb2.cell 1
      have e2 := hb2.cell 2
      have HBB := Lib.hid (HK.out.2.1.trans (HB1.out.2.mono HK.out.2.1.size))
      go_wp2_with fail
      refine bodyPost_ret (v := .tuple #[partV 1 V ⟨#[]⟩, .string (s.extract 8 s.size), .bool true]) ?_ rfl ⟨by rw [HNN.out, HV.out], ?_⟩
      · simp [results, Try.results87, go_sem, partV, e0, e1, e2]
      · exact (((HBB.out.setCell (Nat.le_refl _) _).setCell (Nat.le_refl _) _).setCell (Nat.le_refl _) _)
end Go.Proofs.Ytponelbfddfliaa
