/- Layer 4's reference: the first part of a text. -/
import Derived.Test.YtponelbfddfliaaRefP
import Derived.Test.YtponelbfddfliaaKyP
namespace Go.Proofs.Ytponelbfddfliaa
open Go.ChangeShapes Go.WideShapes Go.ChangeAt Go.RowKit

def PartP (w : World) (v : Value) (e : Ending) (w' : World) : Prop := e = .returned v ∧ Below w.heap.size w w'
set_option maxHeartbeats 400000 in
theorem refTextP_any (s : ByteArray) (w : World) : Calls Try.prog 38 #[.string s] w (PartP w (partV 2 0 s)) := by
  go_enter Try.func38, Try.ntmps38
  go_wp2_with fail
  refine bodyPost_ret (v := partV 2 0 s) ?_ rfl ⟨rfl, ?_⟩
  · simp [results, Try.results38, go_sem, partV]
  · exact (Below.refl _ _).alloc (Nat.le_refl _) _
set_option maxHeartbeats 400000 in
theorem refIntP_any (n : Int) (w : World) : Calls Try.prog 39 #[.int .i64 n] w (PartP w (partV 1 n ⟨#[]⟩)) := by
  go_enter Try.func39, Try.ntmps39
  go_wp2_with fail
  refine bodyPost_ret (v := partV 1 n ⟨#[]⟩) ?_ rfl ⟨rfl, ?_⟩
  · simp [results, Try.results39, go_sem, partV]
  · exact (Below.refl _ _).alloc (Nat.le_refl _) _
def zeroP : Value := partV 0 0 ⟨#[]⟩
def FirstP (w : World) (v : Value) (n : Int) (e : Ending) (w' : World) : Prop := e = .returned (.tuple #[v, .int .i64 n]) ∧ Below w.heap.size w w'
theorem num_step (l : List Nat) (j : Nat) (hj : j < l.length) (hl : ∀ x ∈ l, x < 256) (h8 : j < 8) : Pk.num (l.take (j + 1)) = Pk.num (l.take j) * 256 + l.getD j 0 ∧ Pk.num (l.take j) * 256 + l.getD j 0 < 18446744073709551616 := by
  have h1 : Pk.num (l.take (j + 1)) = Pk.num (l.take j) * 256 + l.getD j 0 := by rw [take_snoc l j hj, Pk.num_snoc]
  have h2 := Pk.num_take_lt l (j + 1) hl (by omega)
  have h3 : 256 ^ (j + 1) ≤ 256 ^ 8 := Nat.pow_le_pow_right (by decide) (by omega)
  have e : (256 : Nat) ^ 8 = 18446744073709551616 := by decide
  exact ⟨h1, by omega⟩
set_option maxRecDepth 100000 in
set_option maxHeartbeats 1000000 in
theorem refFirst_short (s : ByteArray) (w : World) (h8 : s.size < 8) : Calls Try.prog 84 #[.string s, .int .u8 1] w (FirstP w zeroP 0) := by
  have h8' : (s.size : Int) < 8 := by omega
  go_enter Try.func84, Try.ntmps84
  go_wp2_with fail
  refine bodyPost_ret (v := .tuple #[zeroP, .int .i64 0]) ?_ rfl ⟨rfl, ?_⟩
  · simp [results, Try.results84, go_sem, zeroP, partV]
  · exact (Below.refl _ _).alloc (Nat.le_refl _) _
set_option maxRecDepth 100000 in
set_option maxHeartbeats 1000000 in
theorem refFirst_int (s : ByteArray) (w : World) (h8 : ¬ s.size < 8) (hs : s.size ≤ 1000000) : Calls Try.prog 84 #[.string s, .int .u8 1] w (FirstP w (partV 1 ((Pk.num ((nums s).take 8) : Int) - 9223372036854775808) ⟨#[]⟩) 8) := by
    have h8' : ¬ (s.size : Int) < 8 := by omega
    go_enter Try.func84, Try.ntmps84
    go_wp2_with fail
    go_loopw [6, 7] (fun r i wr => ∃ j : Nat, j ≤ 8 ∧ i = .int .i64 (j : Int) ∧ r = .int .u64 (Pk.num ((nums s).take j) : Int) ∧ wr = w.alloc (.cells #[.int .u8 0, .int .i64 0, .string ⟨#[]⟩] 71)) (fun _ i _ => 8 - (intOf i).toNat)
    case atStart => exact ⟨0, by omega, rfl, rfl, rfl⟩
    case round =>
      obtain ⟨j, hj, rfl, rfl, rfl⟩ := hrel
      by_cases hlt : j < 8
      · have hjs : j < s.size := by omega
        have hst := num_step (nums s) j (by rw [nums_len]; exact hjs) (nums_byte s) hlt
        rw [nums_at s j hjs] at hst
        have HST := Lib.hid hst
        have hb := hst.2
        have hj1 : (j : Int) < s.size := by omega
        clear hst
        generalize Pk.num ((nums s).take j) = a at HST hb
        go_wp2_with fail
        exact ⟨⟨j + 1, by omega, by go_num, int_eq (by rw [HST.out.1]; omega), trivial⟩, by simp [intOf]; omega⟩
      · obtain rfl : j = 8 := by omega
        have hN : Pk.num ((nums s).take 8) < 18446744073709551616 := by
          have := Pk.num_take_lt (nums s) 8 (nums_byte s) (by rw [nums_len]; omega)
          have e : (256 : Nat) ^ 8 = 18446744073709551616 := by decide
          omega
        have hw : wrap64 (IntKind.u64.wrap ((Pk.num ((nums s).take 8) : Int) - 9223372036854775808)) = (Pk.num ((nums s).take 8) : Int) - 9223372036854775808 := by
          rw [IntKind.wrap_u64]
          unfold wrap64
          omega
        have HW := Lib.hid hw
        have hbk := Blk.new w 71 #[.int .u8 0, .int .i64 0, .string ⟨#[]⟩]
        have hbe : Below w.heap.size w (w.alloc (.cells #[.int .u8 0, .int .i64 0, .string ⟨#[]⟩] 71)) := (Below.refl _ _).alloc (Nat.le_refl _) _
        have hz : (w.alloc (.cells #[.int .u8 0, .int .i64 0, .string ⟨#[]⟩] 71)).heap.size = w.heap.size + 1 := by simp
        clear hw
        obtain ⟨N, hNN⟩ : ∃ N, Pk.num ((nums s).take 8) = N := ⟨_, rfl⟩
        have HNN := Lib.hid hNN
        rw [hNN] at HW hN
        rw [hNN]
        clear hNN
        go_wp2_with fail
        rw [HW.out]
        refine (refIntP_any _ _).mono ?_
        rintro e w1 ⟨rfl, b1⟩
        have hb1 := hbk.below b1 (by rw [hz]; omega)
        have hc0 := hb1.cell 0
        have hc1 := hb1.cell 1
        have hc2 := hb1.cell 2
        have hf0 := hb1.frozen 0
        have hf1 := hb1.frozen 1
        have hf2 := hb1.frozen 2
        have hb2 := ((hb1.set_ 0 (.int .u8 1)).set_ 1 (.int .i64 ((N : Int) - 9223372036854775808))).set_ 2 (.string ⟨#[]⟩)
        have hd0 := Lib.hid (hb2.cell 0)
        have hd1 := Lib.hid (hb2.cell 1)
        have hd2 := Lib.hid (hb2.cell 2)
        have HB := Lib.hid (hbe.trans (b1.mono hbe.size))
        unfold partV
        clear hbk hbe hz b1 hb1 hb2
        go_wp2_with fail
        have e0 := hd0.out
        have e1 := hd1.out
        have e2 := hd2.out
        refine bodyPost_ret (v := .tuple #[partV 1 ((N : Int) - 9223372036854775808) ⟨#[]⟩, .int .i64 8]) ?_ rfl ⟨by rw [HNN.out], ?_⟩
        · simp [results, Try.results84, go_sem, partV, e0, e1, e2]
        · exact ((HB.out.setCell (Nat.le_refl _) _).setCell (Nat.le_refl _) _).setCell (Nat.le_refl _) _
end Go.Proofs.Ytponelbfddfliaa
