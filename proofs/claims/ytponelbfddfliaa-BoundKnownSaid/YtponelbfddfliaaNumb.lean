/- Numbers as bytes: the document's own (tidepoolref02's Number and Int). -/
import Derived.Test.YtponelbfddfliaaMem
import Derived.Test.YtponelbfddfliaaPk
import Derived.Laws.MakeOwn
namespace Go.Proofs.Ytponelbfddfliaa
open Go.ChangeShapes Go.WideShapes Go.ChangeAt Go.RowKit

/-- A row of zeros and then bytes, in memory, at a block of its own. -/
def Part (w wr : World) (j d n : Nat) : Prop := Blk wr w.heap.size 5 (u8s (List.replicate j 0 ++ Pk.be d n)).toArray ∧ Below w.heap.size w wr
theorem u8s_set (j d n : Nat) : (u8s (List.replicate (j + 1) 0 ++ Pk.be d n)).toArray.setIfInBounds j (.int .u8 ((n / 256 ^ d % 256 : Nat) : Int)) = (u8s (List.replicate j 0 ++ Pk.be (d + 1) n)).toArray := by
  apply Array.ext'
  rw [Array.toList_setIfInBounds]
  simp only [u8s, List.replicate_succ', List.map_append, List.map_replicate, List.map_cons, Pk.be, List.append_assoc, List.singleton_append]
  rw [List.set_append_right _ _ (by simp)]
  simp
theorem Part.step {w wr : World} {j d n : Nat} {v : Int} (h : Part w wr (j + 1) d n) (hv : v = ((n / 256 ^ d % 256 : Nat) : Int)) : Part w (wr.setCell ⟨w.heap.size, j, none⟩ (.int .u8 v)) j (d + 1) n := by
  subst hv
  refine ⟨?_, h.2.setCell (Nat.le_refl _) _⟩
  rw [← u8s_set]
  exact h.1.set_ j _
theorem Part.cell {w wr : World} {j d n : Nat} (h : Part w wr (j + 1) d n) : (∃ v, wr.cell? ⟨w.heap.size, j, none⟩ = some v) ∧ wr.frozen? ⟨w.heap.size, j, none⟩ = false :=
  ⟨⟨_, by rw [h.1.cell]; exact Array.getElem?_eq_getElem (by simp [u8s]; omega)⟩, h.1.frozen j⟩
theorem Part.begin (w : World) (s n : Nat) (o : Array Value) (ho : o = (u8s (List.replicate s 0)).toArray) : Part w (w.alloc (.cells o 5)) s 0 n := by
  subst ho
  refine ⟨?_, (Below.refl _ _).alloc (Nat.le_refl _) _⟩
  simp only [Pk.be, List.append_nil]
  exact Blk.new w _ _
theorem Part.own {w wr : World} {s n : Nat} (h : Part w wr 0 s n) (hs : s ≤ 8) : OwnPost w s (Pk.be s n) (.returned (.slice (some ⟨w.heap.size, 0, none⟩) s s)) wr := by
  refine ⟨_, _, rfl, ⟨by rw [u8s_len, Pk.be_len]; omega, .inr ⟨_, s, _, rfl, Nat.le_refl _, h.1, Nat.le_refl _, ?_, ?_, ?_⟩⟩, h.2⟩
  · have : maxLen = 9223372036854775807 := rfl
    omega
  · simp [u8s, Pk.be_len]
  · have : (u8s (Pk.be s n)).length = s := by rw [u8s_len, Pk.be_len]
    simp only [List.replicate_zero, List.nil_append, Nat.mul_one]
    rw [List.take_of_length_le (by omega)]
theorem div_step (n d : Nat) : n / 256 ^ d / 256 = n / 256 ^ (d + 1) := by rw [Nat.div_div_eq_div_mul, Nat.pow_succ]
def Size (s : Nat) : Prop := s = 1 ∨ s = 2 ∨ s = 4 ∨ s = 8
theorem Size.le {s : Nat} (h : Size s) : s ≤ 8 := by unfold Size at h; omega
def Makes (s : Nat) : Prop := ∀ W : World, ∃ o, (Instr.makeSlice 46 (.int .i64 (s : Int)) (.int .i64 (s : Int))).run Try.prog W = .ok (.slice (some ⟨W.heap.size, 0, none⟩) s s) (W.alloc (.cells o 5)) ∧ o = (u8s (List.replicate s 0)).toArray
theorem makes {s : Nat} (h : Size s) : Makes s := by
  intro W
  rcases h with rfl | rfl | rfl | rfl
  · exact ⟨(u8s (List.replicate 1 0)).toArray, by kernel_rfl, rfl⟩
  · exact ⟨(u8s (List.replicate 2 0)).toArray, by kernel_rfl, rfl⟩
  · exact ⟨(u8s (List.replicate 4 0)).toArray, by kernel_rfl, rfl⟩
  · exact ⟨(u8s (List.replicate 8 0)).toArray, by kernel_rfl, rfl⟩

set_option maxRecDepth 100000 in
theorem refNumber_any (v : Int) (n s : Nat) (w : World) (hv : v = n) (hn : n < 18446744073709551616) (hs : Size s) :
    Calls Try.prog 89 #[.int .u64 v, .int .i64 (s : Int)] w (OwnPost w s (Pk.be s n)) := by
  obtain ⟨o, hmk, ho⟩ := makes hs w
  have hst := Part.begin w s n o ho
  have hs8 := hs.le
  have HS := Lib.hid hs
  subst hv
  clear hs ho
  go_enter Try.func89, Try.ntmps89
  go_wp2_with fail
  generalize w.alloc (.cells o 5) = w0 at *
  clear hmk
  go_loopw [0, 6] (fun r i wr => ∃ j d : Nat, j + d = s ∧ i = .int .i64 ((j : Int) - 1) ∧ r = .int .u64 ((n / 256 ^ d : Nat) : Int) ∧ Part w wr j d n) (fun _ i _ => (intOf i + 1).toNat)
  case atStart => exact ⟨s, 0, by omega, rfl, by simp, hst⟩
  case round =>
    obtain ⟨j, d, hj, rfl, rfl, hp⟩ := hrel
    have hr : n / 256 ^ d < 18446744073709551616 := Nat.lt_of_le_of_lt (Nat.div_le_self _ _) hn
    have HD := Lib.hid (div_step n d)
    have HJ := Lib.hid hj
    clear hj
    by_cases hj0 : j = 0
    · subst hj0
      obtain rfl : d = s := by have := HJ.out; omega
      rw [show ((0 : Nat) : Int) - 1 = -1 from rfl]
      go_wp2_with fail
      go_ret
      exact hp.own hs8
    · obtain ⟨i, rfl⟩ : ∃ i, j = i + 1 := ⟨j - 1, by omega⟩
      rw [show ((i + 1 : Nat) : Int) - 1 = (i : Int) from by omega]
      obtain ⟨⟨u, hc⟩, hz⟩ := hp.cell
      have his : i < s := by have := HJ.out; omega
      have HP := Lib.hid hp
      clear hp hst
      generalize hq : n / 256 ^ d = q at *
      have HQ := Lib.hid hq
      clear hq
      go_wp2_with fail
      go_roundw
      case rel => exact ⟨i, d + 1, by have := HJ.out; omega, rfl, int_eq (by rw [← HD.out]; omega), HP.out.step (by rw [HQ.out]; omega)⟩
      case measure => simp [intOf]
end Go.Proofs.Ytponelbfddfliaa
