/- Layer 4, the program: a part taken. -/
import Derived.Test.YtponelbfddfliaaKeyH
namespace Go.Proofs.Ytponelbfddfliaa
open Go.ChangeShapes Go.WideShapes Go.ChangeAt Go.RowKit

set_option maxRecDepth 100000 in
set_option maxHeartbeats 1000000 in
theorem takePart_1 (R : PT → ByteArray → Bool → Prop) (s : ByteArray) (w : World)
    (hf : ∀ w0, Calls Try.prog 87 #[.string s] w0 fun e w' => ∃ p L ok, R p L ok ∧ Took w0 p.val L ok e w') :
    Calls Try.prog 82 #[.string s, .int .u8 1] w fun e w' => ∃ p L ok, R p L ok ∧ Took w p.val L ok e w' := by
  have hbk := Blk.new w 67 #[.int .u8 0, .int .i64 0, .string ⟨#[]⟩]
  have hbe : Below w.heap.size w (w.alloc (.cells #[.int .u8 0, .int .i64 0, .string ⟨#[]⟩] 67)) := (Below.refl _ _).alloc (Nat.le_refl _) _
  have hz : (w.alloc (.cells #[.int .u8 0, .int .i64 0, .string ⟨#[]⟩] 67)).heap.size = w.heap.size + 1 := by simp
  obtain ⟨w0, hw0⟩ : ∃ w0, w.alloc (.cells #[.int .u8 0, .int .i64 0, .string ⟨#[]⟩] 67) = w0 := ⟨_, rfl⟩
  rw [hw0] at hbk hbe hz
  have HK := Lib.hid (And.intro hbk (And.intro hbe hz))
  clear hbk hbe hz
  go_enter Try.func82, Try.ntmps82
  go_wp2_with fail
  clear hw0
  refine (hf w0).mono ?_
  rintro e w1 ⟨⟨pk, pn, ps⟩, L, ok, hR, rfl, b1⟩
  have HR := Lib.hid hR
  have hb1 := HK.out.1.below b1 (by rw [HK.out.2.2]; omega)
  have hc0 := hb1.cell 0
  have hc1 := hb1.cell 1
  have hc2 := hb1.cell 2
  have hf0 := hb1.frozen 0
  have hf1 := hb1.frozen 1
  have hf2 := hb1.frozen 2
  have hb2 := ((hb1.set_ 0 (.int .u8 (pk : Int))).set_ 1 (.int .i64 pn)).set_ 2 (.string ps)
  have hd0 := Lib.hid (hb2.cell 0)
  have hd1 := Lib.hid (hb2.cell 1)
  have hd2 := Lib.hid (hb2.cell 2)
  have HBB := Lib.hid (HK.out.2.1.trans (b1.mono HK.out.2.1.size))
  clear hb1 hb2 hR b1
  simp only [PT.val, partV]
  go_wp2_with fail
  have e0 := hd0.out
  have e1 := hd1.out
  have e2 := hd2.out
  refine bodyPost_ret (v := .tuple #[partV pk pn ps, .string L, .bool ok]) ?_ rfl ⟨⟨pk, pn, ps⟩, L, ok, HR.out, rfl, ((HBB.out.setCell (Nat.le_refl _) _).setCell (Nat.le_refl _) _).setCell (Nat.le_refl _) _⟩
  simp [results, Try.results82, go_sem, partV, e0, e1, e2]
set_option maxRecDepth 100000 in
set_option maxHeartbeats 1000000 in
theorem takePart_2 (R : PT → ByteArray → Bool → Prop) (s : ByteArray) (w : World)
    (hf : ∀ w0, Calls Try.prog 88 #[.string s] w0 fun e w' => ∃ p L ok, R p L ok ∧ Took w0 p.val L ok e w') :
    Calls Try.prog 82 #[.string s, .int .u8 2] w fun e w' => ∃ p L ok, R p L ok ∧ Took w p.val L ok e w' := by
  have hbk := Blk.new w 67 #[.int .u8 0, .int .i64 0, .string ⟨#[]⟩]
  have hbe : Below w.heap.size w (w.alloc (.cells #[.int .u8 0, .int .i64 0, .string ⟨#[]⟩] 67)) := (Below.refl _ _).alloc (Nat.le_refl _) _
  have hz : (w.alloc (.cells #[.int .u8 0, .int .i64 0, .string ⟨#[]⟩] 67)).heap.size = w.heap.size + 1 := by simp
  obtain ⟨w0, hw0⟩ : ∃ w0, w.alloc (.cells #[.int .u8 0, .int .i64 0, .string ⟨#[]⟩] 67) = w0 := ⟨_, rfl⟩
  rw [hw0] at hbk hbe hz
  have HK := Lib.hid (And.intro hbk (And.intro hbe hz))
  clear hbk hbe hz
  go_enter Try.func82, Try.ntmps82
  go_wp2_with fail
  clear hw0
  refine (hf w0).mono ?_
  rintro e w1 ⟨⟨pk, pn, ps⟩, L, ok, hR, rfl, b1⟩
  have HR := Lib.hid hR
  have hb1 := HK.out.1.below b1 (by rw [HK.out.2.2]; omega)
  have hc0 := hb1.cell 0
  have hc1 := hb1.cell 1
  have hc2 := hb1.cell 2
  have hf0 := hb1.frozen 0
  have hf1 := hb1.frozen 1
  have hf2 := hb1.frozen 2
  have hb2 := ((hb1.set_ 0 (.int .u8 (pk : Int))).set_ 1 (.int .i64 pn)).set_ 2 (.string ps)
  have hd0 := Lib.hid (hb2.cell 0)
  have hd1 := Lib.hid (hb2.cell 1)
  have hd2 := Lib.hid (hb2.cell 2)
  have HBB := Lib.hid (HK.out.2.1.trans (b1.mono HK.out.2.1.size))
  clear hb1 hb2 hR b1
  simp only [PT.val, partV]
  go_wp2_with fail
  have e0 := hd0.out
  have e1 := hd1.out
  have e2 := hd2.out
  refine bodyPost_ret (v := .tuple #[partV pk pn ps, .string L, .bool ok]) ?_ rfl ⟨⟨pk, pn, ps⟩, L, ok, HR.out, rfl, ((HBB.out.setCell (Nat.le_refl _) _).setCell (Nat.le_refl _) _).setCell (Nat.le_refl _) _⟩
  simp [results, Try.results82, go_sem, partV, e0, e1, e2]
set_option maxRecDepth 100000 in
set_option maxHeartbeats 1000000 in
theorem takePart_0 (k : Nat) (s : ByteArray) (w : World) (h1 : k ≠ 1) (h2 : k ≠ 2) :
    Calls Try.prog 82 #[.string s, .int .u8 (k : Int)] w (Took w zeroP ⟨#[]⟩ false) := by
  have hk1 : ((k : Int) == 1) = false := by rw [beq_eq_false_iff_ne]; omega
  have hk2 : ((k : Int) == 2) = false := by rw [beq_eq_false_iff_ne]; omega
  have hk3 : ¬ (k : Int) = 1 := by omega
  have hk4 : ¬ (k : Int) = 2 := by omega
  go_enter Try.func82, Try.ntmps82
  go_wp2_with fail
  refine bodyPost_ret (v := .tuple #[zeroP, .string ⟨#[]⟩, .bool false]) ?_ rfl ⟨rfl, ?_⟩
  · simp [results, Try.results82, go_sem, zeroP, partV]
  · exact (Below.refl _ _).alloc (Nat.le_refl _) _
/-- What is taken of a kind: a part, what is left, whether. -/
def TookR (s : ByteArray) (k : Nat) (p : PT) (L : ByteArray) (ok : Bool) : Prop := p.ok ∧ match Ky.sfst (nums s) k with
  | none => ok = false
  | some q => ok = true ∧ p.to = q.1 ∧ L = s.extract q.2 s.size
theorem zero_ok : (PT.mk 0 0 ⟨#[]⟩).ok := ⟨by decide, by decide, by decide⟩
theorem takePart_any (k : Nat) (s : ByteArray) (w : World) (hs : s.size ≤ 1000000) :
    Calls Try.prog 82 #[.string s, .int .u8 (k : Int)] w fun e w' => ∃ p L ok, TookR s k p L ok ∧ Took w p.val L ok e w' := by
  by_cases h1 : k = 1
  · subst h1
    refine takePart_1 (TookR s 1) s w fun w0 => ?_
    by_cases h8 : s.size < 8
    · refine (takeNumber_short s w0 h8).mono fun e w' h => ⟨⟨0, 0, ⟨#[]⟩⟩, _, _, ⟨zero_ok, ?_⟩, h⟩
      unfold Ky.sfst
      rw [if_pos rfl, if_pos (by rw [nums_len]; exact h8)]
    · have hN : Pk.num ((nums s).take 8) < 18446744073709551616 := by
        have := Pk.num_take_lt (nums s) 8 (nums_byte s) (by rw [nums_len]; omega)
        have e : (256 : Nat) ^ 8 = 18446744073709551616 := by decide
        omega
      refine (takeNumber_full s w0 h8 hs).mono fun e w' h => ⟨⟨1, (Pk.num ((nums s).take 8) : Int) - 9223372036854775808, ⟨#[]⟩⟩, _, _, ⟨⟨by show (1 : Nat) < 256; decide, by show _ ≤ (Pk.num ((nums s).take 8) : Int) - 9223372036854775808 ∧ (Pk.num ((nums s).take 8) : Int) - 9223372036854775808 ≤ _; omega, by show (0 : Nat) ≤ _; omega⟩, ?_⟩, h⟩
      unfold Ky.sfst
      rw [if_pos rfl, if_neg (by rw [nums_len]; exact h8)]
      exact ⟨rfl, rfl, rfl⟩
  · by_cases h2 : k = 2
    · subst h2
      refine takePart_2 (TookR s 2) s w fun w0 => ?_
      refine (takeText_any s w0 hs).mono fun e w' h => ?_
      rcases hc : Ky.sc false (nums s) with _ | q
      · rw [hc] at h
        refine ⟨⟨0, 0, ⟨#[]⟩⟩, _, _, ⟨zero_ok, ?_⟩, h⟩
        unfold Ky.sfst
        rw [if_neg (by decide), if_pos rfl, hc]
        rfl
      · rw [hc] at h
        obtain ⟨T, hT, h⟩ := h
        have hb := (Ky.sc_sound (nums s) (nums_byte s)).1 q.1 q.2 hc
        have hTs : T.size ≤ 1000000 := by
          rw [← nums_len, hT]
          obtain ⟨⟨r, hr⟩, _, _⟩ := hb
          have h3 := congrArg List.length hr
          rw [nums_len, List.length_append] at h3
          have h4 : q.1.length ≤ (Ky.text q.1).length := by
            unfold Ky.text
            rw [List.length_append]
            have : ∀ t : List Nat, t.length ≤ (Ky.esc t).length := by
              intro t
              induction t with
              | nil => simp
              | cons x t ih => simp only [Ky.esc]; split <;> simp <;> omega
            have := this q.1
            omega
          omega
        refine ⟨⟨2, 0, T⟩, _, _, ⟨⟨by show (2 : Nat) < 256; decide, by show _ ≤ (0 : Int) ∧ (0 : Int) ≤ _; omega, hTs⟩, ?_⟩, h⟩
        unfold Ky.sfst
        rw [if_neg (by decide), if_pos rfl, hc]
        exact ⟨rfl, by simp [PT.to, hT], rfl⟩
    · refine (takePart_0 k s w h1 h2).mono fun e w' h => ⟨⟨0, 0, ⟨#[]⟩⟩, _, _, ⟨zero_ok, ?_⟩, h⟩
      unfold Ky.sfst
      rw [if_neg h1, if_neg h2]
end Go.Proofs.Ytponelbfddfliaa
