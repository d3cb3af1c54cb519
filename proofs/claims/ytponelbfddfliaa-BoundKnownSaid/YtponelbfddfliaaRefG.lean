/- Layer 4's reference: the first text of a text. -/
import Derived.Test.YtponelbfddfliaaRefF
namespace Go.Proofs.Ytponelbfddfliaa
open Go.ChangeShapes Go.WideShapes Go.ChangeAt Go.RowKit

def FirstT (w : World) (o : Option (List Nat × Nat)) (e : Ending) (w' : World) : Prop := match o with
  | none => FirstP w zeroP 0 e w'
  | some q => ∃ T : ByteArray, nums T = q.1 ∧ FirstP w (partV 2 0 T) (q.2 : Int) e w'
theorem drop_two (l : List Nat) (j : Nat) (h : j + 1 < l.length) : l.drop j = l.getD j 0 :: l.getD (j + 1) 0 :: l.drop (j + 2) ∧ l.drop (j + 1) = l.getD (j + 1) 0 :: l.drop (j + 2) := by
  have h1 : l.drop (j + 1) = l.getD (j + 1) 0 :: l.drop (j + 2) := by
    rw [List.drop_eq_getElem_cons h, List.getD_eq_getElem?_getD, List.getElem?_eq_getElem h]; rfl
  refine ⟨?_, h1⟩
  rw [List.drop_eq_getElem_cons (by omega), h1, List.getD_eq_getElem?_getD (l := l) (i := j), List.getElem?_eq_getElem (by omega)]; rfl
theorem rd_end (l : List Nat) (j : Nat) (h : l.length ≤ j + 1) : Ky.rd (l.drop j) = none := by
  rcases hd : l.drop j with _ | ⟨x, _ | ⟨y, r⟩⟩
  · rfl
  · rfl
  · have := congrArg List.length hd
    rw [List.length_drop] at this
    simp at this
    omega
def shift (o : List Nat) (j : Nat) (q : List Nat × Nat) : List Nat × Nat := (o ++ q.1, q.2 + j)
set_option maxRecDepth 100000 in
set_option maxHeartbeats 2000000 in
theorem refFirst_text (s : ByteArray) (k : Nat) (w : World) (hk : k ≠ 1) (hs : s.size ≤ 1000000) : Calls Try.prog 84 #[.string s, .int .u8 (k : Int)] w (FirstT w (Ky.rd (nums s))) := by
  obtain ⟨i0, hi, hz0, hz1, hz2⟩ := info_parts Try.info5
  have HI := Lib.hid (And.intro hi (And.intro hz0 (And.intro hz1 hz2)))
  clear hi hz0 hz1 hz2
  have hkd : ((k : Int) == 1) = false := by rw [beq_eq_false_iff_ne]; omega
  obtain ⟨w0, hw0⟩ : ∃ w0, w.alloc (.cells #[.int .u8 0, .int .i64 0, .string ⟨#[]⟩] 71) = w0 := ⟨_, rfl⟩
  have hbk := Blk.new w 71 #[.int .u8 0, .int .i64 0, .string ⟨#[]⟩]
  have hbe : Below w.heap.size w (w.alloc (.cells #[.int .u8 0, .int .i64 0, .string ⟨#[]⟩] 71)) := (Below.refl _ _).alloc (Nat.le_refl _) _
  have hz : (w.alloc (.cells #[.int .u8 0, .int .i64 0, .string ⟨#[]⟩] 71)).heap.size = w.heap.size + 1 := by simp
  rw [hw0] at hbk hbe hz
  have HK := Lib.hid (And.intro hbk (And.intro hbe hz))
  clear hbk hbe hz
  go_enter Try.func84, Try.ntmps84
  go_wp2_with fail
  clear hw0 hkd
  go_loopw [8, 9] (fun r i wr => ∃ (j m : Nat) (o : List Nat), j ≤ s.size ∧ i = .int .i64 (j : Int) ∧ m ≤ j ∧ wr.ownsRow w0.heap.size 5 1 r m (u8s o) ∧ (∀ x ∈ o, x < 256) ∧ Ky.rd (nums s) = (Ky.rd ((nums s).drop j)).map (shift o j) ∧ Below w0.heap.size w0 wr) (fun _ i _ => s.size - (intOf i).toNat)
  case atStart => exact ⟨0, 0, [], by omega, rfl, by omega, own_nil _ _ _ _, by simp, by rw [List.drop_zero]; cases Ky.rd (nums s) <;> rfl, Below.refl _ _⟩
  case round =>
    obtain ⟨j, m, o, hj, rfl, hm, hown, hob, hrd, hbel⟩ := hrel
    have HB := Lib.hid hbel
    by_cases hlt : j + 1 < s.size
    · have hj1 : j < s.size := by omega
      have hd := drop_two (nums s) j (by rw [nums_len]; exact hlt)
      rw [nums_at s j hj1, nums_at s (j + 1) hlt] at hd
      have hl1 : (j : Int) + 1 < s.size := by omega
      have hl0 : (j : Int) < s.size := by omega
      have hj0 : (0 : Int) ≤ j := by omega
      by_cases hx : s[j].toNat = 0
      · by_cases hy : s[j + 1].toNat = 0
        · have hsome : Ky.rd (nums s) = some (o, j + 2) := by
            rw [hrd, hd.1, hx, hy]
            simp [Ky.rd, shift]
            omega
          have HS := Lib.hid hsome
          obtain ⟨A1, c1, rfl⟩ := own_slice hown
          have hcv := conv_bytes (c := c1) (Bytes.of_own hown hob)
          have hrun := hcv.2.2
          have HC := Lib.hid hcv.1
          have hb0 := Lib.hid (HK.out.1.below hbel (by rw [HK.out.2.2]; omega))
          generalize textOf o = T at hrun HC
          clear hsome hrd hd hcv hown
          go_wp2_with fail
          clear hrun
          refine (refTextP_any T _).mono ?_
          rintro e w1 ⟨rfl, b1⟩
          have hwz : w.heap.size < wr.heap.size := by have := HB.out.size; have := HK.out.2.2; omega
          have hb1 := hb0.out.below b1 hwz
          have hc0 := hb1.cell 0
          have hc1 := hb1.cell 1
          have hc2 := hb1.cell 2
          have hf0 := hb1.frozen 0
          have hf1 := hb1.frozen 1
          have hf2 := hb1.frozen 2
          have hb2 := ((hb1.set_ 0 (.int .u8 2)).set_ 1 (.int .i64 0)).set_ 2 (.string T)
          have hd0 := Lib.hid (hb2.cell 0)
          have hd1 := Lib.hid (hb2.cell 1)
          have hd2 := Lib.hid (hb2.cell 2)
          have HBB := Lib.hid (HK.out.2.1.trans ((below_next HB.out b1).mono HK.out.2.1.size))
          unfold partV
          clear hb1 hb2 hbel b1
          go_wp2_with fail
          have e0 := hd0.out
          have e1 := hd1.out
          have e2 := hd2.out
          refine bodyPost_ret (v := .tuple #[partV 2 0 T, .int .i64 ((j + 2 : Nat) : Int)]) ?_ rfl ?_
          · simp [results, Try.results84, go_sem, partV, e0, e1, e2]
          · rw [HS.out]
            exact ⟨T, HC.out, rfl, ((HBB.out.setCell (Nat.le_refl _) _).setCell (Nat.le_refl _) _).setCell (Nat.le_refl _) _⟩
        · rw [hx] at hd
          have hrd2 : Ky.rd (nums s) = (Ky.rd ((nums s).drop (j + 2))).map (shift (o ++ [0]) (j + 2)) := by
            rw [hrd, hd.1]
            simp only [Ky.rd, if_true, if_neg hy, Option.map_map]
            congr 1
            funext q
            simp [shift]
            omega
          have HRD := Lib.hid hrd2
          have HO := Lib.hid hown
          have hyb : ((s[j + 1].toNat : Int) == 0) = false := by rw [beq_eq_false_iff_ne]; omega
          have hyn : ¬ (s[j + 1].toNat : Int) = 0 := by omega
          clear hd hrd hrd2 hown hbel
          go_wp2_with (at_builtin; refine wpList_append_own _ rfl _ _ 46 rfl w0.heap.size 5 i0 (.int .u8 0) 1 1 Try.underlying46 HI.out.1 HI.out.2.1 HI.out.2.2.1 HI.out.2.2.2 rfl (by decide) _ m _ rfl (HO.out.alloc _) ⟨wr.heap.size, 0, none⟩ 1 1 [.int .u8 0] rfl rfl (one_cell wr _ _) (by simp [Value.oneCell']) (by unfold maxLen; omega) (by omega) (by have := HB.out.size; simp; omega) ?_; intro v1 w1 ho1 hg1 _; have D1 := grow_below HB.out hg1 (fun g hg => (HO.out.lt g hg).1))
          refine ⟨⟨j + 2, m + 1, o ++ [0], by omega, by go_num, by omega, ?_, ?_, HRD.out, D1⟩, by simp [intOf]; omega⟩
          · rw [← u8s_append]
            exact ho1
          · intro x hx
            rcases List.mem_append.1 hx with h | h
            · exact hob x h
            · simp at h
              omega
      · have hrd2 : Ky.rd (nums s) = (Ky.rd ((nums s).drop (j + 1))).map (shift (o ++ [s[j].toNat]) (j + 1)) := by
          rw [hrd, hd.2, hd.1]
          simp only [Ky.rd, if_neg hx, Option.map_map]
          congr 1
          funext q
          simp [shift]
          omega
        have HRD := Lib.hid hrd2
        have HO := Lib.hid hown
        have hxb : ((s[j].toNat : Int) == 0) = false := by rw [beq_eq_false_iff_ne]; omega
        have hxn : ¬ (s[j].toNat : Int) = 0 := by omega
        have hxl : s[j].toNat < 256 := s[j].toNat_lt
        clear hd hrd hrd2 hown hbel
        go_wp2_with (at_builtin; refine wpList_append_own _ rfl _ _ 46 rfl w0.heap.size 5 i0 (.int .u8 0) 1 1 Try.underlying46 HI.out.1 HI.out.2.1 HI.out.2.2.1 HI.out.2.2.2 rfl (by decide) _ m _ rfl (HO.out.alloc _) ⟨wr.heap.size, 0, none⟩ 1 1 [.int .u8 (s[j].toNat : Int)] rfl rfl (one_cell wr _ _) (by simp [Value.oneCell']) (by unfold maxLen; omega) (by omega) (by have := HB.out.size; simp; omega) ?_; intro v1 w1 ho1 hg1 _; have D1 := grow_below HB.out hg1 (fun g hg => (HO.out.lt g hg).1))
        refine ⟨⟨j + 1, m + 1, o ++ [s[j].toNat], by omega, by go_num, by omega, ?_, ?_, HRD.out, D1⟩, by simp [intOf]; omega⟩
        · rw [← u8s_append]
          exact ho1
        · intro x hx
          rcases List.mem_append.1 hx with h | h
          · exact hob x h
          · simp at h
            omega
    · have hl1 : ¬ (j : Int) + 1 < s.size := by omega
      have hnone : Ky.rd (nums s) = none := by rw [hrd, rd_end _ _ (by rw [nums_len]; omega)]; rfl
      have HN := Lib.hid hnone
      have hb1 := HK.out.1.below hbel (by rw [HK.out.2.2]; omega)
      have hc0 := hb1.cell 0
      have hc1 := hb1.cell 1
      have hc2 := hb1.cell 2
      have hf0 := hb1.frozen 0
      have hf1 := hb1.frozen 1
      have hf2 := hb1.frozen 2
      have hb2 := ((hb1.set_ 0 (.int .u8 0)).set_ 1 (.int .i64 0)).set_ 2 (.string ⟨#[]⟩)
      have hd0 := Lib.hid (hb2.cell 0)
      have hd1 := Lib.hid (hb2.cell 1)
      have hd2 := Lib.hid (hb2.cell 2)
      have HBB := Lib.hid (HK.out.2.1.trans (hbel.mono HK.out.2.1.size))
      clear hnone hrd hb1 hb2 hbel hown
      go_wp2_with fail
      have e0 := hd0.out
      have e1 := hd1.out
      have e2 := hd2.out
      refine bodyPost_ret (v := .tuple #[zeroP, .int .i64 0]) ?_ rfl ?_
      · simp [results, Try.results84, go_sem, zeroP, partV, e0, e1, e2]
      · rw [HN.out]
        exact ⟨rfl, ((HBB.out.setCell (Nat.le_refl _) _).setCell (Nat.le_refl _) _).setCell (Nat.le_refl _) _⟩
end Go.Proofs.Ytponelbfddfliaa
