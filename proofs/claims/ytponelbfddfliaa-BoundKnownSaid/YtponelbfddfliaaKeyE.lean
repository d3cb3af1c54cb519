/- Layer 4, the program: what comes after a beginning. -/
import Derived.Test.YtponelbfddfliaaRefA
import Derived.Test.YtponelbfddfliaaConv
namespace Go.Proofs.Ytponelbfddfliaa
open Go.ChangeShapes Go.WideShapes Go.ChangeAt Go.RowKit

/-- A text, turned into a slice of bytes. -/
theorem conv_text (w : World) (E : ByteArray) : ∃ C W, (convert 9 46 (.string E)).run Try.prog w = .ok (.slice (some ⟨w.heap.size, 0, none⟩) E.size C) W ∧ Below w.heap.size w W ∧ w.heap.size < W.heap.size ∧
    (∀ j, j < E.size → W.cell? ⟨w.heap.size, j, none⟩ = some (.int .u8 (((nums E).getD j 0 : Nat) : Int)) ∧ W.frozen? ⟨w.heap.size, j, none⟩ = false) := by
  refine ⟨_, _, Lib.run_convert_string_bytes w _ _ _ E Try.underlying9 Try.underlying46 Try.underlying5, ?_, by rw [Lib.bytesWorld_size]; omega, ?_⟩
  · exact ⟨rfl, rfl, rfl, by rw [Lib.bytesWorld_size]; omega, fun k hk => Lib.bytesWorld_at_old w _ E k hk⟩
  · intro j hj
    refine ⟨?_, ?_⟩
    · rw [Lib.bytesWorld_cell w _ E j hj, nums_at E j hj]
      have hl : j < E.data.toList.length := by simpa using hj
      rw [List.getD_eq_getElem?_getD, List.getElem?_eq_getElem hl]
      rfl
    · unfold World.frozen?
      rw [Lib.bytesWorld_at_new]
      have hs : E.size ≤ (Lib.bytesCells w 5 E).size := by
        unfold Lib.bytesCells
        rw [Array.size_append, Array.size_map]
        exact Nat.le_add_right _ _
      simp
      omega
set_option maxRecDepth 100000 in
/-- .. its last byte, one more. -/
theorem conv_last (w : World) (s : ByteArray) (j : Nat) (hj : j < s.size) (x : Nat) (hx : s[j].toNat + 1 = x) (hx2 : x < 256) : ∃ C W T, (convert 9 46 (.string (s.extract 0 (j + 1)))).run Try.prog w = .ok (.slice (some ⟨w.heap.size, 0, none⟩) (j + 1) C) W ∧
    W.cell? ⟨w.heap.size, j, none⟩ = some (.int .u8 (s[j].toNat : Int)) ∧ W.frozen? ⟨w.heap.size, j, none⟩ = false ∧
    (convert 46 9 (.slice (some ⟨w.heap.size, 0, none⟩) (j + 1) C)).run Try.prog (W.setCell ⟨w.heap.size, j, none⟩ (.int .u8 (x : Int))) = .ok (.string T) (W.setCell ⟨w.heap.size, j, none⟩ (.int .u8 (x : Int))) ∧
    nums T = (nums s).take j ++ [x] ∧ Below w.heap.size w (W.setCell ⟨w.heap.size, j, none⟩ (.int .u8 (x : Int))) := by
  obtain ⟨C, W, h1, h2, h3, h4⟩ := conv_text w (s.extract 0 (j + 1))
  have hn : nums (s.extract 0 (j + 1)) = (nums s).take j ++ [s[j].toNat] := by
    rw [nums_take, take_snoc (nums s) j (by rw [nums_len]; exact hj), nums_at s j hj]
  have hsz : (s.extract 0 (j + 1)).size = j + 1 := by
    rw [← nums_len, hn, List.length_append, List.length_take, nums_len]
    simp
    omega
  have htl : ((nums s).take j).length = j := by rw [List.length_take, nums_len]; omega
  rw [hsz] at h1 h4
  have hc := h4 j (by omega)
  have hat : ((nums s).take j ++ [s[j].toNat]).getD j 0 = s[j].toNat := by
    rw [List.getD_eq_getElem?_getD, List.getElem?_append_right (by omega), htl]
    simp
  rw [hn, hat] at hc
  have hby : Bytes (W.setCell ⟨w.heap.size, j, none⟩ (.int .u8 (x : Int))) W.heap.size (some ⟨w.heap.size, 0, none⟩) (j + 1) ((nums s).take j ++ [x]) := by
    refine ⟨by simp [htl], ?_, fun _ => ⟨w.heap.size, 0, rfl, h3, fun i hi => ?_⟩⟩
    · intro y hy
      simp only [List.mem_append, List.mem_singleton] at hy
      rcases hy with hy | rfl
      · exact nums_byte s y (List.mem_of_mem_take hy)
      · exact hx2
    · rw [Nat.zero_add]
      by_cases hij : i = j
      · subst hij
        have e : ((nums s).take i ++ [x]).getD i 0 = x := by
          rw [List.getD_eq_getElem?_getD, List.getElem?_append_right (by omega), htl]
          simp
        rw [e]
        exact World.cell?_setCell_same _ _ _ hc.1
      · have hci := (h4 i hi).1
        rw [hn] at hci
        have e1 : ((nums s).take j ++ [s[j].toNat]).getD i 0 = ((nums s).take j ++ [x]).getD i 0 := by
          rw [List.getD_eq_getElem?_getD, List.getD_eq_getElem?_getD, List.getElem?_append_left (by omega), List.getElem?_append_left (by omega)]
        rw [e1] at hci
        rw [← hci]
        exact World.cell?_setCell_other _ _ _ _ (fun e => hij (by injection e with _ e; exact e.symm))
  have hcv := conv_bytes (c := C) hby
  exact ⟨C, W, _, h1, hc.1, hc.2, hcv.2.2, hcv.1, h2.setCell (Nat.le_refl _) _⟩
set_option maxRecDepth 100000 in
set_option maxHeartbeats 2000000 in
theorem after_any (s : ByteArray) (w : World) (hs : s.size ≤ 1000000) : Calls Try.prog 49 #[.string s] w (TextB w (Ky.after (nums s))) := by
  go_enter Try.func49, Try.ntmps49
  go_wp2_with fail
  go_loopw [4] (fun i wr => ∃ j : Nat, j ≤ s.size ∧ i = .int .i64 ((j : Int) - 1) ∧ nums s = (nums s).take j ++ List.replicate ((nums s).length - j) 255 ∧ wr = w) (fun i _ => (intOf i + 1).toNat)
  case atStart => exact ⟨s.size, Nat.le_refl _, by go_num, by rw [nums_len, Nat.sub_self, List.take_of_length_le (by rw [nums_len]; omega)]; simp, rfl⟩
  case round =>
    obtain ⟨i, hi, rfl, he, rfl⟩ := hrel
    have HE := Lib.hid he
    clear he
    rcases Nat.eq_zero_or_pos i with h0 | h0
    · subst h0
      have hcore : Ky.core (nums s) = [] := by
        rw [HE.out]
        exact core_ffs _ _ (.inl (List.take_zero ..))
      have ha : Ky.after (nums s) = none := by unfold Ky.after; rw [if_pos hcore]
      have HA := Lib.hid ha
      clear ha hcore
      go_wp2_with fail
      go_ret2
      exact ⟨⟨#[]⟩, by rw [HA.out]; rfl, by rw [HA.out]; rfl, Below.refl _ _⟩
    · obtain ⟨j, rfl⟩ : ∃ j, i = j + 1 := ⟨i - 1, by omega⟩
      have hj : j < s.size := by omega
      have hat := nums_at s j hj
      rw [show ((j + 1 : Nat) : Int) - 1 = (j : Int) by omega]
      have hj0 : (0 : Int) ≤ j := by omega
      have hj1 : (j : Int) < s.size := by omega
      by_cases hx : s[j].toNat = 255
      · have hst := ffs_step (nums s) j (by rw [nums_len]; exact hj) HE.out (by rw [hat]; exact hx)
        have HST := Lib.hid hst
        clear hst hat
        go_wp2_with fail
        refine ⟨⟨j, by omega, by go_num, HST.out, trivial⟩, ?_⟩
        simp [intOf]
      · have hxl : s[j].toNat < 256 := s[j].toNat_lt
        have htk := take_snoc (nums s) j (by rw [nums_len]; exact hj)
        rw [hat] at htk
        have hcore : Ky.core (nums s) = (nums s).take j ++ [s[j].toNat] := by
          have h1 := HE.out
          rw [htk] at h1
          rw [h1]
          rw [core_ffs _ _ (.inr ⟨_, _, rfl, hx⟩), ← h1]
        have ha : Ky.after (nums s) = some ((nums s).take j ++ [s[j].toNat + 1]) := by
          unfold Ky.after
          rw [hcore, if_neg (by simp)]
          simp
        have HA := Lib.hid ha
        have hxb : ((s[j].toNat : Int) == 255) = false := by rw [beq_eq_false_iff_ne]; omega
        have hx3 : ¬ (s[j].toNat : Int) = 255 := by omega
        have hw8 : IntKind.u8.wrap ((s[j].toNat : Int) + 1) = ((s[j].toNat + 1 : Nat) : Int) := by rw [IntKind.wrap_u8']; omega
        have hj2 : ((j + 1 : Nat) : Int) ≤ s.size := by omega
        clear hat htk hcore ha hx
        obtain ⟨C, W, T, c1, c2, c3, c4, c5, c6⟩ := conv_last wr s j hj (s[j].toNat + 1) rfl (by omega)
        obtain ⟨E, hE⟩ : ∃ E, s.extract 0 (j + 1) = E := ⟨_, rfl⟩
        rw [hE] at c1
        rw [show ((s[j].toNat + 1 : Nat) : Int) = (s[j].toNat : Int) + 1 from rfl] at c4 c6
        have HT := Lib.hid (And.intro c5 c6)
        clear c5 c6
        go_wp2_with fail
        go_ret2
        exact ⟨T, by rw [HA.out]; rfl, by rw [HA.out, HT.out.1]; rfl, HT.out.2⟩
end Go.Proofs.Ytponelbfddfliaa
