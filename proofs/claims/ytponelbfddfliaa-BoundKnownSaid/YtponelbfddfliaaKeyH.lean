/- Layer 4, the program: a text taken. -/
import Derived.Test.YtponelbfddfliaaKeyG
import Derived.Test.YtponelbfddfliaaRefG
import Derived.WalkMore
namespace Go.Proofs.Ytponelbfddfliaa
open Go.ChangeShapes Go.WideShapes Go.ChangeAt Go.RowKit

def TookT (w : World) (s : ByteArray) (o : Option (List Nat × Nat)) (e : Ending) (w' : World) : Prop := match o with
  | none => Took w zeroP ⟨#[]⟩ false e w'
  | some q => ∃ T : ByteArray, nums T = q.1 ∧ Took w (partV 2 0 T) (s.extract q.2 s.size) true e w'
theorem drop_one (l : List Nat) (j : Nat) (h : j < l.length) : l.drop j = l.getD j 0 :: l.drop (j + 1) := by
  rw [List.drop_eq_getElem_cons h, List.getD_eq_getElem?_getD, List.getElem?_eq_getElem h]; rfl
set_option maxRecDepth 100000 in
set_option maxHeartbeats 2000000 in
theorem takeText_any (s : ByteArray) (w : World) (hs : s.size ≤ 1000000) : Calls Try.prog 88 #[.string s] w (TookT w s (Ky.sc false (nums s))) := by
  have hbk := Blk.new w 67 #[.int .u8 0, .int .i64 0, .string ⟨#[]⟩]
  have hbe : Below w.heap.size w (w.alloc (.cells #[.int .u8 0, .int .i64 0, .string ⟨#[]⟩] 67)) := (Below.refl _ _).alloc (Nat.le_refl _) _
  have hz : (w.alloc (.cells #[.int .u8 0, .int .i64 0, .string ⟨#[]⟩] 67)).heap.size = w.heap.size + 1 := by simp
  obtain ⟨w1, hw1⟩ : ∃ w1, w.alloc (.cells #[.int .u8 0, .int .i64 0, .string ⟨#[]⟩] 67) = w1 := ⟨_, rfl⟩
  rw [hw1] at hbk hbe hz
  have HK := Lib.hid (And.intro hbk (And.intro hbe hz))
  have hnew := Bd.new w1
  have hbe1 : Below w1.heap.size w1 (w1.alloc (.cells #[.pointer none, .slice none 0 0] 90)) := (Below.refl _ _).alloc (Nat.le_refl _) _
  obtain ⟨w0, hw0⟩ : ∃ w0, w1.alloc (.cells #[.pointer none, .slice none 0 0] 90) = w0 := ⟨_, rfl⟩
  rw [hw0] at hnew hbe1
  have H0 := Lib.hid (And.intro hnew hbe1)
  clear hbk hbe hz hnew hbe1
  go_enter Try.func88, Try.ntmps88
  go_wp2_with fail
  go_step3
  go_wp2_with fail
  go_step3
  go_wp2_with fail
  clear hw0 hw1
  go_loopw [4, 6, 11] (fun g p i wr => ∃ (j : Nat) (opn : Bool) (out : List Nat), j ≤ s.size ∧ g = .bool false ∧ i = .int .i64 (j : Int) ∧ p = .bool opn ∧ out.length ≤ j ∧ Bd wr w1.heap.size w1.heap.size out ∧ Below w1.heap.size w1 wr ∧ Ky.sc false (nums s) = (Ky.sc opn ((nums s).drop j)).map (shift out j)) (fun _ _ i _ => s.size - (intOf i).toNat)
  case atStart => exact ⟨0, false, [], by omega, rfl, rfl, rfl, by simp, H0.out.1, H0.out.2, by rw [List.drop_zero]; cases Ky.sc false (nums s) <;> rfl⟩
  case round =>
    obtain ⟨j, opn, out, hj, rfl, rfl, rfl, hol, hbd, hbel, hsc⟩ := hrel
    have HB := Lib.hid (And.intro hbd hbel)
    clear hbd hbel
    by_cases hlt : j < s.size
    · have hd := drop_one (nums s) j (by rw [nums_len]; exact hlt)
      rw [nums_at s j hlt] at hd
      rw [hd] at hsc
      have hj1 : (j : Int) < s.size := by omega
      have hxl : s[j].toNat < 256 := s[j].toNat_lt
      clear hd
      cases opn
      · by_cases hx : s[j].toNat = 0
        · have h2 : Ky.sc false (nums s) = (Ky.sc true ((nums s).drop (j + 1))).map (shift out (j + 1)) := by
            rw [hsc, hx]
            simp only [Ky.sc, if_true, Option.map_map]
            congr 1
            funext q
            simp [shift]
            omega
          have HS := Lib.hid h2
          clear hsc h2
          go_wp2_with fail
          refine ⟨⟨j + 1, true, out, by omega, rfl, by go_num, rfl, by omega, HB.out.1, HB.out.2, HS.out⟩, by simp [intOf]; omega⟩
        · have h2 : Ky.sc false (nums s) = (Ky.sc false ((nums s).drop (j + 1))).map (shift (out ++ [s[j].toNat]) (j + 1)) := by
            rw [hsc]
            simp only [Ky.sc, if_neg hx, Option.map_map]
            congr 1
            funext q
            simp [shift]
            omega
          have HS := Lib.hid h2
          have hxb : ((s[j].toNat : Int) == 0) = false := by rw [beq_eq_false_iff_ne]; omega
          have hxn : ¬ (s[j].toNat : Int) = 0 := by omega
          clear hsc h2
          go_wp2_with fail
          refine (writeByte_any w1.heap.size w1.heap.size out s[j].toNat wr HB.out.1 hxl (by omega) (by have := HB.out.2.size; omega)).mono ?_
          rintro e w2 ⟨rfl, h1, b1, k1⟩
          have H1 := Lib.hid (And.intro h1 (HB.out.2.trans b1))
          clear h1 b1 k1
          go_wp2_with fail
          refine ⟨⟨j + 1, false, out ++ [s[j].toNat], by omega, rfl, by go_num, rfl, by simp; omega, H1.out.1, H1.out.2, HS.out⟩, by simp [intOf]; omega⟩
      · by_cases hx : s[j].toNat = 0
        · have h2 : Ky.sc false (nums s) = some (out, j + 1) := by
            rw [hsc, hx]
            simp [Ky.sc, shift]
            omega
          have HS := Lib.hid h2
          clear hsc h2
          have hj2 : (j : Int) + 1 ≤ s.size := by omega
          go_wp2_with fail
          refine (bldText_any w1.heap.size w1.heap.size out wr HB.out.1 HB.out.2.size).mono ?_
          rintro e w2 ⟨T, rfl, hT, hTs, b2⟩
          have HT := Lib.hid hT
          have HB2 := Lib.hid (HB.out.2.trans b2)
          clear hT hTs b2
          go_wp2_with fail
          refine (textP_any T w2).mono ?_
          rintro e w3 ⟨rfl, b3⟩
          have HB3 := Lib.hid (below_next HB2.out b3)
          clear b3
          have hb1 := HK.out.1.below HB3.out (by rw [HK.out.2.2]; omega)
          have hc0 := hb1.cell 0
          have hc1 := hb1.cell 1
          have hc2 := hb1.cell 2
          have hf0 := hb1.frozen 0
          have hf1 := hb1.frozen 1
          have hf2 := hb1.frozen 2
          have hb2 := ((hb1.set_ 0 (.int .u8 2)).set_ 1 (.int .i64 0)).set_ 2 (.string T)
          have hd0 := Lib.hid (hb2.cell 0)
          have hd1 := Lib.hid (hb2.cell 1)
          have hd2 := Lib.hid (hb2.cell 2)
          have HBB := Lib.hid (HK.out.2.1.trans (HB3.out.mono HK.out.2.1.size))
          clear hb1 hb2
          unfold partV
          go_wp2_with fail
          have e0 := hd0.out
          have e1 := hd1.out
          have e2 := hd2.out
          refine bodyPost_ret (v := .tuple #[partV 2 0 T, .string (s.extract (j + 1) s.size), .bool true]) ?_ rfl ?_
          · simp [results, Try.results88, go_sem, partV, e0, e1, e2]
          · rw [HS.out]
            exact ⟨T, HT.out, rfl, ((HBB.out.setCell (Nat.le_refl _) _).setCell (Nat.le_refl _) _).setCell (Nat.le_refl _) _⟩
        · by_cases hx2 : s[j].toNat = 255
          · have h2 : Ky.sc false (nums s) = (Ky.sc false ((nums s).drop (j + 1))).map (shift (out ++ [0]) (j + 1)) := by
              rw [hsc, hx2]
              simp only [Ky.sc, if_true]
              rw [if_neg (by decide), Option.map_map]
              congr 1
              funext q
              simp [shift]
              omega
            have HS := Lib.hid h2
            have hxb : ((s[j].toNat : Int) == 0) = false := by rw [beq_eq_false_iff_ne]; omega
            have hxn : ¬ (s[j].toNat : Int) = 0 := by omega
            clear hsc h2
            go_wp2_with fail
            refine (writeByte_any w1.heap.size w1.heap.size out 0 wr HB.out.1 (by omega) (by omega) (by have := HB.out.2.size; omega)).mono ?_
            rintro e w2 ⟨rfl, h1, b1, k1⟩
            have H1 := Lib.hid (And.intro h1 (HB.out.2.trans b1))
            clear h1 b1 k1
            go_wp2_with fail
            refine ⟨⟨j + 1, false, out ++ [0], by omega, rfl, by go_num, rfl, by simp; omega, H1.out.1, H1.out.2, HS.out⟩, by simp [intOf]; omega⟩
          · have h2 : Ky.sc false (nums s) = none := by
              rw [hsc]
              simp [Ky.sc, hx, hx2]
            have HS := Lib.hid h2
            have hxb : ((s[j].toNat : Int) == 0) = false := by rw [beq_eq_false_iff_ne]; omega
            have hxn : ¬ (s[j].toNat : Int) = 0 := by omega
            have hxb2 : ((s[j].toNat : Int) == 255) = false := by rw [beq_eq_false_iff_ne]; omega
            have hxn2 : ¬ (s[j].toNat : Int) = 255 := by omega
            clear hsc h2
            have hb1 := HK.out.1.below HB.out.2 (by rw [HK.out.2.2]; omega)
            have hc0 := hb1.cell 0
            have hc1 := hb1.cell 1
            have hc2 := hb1.cell 2
            have hf0 := hb1.frozen 0
            have hf1 := hb1.frozen 1
            have hf2 := hb1.frozen 2
            have hb2 := ((hb1.set_ 0 (.int .u8 0)).set_ 1 (.int .i64 0)).set_ 2 (.string ⟨#[]⟩)
            have hd0 := Lib.hid (hb2.cell 0)
            have hd1 := Lib.hid (hb2.cell 1)
            have hd2 := Lib.hid (hb2.cell 2)
            have HBB := Lib.hid (HK.out.2.1.trans (HB.out.2.mono HK.out.2.1.size))
            clear hb1 hb2
            go_wp2_with fail
            have e0 := hd0.out
            have e1 := hd1.out
            have e2 := hd2.out
            refine bodyPost_ret (v := .tuple #[zeroP, .string ⟨#[]⟩, .bool false]) ?_ rfl ?_
            · simp [results, Try.results88, go_sem, zeroP, partV, e0, e1, e2]
            · rw [HS.out]
              exact ⟨rfl, ((HBB.out.setCell (Nat.le_refl _) _).setCell (Nat.le_refl _) _).setCell (Nat.le_refl _) _⟩
    · obtain rfl : j = s.size := by omega
      have h2 : Ky.sc false (nums s) = none := by
        rw [hsc, List.drop_eq_nil_of_le (by rw [nums_len]; omega)]
        cases opn <;> rfl
      have HS := Lib.hid h2
      have hge : ¬ (s.size : Int) < s.size := by omega
      clear hsc h2
      have hb1 := HK.out.1.below HB.out.2 (by rw [HK.out.2.2]; omega)
      have hc0 := hb1.cell 0
      have hc1 := hb1.cell 1
      have hc2 := hb1.cell 2
      have hf0 := hb1.frozen 0
      have hf1 := hb1.frozen 1
      have hf2 := hb1.frozen 2
      have hb2 := ((hb1.set_ 0 (.int .u8 0)).set_ 1 (.int .i64 0)).set_ 2 (.string ⟨#[]⟩)
      have hd0 := Lib.hid (hb2.cell 0)
      have hd1 := Lib.hid (hb2.cell 1)
      have hd2 := Lib.hid (hb2.cell 2)
      have HBB := Lib.hid (HK.out.2.1.trans (HB.out.2.mono HK.out.2.1.size))
      clear hb1 hb2
      go_wp2_with fail
      have e0 := hd0.out
      have e1 := hd1.out
      have e2 := hd2.out
      refine bodyPost_ret (v := .tuple #[zeroP, .string ⟨#[]⟩, .bool false]) ?_ rfl ?_
      · simp [results, Try.results88, go_sem, zeroP, partV, e0, e1, e2]
      · rw [HS.out]
        exact ⟨rfl, ((HBB.out.setCell (Nat.le_refl _) _).setCell (Nat.le_refl _) _).setCell (Nat.le_refl _) _⟩
end Go.Proofs.Ytponelbfddfliaa
