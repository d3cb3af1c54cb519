/- CheckSums, walked: any rows of bytes have the check that the document tells. -/
import Derived.Test.YtflfmcicidgkmaaSumsA
namespace Go.Proofs.Ytflfmcicidgkmaa
open Go.ChangeShapes Go.WideShapes Go.ChangeAt Go.RowKit

theorem grow_more {g : Nat} {wr w3 wx : World} (h : Below wr.heap.size wr w3) (hg : w3.grownBy wx (some g)) (hB : wr.heap.size ≤ g) : Below wr.heap.size wr wx :=
  h.trans ⟨hg.os, hg.tape, hg.output, hg.size, fun k hk => hg.block k (by have := h.size; omega) (fun e => by injection e with e; omega)⟩

def ConvAll (wo : World) (A : Option Addr) (n c : Nat) (T : ByteArray) : Prop := ∀ W : World, Below wo.heap.size wo W → (convert 24 9 (.slice A n c)).run Try.prog W = .ok (.string T) W
theorem conv_all {wo : World} {n c : Nat} {A : Option Addr} {l : List Nat} (h : Bytes wo wo.heap.size A n l) : ConvAll wo A n c (textOf l) := fun _ hW => (conv_bytes (h.below hW (Nat.le_refl _))).2.2

set_option maxRecDepth 100000 in
set_option maxHeartbeats 4000000 in
theorem sums_any (n c s m cb x : Nat) (A Ab : Option Addr) (ls : List (List Nat)) (l : List Nat) (w : World) (hr : RowsOf w w.heap.size A n ls) (hb : Bytes w w.heap.size Ab m l) (hs : s < 4294967296) (hx : x < 256) :
    Calls Try.prog 3 #[.slice A n c, .int .u32 (s : Int), .slice Ab m cb, .int .u8 (x : Int)] w fun e w' => e = .returned (.bool true) ∧ Below w.heap.size w w' := by
  by_cases h1 : 10 < n
  · have e1 : decide (10 < (n : Int)) = true := by simp; omega
    go_enter Try.func3, Try.ntmps3
    go_wp2_with fail
    refine (works_any _).mono ?_
    rintro e w1 ⟨rfl, b1⟩
    go_wp2_with fail
    go_ret
    exact ⟨rfl, b1⟩
  have e1 : decide (10 < (n : Int)) = false := by simp; omega
  by_cases h2 : 300 < m
  · have e2 : decide (300 < (m : Int)) = true := by simp; omega
    go_enter Try.func3, Try.ntmps3
    go_wp2_with fail
    refine (works_any _).mono ?_
    rintro e w1 ⟨rfl, b1⟩
    go_wp2_with fail
    go_ret
    exact ⟨rfl, b1⟩
  have e2 : decide (300 < (m : Int)) = false := by simp; omega
  have HL := Lib.hid hr.1
  have HX := Lib.hid hr.all
  obtain ⟨i0, hi, hz0, hz1, hz2⟩ := info_parts Try.info24
  have HI := Lib.hid hi
  have HZ0 := Lib.hid hz0
  have HZ1 := Lib.hid hz1
  have HZ2 := Lib.hid hz2
  clear hi hz0 hz1 hz2
  go_enter Try.func3, Try.ntmps3
  go_wp2_with fail
  go_loopw [9, 10] (fun v i wr => ∃ k : Nat, k ≤ n ∧ i = .int .i64 k ∧ OwnRows w.heap.size wr ls k v ∧ Below w.heap.size w wr) (fun _ i _ => n - (intOf i).toNat)
  case atStart => exact ⟨0, by omega, rfl, OwnRows.none_ _ _ _, Below.refl _ _⟩
  case round =>
    obtain ⟨k, hk, rfl, ⟨vs, hvs, hjs⟩, hbl⟩ := hrel
    obtain ⟨A9, c9, rfl⟩ := own_slice hvs
    by_cases hlt : k < n
    · have hr1 := hr.below hbl (Nat.le_refl _)
      obtain ⟨b, off, rfl, hbB, hc⟩ := hr1.2 (by omega)
      obtain ⟨a, q, cq, hck, hq, hbq⟩ := hc k hlt
      clear hc hr1
      by_cases h3 : 300 < q
      · have e3 : decide (300 < (q : Int)) = true := by simp; omega
        go_wp2_with fail
        refine (works_any _).mono ?_
        rintro e w1 ⟨rfl, b1⟩
        have d1 := below_next hbl b1
        go_wp2_with fail
        go_ret
        exact ⟨rfl, d1⟩
      · have e3 : decide (300 < (q : Int)) = false := by simp; omega
        go_wp2_with fail
        refine (own_any q cq w.heap.size a _ _ hbq (by omega)).mono ?_
        rintro e w1 ⟨a', c', rfl, ho, b1⟩
        have hz1 := b1.size
        have hz := hbl.size
        go_wp2_with (at_builtin; refine wpList_append_own _ rfl (.tmp 39) (.tmp 45) 22 rfl w.heap.size 24 i0 (.slice none 0 0) 1 24 Try.underlying22 HI.out HZ0.out HZ1.out HZ2.out rfl (by decide) _ k vs rfl ((own_below hvs b1).alloc _) ⟨w1.heap.size, 0, none⟩ 1 1 [.slice a' q c'] rfl rfl (one_cell _ _ _) (by simp [Value.oneCell']) (by unfold maxLen; omega) (by omega) (by simp; omega) ?_; intro v' w2 ho2 hg2 _)
        have hg3 : (w1.alloc (.cells #[.slice a' q c'] 24)).grownBy w2 (Value.slice A9 k c9).ownBlock := hg2
        have hstep := OwnRows.step hvs hjs b1 hz ho hg3 ho2
        have d2 := grow_below (below_next hbl b1) hg3 (own_far hvs (Nat.le_refl _))
        clear hg2 hg3 ho2 ho hvs hjs b1 hbl hr
        go_roundw
        case rel => exact ⟨k + 1, by omega, by go_num, hstep, d2⟩
        case measure => simp [intOf]; omega
    · obtain rfl : k = n := by omega
      obtain ⟨wo, rfl⟩ : ∃ wo : World, wo = wr := ⟨_, rfl⟩
      have hO := OwnRows.rows ⟨vs, hvs, hjs⟩ HL.out HX.out
      have hL := (hr.below hbl (Nat.le_refl _)).more hbl.size
      have hB := (hb.below hbl (Nat.le_refl _)).more hbl.size
      clear hvs hjs hr hb HI HZ0 HZ1 HZ2
      go_wp2_with fail
      refine (sum_any k c wo.heap.size A ls _ hL (Nat.le_refl _) (by omega)).mono ?_
      rintro e w1 ⟨rfl, b1⟩
      go_wp2_with fail
      refine (refSum_any k c9 wo.heap.size A9 ls _ (hO.below b1 (Nat.le_refl _)) (by omega)).mono ?_
      rintro e w1' ⟨rfl, rfl⟩
      go_wp2_with fail
      refine (update_any s m cb wo.heap.size Ab l _ hs (hB.below b1 (Nat.le_refl _)) b1.size (by omega)).mono ?_
      rintro e w2 ⟨rfl, b2⟩
      have c2 := below_next b1 b2
      clear b1 b2
      go_wp2_with fail
      refine (refUpdate_any s m cb wo.heap.size Ab l _ hs (hB.below c2 (Nat.le_refl _)) (by omega)).mono ?_
      rintro e w2' ⟨rfl, rfl⟩
      go_wp2_with fail
      refine (take_any s x _ (by omega) (by omega) (by omega) (by omega)).mono ?_
      rintro e w2' ⟨rfl, rfl⟩
      go_wp2_with fail
      refine (refTake_any s x _ (by omega) (by omega) (by omega) (by omega)).mono ?_
      rintro e w2' ⟨rfl, rfl⟩
      obtain ⟨cs, hzero, hnew⟩ := blank_ex
      go_wp2_with fail
      have hT := hnew w2
      have z2 := c2.size
      have c3 : Below wo.heap.size wo (w2.alloc (.cells cs 44)) := c2.alloc c2.size _
      generalize w2.alloc (.cells cs 44) = w3 at *
      generalize w2.heap.size = g at *
      clear hzero hnew c2 e1 e2
      go_loopw [13] (fun i wr => ∃ j : Nat, j ≤ 2 ∧ i = .int .i64 j ∧ (Blank wr g ∨ Made wr g) ∧ w3.grownBy wr (some g)) (fun i _ => 2 - (intOf i).toNat)
      case atStart => exact ⟨0, by omega, rfl, .inl hT, World.grownBy.refl _ _⟩
      case round =>
        obtain ⟨j, hj, rfl, hTx, hgx⟩ := hrel
        clear hT
        have cx : Below wo.heap.size wo wr := grow_more c3 hgx z2
        by_cases hlj : j < 2
        · go_wp2_with fail
          refine (tableUpdate_any g s m cb wo.heap.size Ab l _ hTx hs (hB.below cx (Nat.le_refl _)) z2 cx.size (by omega)).mono ?_
          rintro e w4 ⟨rfl, hm4, hg4⟩
          have g4 := hgx.trans hg4
          have c4 := grow_more c3 g4 z2
          clear hg4 hgx cx hTx
          go_wp2_with fail
          refine (refUpdate_any s m cb wo.heap.size Ab l _ hs (hB.below c4 (Nat.le_refl _)) (by omega)).mono ?_
          rintro e w4' ⟨rfl, rfl⟩
          go_wp2_with fail
          refine (methTake_any g s x _ (.inr hm4) hs hx).mono ?_
          rintro e w5 ⟨rfl, hm5, hg5⟩
          have g5 := g4.trans hg5
          clear hg5 g4 c4 hm4
          go_wp2_with fail
          refine (refTake_any s x _ (by omega) (by omega) (by omega) (by omega)).mono ?_
          rintro e w5' ⟨rfl, rfl⟩
          go_wp2_with fail
          refine (methTake_nil s x _ hs hx).mono ?_
          rintro e w5' ⟨rfl, rfl⟩
          go_wp2_with fail
          refine (refTake_any s x _ (by omega) (by omega) (by omega) (by omega)).mono ?_
          rintro e w5' ⟨rfl, rfl⟩
          go_wp2_with fail
          go_roundw
          case rel => exact ⟨j + 1, by omega, by go_num, .inr hm5, g5⟩
          case measure => simp [intOf]; omega
        · clear hTx hgx
          have hBx := hB.below cx (Nat.le_refl _)
          go_wp2_with fail
          obtain ⟨t, ht⟩ : ∃ t, Crc.upd 0 l = t := ⟨_, rfl⟩
          have htl : t < 4294967296 := by rw [← ht]; exact Crc.upd_lt 0 l
          have HT := Lib.hid ht
          clear ht
          refine (of_some t m cb wo.heap.size Ab l _ HT.out hBx cx.size (by omega)).mono ?_
          rintro e w4 ⟨rfl, b4⟩
          have c4 := below_next cx b4
          clear b4 cx hBx
          go_wp2_with fail
          have f5 := bytes_four w4 46 t htl ((t : Int) / 16777216) ((t : Int) / 65536 % 256) ((t : Int) / 256 % 256) ((t : Int) % 256) (by omega) (by omega) (by omega) (by omega)
          have c5 : Below wo.heap.size wo (w4.alloc (.cells #[.int .u8 ((t : Int) / 16777216), .int .u8 ((t : Int) / 65536 % 256), .int .u8 ((t : Int) / 256 % 256), .int .u8 ((t : Int) % 256)] 46)) := c4.alloc c4.size _
          have z5 : (w4.alloc (.cells #[.int .u8 ((t : Int) / 16777216), .int .u8 ((t : Int) / 65536 % 256), .int .u8 ((t : Int) / 256 % 256), .int .u8 ((t : Int) % 256)] 46)).heap.size = w4.heap.size + 1 := by simp
          generalize w4.alloc (.cells #[.int .u8 ((t : Int) / 16777216), .int .u8 ((t : Int) / 65536 % 256), .int .u8 ((t : Int) / 256 % 256), .int .u8 ((t : Int) % 256)] 46) = w5 at *
          have Z5 := Lib.hid z5
          clear z5
          refine (refSum_any 1 1 (w5.heap.size + 1) _ [l] _ (RowsOf.madeAt Z5.out.symm (hB.below c5 (Nat.le_refl _)) c5.size (by omega)) (by omega)).mono ?_
          rintro e w5' ⟨rfl, rfl⟩
          rw [show Crc.sum [l] = t from HT.out]
          have c6 : Below wo.heap.size wo (w5.alloc (.cells #[.slice Ab m cb] 24)) := c5.alloc c5.size _
          have f6 : Bytes (w5.alloc (.cells #[.slice Ab m cb] 24)) (w5.alloc (.cells #[.slice Ab m cb] 24)).heap.size (some ⟨w4.heap.size, 0, none⟩) 4 (be4 t) := ((f5.more (by rw [Z5.out]; omega)).alloc (Nat.le_refl _) _).more (by simp)
          generalize w5.alloc (.cells #[.slice Ab m cb] 24) = w6 at *
          generalize w4.heap.size = g4 at *
          obtain ⟨bb, hq1, hq2⟩ : ∃ bb, ((t : Int) == (s : Int)) = bb ∧ ((s : Int) == (t : Int)) = bb := ⟨_, rfl, by rw [Bool.beq_comm]⟩
          have HC := conv_all hB (c := cb)
          have HS := Lib.hid (show Crc.upd 0 (nums (textOf l)) = t from by rw [(conv_bytes (c := cb) hB).1]; exact HT.out)
          have hS3 : (textOf l).size ≤ 1000000 := by have := (conv_bytes (c := cb) hB).2.1; omega
          generalize textOf l = T at *
          have HT2 := Lib.hid (show Crc.sum [l] = t from HT.out)
          clear f5 c5 Z5 c4 hj hlj c3 z2
          go_wp2_with fail
          go_region_held3 (fun w' => (convert 24 9 (.slice Ab m cb)).run Try.prog w' = .ok (.string T) w') (first | exact HC _ d11 | exact HC _ d10 | exact HC _ d9 | exact HC _ d8 | exact HC _ d7 | exact HC _ c6 | exact HC _ c6.drew) (first
            | (go_at_call 22; have _ := d10; (with_reducible refine (text_any T _ hS3).mono ?_); rintro e w11 ⟨rfl, b11⟩; have d11 := below_next d10 b11; rw [HS.out]; clear d10 b11)
            | (go_at_call 21; have _ := d9; (with_reducible refine (is_any t m cb wo.heap.size Ab l _ (hB.below d9 (Nat.le_refl _)) d9.size (by omega)).mono ?_); rintro e w10 ⟨rfl, b10⟩; have d10 := below_next d9 b10; rw [HT.out]; clear d9 b10)
            | (go_at_call 21; have _ := d8; (with_reducible refine (is_any s m cb wo.heap.size Ab l _ (hB.below d8 (Nat.le_refl _)) d8.size (by omega)).mono ?_); rintro e w9 ⟨rfl, b9⟩; have d9 := below_next d8 b9; rw [HT.out]; clear d8 b9)
            | (go_at_call 19; (with_reducible refine (same_yes 4 4 4 c7 w7.heap.size _ _ (be4 t) _ f7 o7 (by omega)).mono ?_); rintro e w8 ⟨rfl, n8, rfl⟩; have d8 := below_drewN d7 n8; clear d7 f7 o7)
            | (go_at_call 20; (with_reducible refine (refOf_some t m cb wo.heap.size Ab l _ HT2.out (hB.below c6.drew (Nat.le_refl _)) c6.drew.size (by omega)).mono ?_); rintro e w7 ⟨A7, c7, rfl, ho7, b7⟩; have d7 := below_next c6.drew b7; have f7 := (f6.drew.below b7 (Nat.le_refl _)).more b7.size; have o7 := Bytes.of_own ho7 (be4_lt t htl); clear b7 ho7))
          clear HC HS HT HT2 hq1 hq2 f6 c6 hB
          go_wp2_with fail
          go_loopw [16] (fun i wz => ∃ q : Nat, q ≤ k ∧ i = .int .i64 q ∧ Below wo.heap.size wo wz) (fun i _ => k - (intOf i).toNat)
          case atStart => exact ⟨0, by omega, rfl, d11⟩
          case round =>
            obtain ⟨q, hq, rfl, dz⟩ := hrel
            by_cases hlq : q < k
            · obtain ⟨b1, off1, rfl, hb1, hc1⟩ := (hL.below dz (Nat.le_refl _)).2 (by omega)
              obtain ⟨b2, off2, rfl, hb2, hc2⟩ := (hO.below dz (Nat.le_refl _)).2 (by omega)
              obtain ⟨a1, m1, k1, g1, hm1, hy1⟩ := hc1 q hlq
              obtain ⟨a2, m2, k2, g2, hm2, hy2⟩ := hc2 q hlq
              clear hc1 hc2 hL hO
              go_wp2_with fail
              go_quiet ((go_at_call 19; exact Calls.quiet_of (same_yes m1 k1 m2 k2 wo.heap.size a1 a2 _ _ (hy1.drewN _) (hy2.drewN _) hm1)))
              go_wp2_with fail
              go_roundw
              case rel => exact ⟨q + 1, by omega, by go_num, below_drewN dz _⟩
              case measure => simp [intOf]; omega
            · clear hL hO
              have dw := below_next hbl dz
              go_wp2_with fail
              refine (works_any _).mono ?_
              rintro e w12 ⟨rfl, b12⟩
              have d12 := below_next dw b12
              go_wp2_with fail
              go_ret
              exact ⟨rfl, d12⟩
end Go.Proofs.Ytflfmcicidgkmaa
