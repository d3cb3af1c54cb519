/- NumBack, walked. -/
import Derived.Test.YthnmphaehalceaaNumBackA
namespace Go.Proofs.Ythnmphaehalceaa
open Go.ChangeShapes Go.WideShapes Go.ChangeAt Go.RowKit

set_option maxRecDepth 100000 in
set_option maxHeartbeats 8000000 in
theorem back_any (len c : Nat) (A : Option Addr) (l : List Int) (by_ n d : Int) (w : World) (h : Ints w w.heap.size A len l) (hlen : len ≤ 9223372036854775807) (hc : len ≤ c) (hn : -9223372036854775808 ≤ n ∧ n ≤ 9223372036854775807) (hd : -9223372036854775808 ≤ d ∧ d ≤ 9223372036854775807) :
    Calls Try.prog 6 #[.slice A len c, .int .i64 by_, .int .i64 n, .int .i64 d] w (Yes w) := by
  by_cases h60 : 60 < len
  · go_enter Try.func6, Try.ntmps6
    go_wp2_with (go_at_call 18; (with_reducible refine (works_any _).mono ?_); rintro e w5 ⟨rfl, b5⟩)
    go_ret
    exact ⟨rfl, b5⟩
  obtain ⟨i0, hi, hz0, hz1, hz2⟩ := info_parts Try.info2
  obtain ⟨b, off, hA⟩ := h.where_
  obtain ⟨k, hk, hpick⟩ := pick_all by_ len w (by omega)
  have HA := Lib.hid hA
  have HH := Lib.hid h
  have HI := Lib.hid (And.intro hi (And.intro hz0 (And.intro hz1 hz2)))
  clear h hA hi hz0 hz1 hz2
  go_enter Try.func6, Try.ntmps6
  go_upto_if 48 with (go_at_call 8; (with_reducible refine (add_any n d _ hn hd).mono ?_); rintro e w' ⟨rfl, rfl⟩)
  go_cut [9, 10] (fun _ _ wx => w = wx)
  case first =>
    as_aux_lemma =>
      rcases hfb : fitB (n + d) with _ | _
      · go_wp2_with fail
        go_meet
        case rel => exact rfl
      · have hf : fitN (n + d) = n + d := (sumE_yes hfb).2
        have hsub : Calls Try.prog 10 #[.int .i64 (n + d), .int .i64 d] w (TwoB n true w) := by
          have hr := of_decide_eq_true hfb
          have := sub_any (n + d) d w hr hd
          rw [show n + d - d = n by omega, (fit_yes hn).1, (fit_yes hn).2] at this
          exact this
        go_wp2_with (go_at_call 10; (with_reducible refine hsub.mono ?_); rintro e w' ⟨rfl, rfl⟩)
        go_meet
        case rel => exact rfl
  case rest =>
    subst hcut
    go_wp2_with (go_at_call 27; (with_reducible refine hpick.mono ?_); rintro e w' ⟨rfl, rfl⟩)
    go_loopw [14, 15] (fun v i wr => ∃ j : Nat, j ≤ len - k ∧ i = .int .i64 ((len : Int) - 1 - j) ∧ wr.ownsRow w.heap.size 2 1 v j (i64s (l.reverse.take j)) ∧ Below w.heap.size w wr) (fun _ i _ => (intOf i + 1 - k).toNat)
    case atStart => exact ⟨0, by omega, by go_num, own_nil _ _ _ _, Below.refl _ _⟩
    case round =>
      obtain ⟨j, hj, rfl, hown, hbel⟩ := hrel
      by_cases hlt : j < len - k
      · obtain ⟨rfl, hbB, hcl⟩ := HA.out (by omega)
        obtain ⟨p, hp⟩ : ∃ p : Nat, (len : Int) - 1 - j = (p : Int) := ⟨len - 1 - j, by omega⟩
        have hpl : p < len ∧ k ≤ p := by omega
        have hpe : p = l.length - 1 - j := by rw [HH.out.1]; omega
        rw [hp]
        have hcp : wr.cell? ⟨b, off + p, none⟩ = some (.int .i64 (l.getD p 0)) := (hbel.cell (p := ⟨b, off + p, none⟩) hbB).trans (hcl p hpl.1)
        have hst := rev_step l j (by rw [HH.out.1]; omega)
        rw [← hpe] at hst
        have hzr := HH.out.at_ p
        generalize l.getD p 0 = z at hcp hst hzr
        have HST := Lib.hid hst
        have HO := Lib.hid (And.intro hown hbel)
        have HP := Lib.hid hp
        clear hst hown hbel hpe hp hcl
        go_wp2_with (at_builtin; refine wpList_append_own _ rfl _ _ 28 rfl w.heap.size 2 i0 (.int .i64 0) 1 8 Try.underlying28 HI.out.1 HI.out.2.1 HI.out.2.2.1 HI.out.2.2.2 rfl (by decide) _ j _ rfl (HO.out.1.alloc _) ⟨wr.heap.size, 0, none⟩ 1 1 [.int .i64 z] rfl rfl (one_cell wr _ _) (by simp [Value.oneCell']) (by unfold maxLen; omega) (by omega) (by have := HO.out.2.size; simp; omega) ?_; intro v' w1 hown1 hgrow1 _)
        refine ⟨⟨j + 1, by omega, ?_, ?_, ?_⟩, ?_⟩
        · have := HP.out
          exact int_eq (by omega)
        · rw [HST.out, ← i64s_append]
          exact hown1
        · exact grow_below HO.out.2 (show (wr.alloc _).grownBy w1 u14.ownBlock from hgrow1) (fun g hg => (HO.out.1.lt g hg).1)
        · simp [intOf]
          omega
      · obtain rfl : j = len - k := by omega
        have hcut := fun W => run_cut_h (P := Try.prog) 28 2 i0 Try.underlying28 HI.out.1 A len c k (by omega) W
        obtain ⟨T0, c0, rfl⟩ := own_slice hown
        have HO := Lib.hid (And.intro hown hbel)
        clear hown hbel
        go_upto_region 14 with (fail)
        go_cut [14] (fun v wx => Turned w len k l v wx)
        case first =>
          as_aux_lemma =>
            rcases A with _ | ad
            · obtain ⟨rfl, rfl⟩ := HH.out.none_len
              obtain rfl : k = 0 := by omega
              go_wp2_with (at_builtin; refine wpList_append_own_nil rfl _ _ 28 rfl w.heap.size 2 i0 1 Try.underlying28 HI.out.1 _ _ c _ rfl HO.out.1 rfl ?_)
              go_meet
              case rel => exact ⟨_, _, rfl, Ints.nil, HO.out.2⟩
            · have hl2 : (i64s (l.take k)).length = k * 1 := by rw [i64s_len, List.length_take, HH.out.1]; omega
              have HL2 := Lib.hid hl2
              have hc2 := ((HH.out.below HO.out.2 (Nat.le_refl _)).head hk).cells
              have HC2 := Lib.hid hc2
              clear hl2 hc2
              go_wp2_with (at_builtin; refine wpList_append_own _ rfl _ _ 28 rfl w.heap.size 2 i0 (.int .i64 0) 1 8 Try.underlying28 HI.out.1 HI.out.2.1 HI.out.2.2.1 HI.out.2.2.2 rfl (by decide) _ (len - k) _ rfl HO.out.1 ad k c (i64s (l.take k)) rfl HL2.out HC2.out (i64s_one _) (by unfold maxLen; omega) (by omega) HO.out.2.size ?_; intro v' w1 hown1 hgrow1 _)
              go_meet
              case rel =>
                rw [show len - k + k = len by omega, i64s_append] at hown1
                obtain ⟨T, cT, rfl⟩ := own_slice hown1
                refine ⟨T, cT, rfl, Ints.of_own hown1 ?_, grow_own HO.out.2 HO.out.1 (Nat.le_refl _) hgrow1⟩
                rw [← HH.out.1]
                exact turned_lt l k HH.out.2.1
        case rest =>
          obtain ⟨T, cT, rfl, hT, hbel⟩ := hcut
          obtain ⟨A2, n2, c2, hn2, hcut2, hI2⟩ : ∃ A2 n2 c2, n2 ≤ len ∧ (∀ W, (Instr.sliceAt 28 (.slice A len c) (some (.int .i64 (k : Int))) none none).run Try.prog W = .ok (.slice A2 n2 c2) W) ∧ Ints w w.heap.size A2 n2 (l.drop k) := ⟨_, _, _, by omega, fun W => run_cut_l (P := Try.prog) 28 2 i0 Try.underlying28 HI.out.1 HI.out.2.2.1 A len c k (k : Int) rfl hk W, HH.out.cut hk hc⟩
          have HI2 := Lib.hid hI2
          clear hI2
          have hts := turned_sum l k (by rw [HH.out.1]; exact hk)
          rw [HH.out.1] at hts
          obtain ⟨X, Y, Z, hX, hY, hZ, hps⟩ : ∃ X Y Z : Int, (l.take k).sum = X ∧ (l.drop k).sum = Y ∧ l.sum = Z ∧ X + Y = Z := ⟨_, _, _, rfl, rfl, rfl, part_sum l k⟩
          rw [hZ] at hts
          have HPS := Lib.hid hps
          have HX := Lib.hid hX
          have HY := Lib.hid hY
          have HZ := Lib.hid hZ
          clear hX hY hZ
          have HT := Lib.hid hT
          have HTS := Lib.hid hts
          have HB := Lib.hid hbel
          clear hps hT hts hbel HO
          go_wp2_with fail
          refine (sum_any len c w.heap.size A l wc (HH.out.below HB.out (Nat.le_refl _)) HB.out.size (by omega)).mono ?_
          rw [HZ.out]
          rintro e w1 ⟨rfl, b1⟩
          have HT1 := Lib.hid (HT.out.below b1 (Nat.le_refl _))
          have HB1 := Lib.hid (below_next HB.out b1)
          have z1 := b1.size
          clear HT HB b1
          go_wp2_with fail
          refine (sum_any len cT wc.heap.size T _ w1 HT1.out z1 (by omega)).mono ?_
          rw [HTS.out]
          rintro e w2 ⟨rfl, b2⟩
          have HB2 := Lib.hid (below_next HB1.out b2)
          clear HT1 HB1 b2 z1 HTS
          go_wp2_with fail
          refine (sum_any k c w.heap.size A (l.take k) w2 ((HH.out.head hk).below HB2.out (Nat.le_refl _)) HB2.out.size (by omega)).mono ?_
          rw [HX.out]
          rintro e w3 ⟨rfl, b3⟩
          have HB3 := Lib.hid (below_next HB2.out b3)
          clear HB2 b3
          go_wp2_with fail
          refine (sum_any n2 c2 w.heap.size A2 (l.drop k) w3 (HI2.out.below HB3.out (Nat.le_refl _)) HB3.out.size (by omega)).mono ?_
          rw [HY.out]
          rintro e w4 ⟨rfl, b4⟩
          have HB4 := Lib.hid (below_next HB3.out b4)
          clear HB3 b4 hcut hcut2
          go_upto_region 21 with (fail)
          go_cut [21, 23, 123] (fun _ _ v wx => v = .bool (fitB X && fitB Y) ∧ wx = w4)
          case first =>
            as_aux_lemma =>
              rcases hX : fitB X with _ | _
              · rw [sumE_30 hX]
                have HXX := Lib.hid hX
                clear hX
                go_wp2_with fail
                go_meet
                case rel => exact ⟨by rw [HXX.out]; rfl, rfl⟩
              · rw [(sumE_yes hX).1]
                have HXX := Lib.hid hX
                clear hX
                rcases hY : fitB Y with _ | _
                · rw [sumE_30 hY]
                  have HYY := Lib.hid hY
                  clear hY
                  go_wp2_with fail
                  go_meet
                  case rel => exact ⟨by rw [HXX.out, HYY.out]; rfl, rfl⟩
                · rw [(sumE_yes hY).1]
                  have HYY := Lib.hid hY
                  clear hY
                  go_wp2_with fail
                  go_meet
                  case rel => exact ⟨by rw [HXX.out, HYY.out]; rfl, rfl⟩
          case rest =>
          obtain ⟨rfl, rfl⟩ := hcut
          go_upto_if 123 with (fail)
          go_cut [16, 17, 18, 19, 20, 22, 24] (fun _ _ _ _ _ _ _ wx => Below w.heap.size w wx)
          case first =>
            as_aux_lemma =>
              rcases hX : fitB X with _ | _
              · rw [Bool.false_and]
                clear hX
                go_wp2_with fail
                go_meet
                case rel => exact HB4.out
              · rcases hY : fitB Y with _ | _
                · rw [Bool.and_false]
                  clear hX hY
                  go_wp2_with fail
                  go_meet
                  case rel => exact HB4.out
                · rw [Bool.and_true]
                  have hadd := add_any X Y wc (of_decide_eq_true hX) (of_decide_eq_true hY)
                  rw [HPS.out] at hadd
                  rw [(sumE_yes hX).2, (sumE_yes hY).2]
                  rcases hZ : fitB Z with _ | _
                  · rw [hZ] at hadd
                    rw [sumE_30 hZ]
                    clear hX hY hZ
                    go_wp2_with (go_at_call 8; (with_reducible refine hadd.mono ?_); rintro e w' ⟨rfl, rfl⟩)
                    go_meet
                    case rel => exact HB4.out
                  · rw [hZ] at hadd
                    rw [(sumE_yes hZ).1]
                    clear hX hY hZ
                    go_wp2_with (go_at_call 8; (with_reducible refine hadd.mono ?_); rintro e w' ⟨rfl, rfl⟩)
                    go_meet
                    case rel => exact HB4.out
          case rest =>
            have HB5 := Lib.hid hcut
            clear hcut HB4 HPS
            by_cases hd0 : d ≤ 0
            · have hq := fun v => floorDiv_any n d v hn hd
              rw [show flE d = 2 by unfold flE; rw [if_neg (by omega)]] at hq
              go_wp2_with (first
                | (go_at_call 21; (with_reducible refine (hq _).mono ?_); rintro e w' ⟨rfl, rfl⟩)
                | (go_at_call 18; (with_reducible refine (works_any _).mono ?_); rintro e w5 ⟨rfl, b5⟩))
              go_ret
              exact ⟨rfl, below_next HB5.out b5⟩
            · have hdp : 0 < d := by omega
              obtain ⟨q, m, p, hq, hm, hw, hmul, h1, h2, h3, h4, h5⟩ := down_facts n d hdp hn hd
              have H3 := Lib.hid h3
              have H45 := Lib.hid (And.intro h4 h5)
              clear h3 h4 h5 hd0
              go_upto_region 31 with (first
                | (go_at_call 21; (with_reducible refine (hq _).mono ?_); rintro e w' ⟨rfl, rfl⟩)
                | (go_at_call 23; (with_reducible refine (hm _).mono ?_); rintro e w' ⟨rfl, rfl⟩)
                | (go_at_call 25; (with_reducible refine (hw _).mono ?_); rintro e w' ⟨rfl, rfl⟩))
              clear hq hm hw
              go_cut [192] (fun v wx => v = .bool false ∧ wx = wc)
              case first =>
                as_aux_lemma =>
                  rcases Int.lt_trichotomy q 0 with hq0 | hq0 | hq0
                  · have hn0 : n < 0 := by
                      rcases Int.lt_or_le n 0 with h | h
                      · exact h
                      · have := H45.out.1 h; omega
                    go_wp2_with fail
                    go_meet
                    case rel => exact ⟨congrArg Value.bool (by simp; omega), rfl⟩
                  · subst hq0
                    go_wp2_with fail
                    go_meet
                    case rel => exact ⟨congrArg Value.bool (by simp; omega), rfl⟩
                  · have hn0 : 0 ≤ n := by
                      rcases Int.lt_or_le n 0 with h | h
                      · have := H45.out.2 h; omega
                      · exact h
                    go_wp2_with fail
                    go_meet
                    case rel => exact ⟨congrArg Value.bool (by simp; omega), rfl⟩
              case rest =>
              obtain ⟨rfl, rfl⟩ := hcut
              have hmul2 := hmul
              rcases hP : fitB p with _ | _
              · rw [hP] at hmul
                rw [sumE_30 hP]
                clear hP hmul2
                go_wp2_with (first
                  | (go_at_call 12; (with_reducible refine (hmul _).mono ?_); rintro e w' ⟨rfl, rfl⟩)
                  | (go_at_call 18; (with_reducible refine (works_any _).mono ?_); rintro e w5 ⟨rfl, b5⟩))
                go_ret
                exact ⟨rfl, below_next HB5.out b5⟩
              · rw [hP, (sumE_yes hP).2] at hmul
                rw [(sumE_yes hP).1, (sumE_yes hP).2]
                have hpn : p ≤ n := by have := H3.out; omega
                have hpm : n - p = m := by have := H3.out; omega
                have hpr := of_decide_eq_true hP
                clear hP hmul2
                go_wp2_with (first
                  | (go_at_call 12; (with_reducible refine (hmul _).mono ?_); rintro e w' ⟨rfl, rfl⟩)
                  | (go_at_call 18; (with_reducible refine (works_any _).mono ?_); rintro e w5 ⟨rfl, b5⟩))
                go_ret
                exact ⟨rfl, below_next HB5.out b5⟩
end Go.Proofs.Ythnmphaehalceaa
