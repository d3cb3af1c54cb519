/- PackPuts, walked. -/
import Derived.Test.YtadcjllfabihbaaPuts
namespace Go.Proofs.Ytadcjllfabihbaa
open Go.ChangeShapes Go.WideShapes Go.ChangeAt Go.RowKit

theorem five_made {wr w1 w2 w3 w4 w5 : World} {n c0 c1 c2 c3 c4 : Nat} {A0 A1 A2 A3 A4 : Option Addr}
    (o0 : w1.ownsRow wr.heap.size 5 1 (.slice A0 1 c0) 1 (u8s (Pk.be 1 n)))
    (o1 : w2.ownsRow w1.heap.size 5 1 (.slice A1 2 c1) 2 (u8s (Pk.be 2 n))) (b1 : Below w1.heap.size w1 w2)
    (o2 : w3.ownsRow w2.heap.size 5 1 (.slice A2 4 c2) 4 (u8s (Pk.be 4 n))) (b2 : Below w2.heap.size w2 w3)
    (o3 : w4.ownsRow w3.heap.size 5 1 (.slice A3 8 c3) 8 (u8s (Pk.be 8 n))) (b3 : Below w3.heap.size w3 w4)
    (o4 : w5.ownsRow w4.heap.size 5 1 (.slice A4 8 c4) 8 (u8s (Pk.be 8 n))) (b4 : Below w4.heap.size w4 w5) :
    ∃ g c, Five (w5.alloc (.cells #[.slice A0 1 c0, .slice A1 2 c1, .slice A2 4 c2, .slice A3 8 c3, .slice A4 8 c4] 25)) w5.heap.size n 0 g c ∧ Apart w5.heap.size wr.heap.size g := by
  obtain ⟨g0, rfl, l0, m0⟩ := own_some o0 (by decide)
  obtain ⟨g1, rfl, l1, m1⟩ := own_some o1 (by decide)
  obtain ⟨g2, rfl, l2, m2⟩ := own_some o2 (by decide)
  obtain ⟨g3, rfl, l3, m3⟩ := own_some o3 (by decide)
  obtain ⟨g4, rfl, l4, m4⟩ := own_some o4 (by decide)
  refine ⟨pickN g0 g1 g2 g3 g4, pickN c0 c1 c2 c3 c4, ⟨Blk.new w5 _ _, fun j _ hj => ?_⟩, apart_of l0 (by omega) (by omega) (by omega) (by omega) m4⟩
  match j, hj with
  | 0, _ => exact (own_below (own_below (own_below (own_below (own_lower o0 (Nat.zero_le _)) b1) b2) b3) b4).alloc _
  | 1, _ => exact (own_below (own_below (own_below (own_lower o1 (Nat.zero_le _)) b2) b3) b4).alloc _
  | 2, _ => exact (own_below (own_below (own_lower o2 (Nat.zero_le _)) b3) b4).alloc _
  | 3, _ => exact (own_below (own_lower o3 (Nat.zero_le _)) b4).alloc _
  | 4, _ => exact (own_lower o4 (Nat.zero_le _)).alloc _
theorem be_mod8 (n : Nat) : Pk.be 1 (n % 256) = Pk.be 1 n := Pk.be_mod 1 1 n (Nat.le_refl _)
theorem be_mod16 (n : Nat) : Pk.be 2 (n % 65536) = Pk.be 2 n := Pk.be_mod 2 2 n (Nat.le_refl _)
theorem be_mod32 (n : Nat) : Pk.be 4 (n % 4294967296) = Pk.be 4 n := Pk.be_mod 4 4 n (Nat.le_refl _)
theorem sg_mod (n : Nat) (h : n < 18446744073709551616) : wrap64 (n : Int) % 18446744073709551616 = n := by
  unfold wrap64
  omega

set_option maxRecDepth 100000 in
set_option maxHeartbeats 4000000 in
theorem puts_any (n m c : Nat) (s : ByteArray) (A : Option Addr) (ls : List (List Nat)) (w : World) (hn : n < 18446744073709551616) (hs : s.size ≤ 9223372036854775807) (hr : RowsOf w w.heap.size A m ls) (hm : m ≤ 9223372036854775807) :
    Calls Try.prog 3 #[.int .u64 (n : Int), .string s, .slice A m c] w fun e w' => e = .returned (.bool true) ∧ Below w.heap.size w w' := by
  by_cases h1 : 2000 < s.size ∧ s.size ≤ 65535
  · obtain ⟨h1, h2⟩ := h1
    go_enter Try.func3, Try.ntmps3
    go_wp2_with fail
    refine (works_any _).mono ?_
    rintro e w1 ⟨rfl, b1⟩
    go_wp2_with fail
    go_ret
    exact ⟨rfl, b1⟩
  have h3 : s.size ≤ 2000 ∨ 65535 < s.size := by omega
  by_cases h2 : 10 < m
  · rcases h3 with h3 | h3
    all_goals
      clear h1
      go_enter Try.func3, Try.ntmps3
      go_wp2_with fail
      refine (works_any _).mono ?_
      rintro e w1 ⟨rfl, b1⟩
      go_wp2_with fail
      go_ret
      exact ⟨rfl, b1⟩
  have HL := Lib.hid hr.1
  have HX := Lib.hid hr.all
  have hm10 : m ≤ 10 := by omega
  have htl := txt_len s
  clear h1 h2 hm
  rcases h3 with h3 | h3
  all_goals
    go_enter Try.func3, Try.ntmps3
    go_wp2_with fail
    go_loop [7] (fun i => ∃ k : Nat, k ≤ m ∧ i = .int .i64 k ∧ Small ls k) (fun i => m - (intOf i).toNat)
    case atStart => exact ⟨0, by omega, rfl, fun i hi => absurd hi (by omega)⟩
    case round =>
      obtain ⟨k, hk, rfl, hsm⟩ := hrel
      by_cases hlt : k < m
      · obtain ⟨b, off, rfl, hbB, hc⟩ := hr.2 (by omega)
        obtain ⟨a, q, cq, hck, hq, hbq⟩ := hc k hlt
        have hq2 : (ls.getD k []).length = q := hbq.1
        have HQ := Lib.hid hq2
        clear hc hq2 hbq
        by_cases h200 : 200 < q
        · go_wp2_with fail
          refine (works_any _).mono ?_
          rintro e w1 ⟨rfl, b1⟩
          go_wp2_with fail
          go_ret
          exact ⟨rfl, b1⟩
        · go_wp2_with fail
          go_round
          case rel => exact ⟨k + 1, by omega, by go_num, fun i hi => by
            by_cases e : i = k
            · subst e; have := HQ.out; omega
            · exact hsm i (by omega)⟩
          case measure => simp [intOf]; omega
      · obtain rfl : m = k := by omega
        have hfl : ls.flatten.length ≤ 2000 := by
          have h := small_flat ls m hsm (by have := HL.out; omega)
          rw [List.take_of_length_le (by have := HL.out; omega)] at h
          omega
        have HF := Lib.hid hfl
        clear hsm hfl
        go_wp2_with fail
        go_loopw [8] (fun i wr => ∃ q : Nat, q ≤ 2 ∧ i = .int .i64 q ∧ Below w.heap.size w wr) (fun i _ => 2 - (intOf i).toNat)
        case atStart => exact ⟨0, by omega, rfl, Below.refl _ _⟩
        case round =>
          obtain ⟨q, hq, rfl, hbl⟩ := hrel
          by_cases hlq : q < 2
          · go_wp2_with fail
            refine (put8_any _ (n % 256) _ (by omega) (by omega)).mono ?_
            rintro e w1 ⟨A0, c0, rfl, o0, b0⟩
            go_wp2_with fail
            refine (put16_any _ (n % 65536) _ (by rw [IntKind.wrap_u16]; omega) (by omega)).mono ?_
            rintro e w2 ⟨A1, c1, rfl, o1, b1⟩
            go_wp2_with fail
            refine (put32_any _ (n % 4294967296) _ (by omega) (by omega)).mono ?_
            rintro e w3 ⟨A2, c2, rfl, o2, b2⟩
            go_wp2_with fail
            refine (put64_any _ n _ (by omega) (by omega)).mono ?_
            rintro e w4 ⟨A3, c3, rfl, o3, b3⟩
            go_wp2_with fail
            refine (putInt_any _ n _ (sg_mod n hn) (by omega)).mono ?_
            rintro e w5 ⟨A4, c4, rfl, o4, b4⟩
            rw [be_mod8] at o0
            rw [be_mod16] at o1
            rw [be_mod32] at o2
            obtain ⟨g, cc, hfive, hap⟩ := five_made o0 o1 b1 o2 b2 o3 b3 o4 b4
            have d5 : Below w.heap.size w w5 := below_next (below_next (below_next (below_next (below_next hbl b0) b1) b2) b3) b4
            have d6 := d5.alloc d5.size (.cells #[.slice A0 1 c0, .slice A1 2 c1, .slice A2 4 c2, .slice A3 8 c3, .slice A4 8 c4] 25)
            have z := hbl.size
            clear o0 o1 o2 o3 o4 b0 b1 b2 b3 b4 d5 hbl
            go_wp2_with fail
            generalize w5.alloc (.cells #[.slice A0 1 c0, .slice A1 2 c1, .slice A2 4 c2, .slice A3 8 c3, .slice A4 8 c4] 25) = w6 at *
            generalize w5.heap.size = R at *
            go_loopw [10] (fun i wx => ∃ k : Nat, k ≤ 5 ∧ i = .int .i64 k ∧ Five wx R n k g cc ∧ Below w.heap.size w wx) (fun i _ => 5 - (intOf i).toNat)
            case atStart => exact ⟨0, by omega, rfl, hfive, d6⟩
            case round =>
              obtain ⟨k, hk5, rfl, hfk, hbx⟩ := hrel
              clear hfive d6
              by_cases hlk : k < 5
              · obtain ⟨hs0, hsz⟩ := sz_pos hlk
                have hs8 := hsz.le
                have HSZ := Lib.hid hsz
                have hcs := sz_cell wr 3 hlk
                have d1 := hbx.alloc hbx.size (.cells #[.int .i64 1, .int .i64 2, .int .i64 4, .int .i64 8, .int .i64 8] 3)
                have f1 := hfk.below (w' := wr.alloc (.cells #[.int .i64 1, .int .i64 2, .int .i64 4, .int .i64 8, .int .i64 8] 3)) ((Below.refl _ _).alloc (Nat.le_refl _) _) rfl
                have zx := hbx.size
                clear hsz hfk hbx
                go_wp2_with fail
                clear hcs
                generalize wr.alloc (.cells #[.int .i64 1, .int .i64 2, .int .i64 4, .int .i64 8, .int .i64 8] 3) = w7 at *
                have hcR := f1.cell hlk
                have HR7 := Lib.hid f1.1.lt
                generalize hsk : sz k = y at *
                have HSK := Lib.hid hsk
                clear hsk
                have f2 := f1.drewN 1
                have hcD : w7.drew.cell? ⟨R, k, none⟩ = some (.slice (some ⟨g k, 0, none⟩) y (cc k)) := hcR
                go_region_held3 (fun w' => w'.cell? ⟨R, k, none⟩ = some (.slice (some ⟨g k, 0, none⟩) y (cc k))) (first | exact hcR | exact hcD | exact hc8 | exact hc9) (first
                  | (go_at_call 13; (with_reducible refine (same_yes y (cc k) y c8 w8.heap.size _ _ (Pk.be y n) _ fy8 f8 (by omega)).mono ?_); rintro e w9 ⟨rfl, n9, rfl⟩; have hc9 : (w8.drewN n9).cell? ⟨R, k, none⟩ = some (.slice (some ⟨g k, 0, none⟩) y (cc k)) := hc8; have v9 := v8.drewN n9; have d9 := below_drewN d8 n9; clear v8 d8 fy8 f8)
                  | (go_at_call 14; (with_reducible refine (refNumber_any _ n y _ rfl hn HSZ.out).mono ?_); rintro e w8 ⟨A8, c8, rfl, o8, b8⟩; have d8 := below_next d1.drew b8; have v8 := f2.below b8 rfl; have hc8 := v8.cell hlk; rw [HSK.out] at hc8; have f8 := Bytes.of_own o8 (Pk.be_lt y n); have fy8 := Bytes.of_own (v8.2 k (Nat.le_refl _) hlk) (Pk.be_lt _ n); rw [HSK.out] at fy8; clear b8 o8))
                have oy := v9.2 k (Nat.le_refl _) hlk
                rw [HSK.out] at oy
                clear f1 f2 hcR hcD hc8
                go_wp2_with fail
                refine (spoil_any 0 y (cc k) _ _ _ oy (by omega)).mono ?_
                rintro e w10 ⟨rfl, hg10⟩
                have v10 := v9.next hg10 hap hlk
                have d10 := below_rd d9 hg10 (Nat.le_trans z (hap.2 k hlk).2)
                clear v9 d9 hg10 hc9 oy
                go_wp2_with fail
                go_roundw
                case rel => exact ⟨k + 1, by omega, by go_num, v10, d10⟩
                case measure => simp [intOf]; omega
              · clear hfk hap
                obtain ⟨er, her⟩ : ∃ er, errT s = er := ⟨_, rfl⟩
                obtain ⟨tn, htn⟩ : ∃ tn, (txt s).length = tn := ⟨_, rfl⟩
                have HER := Lib.hid her
                have HTN := Lib.hid htn
                rw [htn] at htl
                clear her htn
                go_wp2_with fail
                refine (putText_all s _).mono ?_
                rintro e w1 ⟨Aa, ca, rfl, oa, b1⟩
                rw [HER.out, HTN.out]
                rw [HTN.out] at oa
                have d1 := below_next hbx b1
                have za := hbx.size
                clear b1
                go_wp2_with fail
                refine (refText_all s _).mono ?_
                rintro e w2 ⟨Ab, cb, rfl, ob, b2⟩
                rw [HER.out, HTN.out]
                rw [HTN.out] at ob
                have d2 := below_next d1 b2
                have oa2 := own_below oa b2
                have fa2 := Bytes.of_own oa2 (txt_lt s)
                have fb2 := Bytes.of_own ob (txt_lt s)
                have la := Lib.hid fun g hg => (oa2.lt g hg).2
                clear b2 oa d1 hbx ob
                go_wp2_with fail
                refine (join_any m c w.heap.size A ls _ (hr.below d2 (Nat.le_refl _)) d2.size (by omega) (by have := HF.out; omega)).mono ?_
                rintro e w3 ⟨Ac, c3, rfl, oc, b3⟩
                obtain ⟨fn, hfn⟩ : ∃ fn, ls.flatten.length = fn := ⟨_, rfl⟩
                have hf2 : fn ≤ 2000 := by have := HF.out; omega
                have HFN := Lib.hid hfn
                rw [hfn] at oc ⊢
                clear hfn
                have d3 := below_next d2 b3
                have zc := d2.size
                have oa3 := own_below oa2 b3
                have fa3 := (fa2.below b3 (Nat.le_refl _)).more b3.size
                have fb3 := (fb2.below b3 (Nat.le_refl _)).more b3.size
                clear b3 oa2 fa2 fb2 d2
                go_wp2_with fail
                refine (same_yes tn ca tn cb w3.heap.size Aa Ab (txt s) w3 fa3 fb3 (by omega)).mono ?_
                rintro e w4 ⟨rfl, n4, rfl⟩
                have d4 := below_drewN d3 n4
                have oa4 : (w3.drewN n4).ownsRow _ 5 1 (.slice Aa tn ca) tn _ := oa3
                have oc4 : (w3.drewN n4).ownsRow _ 5 1 (.slice Ac fn c3) fn _ := oc
                generalize w3.drewN n4 = w4 at *
                clear fa3 fb3 oa3 oc d3
                go_wp2_with fail
                refine (refJoin_any m c w.heap.size A ls w4 (hr.below d4 (Nat.le_refl _)) d4.size (by omega) (by have := HF.out; omega)).mono ?_
                rintro e w5 ⟨Ae, c5, rfl, oe, b5⟩
                rw [HFN.out] at oe ⊢
                have d5 := below_next d4 b5
                have oa5 := own_below oa4 b5
                have oc5 := own_below oc4 b5
                have fc5 := Bytes.of_own oc5 (flat_lt HX.out)
                have fe5 := Bytes.of_own oe (flat_lt HX.out)
                clear b5 oa4 oc4 d4 oe
                go_wp2_with fail
                refine (same_yes fn c3 fn c5 w5.heap.size Ac Ae ls.flatten w5 fc5 fe5 (by omega)).mono ?_
                rintro e w6 ⟨rfl, n6, rfl⟩
                have d6 := below_drewN d5 n6
                have oa6 : (w5.drewN n6).ownsRow _ 5 1 (.slice Aa tn ca) tn _ := oa5
                have oc6 : (w5.drewN n6).ownsRow _ 5 1 (.slice Ac fn c3) fn _ := oc5
                generalize w5.drewN n6 = w6 at *
                clear fc5 fe5 oa5 oc5 d5
                go_wp2_with fail
                refine (spoil_any _ tn ca Aa _ w6 oa6 (by omega)).mono ?_
                rintro e w7 ⟨rfl, g7⟩
                have oc7 := oc6.kept g7 (own_apart oc6 (Nat.le_refl _) la.out)
                have d7 := spoilt_below d6 g7 (own_far oa6 za)
                clear oc6 oa6 g7 d6
                go_wp2_with fail
                refine (refJoin_any m c w.heap.size A ls w7 (hr.below d7 (Nat.le_refl _)) d7.size (by omega) (by have := HF.out; omega)).mono ?_
                rintro e w8 ⟨Ag, c8, rfl, og, b8⟩
                rw [HFN.out] at og ⊢
                have d8 := below_next d7 b8
                have lc := Lib.hid fun g hg => (oc7.lt g hg).2
                have oc8 := own_below oc7 b8
                clear oc7 b8
                go_wp2_with fail
                refine (spoil_any _ fn c3 Ac _ w8 oc8 (by omega)).mono ?_
                rintro e w9 ⟨rfl, g9⟩
                have og9 := og.kept g9 (own_apart og (Nat.le_refl _) lc.out)
                have d9 := spoilt_below d8 g9 (own_far oc8 zc)
                clear oc8 og g9 d8 d7
                go_wp2_with fail
                refine (refJoin_any m c w.heap.size A ls w9 (hr.below d9 (Nat.le_refl _)) d9.size (by omega) (by have := HF.out; omega)).mono ?_
                rintro e w10 ⟨Ah, c10, rfl, oh, b10⟩
                rw [HFN.out] at oh ⊢
                have d10 := below_next d9 b10
                have fh := Bytes.of_own oh (flat_lt HX.out)
                have fg := Bytes.of_own (own_below og9 b10) (flat_lt HX.out)
                clear oh og9 b10 d9
                go_wp2_with fail
                refine (same_yes fn c10 fn c8 w10.heap.size Ah Ag ls.flatten w10 fh fg (by omega)).mono ?_
                rintro e w11 ⟨rfl, n11, rfl⟩
                have d11 := below_drewN d10 n11
                clear fh fg d10
                go_wp2_with fail
                go_roundw
                case rel => exact ⟨q + 1, by omega, by go_num, d11⟩
                case measure => simp [intOf]; omega
          · go_wp2_with fail
            refine (works_any _).mono ?_
            rintro e w1 ⟨rfl, b1⟩
            have d1 := below_next hbl b1
            go_wp2_with fail
            go_ret
            exact ⟨rfl, d1⟩
end Go.Proofs.Ytadcjllfabihbaa
