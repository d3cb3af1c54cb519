/- FrameStreams, walked. -/
import Derived.Test.YtnokbnobnhkmgaaFrTe
import Derived.Test.YtnokbnobnhkmgaaLaw7B
namespace Go.Proofs.Ytnokbnobnhkmgaa
open Go.ChangeShapes Go.WideShapes Go.ChangeAt Go.RowKit

theorem feed16 (g : Nat) (Hx l : List Nat) (d : Bool) (v : World) (hs : Stm v Hx g l d) (hl : l.length ≤ 2000) : Calls Try.prog 25 #[.pointer (some ⟨g, 0, none⟩), .slice (some ⟨v.heap.size + 1, 0, none⟩) 1 1] ((v.alloc (.cells #[.int .u8 0, .int .u8 0, .int .u8 0, .int .u8 0, .int .u8 0, .int .u8 0, .int .u8 0, .int .u8 0, .int .u8 0, .int .u8 0, .int .u8 0, .int .u8 0, .int .u8 0, .int .u8 0, .int .u8 0, .int .u8 0] 5)).alloc (.cells #[.slice (some ⟨v.heap.size, 0, none⟩) 16 16] 24)) fun e w' => e = .returned (.tuple #[]) ∧ ∃ H', Mv v w' Hx H' ∧ Stm w' H' g (if d = true then [] else l ++ List.replicate 16 0) d := by
  have hlt := stm_lt hs
  have b1 : Below v.heap.size v (v.alloc (.cells #[.int .u8 0, .int .u8 0, .int .u8 0, .int .u8 0, .int .u8 0, .int .u8 0, .int .u8 0, .int .u8 0, .int .u8 0, .int .u8 0, .int .u8 0, .int .u8 0, .int .u8 0, .int .u8 0, .int .u8 0, .int .u8 0] 5)) := (Below.refl _ _).alloc (Nat.le_refl _) _
  have hby : BytesFar (v.alloc (.cells #[.int .u8 0, .int .u8 0, .int .u8 0, .int .u8 0, .int .u8 0, .int .u8 0, .int .u8 0, .int .u8 0, .int .u8 0, .int .u8 0, .int .u8 0, .int .u8 0, .int .u8 0, .int .u8 0, .int .u8 0, .int .u8 0] 5)) Hx (some ⟨v.heap.size, 0, none⟩) 16 (List.replicate 16 0) := by
    refine ⟨(bytes_lit7 v 5 16 (List.replicate 16 0) _ rfl (by simp) rfl).more (by simp), fun b off he _ hb => ?_⟩
    injection he with he
    injection he with he _
    have := hlt b hb
    omega
  have hrow := RowsFar.one (t := 24) (c := 16) hby (fun k hk => Nat.lt_of_lt_of_le (hlt k hk) b1.size)
  have b2 := b1.trans (((Below.refl _ (v.alloc (.cells #[.int .u8 0, .int .u8 0, .int .u8 0, .int .u8 0, .int .u8 0, .int .u8 0, .int .u8 0, .int .u8 0, .int .u8 0, .int .u8 0, .int .u8 0, .int .u8 0, .int .u8 0, .int .u8 0, .int .u8 0, .int .u8 0] 5))).alloc (Nat.le_refl _) (.cells #[.slice (some ⟨v.heap.size, 0, none⟩) 16 16] 24)).mono b1.size)
  have hsz : (v.alloc (.cells #[.int .u8 0, .int .u8 0, .int .u8 0, .int .u8 0, .int .u8 0, .int .u8 0, .int .u8 0, .int .u8 0, .int .u8 0, .int .u8 0, .int .u8 0, .int .u8 0, .int .u8 0, .int .u8 0, .int .u8 0, .int .u8 0] 5)).heap.size = v.heap.size + 1 := by simp
  rw [hsz] at hrow
  have h := fFeed_any 1 1 g _ [List.replicate 16 0] Hx l (if d = true then [] else l ++ List.replicate 16 0) d _ (stm_below hs b2) hrow (by omega) (by simp; omega) (by simp)
  refine h.mono ?_
  rintro e w' ⟨rfl, H1, m1, s1⟩
  exact ⟨rfl, H1, (Mv.of_below b2 Hx).trans m1, s1⟩
set_option maxRecDepth 100000 in
set_option maxHeartbeats 8000000 in
theorem frameStreams_any (n c B q cq p cp : Nat) (A Aq Ap : Option Addr) (b : List Nat) (cuts : List Int) (asks : List Bool) (w : World) (h : Bytes w B A n b) (hq : Ints w B Aq q cuts) (hp : Bools w B Ap p asks) (hB : B ≤ w.heap.size) (hc : n ≤ c) (hn : n ≤ 9223372036854775807) (hqn : q ≤ 9223372036854775807) (hpn : p ≤ 9223372036854775807) :
    Calls Try.prog 5 #[.slice A n c, .slice Aq q cq, .slice Ap p cp] w (LawP w) := by
  obtain ⟨i0, hi, hz0, hz1, hz2⟩ := info_parts Try.info44
  obtain ⟨iu, hu, hu0, hu1, hu2⟩ := info_parts Try.info5
  have HI := Lib.hid (And.intro hi (And.intro hz0 (And.intro hz1 hz2)))
  have HU := Lib.hid (And.intro hu (And.intro hu0 (And.intro hu1 hu2)))
  have HP := Lib.hid (And.intro h (And.intro hq (And.intro hp hB)))
  clear h hq hp hB hi hz0 hz1 hz2 hu hu0 hu1 hu2
  go_enter Try.func5, Try.ntmps5
  by_cases hgo : 2000 < n ∨ 40 < q
  · rcases hgo with hgo | hgo
    · have i1 : (2000 : Int) < n := by omega
      go_wp2_with fail
      refine (works7_any _).mono ?_
      rintro e w1 ⟨rfl, b1⟩
      have D := Lib.hid b1
      clear b1
      go_wp2_with fail
      go_ret
      exact ⟨rfl, D.out⟩
    · have i1 : (40 : Int) < q := by omega
      by_cases h20 : 2000 < n
      all_goals
        first | (have i2 : (2000 : Int) < n := by omega) | (have i2 : ¬ (2000 : Int) < n := by omega)
        go_wp2_with fail
        refine (works7_any _).mono ?_
        rintro e w1 ⟨rfl, b1⟩
        have D := Lib.hid b1
        clear b1
        go_wp2_with fail
        go_ret
        exact ⟨rfl, D.out⟩
  · have h20 : n ≤ 2000 := by omega
    have h40 : q ≤ 40 := by omega
    have i1 : ¬ (2000 : Int) < n := by omega
    have i2 : ¬ (40 : Int) < q := by omega
    clear hgo hn hqn
    obtain ⟨L, en, hL⟩ : ∃ L en, Fr.from_ b 0 = (L, en) := ⟨_, _, rfl⟩
    obtain ⟨kk, hkk⟩ : ∃ kk, L.length = kk := ⟨_, rfl⟩
    have hRl := refAll7_any n c B A b w HP.out.1 HP.out.2.2.2 (by omega) hc
    rw [hL] at hRl
    have HR : Hid (Calls Try.prog 21 #[.slice A n c] w fun e w' => ∃ A' c' V, e = .returned (.tuple #[.slice A' kk c', .int .i64 (en : Int)]) ∧ w'.ownsRow w.heap.size 53 2 (.slice A' kk c') kk V ∧ Founds w' w.heap.size V L ∧ Below w.heap.size w w') := Lib.hid (by subst hkk; exact hRl)
    have HL := Lib.hid (And.intro hL hkk)
    clear hL hkk hRl
    go_wp2_with fail
    refine HR.out.mono ?_
    rintro e w1 ⟨A7, c7, V7, rfl, o7, f7, b1⟩
    have H1 := Lib.hid (And.intro o7 (And.intro f7 b1))
    clear o7 f7 b1
    go_wp2_with fail
    refine (fNew_any w1).mono ?_
    rintro e w2 ⟨g, H0, rfl, s2, hH0, b2⟩
    have HB2 := Lib.hid (And.intro (below_next H1.out.2.2 b2) (And.intro (show ∀ k ∈ H0, w.heap.size ≤ k from fun k hk => Nat.le_trans H1.out.2.2.size (hH0 k hk)) (show w.heap.size ≤ w2.heap.size from Nat.le_trans H1.out.2.2.size b2.size)))
    have HW2 := Lib.hid (And.intro (own_below H1.out.1 b2) (And.intro (H1.out.2.1.below b2) (And.intro (own_off_lt H1.out.1 hH0) (H1.out.2.1.off_lt hH0))))
    have HS := Lib.hid s2
    clear s2 hH0 b2
    go_wp2_with fail
    go_loopw [10, 11, 12, 13, 14] (fun v a i _ _ wr => ∃ (k z : Nat) (G : List (List Nat × Int)) (V : List Value) (l H : List Nat) (d : Bool), a = .int .i64 (z : Int) ∧ i = .int .i64 (k : Int) ∧ k ≤ q + 1 ∧ z ≤ n ∧ (k = q + 1 → z = n) ∧ Fr.Run (b.take z) G l d ∧ Told w2 H0 g v G V l d H wr) (fun _ _ i _ _ _ => q + 1 - (intOf i).toNat)
    case atStart => exact ⟨0, 0, [], [], [], H0, false, rfl, rfl, by omega, by omega, by omega, by simpa using Fr.Run.start, ⟨own_nil _ _ _ _, Founds.nil _ _⟩, Mv.refl _ _, HS.out, Off.nil _, OffAll.nil _⟩
    case round =>
      obtain ⟨k, z, G, V, l, H, d, rfl, rfl, hk, hz, hkz, hrun, htold⟩ := hrel
      obtain ⟨A3, c3, rfl⟩ := own_slice htold.1.1
      have HT := Lib.hid (And.intro htold hrun)
      have hGl := hrun.len
      rw [List.length_take] at hGl
      have hG : G.length ≤ 2001 := by omega
      have hl2 : l.length ≤ 2000 := by omega
      have HWX := Lib.hid (HB2.out.1.trans (htold.2.1.below HB2.out.2.2 HB2.out.2.1).1)
      clear htold hrun hGl
      by_cases hkq : k ≤ q
      · have i3 : (k : Int) ≤ q := by omega
        obtain ⟨r, hr⟩ : ∃ r, r = n - z := ⟨_, rfl⟩
        have HRr := Lib.hid hr
        have hr1 : z + r = n := by omega
        clear hr
        go_upto_if 46 with (fail)
        go_cut [13] (fun v wx => ∃ t : Nat, v = .int .i64 (t : Int) ∧ t ≤ r ∧ (k = q → t = r) ∧ wx = wr)
        case first =>
          by_cases hkl : k < q
          · have i4 : (k : Int) < q := by omega
            have i5 : (0 : Int) ≤ k := by omega
            obtain ⟨bq, oq, rfl, hbq, hcq⟩ := HP.out.2.1.2.2 (by omega)
            have hcell := (HWX.out.cell (p := ⟨bq, _, none⟩) (by have := HP.out.2.2.2; show bq < w.heap.size; omega)).trans (hcq k hkl)
            obtain ⟨x, hx⟩ : ∃ x, cuts.getD k 0 = x := ⟨_, rfl⟩
            rw [hx] at hcell
            obtain ⟨t, ht, hpick⟩ := pick_any x (r + 1) wr (by omega) (by omega)
            have HPk := Lib.hid hpick
            clear hx hcq hpick
            go_wp2_with fail
            rw [show (n : Int) - z + 1 = ((r + 1 : Nat) : Int) by omega]
            refine HPk.out.mono ?_
            rintro e w' ⟨rfl, rfl⟩
            go_wp2_with fail
            go_meet
            case rel => exact ⟨t, rfl, by omega, fun h => by omega, rfl⟩
          · have i4 : ¬ (k : Int) < q := by omega
            go_wp2_with fail
            go_meet
            case rel => exact ⟨r, by congr 1; omega, by omega, fun _ => rfl, rfl⟩
        case rest =>
        obtain ⟨t, rfl, htr, hkt, rfl⟩ := hcut
        obtain ⟨x, hx⟩ : ∃ x, (b.drop z).take t = x := ⟨_, rfl⟩
        have hxl : x.length = t := by rw [← hx, List.length_take, List.length_drop, HP.out.1.1]; omega
        have hx256 : ∀ y ∈ x, y < 256 := fun y hy => HP.out.1.2.1 y (List.mem_of_mem_drop (List.mem_of_mem_take (hx ▸ hy)))
        have hbx := (((HP.out.1.below HWX.out HP.out.2.2.2).cut (i := z) hz hc).head (j := t) (by omega))
        rw [hx] at hbx
        have hrunx : b.take (z + t) = b.take z ++ x := by rw [← hx, List.take_add]
        have hsl := run_cut_lh (P := Try.prog) 24 5 iu Try.underlying24 HU.out.1 HU.out.2.2.1 A n c z (z + t) ((z : Int) + t) (by omega) (by omega) (by omega)
        obtain ⟨Az, hAz⟩ : ∃ Az, (if c = z then A else A.map (·.add z)) = Az := ⟨_, rfl⟩
        rw [hAz] at hsl hbx
        have HX := Lib.hid (And.intro hxl (And.intro hx256 (And.intro hrunx hbx)))
        have hsz := HWX.out.size
        clear hx hxl hx256 hrunx hbx hAz
        go_wp2_with fail
        refine (own_any t (c - z) B Az x wc HX.out.2.2.2 (by omega)).mono ?_
        rintro e w3 ⟨A4, c4, rfl, o4, b4⟩
        have HO := Lib.hid (And.intro o4 b4)
        have hc4 := own_cap o4
        obtain ⟨l1, hl1⟩ : ∃ l1, l1 = if d = true then [] else l ++ x := ⟨_, rfl⟩
        have HL1 := Lib.hid hl1
        have s3 := stm_below HT.out.1.2.2.1 b4
        have HS3 := Lib.hid s3
        clear o4 b4 hl1 s3
        go_upto_if 63 with (fail)
        go_cut [] (fun wx => ∃ H1, Mv w3 wx H H1 ∧ Stm wx H1 g l1 d)
        case first =>
          have hHlt := stm_lt HT.out.1.2.2.1
          have hofo := own_off HO.out.1 hHlt
          have hfar := BytesFar.of_own HO.out.1 HX.out.2.1 hofo
          have hH3 := stm_lt HS3.out
          have hpar : ((k : Int) % 2 == 0) = true ∨ ((k : Int) % 2 == 0) = false := by cases ((k : Int) % 2 == 0) <;> simp
          have hxl := HX.out.1
          rcases hpar with i6 | i6
          · have hrow := RowsFar.one (t := 24) (c := c4) hfar hH3
            have hst := stm_below HS3.out ((Below.refl w3.heap.size w3).alloc (Nat.le_refl _) (.cells #[.slice A4 t c4] 24))
            have HFE := Lib.hid (fFeed_any 1 1 g _ [x] H l l1 d _ hst hrow (by omega) (by simp; omega) (by simpa using HL1.out))
            clear hrow hst hHlt hofo hfar hH3 hxl
            go_wp2_with fail
            refine HFE.out.mono ?_
            rintro e w4 ⟨rfl, H1, m1, s1⟩
            have HM := Lib.hid (And.intro ((Mv.of_below ((Below.refl w3.heap.size w3).alloc (Nat.le_refl _) (.cells #[.slice A4 t c4] 24)) H).trans m1) s1)
            clear m1 s1
            go_wp2_with fail
            go_meet
            case rel => exact ⟨H1, HM.out.1, HM.out.2⟩
          · obtain ⟨t2, ht2⟩ : ∃ t2 : Nat, t / 2 = t2 := ⟨_, rfl⟩
            have i7 : (t : Int) / 2 = (t2 : Int) := by omega
            have i8 : (t : Int).tdiv 2 = (t2 : Int) := by rw [← ht2]; exact Int.tdiv_eq_ediv_of_nonneg (by omega)
            have i9 : IntKind.i64.wrap (t2 : Int) = (t2 : Int) := IntWalk.i64_in _ (by omega)
            have hlow := hfar.head (j := t2) (by omega)
            have hhigh := hfar.cut (i := t2) (by omega) hc4
            have hs1 := run_cut_h (P := Try.prog) 24 5 iu Try.underlying24 HU.out.1 A4 t c4 t2 (by omega)
            have hs2 := run_cut_l (P := Try.prog) 24 5 iu Try.underlying24 HU.out.1 HU.out.2.2.1 A4 t c4 t2 (t2 : Int) rfl (by omega)
            obtain ⟨A5, hA5⟩ : ∃ A5, (if c4 = t2 then A4 else A4.map (·.add t2)) = A5 := ⟨_, rfl⟩
            rw [hA5] at hs2 hhigh
            have hrow := RowsFar.three (t := 24) (c1 := c4) (c2 := 0) (c3 := c4 - t2) hlow (BytesFar.nil w3 H none) hhigh hH3
            have hst := stm_below HS3.out ((Below.refl w3.heap.size w3).alloc (Nat.le_refl _) (.cells #[.slice A4 t2 c4, .slice none 0 0, .slice A5 (t - t2) (c4 - t2)] 24)).drew
            have hrow : RowsFar (w3.alloc (.cells #[.slice A4 t2 c4, .slice none 0 0, .slice A5 (t - t2) (c4 - t2)] 24)).drew H (some ⟨w3.heap.size, 0, none⟩) 3 [x.take t2, [], x.drop t2] := hrow
            have hfl : [x.take t2, [], x.drop t2].flatten = x := by simp
            have HFE := Lib.hid (fFeed_any 3 3 g _ _ H l l1 d _ hst hrow (by omega) (by rw [hfl]; omega) (by rw [hfl]; exact HL1.out))
            clear hrow hst hHlt hofo hfar hH3 hxl hlow hhigh hfl hA5
            go_wp2_with fail
            go_region_held3 (fun _ => True) (exact trivial) (first
              | (go_at_call 25; (with_reducible refine HFE.out.mono ?_); rintro e w4 ⟨rfl, H1, m1, s1⟩; have HM := Lib.hid (And.intro ((Mv.of_below ((Below.refl w3.heap.size w3).alloc (Nat.le_refl _) (.cells #[.slice A4 t2 c4, .slice none 0 0, .slice A5 (t - t2) (c4 - t2)] 24)).drew H).trans m1) s1); clear m1 s1))
            go_wp2_with fail
            go_meet
            case rel => exact ⟨H1, HM.out.1, HM.out.2⟩
        case rest =>
        obtain ⟨H1, m1, s1⟩ := hcut
        have oc := own_mv HO.out.1 m1 (own_off HO.out.1 (stm_lt HT.out.1.2.2.1))
        have HC := Lib.hid (And.intro m1 (And.intro s1 oc.1))
        clear m1 s1 oc
        go_wp2_with fail
        refine (spoil_any _ t c4 A4 _ wc HC.out.2.2 (by omega)).mono ?_
        rintro e w4 ⟨rfl, hg4⟩
        have m4 := mv_spoil HO.out.2 HO.out.1 HC.out.1 hg4
        have s4 := stm_spoil (stm_lt HT.out.1.2.2.1) HO.out.1 HC.out.1 HC.out.2.1 hg4
        have T4 := HT.out.1.mv m4 s4
        have hrun := HT.out.2.feed x
        rw [← HL1.out, ← HX.out.2.2.1] at hrun
        have hl1 := hrun.len
        rw [List.length_take] at hl1
        have hl12 : l1.length ≤ 2000 := by omega
        have HT4 := Lib.hid (And.intro T4 hrun)
        have HW4 := Lib.hid (HB2.out.1.trans (T4.2.1.below HB2.out.2.2 HB2.out.2.1).1)
        clear hg4 m4 s4 T4 hrun hl1
        have hzt : z + t ≤ n := by omega
        have hkz : k + 1 = q + 1 → z + t = n := fun h => by have := hkt (by omega); omega
        have HK := Lib.hid hkz
        clear hkt hkz
        have hround : ∀ v V' G' l' H' d' wx, Fr.Run (b.take (z + t)) G' l' d' → Told w2 H0 g v G' V' l' d' H' wx → ∃ (k' z' : Nat) (G : List (List Nat × Int)) (V : List Value) (l H : List Nat) (d : Bool), Value.int .i64 ((z : Int) + t) = .int .i64 (z' : Int) ∧ Value.int .i64 ((k : Int) + 1) = .int .i64 (k' : Int) ∧ k' ≤ q + 1 ∧ z' ≤ n ∧ (k' = q + 1 → z' = n) ∧ Fr.Run (b.take z') G l d ∧ Told w2 H0 g v G V l d H wx := fun v V' G' l' H' d' wx h1 h2 => ⟨k + 1, z + t, G', V', l', H', d', by congr 1, by congr 1, by omega, hzt, HK.out, h1, h2⟩
        have HRN := Lib.hid hround
        clear hround
        by_cases hask : k < p ∧ asks.getD k false = true
        · obtain ⟨hkp, hy⟩ := hask
          have i4 : (k : Int) < p := by omega
          have i5 : (0 : Int) ≤ k := by omega
          obtain ⟨bp, op, rfl, hbp, hcp⟩ := HP.out.2.2.1.2 (by omega)
          have hcell := (HW4.out.cell (p := ⟨bp, _, none⟩) (by have := HP.out.2.2.2; show bp < w.heap.size; omega)).trans (hcp k hkp)
          rw [hy] at hcell
          have HTD := Lib.hid (told_any g H1 l1 d w4 HT4.out.1.2.2.1 hl12)
          clear hcp hy
          go_wp2_with fail
          refine HTD.out.mono ?_
          rintro e w5 ⟨A5, c5, V5, H5, rfl, o5, f5, m5, s5, off5, offa5⟩
          obtain ⟨T, hT⟩ : ∃ T, Fr.tells l1 d = T := ⟨_, rfl⟩
          rw [hT] at o5 f5 off5 ⊢
          have hrun5 := HT4.out.2.told
          rw [hT] at hrun5
          have T5 := HT4.out.1.mv m5 s5
          have hTl := hrun5.len.1
          rw [List.length_append, List.length_take] at hTl
          have hTm : T.length ≤ 2001 := by omega
          have hs5 : w2.heap.size ≤ w4.heap.size := HT4.out.1.2.1.1.size
          have hs6 : w2.heap.size ≤ w5.heap.size := T5.2.1.1.size
          have H5 := Lib.hid (And.intro o5 (And.intro f5 (And.intro T5 (And.intro offa5 hrun5))))
          clear o5 f5 m5 s5 off5 offa5 hT hrun5 T5 hTl
          rcases Nat.eq_zero_or_pos T.length with h0 | h0
          · obtain rfl : T = [] := List.eq_nil_of_length_eq_zero h0
            go_wp2_with (at_builtin; refine wpList_append_zero rfl _ _ 36 rfl w2.heap.size 44 i0 2 Try.underlying36 HI.out.1 _ G.length c5 A5 V rfl H5.out.2.2.1.1.1 rfl ?_)
            have hr := H5.out.2.2.2.2
            rw [List.append_nil] at hr
            exact ⟨HRN.out _ V G _ _ _ w5 hr H5.out.2.2.1, by simp [intOf]; omega⟩
          · obtain ⟨g5, cap5, hv5, hc5, -⟩ := H5.out.1.form h0
            injection hv5 with hA5
            subst hA5
            go_wp2_with (at_builtin; refine wpList_append_lies _ rfl _ _ 36 rfl w2.heap.size 44 i0 (.agg #[.slice none 0 0, .int .i64 0]) 2 32 Try.underlying36 HI.out.1 HI.out.2.1 HI.out.2.2.1 HI.out.2.2.2 rfl (by decide) _ G.length V rfl H5.out.2.2.1.1.1 ⟨g5, 0, none⟩ T.length _ V5 rfl H5.out.2.1.1 (H5.out.1.cells rfl) (founds_one H5.out.2.1) h0 (by unfold maxLen; omega) (by omega) hs6 _ rfl ?_; intro g' cap w6 hown hgrow hlies _)
            exact ⟨HRN.out _ _ _ _ _ _ w6 H5.out.2.2.2.2 (H5.out.2.2.1.join H5.out.2.1 hs5 H5.out.2.2.2.1 rfl hown hgrow hlies), by simp [intOf]; omega⟩
        · have hno : ¬ (k : Int) < p ∨ asks.getD k false = false := by
            by_cases h : k < p
            · exact .inr (by cases hv : asks.getD k false with | false => rfl | true => exact absurd ⟨h, hv⟩ hask)
            · exact .inl (by omega)
          have HTF := Lib.hid (HRN.out (.slice A3 G.length c3) V G l1 H1 d w4 HT4.out.2 HT4.out.1)
          clear hask
          by_cases hkp : k < p
          · have hy := hno.resolve_left (by omega)
            have i4 : (k : Int) < p := by omega
            have i5 : (0 : Int) ≤ k := by omega
            obtain ⟨bp, op, rfl, hbp, hcp⟩ := HP.out.2.2.1.2 (by omega)
            have hcell := (HW4.out.cell (p := ⟨bp, _, none⟩) (by have := HP.out.2.2.2; show bp < w.heap.size; omega)).trans (hcp k hkp)
            rw [hy] at hcell
            clear hcp hy hno
            go_wp2_with fail
            exact ⟨HTF.out, by simp [intOf]; omega⟩
          · have i4 : ¬ (k : Int) < p := by omega
            clear hno
            go_wp2_with fail
            exact ⟨HTF.out, by simp [intOf]; omega⟩
      · have i3 : ¬ (k : Int) ≤ q := by omega
        obtain rfl : k = q + 1 := by omega
        obtain rfl : z = n := hkz rfl
        have hrunb := HT.out.2.told
        rw [List.take_of_length_le (by rw [HP.out.1.1]; exact Nat.le_refl _)] at hrunb
        obtain ⟨T, hT⟩ : ∃ T, Fr.tells l d = T := ⟨_, rfl⟩
        obtain ⟨d1, hd1⟩ : ∃ d1, Fr.dies l d = d1 := ⟨_, rfl⟩
        have hkd := Fr.keeps_done l d
        obtain ⟨l1, hl1⟩ : ∃ l1, Fr.keeps l d = l1 := ⟨_, rfl⟩
        rw [hd1, hl1] at hkd
        rw [hT, hd1, hl1] at hrunb
        have hdone := hrunb.done hkd
        rw [HL.out.1, HP.out.1.1] at hdone
        dsimp only at hdone
        have hl12 : l1.length ≤ 2000 := by have := hrunb.len.2; rw [HP.out.1.1] at this; omega
        have HTD := told_any g H l d wr HT.out.1.2.2.1 hl2
        rw [hT, hd1, hl1] at HTD
        have HTD := Lib.hid HTD
        have hkk := HL.out.2
        have hTG : G.length + T.length = kk := by rw [← hkk, hdone.1, List.length_append]
        have hkk1 : kk ≤ 2001 := by have := hrunb.len.1; rw [← hdone.1, hkk, HP.out.1.1] at this; omega
        have HD := Lib.hid (And.intro hdone hkd)
        have HTG := Lib.hid hTG
        have hTm : T.length ≤ 2001 := by omega
        have hs5 : w2.heap.size ≤ wr.heap.size := HT.out.1.2.1.1.size
        clear hrunb hT hd1 hl1 hkd hdone hkk hTG hkz
        go_upto_region 21 with (fail)
        go_cut [10] (fun v wx => ∃ (Hx : List Nat) (Vx : List Value), Told w2 H0 g v L Vx l1 d1 Hx wx)
        case first =>
          go_wp2_with fail
          refine HTD.out.mono ?_
          rintro e w5 ⟨A5, c5, V5, H5, rfl, o5, f5, m5, s5, off5, offa5⟩
          have T5 := HT.out.1.mv m5 s5
          have hs6 : w2.heap.size ≤ w5.heap.size := T5.2.1.1.size
          have H5 := Lib.hid (And.intro o5 (And.intro f5 (And.intro T5 offa5)))
          clear o5 f5 m5 s5 off5 offa5 T5
          rcases Nat.eq_zero_or_pos T.length with h0 | h0
          · obtain rfl : T = [] := List.eq_nil_of_length_eq_zero h0
            go_wp2_with (at_builtin; refine wpList_append_zero rfl _ _ 36 rfl w2.heap.size 44 i0 2 Try.underlying36 HI.out.1 _ G.length c5 A5 V rfl H5.out.2.2.1.1.1 rfl ?_)
            go_meet
            case rel => exact ⟨_, V, by rw [HD.out.1.1, List.append_nil]; exact H5.out.2.2.1⟩
          · obtain ⟨g5, cap5, hv5, hc5, -⟩ := H5.out.1.form h0
            injection hv5 with hA5
            subst hA5
            go_wp2_with (at_builtin; refine wpList_append_lies _ rfl _ _ 36 rfl w2.heap.size 44 i0 (.agg #[.slice none 0 0, .int .i64 0]) 2 32 Try.underlying36 HI.out.1 HI.out.2.1 HI.out.2.2.1 HI.out.2.2.2 rfl (by decide) _ G.length V rfl H5.out.2.2.1.1.1 ⟨g5, 0, none⟩ T.length _ V5 rfl H5.out.2.1.1 (H5.out.1.cells rfl) (founds_one H5.out.2.1) h0 (by unfold maxLen; omega) (by omega) hs6 _ rfl ?_; intro g' cap w6 hown hgrow hlies _)
            go_meet
            case rel => exact ⟨_, _, by rw [HD.out.1.1]; exact H5.out.2.2.1.join H5.out.2.1 hs5 H5.out.2.2.2 rfl hown hgrow hlies⟩
        case rest =>
        obtain ⟨Hx, Vx, hTx⟩ := hcut
        obtain ⟨Ax, cx, rfl⟩ := own_slice hTx.1.1
        have hkk := HL.out.2
        have o7 := own_mv HW2.out.1 hTx.2.1 HW2.out.2.2.1
        have f7 := HW2.out.2.1.mv hTx.2.1 HW2.out.2.2.2
        have HTX := Lib.hid (And.intro hTx (And.intro o7.1 f7.1))
        rw [hkk]
        clear hTx o7 f7 hkk
        go_upto_region 22 with (fail)
        go_cut [15] (fun v wx => v = .bool d1 ∧ wx = wc)
        case first =>
          have hdl : d1 = Fr.dead L := by rw [HD.out.1.2.1, ← HD.out.1.1]
          rcases hz : kk with _ | y
          · have h1 : L = [] := List.eq_nil_of_length_eq_zero (by have := HL.out.2; omega)
            have h2 : d1 = false := by rw [hdl, h1]; rfl
            clear hdl
            subst hz h2
            go_wp2_with fail
            go_meet
            case rel => exact ⟨rfl, rfl⟩
          · subst hz
            obtain ⟨g7, a7, m7, cc7, rfl, e0, e1, e2, e3⟩ := HTX.out.2.2.at_ HTX.out.2.1 (i := y) (by omega)
            have hdd := Fr.dead_last b (z := y) (by rw [HL.out.1]; exact HL.out.2)
            rw [HL.out.1] at hdd
            dsimp only at hdd
            obtain ⟨er, her⟩ : ∃ er, (L.getD y ([], 0)).2 = er := ⟨_, rfl⟩
            rw [her] at hdd e1
            have h2 : d1 = (er == 71) := by rw [hdl, hdd]
            subst h2
            clear hdl hdd her e0 e2 e3
            have i4 : (0 : Int) ≤ y := by omega
            go_wp2_with fail
            go_meet
            case rel => exact ⟨rfl, rfl⟩
        case rest =>
        obtain ⟨rfl, rfl⟩ := hcut
        have hbk := from_ok HP.out.1.2.1 0
        rw [HL.out.1] at hbk
        dsimp only at hbk
        have HBK := Lib.hid hbk
        have hown := HTX.out.1.1.1
        rw [HL.out.2] at hown
        have HSM := Lib.hid (same_found kk cx c7 _ _ _ _ Ax A7 Vx V7 L wc hown HTX.out.1.1.2 HTX.out.2.1 HTX.out.2.2 hbk)
        clear hbk hown
        have hcond : d1 = true ∨ (Fr.tkA l1 0).2.2 ≠ 71 := by
          cases d1 with
          | true => exact .inl rfl
          | false =>
            refine .inr (fun h => ?_)
            have h1 := HD.out.2 rfl
            rw [Fr.from_long h] at h1
            cases h1
        have HCO := Lib.hid hcond
        clear hcond
        have HS1 : Hid (∀ W, Below wc.heap.size wc W → Stm W Hx g l1 d1) := Lib.hid fun W hW => stm_below HTX.out.1.2.2.1 hW
        have HB0 := Lib.hid (HB2.out.1.trans (HTX.out.1.2.1.below HB2.out.2.2 HB2.out.2.1).1)
        have HHx := Lib.hid (HTX.out.1.2.1.below HB2.out.2.2 HB2.out.2.1).2
        obtain ⟨m1, hm1⟩ : ∃ m1, l1.length = m1 := ⟨_, rfl⟩
        have HM1 := Lib.hid hm1
        have hmm : d1 = false → (z : Int) - en = m1 := fun h => by have := HD.out.1.2.2 h; omega
        have hm12 : m1 ≤ 2000 := by omega
        clear hm1
        cases d1 with
        | false =>
          have i4 := hmm rfl
          clear hmm
          go_wp2_with fail
          refine HSM.out.mono ?_
          rintro e v1 ⟨rfl, b1⟩
          have G1 := Lib.hid b1
          clear b1
          go_wp2_with fail
          refine (fDead_any g Hx l1 false v1 (HS1.out _ G1.out) (by omega) HCO.out).mono ?_
          rintro e v2 ⟨rfl, b2⟩
          have G2 := Lib.hid (below_next G1.out b2)
          clear b2
          go_wp2_with fail
          refine (fLeft_any g m1 Hx l1 false v2 (HS1.out _ G2.out) (by omega) HM1.out HCO.out).mono ?_
          rintro e v3 ⟨rfl, b3⟩
          have G3 := Lib.hid (below_next G2.out b3)
          clear b3
          go_wp2_with fail
          refine (feed16 g Hx l1 false v3 (HS1.out _ G3.out) hl12).mono ?_
          rintro e v4 ⟨rfl, H4, m4, s4⟩
          have G4 := Lib.hid (And.intro ((Mv.of_below G3.out Hx).trans m4) s4)
          clear m4 s4
          go_wp2_with fail
          refine (fNext_any g H4 _ _ v4 G4.out.2 (by simp; omega)).mono ?_
          rintro e v5 ⟨A5, m5, c5, e5, ok, l5, d5, rfl, H5, mm5, s5⟩
          have G5 := Lib.hid (G4.out.1.trans mm5)
          clear mm5 s5
          go_wp2_with fail
          refine (works7_any _).mono ?_
          rintro e v6 ⟨rfl, b6⟩
          have G6 := Lib.hid (HB0.out.trans (((G5.out.below HB0.out.size HHx.out).1.alloc (Nat.le_trans HB0.out.size G5.out.1.size) _).trans (b6.mono (by have := G5.out.1.size; have := HB0.out.size; simp; omega))))
          clear b6
          go_wp2_with fail
          go_ret
          exact ⟨rfl, G6.out⟩
        | true =>
          clear hmm
          have hl0 := stm_dead HTX.out.1.2.2.1
          have hm0 := HM1.out
          rw [hl0] at hm0
          obtain rfl : m1 = 0 := hm0.symm
          subst hl0
          go_wp2_with fail
          refine HSM.out.mono ?_
          rintro e v1 ⟨rfl, b1⟩
          have G1 := Lib.hid b1
          clear b1
          go_wp2_with fail
          refine (fDead_any g Hx [] true v1 (HS1.out _ G1.out) (by simp) (.inl rfl)).mono ?_
          rintro e v2 ⟨rfl, b2⟩
          have G2 := Lib.hid (below_next G1.out b2)
          clear b2
          go_wp2_with fail
          refine (fLeft_any g 0 Hx [] true v2 (HS1.out _ G2.out) (by simp) rfl (.inl rfl)).mono ?_
          rintro e v3 ⟨rfl, b3⟩
          have G3 := Lib.hid (below_next G2.out b3)
          clear b3
          go_wp2_with fail
          refine (feed16 g Hx [] true v3 (HS1.out _ G3.out) (by simp)).mono ?_
          rintro e v4 ⟨rfl, H4, m4, s4⟩
          have G4 := Lib.hid (And.intro ((Mv.of_below G3.out Hx).trans m4) s4)
          clear m4 s4
          go_wp2_with fail
          refine (fNext_none g H4 [] true v4 G4.out.2 (by simp) (.inl rfl)).mono ?_
          rintro e v5 ⟨A5, c5, e5, rfl, H5, mm5, s5⟩
          have G5 := Lib.hid (And.intro (G4.out.1.trans mm5) s5)
          clear mm5 s5
          go_upto_region 27 with (fail)
          have hk5 := Blk.new v5 44 #[.slice A5 0 c5, .int .i64 e5]
          have G6 : Hid (Below w.heap.size w (v5.alloc (.cells #[.slice A5 0 c5, .int .i64 e5] 44))) := Lib.hid (HB0.out.trans ((G5.out.1.below HB0.out.size HHx.out).1.alloc (Nat.le_trans HB0.out.size G5.out.1.1.size) _))
          have S6 := Lib.hid (stm_below G5.out.2 ((Below.refl v5.heap.size v5).alloc (Nat.le_refl _) (.cells #[.slice A5 0 c5, .int .i64 e5] 44)))
          obtain ⟨W6, hW6⟩ : ∃ W, v5.alloc (.cells #[.slice A5 0 c5, .int .i64 e5] 44) = W := ⟨_, rfl⟩
          rw [hW6] at hk5 G6 S6 ⊢
          have k0 := hk5.cell 0
          clear hk5 hW6
          go_wp2_with fail
          clear k0
          refine (fLeft_any g 0 H5 [] true W6 S6.out (by simp) rfl (.inl rfl)).mono ?_
          rintro e v7 ⟨rfl, b7⟩
          have G7 := Lib.hid (below_next G6.out b7)
          clear b7
          go_wp2_with fail
          refine (works7_any _).mono ?_
          rintro e v8 ⟨rfl, b8⟩
          have G8 := Lib.hid (below_next G7.out b8)
          clear b8
          go_wp2_with fail
          go_ret
          exact ⟨rfl, G8.out⟩
end Go.Proofs.Ytnokbnobnhkmgaa
