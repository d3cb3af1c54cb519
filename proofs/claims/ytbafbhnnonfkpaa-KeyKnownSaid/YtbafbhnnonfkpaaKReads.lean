/- KeyReads, walked. -/
import Derived.Test.YtbafbhnnonfkpaaLawB
namespace Go.Proofs.Ytbafbhnnonfkpaa
open Go.ChangeShapes Go.WideShapes Go.ChangeAt Go.RowKit

/-- What a reading tells, in one form. -/
theorem parseP_val {s : ByteArray} {ks : List Nat} {w : World} {e : Ending} {w' : World} (h : ParseP w (Ky.parse (nums s) ks) e w') : ∃ (lp : List PT) (A : Option Addr) (c : Nat), tos lp = (Ky.parse (nums s) ks).getD [] ∧ lp.length ≤ ks.length ∧ e = .returned (.tuple #[.slice A lp.length c, .bool (Ky.parse (nums s) ks).isSome]) ∧ Parts w' w'.heap.size A lp.length lp ∧ Below w.heap.size w w' := by
  unfold ParseP at h
  rcases ho : Ky.parse (nums s) ks with _ | l
  · rw [ho] at h
    exact ⟨[], none, 0, rfl, by simp, h.1, Parts.nil, h.2⟩
  · rw [ho] at h
    obtain ⟨lp, A, c, h1, h2, h3, _, h5⟩ := h
    refine ⟨lp, A, c, h2, ?_, h1, h3, h5⟩
    have hk := ((Ky.parse_iff (nums s) ks (nums_byte s) l).1 ho).1
    have := congrArg List.length hk
    rw [← h2] at this
    simp [Ky.kinds, tos] at this
    omega
theorem parseK_val {s : ByteArray} {ks : List Nat} {w : World} {e : Ending} {w' : World} (h : ParseK w (Ky.parse (nums s) ks) e w') : ∃ (lp : List PT) (A : Option Addr) (c : Nat), tos lp = (Ky.parse (nums s) ks).getD [] ∧ lp.length ≤ ks.length ∧ e = .returned (.tuple #[.slice A lp.length c, .bool (Ky.parse (nums s) ks).isSome]) ∧ Parts w' w'.heap.size A lp.length lp ∧ w'.ownsRow w.heap.size 39 3 (.slice A lp.length c) lp.length (pcells lp) ∧ Below w.heap.size w w' := by
  unfold ParseK at h
  rcases ho : Ky.parse (nums s) ks with _ | l
  · rw [ho] at h
    exact ⟨[], none, 0, rfl, by simp, h.1, Parts.nil, own_nil _ _ _ _, h.2⟩
  · rw [ho] at h
    obtain ⟨lp, A, c, h1, h2, h3, h4, h5⟩ := h
    refine ⟨lp, A, c, h2, ?_, h1, h3, h4, h5⟩
    have hk := ((Ky.parse_iff (nums s) ks (nums_byte s) l).1 ho).1
    have := congrArg List.length hk
    rw [← h2] at this
    simp [Ky.kinds, tos] at this
    omega
set_option maxRecDepth 100000 in
set_option maxHeartbeats 2000000 in
theorem keyReads_any (s : ByteArray) (n c B : Nat) (A : Option Addr) (ks : List Nat) (w : World) (h : Bytes w B A n ks) (hB : B ≤ w.heap.size) :
    Calls Try.prog 4 #[.string s, .slice A n c] w (TrueP w) := by
  have HP := Lib.hid h
  clear h
  by_cases hsz : s.size ≤ 400 ∧ n ≤ 8
  · obtain ⟨hss, hn8⟩ := hsz
    have hs6 : s.size ≤ 1000000 := by omega
    have hn1 : n ≤ 1000 := by omega
    have j1 : ¬ (400 : Int) < s.size := by omega
    have j2 : ¬ (8 : Int) < n := by omega
    go_enter Try.func4, Try.ntmps4
    go_wp2_with fail
    refine (refParse_any s n c B A ks w HP.out hB hs6 hn1).mono ?_
    intro e w1 h
    obtain ⟨lp, A1, c1, ht1, hl1, rfl, hp1, b1⟩ := parseP_val h
    have H1 := Lib.hid (And.intro b1 hp1)
    have hlp : lp.length ≤ 1000 := by have := HP.out.1; omega
    have HT := Lib.hid ht1
    clear h b1 hp1 ht1 hl1
    obtain ⟨is, his⟩ : ∃ is, (Ky.parse (nums s) ks).isSome = is := ⟨_, rfl⟩
    rw [his]
    have HIS := Lib.hid his
    clear his
    go_wp2_with fail
    go_loopw [7] (fun t wr => ∃ k : Nat, k ≤ 2 ∧ t = .int .i64 (k : Int) ∧ Below w1.heap.size w1 wr) (fun t _ => 2 - (intOf t).toNat)
    case atStart => exact ⟨0, by omega, rfl, Below.refl _ _⟩
    case round =>
      obtain ⟨k, hk, rfl, hbel⟩ := hrel
      have HB := Lib.hid hbel
      clear hbel
      by_cases hlt : k < 2
      · have i1 : (k : Int) < 2 := by omega
        go_wp2_with fail
        refine (parse_any s n c B A ks wr ((HP.out.below H1.out.1 hB).below HB.out (by have := H1.out.1.size; omega)) (by have := H1.out.1.size; have := HB.out.size; omega) hs6 hn1).mono ?_
        intro e w2 h
        obtain ⟨lq, A2, c2, ht2, _, rfl, hp2, ho2, b2⟩ := parseK_val h
        obtain rfl : lq = lp := tos_inj (ht2.trans HT.out.symm)
        rw [HIS.out]
        have H2 := Lib.hid (And.intro hp2 (And.intro ho2 b2))
        have HB2 := Lib.hid (below_next HB.out b2)
        clear h hp2 ho2 b2 ht2
        have hbb : (is != is) = false := by cases is <;> rfl
        go_wp2_with fail
        refine (same_true lq.length c2 c1 w2.heap.size A2 A1 lq w2 H2.out.1 ((H1.out.2.below HB2.out (Nat.le_refl _)).more HB2.out.size) (Nat.le_refl _) hlp).mono ?_
        rintro e w3 ⟨rfl, b3⟩
        have HB3 := Lib.hid (And.intro (below_next HB2.out b3) (own_below H2.out.2.1 b3))
        clear b3
        go_wp2_with fail
        go_loopw [10] (fun i wx => ∃ (j : Nat) (xs : List Value), j ≤ lq.length ∧ i = .int .i64 (j : Int) ∧ wx.ownsRow wr.heap.size 39 3 (.slice A2 lq.length c2) lq.length xs ∧ Below w1.heap.size w1 wx) (fun i _ => lq.length - (intOf i).toNat)
        case atStart => exact ⟨0, _, by omega, rfl, HB3.out.2, HB3.out.1⟩
        case round =>
          obtain ⟨j, xs, hj, rfl, hown, hbel⟩ := hrel
          by_cases hlj : j < lq.length
          · obtain ⟨g, cap, hv, hcap, hg⟩ := hown.form (by omega)
            injection hv with e1 _ e3
            subst e1 e3
            obtain ⟨v0, hc0⟩ := own_at hown (j * 3) (by omega)
            obtain ⟨v1, hc1⟩ := own_at hown (j * 3 + 1) (by omega)
            obtain ⟨v2, hc2⟩ := own_at hown (j * 3 + 2) (by omega)
            have hf0 := own_frozen hown (j * 3)
            have hf1 := own_frozen hown (j * 3 + 1)
            have hf2 := own_frozen hown (j * 3 + 2)
            have ho := own_set_any (own_set_any (own_set_any hown (j * 3) (.int .u8 0)) (j * 3 + 1) (.int .i64 0)) (j * 3 + 2) (.string ⟨#[]⟩)
            have hgb : w1.heap.size ≤ g := by have := (hown.lt g rfl).1; have := HB.out.size; omega
            have hb := ((hbel.setCell (p := ⟨g, j * 3, none⟩) hgb (.int .u8 0)).setCell (p := ⟨g, j * 3 + 1, none⟩) hgb (.int .i64 0)).setCell (p := ⟨g, j * 3 + 2, none⟩) hgb (.string ⟨#[]⟩)
            have HO := Lib.hid (And.intro ho hb)
            have i2 : (0 : Int) ≤ j := by omega
            have i3 : (j : Int) < lq.length := by omega
            clear ho hb hown hbel
            go_wp2_with fail
            exact ⟨⟨j + 1, _, by omega, by go_num, HO.out.1, HO.out.2⟩, by simp [intOf]; omega⟩
          · obtain rfl : j = lq.length := by omega
            have HE := Lib.hid hbel
            clear hown hbel
            go_wp2_with fail
            exact ⟨⟨k + 1, by omega, by go_num, HE.out⟩, by simp [intOf]; omega⟩
      · obtain rfl : k = 2 := by omega
        go_wp2_with fail
        refine (after_any s wr hs6).mono ?_
        rintro e w4 ⟨T1, rfl, hT1, b4⟩
        have H4 := Lib.hid (below_next HB.out b4)
        clear b4
        go_wp2_with fail
        refine (refAfter_any s w4 hs6).mono ?_
        rintro e w5 ⟨T2, rfl, hT2, b5⟩
        obtain rfl : T2 = T1 := nums_inj (hT2.trans hT1.symm)
        have H5 := Lib.hid (below_next H4.out b5)
        clear b5 hT2 hT1 H4
        generalize (Ky.after (nums s)).isSome = ok1
        go_wp2_with fail
        refine (works_any w5).mono ?_
        rintro e w6 ⟨rfl, b6⟩
        have H6 := Lib.hid (below_next H5.out b6)
        clear b6
        go_wp2_with fail
        go_ret
        exact ⟨rfl, H1.out.1.trans (H6.out.mono H1.out.1.size)⟩
  · go_enter Try.func4, Try.ntmps4
    by_cases hss : s.size ≤ 400
    · have j1 : ¬ (400 : Int) < s.size := by omega
      have j2 : (8 : Int) < n := by omega
      go_wp2_with fail
      refine (works_any _).mono ?_
      rintro e w1 ⟨rfl, b1⟩
      go_wp2_with fail
      go_ret
      exact ⟨rfl, b1⟩
    · have j1 : (400 : Int) < s.size := by omega
      go_wp2_with fail
      refine (works_any _).mono ?_
      rintro e w1 ⟨rfl, b1⟩
      go_wp2_with fail
      go_ret
      exact ⟨rfl, b1⟩
end Go.Proofs.Ytbafbhnnonfkpaa
