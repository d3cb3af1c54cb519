/- Made by tools/gen/cn.py. -/
/- Layer 15, the reference: Trim. -/
import Derived.Test.YteegnehfagkjcaaCnE
namespace Go.Proofs.Yteegnehfagkjcaa
open Go.ChangeShapes Go.WideShapes Go.ChangeAt Go.RowKit

namespace Cn
theorem garb_first {l : List Ver} (hr : right l = true) {j f : Nat} (hj : j < l.length) (h : garb l j f = true) : garb l 0 f = true := by
  rcases Nat.eq_zero_or_pos j with h0 | h0
  · rw [← h0]
    exact h
  · have hb : 1 < l.length := by omega
    rw [garb_two hr (by omega : 0 + 1 < l.length)]
    have h1 : (ix l (j + 1)).e ≤ f ∨ (ix l j).e ≤ f := by
      by_cases h2 : j + 1 < l.length
      · rw [garb_two hr h2] at h
        rw [Bool.or_eq_true] at h
        rcases h with h | h
        · exact .inl (of_decide_eq_true h)
        · rw [Bool.and_eq_true] at h
          exact .inr (of_decide_eq_true h.2)
      · rw [garb_last h2, Bool.and_eq_true] at h
        exact .inr (of_decide_eq_true h.2)
    have h3 : (ix l (0 + 1)).e ≤ f := by
      rcases h1 with h1 | h1
      · by_cases h2 : j + 1 < l.length
        · have := rising hr (j + 1) (0 + 1) (by omega) h2
          omega
        · exfalso
          rw [garb_last h2, Bool.and_eq_true, Bool.and_eq_true] at h
          have := of_decide_eq_true h.1.1
          omega
      · rcases Nat.lt_or_ge (0 + 1) j with h2 | h2
        · have := rising hr j (0 + 1) h2 hj
          omega
        · obtain rfl : j = 0 + 1 := by omega
          exact h1
    rw [decide_eq_true h3]
    rfl
theorem trimN_step {l : List Ver} {k f : Nat} (hk : k < l.length) (h : garb (l.drop k) 0 f = true) : trimN (l.drop k) f = trimN (l.drop (k + 1)) f + 1 := by
  rw [List.drop_eq_getElem_cons hk] at h ⊢
  rw [trimN, if_pos h]
theorem trimN_stop {l : List Ver} {f : Nat} (h : 0 < l.length → garb l 0 f = false) : trimN l f = 0 := by
  cases l with
  | nil => rfl
  | cons v r =>
    rw [trimN, if_neg (by rw [h (by simp)]; simp)]
theorem trimN_le (l : List Ver) (f : Nat) : trimN l f ≤ l.length := by
  induction l with
  | nil => exact Nat.le_refl _
  | cons v r ih =>
    rw [trimN]
    split
    · simp; omega
    · simp
theorem drop_garb {l : List Ver} (hr : right l = true) {j f : Nat} (hj : j < l.length) : drop l (ix l j).e f = if garb l j f then (l.eraseIdx j, true) else (l, false) := by
  unfold drop
  rw [isAt_found hr hj rfl]
  have e : upto l (ix l j).e = j + 1 := by
    refine upto_is (by omega) (fun i hi => ?_) (fun h1 => ?_)
    · rcases Nat.lt_or_ge i j with h2 | h2
      · have := rising hr j i h2 hj
        omega
      · obtain rfl : i = j := by omega
        omega
    · have := rising hr (j + 1) j (by omega) h1
      omega
  rw [e, Nat.add_sub_cancel]
end Cn
set_option maxRecDepth 100000 in
set_option maxHeartbeats 4000000 in
theorem refTrim_any (w : World) (F : Nat → Prop) (A : Option Addr) (n c : Nat) (l : List Cn.Ver) (f : Nat) (h : Cells w F A n 6 (vrL l)) (hn : n ≤ 100000) (hr : Cn.right l = true) : Calls Try.prog 28 #[.slice A n c, .int .u64 (f : Int)] w (VrsP w F (l.drop (Cn.trimN l f)) (.int .i64 (Cn.trimN l f : Int))) := by
  have hln := vr_len h
  have H := Lib.hid (And.intro h (And.intro hln hr))
  clear h hln hr
  go_enter Try.func28, Try.ntmps28
  go_wp2_with fail
  go_loopw [0, 7, 6] (fun lv i kv wr => ∃ (k j : Nat) (A1 : Option Addr) (m c1 : Nat), lv = .slice A1 m c1 ∧ i = .int .i64 (j : Int) ∧ kv = .int .i64 (k : Int) ∧ k + m = n ∧ j ≤ m ∧ (0 < j → Cn.garb (l.drop k) 0 f = false) ∧ Cn.trimN l f = k + Cn.trimN (l.drop k) f ∧ Cells wr (fun b => F b ∨ w.heap.size ≤ b) A1 m 6 (vrL (l.drop k)) ∧ Below w.heap.size w wr) (fun lv i _ _ => (match lv with | .slice _ m _ => m | _ => 0) * 1000000 + ((match lv with | .slice _ m _ => m | _ => 0) - (intOf i).toNat))
  case atStart => exact ⟨0, 0, A, n, c, rfl, rfl, rfl, by omega, Nat.zero_le _, fun h => absurd h (by omega), by simp, H.out.1.mono (fun b _ hb => .inl hb), Below.refl _ _⟩
  case round =>
    obtain ⟨k, j, A1, m, c1, rfl, rfl, rfl, hkm, hjm, hg0, htr, hcs, hh⟩ := hrel
    have hlk := vr_len hcs
    have hrk := Cn.right_drop H.out.2.2 k
    by_cases hlt : j < m
    · have i2 : (0 : Int) ≤ (j : Int) := by omega
      have i3 : (j : Int) < (m : Int) := by omega
      obtain ⟨L, hL⟩ : ∃ L, l.drop k = L := ⟨_, rfl⟩
      rw [hL] at hcs hlk hrk hg0 htr
      have hd := Cn.drop_garb hrk (f := f) (j := j) (by omega)
      have HDr := Lib.hid (refDrop_any wr (fun b => F b ∨ w.heap.size ≤ b) A1 m c1 L (Cn.ix L j).e f hcs (by omega) hrk)
      have yhy := Cn.ix_some (l := L) (i := j) (by have := hlk; omega)
      obtain ⟨y, yeq⟩ : ∃ y, Cn.ix L j = y := ⟨_, rfl⟩
      rw [yeq] at yhy
      obtain ⟨b, off, rfl, -, yhbl, z0, z1, z2, z3, z4, z5⟩ := vr_cells hcs yhy
      have y0 := ((Below.refl wr.heap.size wr).cell (p := ⟨b, off + j * 6, none⟩) yhbl).trans z0
      have y1 := ((Below.refl wr.heap.size wr).cell (p := ⟨b, off + j * 6 + 1, none⟩) yhbl).trans z1
      have y2 := ((Below.refl wr.heap.size wr).cell (p := ⟨b, off + j * 6 + 2, none⟩) yhbl).trans z2
      have y3 := ((Below.refl wr.heap.size wr).cell (p := ⟨b, off + j * 6 + 3, none⟩) yhbl).trans z3
      have y4 := ((Below.refl wr.heap.size wr).cell (p := ⟨b, off + j * 6 + 4, none⟩) yhbl).trans z4
      have y5 := ((Below.refl wr.heap.size wr).cell (p := ⟨b, off + j * 6 + 5, none⟩) yhbl).trans z5
      clear z0 z1 z2 z3 z4 z5
      rw [yeq] at hd HDr
      clear yhbl
      cases hgj : Cn.garb L j f with
      | true =>
        have hgz := Cn.garb_first hrk (j := j) (by omega) hgj
        obtain rfl : j = 0 := by
          rcases Nat.eq_zero_or_pos j with h0 | h0
          · exact h0
          · rw [hg0 h0] at hgz
            cases hgz
        simp only [Nat.zero_mul, Nat.add_zero] at y0
        rw [hgj, if_pos rfl] at hd
        rw [hd] at HDr
        have hle : L.eraseIdx 0 = l.drop (k + 1) := by
          rw [← hL, List.eraseIdx_zero, List.tail_drop]
        dsimp only at HDr
        rw [hle] at HDr
        have hst := Cn.trimN_step (l := l) (k := k) (f := f) (by have := H.out.2.1; omega) (by rw [hL]; exact hgz)
        have hl2 : (l.drop (k + 1)).length = m - 1 := by rw [List.length_drop, H.out.2.1]; omega
        have HK := Lib.hid (And.intro hh (And.intro htr (And.intro hst (And.intro hl2 hL))))
        clear hh htr hst hl2 hd hle hgz hgj hcs hlk hrk hg0 yhy yeq hL
        go_wp2_with fail
        refine HDr.out.mono ?_
        rintro e w1 ⟨A2, c2, rfl, hc2, b2⟩
        rw [HK.out.2.2.2.1] at hc2
        rw [HK.out.2.2.2.1]
        have HW := Lib.hid (And.intro hc2 b2)
        clear hc2 b2 y0 y1 y2 y3 y4 y5
        go_wp2_with fail
        go_roundw
        case rel =>
          refine ⟨k + 1, 0, A2, m - 1, c2, rfl, rfl, by go_num, by omega, Nat.zero_le _, fun h => absurd h (by omega), ?_, HW.out.1.mono (fun b _ hb => ?_), HK.out.1.trans (HW.out.2.mono HK.out.1.size)⟩
          · rw [HK.out.2.1, ← HK.out.2.2.2.2, HK.out.2.2.1]
            omega
          · rcases hb with hb | hb
            · exact hb
            · exact .inr (Nat.le_trans HK.out.1.size hb)
        case measure => simp [intOf]; omega
      | false =>
        rw [hgj, if_neg (by simp)] at hd
        rw [hd] at HDr
        dsimp only at HDr
        have hg1 : Cn.garb L 0 f = false := by
          rcases Nat.eq_zero_or_pos j with h0 | h0
          · rw [← h0]
            exact hgj
          · exact hg0 h0
        have HK := Lib.hid (And.intro hh (And.intro htr (And.intro hg1 (And.intro hlk (And.intro hL hcs)))))
        clear hh htr hg1 hd hgj hcs hlk hrk hg0 yhy yeq hL
        go_wp2_with fail
        refine HDr.out.mono ?_
        rintro e w1 ⟨A2, c2, rfl, hc2, b2⟩
        rw [HK.out.2.2.2.1] at hc2
        rw [HK.out.2.2.2.1]
        have HW := Lib.hid (And.intro hc2 b2)
        clear hc2 b2 y0 y1 y2 y3 y4 y5
        go_wp2_with fail
        go_roundw
        case rel =>
          refine ⟨k, j + 1, some ⟨b, off, none⟩, m, c1, rfl, by go_num, rfl, hkm, by omega, fun _ => ?_, ?_, ?_, HK.out.1.trans (HW.out.2.mono HK.out.1.size)⟩
          · rw [HK.out.2.2.2.2.1]
            exact HK.out.2.2.1
          · rw [HK.out.2.2.2.2.1]
            exact HK.out.2.1
          · rw [HK.out.2.2.2.2.1]
            exact HK.out.2.2.2.2.2.below HW.out.2
        case measure => simp [intOf]; omega
    · obtain rfl : j = m := by omega
      have hst : Cn.trimN (l.drop k) f = 0 := Cn.trimN_stop fun h0 => hg0 (by omega)
      have hk : Cn.trimN l f = k := by rw [htr, hst, Nat.add_zero]
      have HK := Lib.hid (And.intro hh (And.intro hcs (And.intro hlk hk)))
      clear hh htr hst hk hcs hlk hrk hg0
      go_wp2_with fail
      refine bodyPost_ret (v := .tuple #[.slice A1 j c1, .int .i64 (k : Int)]) ?_ rfl ⟨A1, c1, by rw [HK.out.2.2.2, HK.out.2.2.1], ?_, HK.out.1⟩
      · simp [results, Try.results28, go_sem]
      · rw [HK.out.2.2.2, HK.out.2.2.1]
        exact HK.out.2.1
end Go.Proofs.Yteegnehfagkjcaa
