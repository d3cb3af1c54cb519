/- Layer 14, the program: the windows of a time, tumbling and sliding ones. -/
import Derived.Test.YtaplmioohihmbaaWnE
namespace Go.Proofs.Ytaplmioohihmbaa
open Go.ChangeShapes Go.WideShapes Go.ChangeAt Go.RowKit

theorem down_fit (t st : Int) (w : World) (ht : -1099511627776 ≤ t ∧ t ≤ 1099511627776) (h1 : 1 ≤ st) (h2 : st ≤ 1048576) : Calls Try.prog 30 #[.int .i64 t, .int .i64 st] w (TwoE (st * (t / st)) 0 w) := by
  have hd := down_any t st w (by omega) (by omega)
  have a := Int.mul_ediv_add_emod t st
  have b := Int.emod_nonneg t (by omega : st ≠ 0)
  have c := Int.emod_lt_of_pos t (by omega : 0 < st)
  have hf := fit_yes (n := st * (t / st)) (by omega)
  unfold dnN dnE at hd
  rw [if_pos (by omega), if_pos (by omega), hf.1, hf.2, if_pos rfl] at hd
  exact hd
/-- Where the j-th window begins, and what is to be known of the numbers. -/
structure At (W : Wd) (t : Int) (n : Nat) (st L p : Int) (j : Nat) : Prop where
  p_eq : (j : Int) * Wn.step W = p
  p_lo : 0 ≤ p
  more : j < n → p + st ≤ W.s
  over : j = n → p = W.s
theorem at_any {W : Wd} {t : Int} {n : Nat} {st : Int} (hs : Wn.Std W n st) (j : Nat) (L : Int) : ∃ p, At W t n st L p j := by
  refine ⟨(j : Int) * Wn.step W, rfl, ?_, fun h => ?_, fun h => ?_⟩
  · rw [hs.st_eq]
    exact Int.mul_nonneg (by omega) (by have := hs.st_lo; omega)
  · rw [hs.st_eq, hs.s_eq]
    have : ((j + 1 : Nat) : Int) * st ≤ n * st := Int.mul_le_mul_of_nonneg_right (by omega) (by have := hs.st_lo; omega)
    rw [Int.natCast_add, Int.add_mul] at this
    omega
  · rw [hs.st_eq, hs.s_eq, h]
theorem at_next {W : Wd} {t : Int} {n : Nat} {st L p : Int} {j : Nat} (hs : Wn.Std W n st) (h : At W t n st L p j) : ((j + 1 : Nat) : Int) * Wn.step W = p + st := by
  rw [Int.natCast_add, Int.add_mul, h.p_eq, hs.st_eq]
  omega
set_option maxRecDepth 100000 in
set_option maxHeartbeats 4000000 in
theorem of_std (k s l g t : Int) (n : Nat) (st : Int) (w : World) (h3 : k ≠ 3) (h : Wn.right ⟨k, s, l, g⟩ = true) (hT : Wn.isT t = true) (hs : Wn.Std ⟨k, s, l, g⟩ n st) : Calls Try.prog 10 #[.agg #[.int .u8 k, .int .i64 s, .int .i64 l, .int .i64 g], .int .i64 t] w (SpP w 25 (Wn.wins ⟨k, s, l, g⟩ t n)) := by
  obtain ⟨w0, bx, hw0, hbx, hbe, hlt, hc⟩ := win_box w 23 k s l g
  obtain ⟨c0, c1, c2, c3⟩ := hc w0 (Below.refl _ _)
  obtain ⟨i0, hi, hz0, hz1, hz2⟩ := info_parts Try.info25
  have hr := fun X => right_any k s l g X
  have ht := fun X => isTime_any t X
  have hti := (Wn.isT_iff t).1 hT
  have hst := fun X => step_any k s l g X
  obtain ⟨e1, e2, e3⟩ := Wn.first_eq hs t
  rw [h] at hr
  rw [hT] at ht
  rw [hs.st_eq] at hst
  have hdn := fun X => down_fit t st X hti hs.st_lo hs.st_hi
  obtain ⟨L, hL⟩ : ∃ L, st * (t / st) = L := ⟨_, rfl⟩
  rw [hL] at e1 e2 e3 hdn
  have n1 := hs.st_lo
  have n2 := hs.st_hi
  have n3 := hs.s_hi
  have n5 := hs.n_hi
  have n4 : st ≤ s := by
    obtain ⟨p, hp⟩ := at_any (t := t) hs 0 L
    have h1 : p + st ≤ s := hp.more (by have := hs.n_lo; omega)
    have := hp.p_lo
    omega
  have hse := hs.s_eq
  simp only at hse n3
  have hF : Wn.first ⟨k, s, l, g⟩ t = L - s + st := by rw [e1, hse]
  have HI := Lib.hid (And.intro hi (And.intro hz0 (And.intro hz1 hz2)))
  have HB := Lib.hid (And.intro hbe (And.intro hc (And.intro hs (And.intro hF hlt))))
  have hk3 : (k == 3) = false := beq_eq_false_iff_ne.mpr h3
  have hfr : Hid (∀ (a : Int) (X : World), -9223372036854775808 ≤ a + s ∧ a + s ≤ 9223372036854775807 → Calls Try.prog 28 #[.int .i64 a, .int .i64 s] X (ValP X (.agg #[.int .i64 a, .int .i64 (a + s)]))) := Lib.hid fun a X hX => from_any a s X hX
  clear hbe hc h hT hi hz0 hz1 hz2 h3 hL hs hF hse e1 hlt
  go_enter Try.func10, Try.ntmps10
  go_wp2_with (first
    | (go_at_call 13; (with_reducible refine (hr _).mono ?_); rintro e w1 ⟨rfl, b1⟩; have B1 := Lib.hid b1; obtain ⟨d0, d1, d2, d3⟩ := HB.out.2.1 w1 b1; clear b1)
    | (go_at_call 27; (with_reducible refine (ht _).mono ?_); rintro e w2 ⟨rfl, rfl⟩)
    | (go_at_call 29; (with_reducible refine (hst _).mono ?_); rintro e w3 ⟨rfl, b3⟩; have B3 := Lib.hid (below_next B1.out b3); obtain ⟨f0, f1, f2, f3⟩ := HB.out.2.1 w3 B3.out; clear b3)
    | (go_at_call 30; (with_reducible refine (hdn _).mono ?_); rintro e w4 ⟨rfl, rfl⟩))
  go_loopw [8, 9] (fun r i wr => ∃ (j : Nat) (p : Int), j ≤ n ∧ At ⟨k, s, l, g⟩ t n st L p j ∧ i = .int .i64 (L - s + st + p) ∧ wr.ownsRow w0.heap.size 25 2 r j (spL (Wn.wins ⟨k, s, l, g⟩ t j)) ∧ Below w0.heap.size w0 wr) (fun _ i _ => (L + st - intOf i).toNat)
  case atStart =>
    obtain ⟨p, hp⟩ := at_any (t := t) HB.out.2.2.1 0 L
    have hp0 : p = 0 := by have := hp.p_eq; omega
    exact ⟨0, p, by omega, hp, int_eq (by omega), own_nil _ _ _ _, B3.out⟩
  case round =>
    obtain ⟨j, p, hj, hp, rfl, hown, hbel⟩ := hrel
    obtain ⟨a, ha⟩ : ∃ a, L - s + st + p = a := ⟨_, rfl⟩
    rw [ha]
    have hpl := hp.p_lo
    by_cases hlt : j < n
    · have hm : p + st ≤ s := hp.more hlt
      have i1 : a ≤ L := by omega
      have i2 : -4398046511104 ≤ a := by omega
      have i3 : a ≤ 4398046511104 := by omega
      have hnx := at_next HB.out.2.2.1 hp
      have hwn := Wn.wins_succ ⟨k, s, l, g⟩ t j
      rw [hp.p_eq, HB.out.2.2.2.1, ha] at hwn
      obtain ⟨p', hp'⟩ := at_any (t := t) HB.out.2.2.1 (j + 1) L
      have hpp : p' = p + st := by rw [← hp'.p_eq]; exact hnx
      obtain ⟨g0, g1, g2, g3⟩ := HB.out.2.1 wr hbel
      have HK := Lib.hid (And.intro hown (And.intro hbel (And.intro hwn (And.intro hp' hpp))))
      have hfa := Lib.hid (hfr.out a wr (by omega))
      clear hown hbel hwn hnx hp hp' c0 c1 c2 c3 d0 d1 d2 d3 f0 f1 f2 f3 hm
      go_wp2_with fail
      refine hfa.out.mono ?_
      rintro e w5 ⟨rfl, hb1⟩
      have H1 := Lib.hid (And.intro (own_below HK.out.1 hb1) (HK.out.2.1.trans (hb1.mono HK.out.2.1.size)))
      obtain ⟨e0, e1, e2', e3'⟩ := HB.out.2.1 w5 H1.out.2
      clear hb1
      go_wp2_with (at_builtin; refine wpList_append_own _ rfl _ _ 30 rfl w0.heap.size 25 i0 _ 2 16 Try.underlying30 HI.out.1 HI.out.2.1 HI.out.2.2.1 HI.out.2.2.2 rfl (by decide) _ j _ rfl (H1.out.1.alloc _) ⟨w5.heap.size, 0, none⟩ 1 1 [.int .i64 a, .int .i64 (a + s)] rfl rfl (cell_two' _ _ _ _ _ rfl) (by simp [Value.oneCell']) (by unfold maxLen; omega) (by omega) (by have := H1.out.2.size; simp; omega) ?_)
      intro v' w6 hown2 hgr2 _
      have hbel2 : Below w0.heap.size w0 w6 := (H1.out.2.alloc H1.out.2.size _).trans ⟨hgr2.os, hgr2.tape, hgr2.output, hgr2.size, fun q hq => hgr2.block q (by have := H1.out.2.size; simp; omega) (fun e => by have := (H1.out.1.lt q e.symm).1; omega)⟩
      have HO := Lib.hid (And.intro hown2 hbel2)
      clear hown2 hgr2 hbel2
      go_wp2_with fail
      refine ⟨⟨j + 1, p', by omega, HK.out.2.2.2.1, int_eq (by have := HK.out.2.2.2.2; omega), ?_, HO.out.2⟩, by simp [intOf]; omega⟩
      rw [HK.out.2.2.1, spL_append]
      exact HO.out.1
    · obtain rfl : j = n := by omega
      have hm : p = s := hp.over rfl
      have i1 : ¬ a ≤ L := by omega
      obtain ⟨A', c', rfl⟩ := own_slice hown
      have HK := Lib.hid (And.intro hown hbel)
      clear hown hbel
      go_wp2_with fail
      go_ret
      have hlen := Wn.wins_len ⟨k, s, l, g⟩ t j
      refine ⟨A', c', by rw [hlen]; rfl, ?_, HB.out.1.trans (HK.out.2.mono HB.out.1.size)⟩
      rw [hlen]
      exact own_lower HK.out.1 HB.out.1.size
theorem of_any (k s l g t : Int) (w : World) : Calls Try.prog 10 #[.agg #[.int .u8 k, .int .i64 s, .int .i64 l, .int .i64 g], .int .i64 t] w (SpP w 25 (Wn.ofL ⟨k, s, l, g⟩ t)) := by
  cases h : (Wn.right ⟨k, s, l, g⟩ && Wn.isT t)
  · rw [Wn.ofL_none h]
    exact of_none k s l g t w h
  · rw [Bool.and_eq_true] at h
    by_cases h3 : k = 3
    · subst h3
      rw [Wn.ofL_gap h.1 h.2 rfl]
      exact of_gap s l g t w h.1 h.2
    · obtain ⟨n, st, hs⟩ := Wn.right_std h.1 h3
      rw [Wn.ofL_std h.1 h.2 h3 hs]
      exact of_std k s l g t n st w h3 h.1 h.2 hs
end Go.Proofs.Ytaplmioohihmbaa
