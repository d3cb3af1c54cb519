/- Layer 14, the reference: the windows of a time. -/
import Derived.Test.YtaplmioohihmbaaWnG
import Derived.Deep.RegionHeld3
namespace Go.Proofs.Ytaplmioohihmbaa
open Go.ChangeShapes Go.WideShapes Go.ChangeAt Go.RowKit

theorem Try.info32 : (Try.prog.info? 32).map (fun i => (i.zero, i.size, i.bytes)) = some (some (.agg #[.int .i64 0, .int .i64 0]), 2, 16) := by kernel_rfl
set_option maxRecDepth 100000 in
set_option maxHeartbeats 2000000 in
theorem refOf_none (k s l g t : Int) (w : World) (h : (Wn.right ⟨k, s, l, g⟩ && Wn.isT t) = false) : Calls Try.prog 9 #[.agg #[.int .u8 k, .int .i64 s, .int .i64 l, .int .i64 g], .int .i64 t] w (SpP w 32 []) := by
  obtain ⟨w0, bx, hw0, hbx, hbe, hlt, hc⟩ := win_box w 26 k s l g
  obtain ⟨c0, c1, c2, c3⟩ := hc w0 (Below.refl _ _)
  have hr := fun X => refRight_any k s l g X
  have HB := Lib.hid (And.intro hbe hc)
  clear hbe hc
  generalize Wn.right ⟨k, s, l, g⟩ = q at h hr
  cases q
  · clear h
    go_enter Try.func9, Try.ntmps9
    go_wp2_with (go_at_call 14; (with_reducible refine (hr _).mono ?_); rintro e w1 ⟨rfl, b1⟩)
    go_ret
    exact ⟨none, 0, rfl, own_nil _ _ _ _, HB.out.1.trans (b1.mono HB.out.1.size)⟩
  · rw [Bool.true_and] at h
    by_cases h1 : t < -1099511627776
    · clear h
      go_enter Try.func9, Try.ntmps9
      go_wp2_with (go_at_call 14; (with_reducible refine (hr _).mono ?_); rintro e w1 ⟨rfl, b1⟩)
      go_ret
      exact ⟨none, 0, rfl, own_nil _ _ _ _, HB.out.1.trans (b1.mono HB.out.1.size)⟩
    · have h2 : t > 1099511627776 := by
        have : ¬ Wn.isT t = true := by rw [h]; simp
        rw [Wn.isT_iff] at this
        omega
      clear h
      go_enter Try.func9, Try.ntmps9
      go_wp2_with (go_at_call 14; (with_reducible refine (hr _).mono ?_); rintro e w1 ⟨rfl, b1⟩)
      go_ret
      exact ⟨none, 0, rfl, own_nil _ _ _ _, HB.out.1.trans (b1.mono HB.out.1.size)⟩
set_option maxRecDepth 100000 in
set_option maxHeartbeats 2000000 in
theorem refOf_gap (s l g t : Int) (w : World) (h : Wn.right ⟨3, s, l, g⟩ = true) (hT : Wn.isT t = true) : Calls Try.prog 9 #[.agg #[.int .u8 3, .int .i64 s, .int .i64 l, .int .i64 g], .int .i64 t] w (SpP w 32 [(t, t + g)]) := by
  obtain ⟨w0, bx, hw0, hbx, hbe, hlt, hc⟩ := win_box w 26 3 s l g
  obtain ⟨c0, c1, c2, c3⟩ := hc w0 (Below.refl _ _)
  have hr := fun X => refRight_any 3 s l g X
  have hg := Wn.right_gap h rfl
  have hti := (Wn.isT_iff t).1 hT
  simp only at hg
  obtain ⟨g1, g2, -, -⟩ := hg
  rw [h] at hr
  have HB := Lib.hid (And.intro hbe hc)
  clear hbe hc h hT
  go_enter Try.func9, Try.ntmps9
  go_wp2_with (go_at_call 14; (with_reducible refine (hr _).mono ?_); rintro e w1 ⟨rfl, b1⟩; have B1 := Lib.hid b1; obtain ⟨d0, d1, d2, d3⟩ := HB.out.2 w1 b1; clear b1)
  go_ret
  have hB := HB.out.1.trans (B1.out.mono HB.out.1.size)
  exact ⟨_, 1, rfl, own_lower (own_pair _ _ (t, t + g)) hB.size, hB.alloc hB.size _⟩
/-- The e-th candidate begins e slides behind the first one that might be. -/
structure Ca (n : Nat) (st s P : Int) (e : Nat) : Prop where
  p_eq : (e : Int) * st = P
  p_lo : 0 ≤ P
  more : e ≤ n + 1 → P ≤ s + st
  over : e = n + 2 → P = s + st + st
  few : e < 2 → P ≤ st
  two : 2 ≤ e → st + st ≤ P
theorem ca_any {W : Wd} {n : Nat} {st : Int} (hs : Wn.Std W n st) (e : Nat) : ∃ P, Ca n st W.s P e := by
  have h1 := hs.st_lo
  have hse := hs.s_eq
  refine ⟨(e : Int) * st, rfl, Int.mul_nonneg (by omega) (by omega), fun h => ?_, fun h => ?_, fun h => ?_, fun h => ?_⟩
  · have : (e : Int) * st ≤ ((n + 1 : Nat) : Int) * st := Int.mul_le_mul_of_nonneg_right (by omega) (by omega)
    rw [Int.natCast_add, Int.add_mul] at this
    omega
  · subst h
    rw [Int.natCast_add, Int.add_mul]
    omega
  · have : (e : Int) * st ≤ ((1 : Nat) : Int) * st := Int.mul_le_mul_of_nonneg_right (by omega) (by omega)
    omega
  · have : ((2 : Nat) : Int) * st ≤ (e : Int) * st := Int.mul_le_mul_of_nonneg_right (by omega) (by omega)
    omega
/-- Where the reference begins to look. -/
theorem ref_first {W : Wd} {n : Nat} {st : Int} (hs : Wn.Std W n st) (t : Int) : ∃ d : Nat, d < 2 ∧ ∀ P, Ca n st W.s P d → (t.tdiv st - n - 1) * st = st * (t / st) - W.s - st + P := by
  have h1 := hs.st_lo
  have hf := floor_div t st (by omega)
  have hx : (t.tdiv st - n - 1) * st = t.tdiv st * st - W.s - st := by rw [Int.sub_mul, Int.sub_mul, hs.s_eq, Int.one_mul]
  by_cases hm : t.tmod st < 0
  · rw [if_pos hm] at hf
    refine ⟨1, by omega, fun P hP => ?_⟩
    have := hP.p_eq
    rw [hx, hf, Int.mul_sub, Int.mul_comm st]
    omega
  · rw [if_neg hm] at hf
    refine ⟨0, by omega, fun P hP => ?_⟩
    have := hP.p_eq
    rw [hx, hf, Int.mul_comm st]
    omega
set_option maxRecDepth 100000 in
set_option maxHeartbeats 4000000 in
theorem refOf_std (k s l g t : Int) (n : Nat) (st : Int) (w : World) (h3 : k ≠ 3) (h : Wn.right ⟨k, s, l, g⟩ = true) (hT : Wn.isT t = true) (hs : Wn.Std ⟨k, s, l, g⟩ n st) : Calls Try.prog 9 #[.agg #[.int .u8 k, .int .i64 s, .int .i64 l, .int .i64 g], .int .i64 t] w (SpP w 32 (Wn.wins ⟨k, s, l, g⟩ t n)) := by
  obtain ⟨w0, bx, hw0, hbx, hbe, hlt, hc⟩ := win_box w 26 k s l g
  obtain ⟨c0, c1, c2, c3⟩ := hc w0 (Below.refl _ _)
  obtain ⟨i0, hi, hz0, hz1, hz2⟩ := info_parts Try.info32
  have hr := fun X => refRight_any k s l g X
  have hti := (Wn.isT_iff t).1 hT
  have hst := fun X => refStep_any k s l g X
  obtain ⟨e1, e2, e3⟩ := Wn.first_eq hs t
  rw [h] at hr
  rw [hs.st_eq] at hst
  have n1 := hs.st_lo
  have n2 := hs.st_hi
  have n3 := hs.s_hi
  have n5 := hs.n_hi
  have n6 := hs.n_lo
  obtain ⟨d, hd, hfP⟩ := ref_first hs t
  obtain ⟨P0, hP0⟩ := ca_any hs d
  have hf0 := hfP P0 hP0
  obtain ⟨L, hL⟩ : ∃ L, st * (t / st) = L := ⟨_, rfl⟩
  rw [hL] at e1 e2 e3 hf0
  have n4 : st ≤ s := by
    obtain ⟨p, hp⟩ := at_any (t := t) hs 0 L
    have h1 : p + st ≤ s := hp.more (by have := hs.n_lo; omega)
    have := hp.p_lo
    omega
  have hse := hs.s_eq
  simp only at hse n3 hf0
  have hF : Wn.first ⟨k, s, l, g⟩ t = L - s + st := by rw [e1, hse]
  have hq : -1099511627776 ≤ t.tdiv st ∧ t.tdiv st ≤ 1099511627776 := by
    have h1 : (t.tdiv st).natAbs ≤ t.natAbs := tdiv_le_abs t st
    omega
  have hsn : s.tdiv st = (n : Int) := by rw [hse, Int.mul_tdiv_cancel _ (by omega)]
  obtain ⟨q, hqe⟩ : ∃ q, t.tdiv st = q := ⟨_, rfl⟩
  rw [hqe] at hq hf0
  have st0 : ¬ st = 0 := by omega
  have wr1 : IntKind.i64.wrap (t.tdiv st) = q := by rw [hqe, IntKind.wrap_i64]; omega
  have wr2 : IntKind.i64.wrap (s.tdiv st) = n := by rw [hsn, IntKind.wrap_i64]; omega
  have wr3 : IntKind.i64.wrap (q - n) = q - n := by rw [IntKind.wrap_i64]; omega
  have wr4 : IntKind.i64.wrap (q - n - 1) = q - n - 1 := by rw [IntKind.wrap_i64]; omega
  have hP0b := hP0.p_lo
  have hP0c := hP0.few hd
  have wr5 : IntKind.i64.wrap ((q - n - 1) * st) = L - s - st + P0 := by rw [hf0, IntKind.wrap_i64]; omega
  have HI := Lib.hid (And.intro hi (And.intro hz0 (And.intro hz1 hz2)))
  have HB := Lib.hid (And.intro hbe (And.intro hc (And.intro hs (And.intro hF hlt))))
  have HP0 := Lib.hid (And.intro hP0 hd)
  have hk3 : (k == 3) = false := beq_eq_false_iff_ne.mpr h3
  clear hbe hc h hT hi hz0 hz1 hz2 h3 hL hs hF hse e1 hlt hqe hsn hf0 hfP hP0 hd
  go_enter Try.func9, Try.ntmps9
  go_wp2_with (first
    | (go_at_call 14; (with_reducible refine (hr _).mono ?_); rintro e w1 ⟨rfl, b1⟩; have B1 := Lib.hid b1; obtain ⟨d0, d1, d2, d3⟩ := HB.out.2.1 w1 b1; clear b1))
  have D : Hid (Below w0.heap.size w0 w1.drew) := Lib.hid B1.out.drew
  clear c0 c1 c2 c3 d0 d1 d2 d3
  go_region_held3 (fun X => X.cell? ⟨bx, 0, none⟩ = some (.int .u8 k) ∧ X.cell? ⟨bx, 1, none⟩ = some (.int .i64 s) ∧ X.cell? ⟨bx, 2, none⟩ = some (.int .i64 l) ∧ X.cell? ⟨bx, 3, none⟩ = some (.int .i64 g)) (exact HB.out.2.1 _ D.out)
    ((go_at_call 26; (with_reducible refine (hst _).mono ?_); rintro e X ⟨rfl, b⟩; replace D : Hid (Below w0.heap.size w0 X) := Lib.hid (below_next D.out b); clear b))
  rename_i X0
  go_wp2_with fail
  go_loopw [5, 7] (fun r i wr => ∃ (e : Nat) (P : Int), e ≤ n + 2 ∧ Ca n st s P e ∧ i = .int .i64 (L - s - st + P) ∧ wr.ownsRow w0.heap.size 32 2 r (e - 2) (spL (Wn.wins ⟨k, s, l, g⟩ t (e - 2))) ∧ Below w0.heap.size w0 wr) (fun _ i _ => (L + st - intOf i).toNat)
  case atStart => exact ⟨d, P0, by have := HP0.out.2; omega, HP0.out.1, rfl, by rw [show d - 2 = 0 by have := HP0.out.2; omega]; exact own_nil _ _ _ _, D.out⟩
  case round =>
    obtain ⟨e, P, he, hP, rfl, hown, hbel⟩ := hrel
    obtain ⟨a, ha⟩ : ∃ a, L - s - st + P = a := ⟨_, rfl⟩
    rw [ha]
    have hpl := hP.p_lo
    clear wr1 wr2 wr3 wr4 wr5
    by_cases hlt : e ≤ n + 1
    · have hm := hP.more hlt
      have i1 : a ≤ t := by omega
      have i2 : -4398046511104 ≤ a := by omega
      have i3 : a ≤ 4398046511104 := by omega
      obtain ⟨P', hP'⟩ := ca_any HB.out.2.2.1 (e + 1)
      have hpp : P' = P + st := by
        rw [← hP'.p_eq, ← hP.p_eq, Int.natCast_add, Int.add_mul]
        omega
      obtain ⟨g0, g1, g2, g3⟩ := HB.out.2.1 wr hbel
      have hh := fun X => refHas_any a (a + s) t X
      by_cases h2 : 2 ≤ e
      · have hm2 := hP.two h2
        have hhas : Wn.has (a, a + s) t = true := by
          unfold Wn.has
          rw [Bool.and_eq_true]
          exact ⟨decide_eq_true i1, decide_eq_true (by show t < a + s; omega)⟩
        have hat : Wn.first ⟨k, s, l, g⟩ t + ((e - 2 : Nat) : Int) * Wn.step ⟨k, s, l, g⟩ = a := by
          have h9 := hP.p_eq
          rw [HB.out.2.2.2.1, HB.out.2.2.1.st_eq, ← ha, ← h9]
          have : ((e - 2 : Nat) : Int) * st = (e : Int) * st - 2 * st := by rw [Int.natCast_sub h2, Int.sub_mul]; rfl
          rw [this]
          omega
        have hwn := Wn.wins_succ ⟨k, s, l, g⟩ t (e - 2)
        rw [hat] at hwn
        rw [hhas] at hh
        have HK := Lib.hid (And.intro hown (And.intro hbel (And.intro hwn (And.intro hP' hpp))))
        clear hown hbel hwn hat hP hP' hm hm2 hhas
        go_wp2_with fail
        refine (hh _).mono ?_
        rintro e' w5 ⟨rfl, hb1⟩
        have H1 := Lib.hid (And.intro (own_below HK.out.1 hb1) (HK.out.2.1.trans (hb1.mono HK.out.2.1.size)))
        obtain ⟨e0, e1, e2', e3'⟩ := HB.out.2.1 w5 H1.out.2
        clear hb1
        go_wp2_with (at_builtin; refine wpList_append_own _ rfl _ _ 28 rfl w0.heap.size 32 i0 _ 2 16 Try.underlying28 HI.out.1 HI.out.2.1 HI.out.2.2.1 HI.out.2.2.2 rfl (by decide) _ (e - 2) _ rfl (H1.out.1.alloc _) ⟨w5.heap.size, 0, none⟩ 1 1 [.int .i64 a, .int .i64 (a + s)] rfl rfl (cell_two' _ _ _ _ _ rfl) (by simp [Value.oneCell']) (by unfold maxLen; omega) (by omega) (by have := H1.out.2.size; simp; omega) ?_)
        intro v' w6 hown2 hgr2 _
        have hbel2 : Below w0.heap.size w0 w6 := (H1.out.2.alloc H1.out.2.size _).trans ⟨hgr2.os, hgr2.tape, hgr2.output, hgr2.size, fun q hq => hgr2.block q (by have := H1.out.2.size; simp; omega) (fun e => by have := (H1.out.1.lt q e.symm).1; omega)⟩
        obtain ⟨k0, k1, k2, k3⟩ := HB.out.2.1 w6 hbel2
        have HO := Lib.hid (And.intro hown2 hbel2)
        clear hown2 hgr2 hbel2
        go_wp2_with (go_at_call 26; (with_reducible refine (hst _).mono ?_); rintro e' w7 ⟨rfl, b7⟩)
        refine ⟨⟨e + 1, P', by omega, HK.out.2.2.2.1, int_eq (by have := HK.out.2.2.2.2; omega), ?_, HO.out.2.trans (b7.mono HO.out.2.size)⟩, by simp [intOf]; omega⟩
        rw [show e + 1 - 2 = e - 2 + 1 by omega, HK.out.2.2.1, spL_append]
        exact own_below HO.out.1 b7
      · have hm2 := hP.few (by omega)
        have hhas : Wn.has (a, a + s) t = false := by
          unfold Wn.has
          rw [Bool.and_eq_false_iff]
          exact .inr (decide_eq_false (by show ¬ t < a + s; omega))
        rw [hhas] at hh
        have HK := Lib.hid (And.intro hown (And.intro hbel (And.intro hP' hpp)))
        clear hown hbel hP hP' hm hm2 hhas
        go_wp2_with fail
        refine (hh _).mono ?_
        rintro e' w5 ⟨rfl, hb1⟩
        have H1 := Lib.hid (And.intro (own_below HK.out.1 hb1) (HK.out.2.1.trans (hb1.mono HK.out.2.1.size)))
        obtain ⟨e0, e1, e2', e3'⟩ := HB.out.2.1 w5 H1.out.2
        clear hb1
        go_wp2_with (go_at_call 26; (with_reducible refine (hst _).mono ?_); rintro e' w7 ⟨rfl, b7⟩)
        refine ⟨⟨e + 1, P', by omega, HK.out.2.2.1, int_eq (by have := HK.out.2.2.2; omega), ?_, H1.out.2.trans (b7.mono H1.out.2.size)⟩, by simp [intOf]; omega⟩
        rw [show e + 1 - 2 = e - 2 by omega]
        exact own_below H1.out.1 b7
    · obtain rfl : e = n + 2 := by omega
      have hm := hP.over rfl
      have i1 : ¬ a ≤ t := by omega
      obtain ⟨A', c', rfl⟩ := own_slice hown
      have HK := Lib.hid (And.intro hown hbel)
      clear hown hbel
      go_wp2_with fail
      go_ret
      have hlen := Wn.wins_len ⟨k, s, l, g⟩ t n
      refine ⟨A', c', by rw [hlen]; rfl, ?_, HB.out.1.trans (HK.out.2.mono HB.out.1.size)⟩
      rw [hlen]
      exact own_lower HK.out.1 HB.out.1.size
theorem refOf_any (k s l g t : Int) (w : World) : Calls Try.prog 9 #[.agg #[.int .u8 k, .int .i64 s, .int .i64 l, .int .i64 g], .int .i64 t] w (SpP w 32 (Wn.ofL ⟨k, s, l, g⟩ t)) := by
  cases h : (Wn.right ⟨k, s, l, g⟩ && Wn.isT t)
  · rw [Wn.ofL_none h]
    exact refOf_none k s l g t w h
  · rw [Bool.and_eq_true] at h
    by_cases h3 : k = 3
    · subst h3
      rw [Wn.ofL_gap h.1 h.2 rfl]
      exact refOf_gap s l g t w h.1 h.2
    · obtain ⟨n, st, hs⟩ := Wn.right_std h.1 h3
      rw [Wn.ofL_std h.1 h.2 h3 hs]
      exact refOf_std k s l g t n st w h3 h.1 h.2 hs
end Go.Proofs.Ytaplmioohihmbaa
