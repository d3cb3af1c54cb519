/- Made by tools/gen/cn.py. -/
/- Layer 15, the reference: Next, Garbage. -/
import Derived.Test.YteegnehfagkjcaaCnB
namespace Go.Proofs.Yteegnehfagkjcaa
open Go.ChangeShapes Go.WideShapes Go.ChangeAt Go.RowKit

theorem Cn.upto_more {l : List Cn.Ver} {x j : Nat} (hj : j < l.length) (h : j ≤ Cn.upto l x) (h2 : (Cn.ix l j).e ≤ x) : j + 1 ≤ Cn.upto l x := by
  rcases Nat.lt_or_ge j (Cn.upto l x) with h1 | h1
  · exact h1
  · obtain h3 : j = Cn.upto l x := by omega
    have := Cn.upto_at (l := l) (x := x) (by omega)
    rw [← h3] at this
    omega
theorem Cn.upto_here {l : List Cn.Ver} {x j : Nat} (h : j ≤ Cn.upto l x) (h2 : x < (Cn.ix l j).e) : Cn.upto l x = j := by
  rcases Nat.lt_or_ge j (Cn.upto l x) with h1 | h1
  · have := Cn.upto_lt h1
    omega
  · omega
theorem Cn.isAt_found {l : List Cn.Ver} (hr : Cn.right l = true) {x f j : Nat} (hj : j < l.length) (h : (Cn.ix l j).e = x) : Cn.isAt l x f = Cn.garb l j f := by
  have e : Cn.upto l x = j + 1 := by
    refine Cn.upto_is (by omega) (fun i hi => ?_) (fun h1 => ?_)
    · rcases Nat.lt_or_ge i j with h2 | h2
      · have := Cn.rising hr j i h2 hj
        omega
      · obtain rfl : i = j := by omega
        omega
    · have := Cn.rising hr (j + 1) j (by omega) h1
      omega
  unfold Cn.isAt
  rw [e, Nat.add_sub_cancel, decide_eq_true h, decide_eq_true (by omega : 0 < j + 1)]
  rfl
theorem Cn.isAt_none {l : List Cn.Ver} {x f : Nat} (h : ∀ i, i < l.length → (Cn.ix l i).e ≠ x) : Cn.isAt l x f = false := by
  unfold Cn.isAt
  by_cases h0 : 0 < Cn.upto l x
  · have := h (Cn.upto l x - 1) (by have := Cn.upto_le l x; omega)
    rw [decide_eq_false this]
    simp
  · rw [decide_eq_false h0]
    rfl
theorem Cn.garb_two {l : List Cn.Ver} (hr : Cn.right l = true) {j f : Nat} (hj : j + 1 < l.length) : Cn.garb l j f = (decide ((Cn.ix l (j + 1)).e ≤ f) || (decide (j = 0) && (Cn.ix l j).d && decide ((Cn.ix l j).e ≤ f))) := by
  have h0 := Cn.pos hr hj
  unfold Cn.garb Cn.garbL Cn.behind
  rw [if_pos hj, decide_eq_true (by omega : (Cn.ix l (j + 1)).e ≠ 0), Bool.true_and, Bool.and_comm (Cn.ix l j).d]
  rw [show (j == 0) = decide (j = 0) by rw [Bool.eq_iff_iff]; simp]
theorem Cn.garb_last {l : List Cn.Ver} {j f : Nat} (hj : ¬ j + 1 < l.length) : Cn.garb l j f = (decide (j = 0) && (Cn.ix l j).d && decide ((Cn.ix l j).e ≤ f)) := by
  unfold Cn.garb Cn.garbL Cn.behind
  rw [if_neg hj, Bool.and_comm (Cn.ix l j).d]
  rw [show (j == 0) = decide (j = 0) by rw [Bool.eq_iff_iff]; simp]
  simp
set_option maxRecDepth 100000 in
set_option maxHeartbeats 4000000 in
theorem refNext_any (w : World) (F : Nat → Prop) (A : Option Addr) (n c : Nat) (l : List Cn.Ver) (x : Nat) (h : Cells w F A n 6 (vrL l)) (hn : n ≤ 1000000) : Calls Try.prog 17 #[.slice A n c, .int .u64 (x : Int)] w (NextP w (Cn.next l x)) := by
  have hln := vr_len h
  have hup := Cn.upto_le l x
  have H := Lib.hid (And.intro h (And.intro hln hup))
  clear h hln hup
  go_enter Try.func17, Try.ntmps17
  go_wp2_with fail
  obtain ⟨w1, hw1'⟩ : ∃ w1, (w.alloc (.cells #[.int .u64 0, .bool false, .int .i64 0, .int .i64 0, .int .i64 0, .int .i64 0] 46)) = w1 := ⟨_, rfl⟩
  obtain ⟨rb, hrb⟩ : ∃ rb, w.heap.size = rb := ⟨_, rfl⟩
  have h0 := (Held.start w).new #[.int .u64 0, .bool false, .int .i64 0, .int .i64 0, .int .i64 0, .int .i64 0] 46
  rw [hw1', hrb] at h0
  rw [hw1', hrb]
  have HH := Lib.hid (And.intro h0 hrb)
  clear h0 hw1' hrb
  go_loopw [6] (fun i wr => ∃ j : Nat, j ≤ n ∧ j ≤ Cn.upto l x ∧ i = .int .i64 (j : Int) ∧ Held w wr [(rb, 46, #[.int .u64 0, .bool false, .int .i64 0, .int .i64 0, .int .i64 0, .int .i64 0])]) (fun i _ => n - (intOf i).toNat)
  case atStart => exact ⟨0, Nat.zero_le _, Nat.zero_le _, rfl, HH.out.1⟩
  case round =>
    obtain ⟨j, hk, hu, rfl, hh⟩ := hrel
    have q := hh.top
    have f0 := q.frozen 0
    have f1 := q.frozen 1
    have f2 := q.frozen 2
    have f3 := q.frozen 3
    have f4 := q.frozen 4
    have f5 := q.frozen 5
    have g0 := q.cell 0
    have g1 := q.cell 1
    have g2 := q.cell 2
    have g3 := q.cell 3
    have g4 := q.cell 4
    have g5 := q.cell 5
    simp only [List.getElem?_toArray, List.getElem?_cons_zero, List.getElem?_cons_succ] at g0 g1 g2 g3 g4 g5
    clear q
    by_cases hlt : j < n
    · have i2 : (0 : Int) ≤ (j : Int) := by omega
      have i3 : (j : Int) < (n : Int) := by omega
      have yhy := Cn.ix_some (l := l) (i := j) (by have := H.out.2.1; omega)
      obtain ⟨y, yeq⟩ : ∃ y, Cn.ix l j = y := ⟨_, rfl⟩
      rw [yeq] at yhy
      obtain ⟨b, off, rfl, -, yhbl, z0, z1, z2, z3, z4, z5⟩ := vr_cells H.out.1 yhy
      have y0 := (hh.1.cell (p := ⟨b, off + j * 6, none⟩) yhbl).trans z0
      have y1 := (hh.1.cell (p := ⟨b, off + j * 6 + 1, none⟩) yhbl).trans z1
      have y2 := (hh.1.cell (p := ⟨b, off + j * 6 + 2, none⟩) yhbl).trans z2
      have y3 := (hh.1.cell (p := ⟨b, off + j * 6 + 3, none⟩) yhbl).trans z3
      have y4 := (hh.1.cell (p := ⟨b, off + j * 6 + 4, none⟩) yhbl).trans z4
      have y5 := (hh.1.cell (p := ⟨b, off + j * 6 + 5, none⟩) yhbl).trans z5
      clear z0 z1 z2 z3 z4 z5
      have hne : b ≠ rb := by have := HH.out.2; omega
      have HK := Lib.hid (And.intro hh (And.intro hu yeq))
      clear hh hu yeq yhy hk
      by_cases hx : y.e ≤ x
      · have x1 : ¬ (x : Int) < (y.e : Int) := by omega
        have HX := Lib.hid hx
        clear hx
        go_wp2_with fail
        go_roundw
        case rel => exact ⟨j + 1, by omega, Cn.upto_more (by have := H.out.2.1; omega) HK.out.2.1 (by rw [HK.out.2.2]; exact HX.out), by go_num, HK.out.1⟩
        case measure => simp [intOf]; omega
      · have x1 : (x : Int) < (y.e : Int) := by omega
        have hup := Cn.upto_here (x := x) HK.out.2.1 (by rw [HK.out.2.2]; omega)
        have hat : Cn.next l x = (y, true) := by
          unfold Cn.next
          rw [hup, if_neg (by have := H.out.2.1; omega), HK.out.2.2]
        have HAT := Lib.hid hat
        have Q := HK.out.1.put6 (by have := HH.out.2; omega) (.int .u64 (y.e : Int)) (.bool y.d) (.int .i64 y.a.c) (.int .i64 y.a.s) (.int .i64 y.a.lo) (.int .i64 y.a.hi)
        have t0 := Q.top.cell 0
        have t1 := Q.top.cell 1
        have t2 := Q.top.cell 2
        have t3 := Q.top.cell 3
        have t4 := Q.top.cell 4
        have t5 := Q.top.cell 5
        simp only [List.getElem?_toArray, List.getElem?_cons_zero, List.getElem?_cons_succ] at t0 t1 t2 t3 t4 t5
        have HQ := Lib.hid Q.1
        have HT := Lib.hid (And.intro t0 (And.intro t1 (And.intro t2 (And.intro t3 (And.intro t4 t5)))))
        clear Q hup hat hx t0 t1 t2 t3 t4 t5
        go_wp2_with fail
        obtain ⟨t0, t1, t2, t3, t4, t5⟩ := HT.out
        refine bodyPost_ret (v := .tuple #[.agg #[.int .u64 (y.e : Int), .bool y.d, .int .i64 y.a.c, .int .i64 y.a.s, .int .i64 y.a.lo, .int .i64 y.a.hi], .bool true]) ?_ rfl ⟨by rw [HAT.out], HQ.out⟩
        simp [results, Try.results17, go_sem, t0, t1, t2, t3, t4, t5]
    · obtain rfl : j = n := by omega
      have hat : Cn.next l x = (Cn.zero, false) := by
        unfold Cn.next
        rw [if_pos (by have := H.out; omega)]
      have HAT := Lib.hid hat
      have Q := hh.put6 (by have := HH.out.2; omega) (.int .u64 0) (.bool false) (.int .i64 0) (.int .i64 0) (.int .i64 0) (.int .i64 0)
      have t0 := Q.top.cell 0
      have t1 := Q.top.cell 1
      have t2 := Q.top.cell 2
      have t3 := Q.top.cell 3
      have t4 := Q.top.cell 4
      have t5 := Q.top.cell 5
      simp only [List.getElem?_toArray, List.getElem?_cons_zero, List.getElem?_cons_succ] at t0 t1 t2 t3 t4 t5
      have HQ := Lib.hid Q.1
      have HT := Lib.hid (And.intro t0 (And.intro t1 (And.intro t2 (And.intro t3 (And.intro t4 t5)))))
      clear Q hat hh hu hk hlt t0 t1 t2 t3 t4 t5
      go_wp2_with fail
      obtain ⟨t0, t1, t2, t3, t4, t5⟩ := HT.out
      refine bodyPost_ret (v := .tuple #[.agg #[.int .u64 0, .bool false, .int .i64 0, .int .i64 0, .int .i64 0, .int .i64 0], .bool false]) ?_ rfl ⟨by rw [HAT.out]; rfl, HQ.out⟩
      simp [results, Try.results17, go_sem, t0, t1, t2, t3, t4, t5]
set_option maxRecDepth 100000 in
set_option maxHeartbeats 4000000 in
theorem refGarbage_any (w : World) (F : Nat → Prop) (A : Option Addr) (n c : Nat) (l : List Cn.Ver) (x f : Nat) (h : Cells w F A n 6 (vrL l)) (hn : n ≤ 1000000) (hr : Cn.right l = true) : Calls Try.prog 22 #[.slice A n c, .int .u64 (x : Int), .int .u64 (f : Int)] w (BoolP w (Cn.isAt l x f)) := by
  have hln := vr_len h
  have H := Lib.hid (And.intro h (And.intro hln hr))
  clear h hln hr
  go_enter Try.func22, Try.ntmps22
  go_wp2_with fail
  go_loopw [7] (fun i wr => ∃ j : Nat, j ≤ n ∧ (∀ i, i < j → (Cn.ix l i).e ≠ x) ∧ i = .int .i64 (j : Int) ∧ Below w.heap.size w wr) (fun i _ => n - (intOf i).toNat)
  case atStart => exact ⟨0, Nat.zero_le _, fun i h => absurd h (Nat.not_lt_zero _), rfl, Below.refl _ _⟩
  case round =>
    obtain ⟨j, hk, hu, rfl, hh⟩ := hrel
    by_cases hlt : j < n
    · have i2 : (0 : Int) ≤ (j : Int) := by omega
      have i3 : (j : Int) < (n : Int) := by omega
      have yhy := Cn.ix_some (l := l) (i := j) (by have := H.out.2.1; omega)
      obtain ⟨y, yeq⟩ : ∃ y, Cn.ix l j = y := ⟨_, rfl⟩
      rw [yeq] at yhy
      obtain ⟨b, off, rfl, -, yhbl, z0, z1, z2, z3, z4, z5⟩ := vr_cells H.out.1 yhy
      have y0 := (hh.cell (p := ⟨b, off + j * 6, none⟩) yhbl).trans z0
      have y1 := (hh.cell (p := ⟨b, off + j * 6 + 1, none⟩) yhbl).trans z1
      have y2 := (hh.cell (p := ⟨b, off + j * 6 + 2, none⟩) yhbl).trans z2
      have y3 := (hh.cell (p := ⟨b, off + j * 6 + 3, none⟩) yhbl).trans z3
      have y4 := (hh.cell (p := ⟨b, off + j * 6 + 4, none⟩) yhbl).trans z4
      have y5 := (hh.cell (p := ⟨b, off + j * 6 + 5, none⟩) yhbl).trans z5
      clear z0 z1 z2 z3 z4 z5
      have hw1 : IntKind.i64.wrap ((j : Int) + 1) = (j : Int) + 1 := by rw [IntKind.wrap_i64]; omega
      by_cases hx : y.e = x
      · subst hx
        have hat := Cn.isAt_found (f := f) H.out.2.2 (j := j) (x := y.e) (by have := H.out.2.1; omega) (by rw [yeq])
        have j3 : (0 : Int) ≤ (j : Int) + 1 := by omega
        by_cases h1 : j + 1 < n
        · have j2 : (j : Int) + 1 < (n : Int) := by omega
          rw [Cn.garb_two H.out.2.2 (by have := H.out.2.1; omega), yeq] at hat
          have xhy := Cn.ix_some (l := l) (i := (j + 1)) (by have := H.out.2.1; omega)
          obtain ⟨v, xeq⟩ : ∃ v, Cn.ix l (j + 1) = v := ⟨_, rfl⟩
          rw [xeq] at xhy
          obtain ⟨bx, offx, ex, -, xhbl, z0, z1, z2, z3, z4, z5⟩ := vr_cells H.out.1 xhy
          obtain ⟨rfl, rfl⟩ : b = bx ∧ off = offx := by injection ex with ex; injection ex with ea eb; exact ⟨ea, eb⟩
          clear ex
          have x0 := (hh.cell (p := ⟨b, off + (j + 1) * 6, none⟩) xhbl).trans z0
          have x1 := (hh.cell (p := ⟨b, off + (j + 1) * 6 + 1, none⟩) xhbl).trans z1
          have x2 := (hh.cell (p := ⟨b, off + (j + 1) * 6 + 2, none⟩) xhbl).trans z2
          have x3 := (hh.cell (p := ⟨b, off + (j + 1) * 6 + 3, none⟩) xhbl).trans z3
          have x4 := (hh.cell (p := ⟨b, off + (j + 1) * 6 + 4, none⟩) xhbl).trans z4
          have x5 := (hh.cell (p := ⟨b, off + (j + 1) * 6 + 5, none⟩) xhbl).trans z5
          clear z0 z1 z2 z3 z4 z5
          rw [xeq] at hat
          have HAT := Lib.hid (And.intro hat hh)
          clear hat hh xhy xeq hu yeq yhy hk
          by_cases h2 : v.e ≤ f
          · have d1 : (v.e : Int) ≤ (f : Int) := by omega
            clear h2
            go_wp2_with fail
            go_ret
            exact ⟨by rw [HAT.out.1, decide_eq_true (by omega : v.e ≤ f)]; rfl, HAT.out.2⟩
          · have d1 : ¬ (v.e : Int) ≤ (f : Int) := by omega
            have h2' := decide_eq_false h2
            rw [h2', Bool.false_or] at HAT
            clear h2 h2'
            by_cases h0 : j = 0
            · have j0 : ((j : Int) == 0) = true := by rw [h0]; rfl
              have HJ := Lib.hid h0
              clear h0
              cases hd : y.d with
              | true =>
                rw [hd] at y1
                go_wp2_with fail
                go_ret
                refine ⟨?_, HAT.out.2⟩
                rw [HAT.out.1, hd, HJ.out]
                simp
              | false =>
                rw [hd] at y1
                go_wp2_with fail
                go_ret
                refine ⟨?_, HAT.out.2⟩
                rw [HAT.out.1, hd, HJ.out]
                simp
            · have j0 : ((j : Int) == 0) = false := beq_eq_false_iff_ne.mpr (by omega)
              have HJ := Lib.hid h0
              clear h0
              go_wp2_with fail
              go_ret
              refine ⟨?_, HAT.out.2⟩
              rw [HAT.out.1, decide_eq_false HJ.out]
              rfl
        · have j2 : ¬ (j : Int) + 1 < (n : Int) := by omega
          rw [Cn.garb_last (by have := H.out.2.1; omega), yeq] at hat
          have HAT := Lib.hid (And.intro hat hh)
          clear hat hh hu yeq yhy hk
          by_cases h0 : j = 0
          · have j0 : ((j : Int) == 0) = true := by rw [h0]; rfl
            have HJ := Lib.hid h0
            clear h0
            cases hd : y.d with
            | true =>
              rw [hd] at y1
              go_wp2_with fail
              go_ret
              refine ⟨?_, HAT.out.2⟩
              rw [HAT.out.1, hd, HJ.out]
              simp
            | false =>
              rw [hd] at y1
              go_wp2_with fail
              go_ret
              refine ⟨?_, HAT.out.2⟩
              rw [HAT.out.1, hd, HJ.out]
              simp
          · have j0 : ((j : Int) == 0) = false := beq_eq_false_iff_ne.mpr (by omega)
            have HJ := Lib.hid h0
            clear h0
            go_wp2_with fail
            go_ret
            refine ⟨?_, HAT.out.2⟩
            rw [HAT.out.1, decide_eq_false HJ.out]
            rfl
      · have x1 : ((y.e : Int) == (x : Int)) = false := beq_eq_false_iff_ne.mpr (by omega)
        have HK := Lib.hid (And.intro hh (And.intro hu (And.intro yeq hx)))
        clear hh hu yeq yhy hx hk
        go_wp2_with fail
        go_roundw
        case rel =>
          refine ⟨j + 1, by omega, fun i hi => ?_, rfl, HK.out.1⟩
          rcases Nat.lt_or_ge i j with h1 | h1
          · exact HK.out.2.1 i h1
          · obtain rfl : i = j := by omega
            rw [HK.out.2.2.1]
            exact HK.out.2.2.2
        case measure => simp [intOf]; omega
    · obtain rfl : j = n := by omega
      have hat : Cn.isAt l x f = false := Cn.isAt_none fun i hi => hu i (by have := H.out.2.1; omega)
      have HAT := Lib.hid (And.intro hat hh)
      clear hat hu hh hk hlt
      go_wp2_with fail
      go_ret
      exact ⟨by rw [HAT.out.1]; rfl, HAT.out.2⟩
end Go.Proofs.Yteegnehfagkjcaa
