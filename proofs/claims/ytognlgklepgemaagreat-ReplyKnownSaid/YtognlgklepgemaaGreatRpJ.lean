/- Layer 8's reference: two replies compared. -/
import Derived.Test.YtognlgklepgemaaGreatRs8
import Derived.Test.YtognlgklepgemaaGreatRpI
namespace Go.Proofs.YtognlgklepgemaaGreat
open Go.ChangeShapes Go.WideShapes Go.ChangeAt Go.RowKit

theorem rpan_guard : Tryz.prog.eqGuardType Tryz.prog.depth 90 = false := by kernel_rfl
theorem rpan_equal (r q : Pn) (w : World) : (Op.equalIn 10000 90 (.agg #[.string r.k, .int .i64 r.s, .int .i64 r.e]) (.agg #[.string q.k, .int .i64 q.s, .int .i64 q.e])).run Tryz.prog w = .ok (peqB r q) w := by
  have hS : Tryz.prog.underlying 90 = some (.struct (Tryz.prog.fieldsOf 90)) := by kernel_rfl
  have hp : Tryz.prog.stoodInHeld 90 = false := by kernel_rfl
  rw [show (10000 : Nat) = 9999 + 1 from rfl, run_equalIn_agg w 9999 90 _ _ hS hp]
  simp only [Program.fieldsOf, Tryz.underlying90]
  go_simp
  unfold peqB
  (repeat' split) <;> simp [*]
theorem nums_ne {a b : List Int} (h : a ≠ b) : (a == b) = false := by
  rw [beq_eq_false_iff_ne]
  exact h
set_option maxRecDepth 100000 in
set_option maxHeartbeats 8000000 in
theorem refSame8_any (a b : Rp.V) (ra rb : List Rw) (ga gb : List Pn) (B : Nat) (w : World) (ha : a.In w B ra ga) (hb : b.In w B rb gb) (hB : B ≤ w.heap.size) (na : a.n ≤ 1000) (ma : a.m ≤ 1000) (nb : b.n ≤ 1000) (mb : b.m ≤ 1000) :
    Calls Tryz.prog 22 #[a.val, b.val] w fun e w' => e = .returned (.bool (Rp.same a b ra rb ga gb)) ∧ Below w.heap.size w w' := by
  have g1 := rpan_guard
  obtain ⟨W0, hW0⟩ : ∃ W, (w.alloc (.cells a.cells 40)).alloc (.cells b.cells 40) = W := ⟨_, rfl⟩
  have B0 : Below w.heap.size w W0 := by
    rw [← hW0]
    exact ((Below.refl _ _).alloc (Nat.le_refl _) _).alloc (by simp) _
  have K1 : Blk W0 w.heap.size 40 a.cells := by
    rw [← hW0]
    exact blk_al (Blk.new w _ _) _
  have K2 : Blk W0 (w.heap.size + 1) 40 b.cells := by
    rw [← hW0]
    exact blk_nw _ _ _ _ (by simp)
  have P : Hid (∀ W, Below W0.heap.size W0 W → RepCells W w.heap.size a ∧ RepCells W (w.heap.size + 1) b) := Lib.hid fun W hW => ⟨(rep_cells (K1.below hW K1.lt)).1, (rep_cells (K2.below hW K2.lt)).1⟩
  obtain ⟨r3, h3⟩ : ∃ r, rsame ra rb = r := ⟨_, rfl⟩
  have SR : Hid (∀ W, Below W0.heap.size W0 W → Calls Tryz.prog 53 #[.slice a.A a.n a.c, .slice b.A b.n b.c] W fun e w' => e = .returned (.bool r3) ∧ Below W.heap.size W w') := Lib.hid fun W hW => by
    have hb0 : Below w.heap.size w W := B0.trans (hW.mono B0.size)
    exact (refSame_any a.n a.c b.n b.c B a.A b.A ra rb W (ha.1.below hb0 hB) (hb.1.below hb0 hB) na nb).mono fun _ _ h => ⟨by rw [← h3]; exact h.1, drew_below h.2⟩
  have HG : Hid (∀ W, Below W0.heap.size W0 W → PansIn W B a.G a.m ga ∧ PansIn W B b.G b.m gb) := Lib.hid fun W hW => by
    have hb0 : Below w.heap.size w W := B0.trans (hW.mono B0.size)
    exact ⟨ha.2.below hb0 hB, hb.2.below hb0 hB⟩
  have hla := ha.2.1
  have hlb := hb.2.1
  have HB := Lib.hid B0
  obtain ⟨res, hres⟩ : ∃ r, Rp.same a b ra rb ga gb = r := ⟨_, rfl⟩
  rw [hres]
  unfold Rp.same at hres
  rw [h3] at hres
  have HR := Lib.hid hres
  clear ha hb hB na nb h3 hres B0 K1 K2
  obtain ⟨k, id, code, last, ep, fl, un, le, st, ti, A, n, c, G, m, d⟩ := a
  obtain ⟨k', id', code', last', ep', fl', un', le', st', ti', A', n', c', G', m', d'⟩ := b
  unfold Rp.V.val RepCells Rp.V.nums at *
  unfold Rp.V.cells at *
  dsimp only at *
  obtain ⟨⟨x0, x1, x2, x3, x4, x5, x6, x7, x8, x9, x10, x11⟩, y0, y1, y2, y3, y4, y5, y6, y7, y8, y9, y10, y11⟩ := P.out W0 (Below.refl _ _)
  by_cases hmm : m = m'
  rotate_left
  · obtain rfl : res = false := by
      rw [← HR.out, psame_len (by rw [hla, hlb]; exact hmm)]
      simp
    have i1 : ((m : Int) != m') = true := by rw [bne_iff_ne]; omega
    have i2 : (m != m') = true := by rw [bne_iff_ne]; exact hmm
    have i3 : decide (m = m') = false := decide_eq_false hmm
    go_enter Tryz.func22, Tryz.ntmps22
    go_wp2_with fail
    go_ret
    exact ⟨rfl, HB.out⟩
  subst hmm
  cases r3
  · obtain rfl : res = false := by
      rw [← HR.out]
      simp
    go_enter Tryz.func22, Tryz.ntmps22
    go_wp2_with fail
    refine (SR.out _ (Below.refl _ _)).mono ?_
    rintro e w1 ⟨rfl, p1⟩
    have H1 := Lib.hid (below_next HB.out p1)
    clear p1
    go_wp2_with fail
    go_ret
    exact ⟨rfl, H1.out⟩
  go_enter Tryz.func22, Tryz.ntmps22
  go_wp2_with fail
  refine (SR.out _ (Below.refl _ _)).mono ?_
  rintro e w1 ⟨rfl, p1⟩
  have H1 := Lib.hid p1
  clear p1 x0 x1 x2 x3 x4 x5 x6 x7 x8 x9 x10 x11 y0 y1 y2 y3 y4 y5 y6 y7 y8 y9 y10 y11
  go_wp2_with fail
  clear hW0
  go_loopw [5] (fun i wr => ∃ j : Nat, j ≤ m ∧ i = .int .i64 (j : Int) ∧ psame (ga.drop j) (gb.drop j) = psame ga gb ∧ Below W0.heap.size W0 wr) (fun i _ => m - (intOf i).toNat)
  case atStart => exact ⟨0, by omega, rfl, rfl, H1.out⟩
  case round =>
    obtain ⟨j, hj, rfl, hr, hbel⟩ := hrel
    obtain ⟨⟨-, -, -, -, -, -, -, -, -, -, -, x11⟩, -, -, -, -, -, -, -, -, -, -, -, y11⟩ := P.out wr hbel
    have HJ := Lib.hid (And.intro hr hbel)
    by_cases hlt : j < m
    · obtain ⟨b, off, rfl, hb, u0, u1, u2⟩ := (HG.out _ hbel).1.pan hlt
      obtain ⟨b2, off2, rfl, hb2, v0, v1, v2⟩ := (HG.out _ hbel).2.pan hlt
      have hd := psame_drop (a := ga) (b := gb) (j := j) (by omega) (by omega)
      obtain ⟨x, hx⟩ : ∃ x, ga.getD j default = x := ⟨_, rfl⟩
      obtain ⟨y, hy⟩ : ∃ y, gb.getD j default = y := ⟨_, rfl⟩
      rw [hx] at u0 u1 u2
      rw [hy] at v0 v1 v2
      rw [hx, hy, hr] at hd
      have q1 := fun W => rpan_equal x y W
      have i1 : (0 : Int) ≤ j := by omega
      have i2 : (j : Int) < m := by omega
      clear hx hy hr hbel
      cases hq : peqB x y
      · rw [hq, Bool.false_and] at hd
        rw [hq] at q1
        obtain rfl : res = false := by
          rw [← HR.out, hd]
          simp
        clear hd hq
        go_wp2_with fail
        go_quiet (fail)
        go_wp2_with fail
        go_ret
        exact ⟨rfl, below_drewN (below_next HB.out HJ.out.2) _⟩
      · rw [hq, Bool.true_and] at hd
        rw [hq] at q1
        have HD := Lib.hid hd
        clear hd hq
        go_wp2_with fail
        go_quiet (fail)
        go_wp2_with fail
        go_roundw
        case rel => exact ⟨j + 1, by omega, by go_num, HD.out.symm, below_drewN HJ.out.2 _⟩
        case measure => simp [intOf]; omega
    · obtain rfl : j = m := by omega
      have e1 : ga.drop j = [] := List.drop_eq_nil_of_le (by omega)
      have e2 : gb.drop j = [] := List.drop_eq_nil_of_le (by omega)
      rw [e1, e2] at hr
      have hres := HR.out
      rw [← hr] at hres
      unfold psame at hres
      have HRS := Lib.hid hres
      clear hr e1 e2 hres g1 hla hlb ma mb hj
      obtain ⟨⟨x0, x1, x2, x3, x4, x5, x6, x7, x8, x9, x10, -⟩, y0, y1, y2, y3, y4, y5, y6, y7, y8, y9, y10, -⟩ := P.out wr hbel
      clear hbel x10 y10
      go_upto_region 8 with (fail)
      by_cases b0 : k = k'
      rotate_left
      · obtain rfl : res = false := by
          rw [← HRS.out, nums_ne (fun h => by simp only [List.cons.injEq] at h; omega)]
          rfl
        have v0 : ((k : Int) == (k' : Int)) = false := by rw [beq_eq_false_iff_ne]; omega
        clear b0
        go_wp2_with fail
        go_ret
        exact ⟨rfl, below_next HB.out HJ.out.2⟩
      have v0 : ((k : Int) == (k' : Int)) = true := by rw [beq_iff_eq]; omega
      by_cases b1 : id = id'
      rotate_left
      · obtain rfl : res = false := by
          rw [← HRS.out, nums_ne (fun h => by simp only [List.cons.injEq] at h; omega)]
          rfl
        have v1 : ((id : Int) == (id' : Int)) = false := by rw [beq_eq_false_iff_ne]; omega
        clear b1
        go_wp2_with fail
        go_ret
        exact ⟨rfl, below_next HB.out HJ.out.2⟩
      have v1 : ((id : Int) == (id' : Int)) = true := by rw [beq_iff_eq]; omega
      by_cases b2 : code = code'
      rotate_left
      · obtain rfl : res = false := by
          rw [← HRS.out, nums_ne (fun h => by simp only [List.cons.injEq] at h; omega)]
          rfl
        have v2 : ((code : Int) == (code' : Int)) = false := by rw [beq_eq_false_iff_ne]; omega
        clear b2
        go_wp2_with fail
        go_ret
        exact ⟨rfl, below_next HB.out HJ.out.2⟩
      have v2 : ((code : Int) == (code' : Int)) = true := by rw [beq_iff_eq]; omega
      by_cases b3 : last = last'
      rotate_left
      · obtain rfl : res = false := by
          rw [← HRS.out, (beq_eq_false_iff_ne (a := last) (b := last')).2 b3, Bool.and_false]
          rfl
        have v3 : (last == last') = false := by cases last <;> cases last' <;> simp_all
        clear b3
        go_wp2_with fail
        go_ret
        exact ⟨rfl, below_next HB.out HJ.out.2⟩
      have v3 : (last == last') = true := by cases last <;> cases last' <;> simp_all
      by_cases b4 : ep = ep'
      rotate_left
      · obtain rfl : res = false := by
          rw [← HRS.out, nums_ne (fun h => by simp only [List.cons.injEq] at h; omega)]
          rfl
        have v4 : ((ep : Int) == (ep' : Int)) = false := by rw [beq_eq_false_iff_ne]; omega
        clear b4
        go_wp2_with fail
        go_ret
        exact ⟨rfl, below_next HB.out HJ.out.2⟩
      have v4 : ((ep : Int) == (ep' : Int)) = true := by rw [beq_iff_eq]; omega
      by_cases b5 : fl = fl'
      rotate_left
      · obtain rfl : res = false := by
          rw [← HRS.out, nums_ne (fun h => by simp only [List.cons.injEq] at h; omega)]
          rfl
        have v5 : ((fl : Int) == (fl' : Int)) = false := by rw [beq_eq_false_iff_ne]; omega
        clear b5
        go_wp2_with fail
        go_ret
        exact ⟨rfl, below_next HB.out HJ.out.2⟩
      have v5 : ((fl : Int) == (fl' : Int)) = true := by rw [beq_iff_eq]; omega
      by_cases b6 : un = un'
      rotate_left
      · obtain rfl : res = false := by
          rw [← HRS.out, nums_ne (fun h => by simp only [List.cons.injEq] at h; omega)]
          rfl
        have v6 : ((un : Int) == (un' : Int)) = false := by rw [beq_eq_false_iff_ne]; omega
        clear b6
        go_wp2_with fail
        go_ret
        exact ⟨rfl, below_next HB.out HJ.out.2⟩
      have v6 : ((un : Int) == (un' : Int)) = true := by rw [beq_iff_eq]; omega
      by_cases b7 : le = le'
      rotate_left
      · obtain rfl : res = false := by
          rw [← HRS.out, nums_ne (fun h => by simp only [List.cons.injEq] at h; omega)]
          rfl
        have v7 : ((le : Int) == (le' : Int)) = false := by rw [beq_eq_false_iff_ne]; omega
        clear b7
        go_wp2_with fail
        go_ret
        exact ⟨rfl, below_next HB.out HJ.out.2⟩
      have v7 : ((le : Int) == (le' : Int)) = true := by rw [beq_iff_eq]; omega
      by_cases b8 : st = st'
      rotate_left
      · obtain rfl : res = false := by
          rw [← HRS.out, nums_ne (fun h => by simp only [List.cons.injEq] at h; omega)]
          rfl
        have v8 : ((st : Int) == (st' : Int)) = false := by rw [beq_eq_false_iff_ne]; omega
        clear b8
        go_wp2_with fail
        go_ret
        exact ⟨rfl, below_next HB.out HJ.out.2⟩
      have v8 : ((st : Int) == (st' : Int)) = true := by rw [beq_iff_eq]; omega
      by_cases b9 : ti = ti'
      rotate_left
      · obtain rfl : res = false := by
          rw [← HRS.out, nums_ne (fun h => by simp only [List.cons.injEq] at h; omega)]
          rfl
        have v9 : ((ti : Int) == (ti' : Int)) = false := by rw [beq_eq_false_iff_ne]; omega
        clear b9
        go_wp2_with fail
        go_ret
        exact ⟨rfl, below_next HB.out HJ.out.2⟩
      have v9 : ((ti : Int) == (ti' : Int)) = true := by rw [beq_iff_eq]; omega
      obtain rfl : res = true := by
        rw [← HRS.out]
        simp [b0, b1, b2, b3, b4, b5, b6, b7, b8, b9]
      clear b0 b1 b2 b3 b4 b5 b6 b7 b8 b9
      go_wp2_with fail
      go_ret
      exact ⟨rfl, below_next HB.out HJ.out.2⟩
end Go.Proofs.YtognlgklepgemaaGreat
