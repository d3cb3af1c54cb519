/- Made by tools/gen/cn.py. -/
/- Layer 15, the reference: Differs, Add, Drop, Trim. -/
import Derived.Test.YteegnehfagkjcaaCnD
import Derived.Test.YteegnehfagkjcaaApd
namespace Go.Proofs.Yteegnehfagkjcaa
open Go.ChangeShapes Go.WideShapes Go.ChangeAt Go.RowKit

namespace Cn
def same (a b : Ag.A) : Bool := a.c == b.c && a.s == b.s && a.lo == b.lo && a.hi == b.hi
/-- Does it tell something else, by the reference? -/
def differsR (l : List Ver) (x y : Nat) : Bool := ((at_ l x).2 != (at_ l y).2) || ((at_ l x).2 && !same (at_ l x).1 (at_ l y).1)
end Cn
set_option maxRecDepth 100000 in
set_option maxHeartbeats 4000000 in
theorem refDiffers_any (w : World) (F : Nat → Prop) (A : Option Addr) (n c : Nat) (l : List Cn.Ver) (x y : Nat) (h : Cells w F A n 6 (vrL l)) (hn : n ≤ 1000000) (hr : Cn.right l = true) : Calls Try.prog 20 #[.slice A n c, .int .u64 (x : Int), .int .u64 (y : Int)] w (BoolP w (Cn.differsR l x y)) := by
  unfold Cn.differsR
  have HAT := Lib.hid (fun (W : World) (hW : Below w.heap.size w W) (z : Nat) => refAt_any W F A n c l z (h.below hW) hn hr)
  clear h
  obtain ⟨⟨a, p⟩, hp⟩ : ∃ p, Cn.at_ l x = p := ⟨_, rfl⟩
  obtain ⟨⟨b, q⟩, hq⟩ : ∃ p, Cn.at_ l y = p := ⟨_, rfl⟩
  have q1 := fun W => agg_equal a.c a.s a.lo a.hi b.c b.s b.lo b.hi W
  obtain ⟨r, hrs⟩ : ∃ r, Cn.same a b = r := ⟨_, rfl⟩
  have hrs2 : (a.c == b.c && a.s == b.s && a.lo == b.lo && a.hi == b.hi) = r := hrs
  rw [hrs2] at q1
  have g1 := agg_guard
  rw [hp, hq]
  dsimp only
  rw [hrs]
  have HP := Lib.hid (And.intro hp hq)
  clear hp hq hrs hrs2
  go_enter Try.func20, Try.ntmps20
  go_wp2_with fail
  refine (HAT.out w (Below.refl _ _) x).mono ?_
  rintro e w1 ⟨rfl, b1⟩
  rw [HP.out.1]
  dsimp only
  have B1 := Lib.hid b1
  clear b1
  go_wp2_with fail
  refine (HAT.out _ (B1.out.alloc B1.out.size _) y).mono ?_
  rintro e w2 ⟨rfl, b2⟩
  rw [HP.out.2]
  dsimp only
  have k := (Blk.new w1 40 #[.int .i64 a.c, .int .i64 a.s, .int .i64 a.lo, .int .i64 a.hi]).below b2 (Blk.new w1 40 #[.int .i64 a.c, .int .i64 a.s, .int .i64 a.lo, .int .i64 a.hi]).lt
  have k0 := k.cell 0
  have k1 := k.cell 1
  have k2 := k.cell 2
  have k3 := k.cell 3
  simp only [List.getElem?_toArray, List.getElem?_cons_zero, List.getElem?_cons_succ] at k0 k1 k2 k3
  have hlt : w1.heap.size < w2.heap.size := k.lt
  have B2 := Lib.hid ((B1.out.alloc B1.out.size _).trans (b2.mono (B1.out.alloc B1.out.size (.cells #[.int .i64 a.c, .int .i64 a.s, .int .i64 a.lo, .int .i64 a.hi] 40)).size))
  have kk : ∀ o, (w2.alloc o).cell? ⟨w1.heap.size, 0, none⟩ = some (.int .i64 a.c) ∧ (w2.alloc o).cell? ⟨w1.heap.size, 1, none⟩ = some (.int .i64 a.s) ∧ (w2.alloc o).cell? ⟨w1.heap.size, 2, none⟩ = some (.int .i64 a.lo) ∧ (w2.alloc o).cell? ⟨w1.heap.size, 3, none⟩ = some (.int .i64 a.hi) := fun o =>
    ⟨(World.cell?_alloc_lt w2 o ⟨w1.heap.size, 0, none⟩ hlt).trans k0, (World.cell?_alloc_lt w2 o ⟨w1.heap.size, 1, none⟩ hlt).trans k1, (World.cell?_alloc_lt w2 o ⟨w1.heap.size, 2, none⟩ hlt).trans k2, (World.cell?_alloc_lt w2 o ⟨w1.heap.size, 3, none⟩ hlt).trans k3⟩
  obtain ⟨m0, m1, m2, m3⟩ := kk (.cells #[.int .i64 b.c, .int .i64 b.s, .int .i64 b.lo, .int .i64 b.hi] 40)
  clear b2 k k0 k1 k2 k3 hlt kk
  cases p <;> cases q
  all_goals
    go_wp2_with fail
    go_ret
    exact ⟨by simp, B2.out.alloc B2.out.size _⟩
theorem Try.info46 : (Try.prog.info? 46).map (fun i => (i.zero, i.size, i.bytes)) = some (some (.agg #[.int .u64 0, .bool false, .int .i64 0, .int .i64 0, .int .i64 0, .int .i64 0]), 6, 48) := by kernel_rfl
/-- A call that answers versions and a value beside them. -/
def VrsP (w : World) (F : Nat → Prop) (l : List Cn.Ver) (v : Value) (e : Ending) (w' : World) : Prop := ∃ A c, e = .returned (.tuple #[.slice A l.length c, v]) ∧ Cells w' (fun b => F b ∨ w.heap.size ≤ b) A l.length 6 (vrL l) ∧ Below w.heap.size w w'
set_option maxRecDepth 100000 in
set_option maxHeartbeats 4000000 in
theorem refAdd_any (w : World) (F : Nat → Prop) (A : Option Addr) (n c : Nat) (l : List Cn.Ver) (v : Cn.Ver) (h : Cells w F A n 6 (vrL l)) (hn : n ≤ 100000) : Calls Try.prog 30 #[.slice A n c, .agg #[.int .u64 (v.e : Int), .bool v.d, .int .i64 v.a.c, .int .i64 v.a.s, .int .i64 v.a.lo, .int .i64 v.a.hi]] w (VrsP w F (Cn.add l v).1 (.int .i64 (Cn.add l v).2)) := by
  have hln := vr_len h
  have hup := Cn.upto_le l (v.e - 1)
  obtain ⟨i0, hi, hz0, hz1, hz2⟩ := info_parts Try.info46
  have HI := Lib.hid (And.intro hi (And.intro hz0 (And.intro hz1 hz2)))
  have HRT : Hid (∀ X, Calls Try.prog 36 #[.agg #[.int .u64 (v.e : Int), .bool v.d, .int .i64 v.a.c, .int .i64 v.a.s, .int .i64 v.a.lo, .int .i64 v.a.hi]] X (BoolP X (Cn.one v))) := Lib.hid fun X => refRt_any v X
  have H := Lib.hid (And.intro h (And.intro hln hup))
  obtain ⟨rb, hrb⟩ : ∃ rb, w.heap.size = rb := ⟨_, rfl⟩
  have K0 := Lib.hid (And.intro ((Held.start w).new (verC v).toArray 46) hrb)
  unfold verC at K0
  obtain ⟨w0, hw0⟩ : ∃ w0, w.alloc (.cells #[.int .u64 (v.e : Int), .bool v.d, .int .i64 v.a.c, .int .i64 v.a.s, .int .i64 v.a.lo, .int .i64 v.a.hi] 46) = w0 := ⟨_, rfl⟩
  rw [hw0, hrb] at K0
  clear h hln hup hi hz0 hz1 hz2
  have q0 := K0.out.1.top.cell 0
  have q1 := K0.out.1.top.cell 1
  have q2 := K0.out.1.top.cell 2
  have q3 := K0.out.1.top.cell 3
  have q4 := K0.out.1.top.cell 4
  have q5 := K0.out.1.top.cell 5
  simp only [List.getElem?_toArray, List.getElem?_cons_zero, List.getElem?_cons_succ] at q0 q1 q2 q3 q4 q5
  by_cases h1 : Cn.one v = true
  · have hv0 : 0 < v.e := by
      unfold Cn.one at h1
      rw [Bool.and_eq_true] at h1
      exact of_decide_eq_true h1.1
    have HV := Lib.hid (And.intro hv0 h1)
    rw [h1] at HRT
    clear h1 hv0
    go_enter Try.func30, Try.ntmps30
    go_wp2_with fail
    clear q0 q1 q2 q3 q4 q5 hw0 hrb
    refine (HRT.out _).mono ?_
    rintro e w1 ⟨rfl, b1⟩
    have K1 := Lib.hid (And.intro (K0.out.1.step b1) K0.out.2)
    clear b1
    go_wp2_with fail
    go_loopw [6] (fun i wr => ∃ j : Nat, j ≤ n ∧ j ≤ Cn.upto l (v.e - 1) ∧ i = .int .i64 (j : Int) ∧ Held w wr [(rb, 46, #[.int .u64 (v.e : Int), .bool v.d, .int .i64 v.a.c, .int .i64 v.a.s, .int .i64 v.a.lo, .int .i64 v.a.hi])]) (fun i _ => n - (intOf i).toNat)
    case atStart => exact ⟨0, Nat.zero_le _, Nat.zero_le _, rfl, K1.out.1⟩
    case round =>
      obtain ⟨j, hk, hu, rfl, hh⟩ := hrel
      have q0 := hh.top.cell 0
      have q1 := hh.top.cell 1
      have q2 := hh.top.cell 2
      have q3 := hh.top.cell 3
      have q4 := hh.top.cell 4
      have q5 := hh.top.cell 5
      simp only [List.getElem?_toArray, List.getElem?_cons_zero, List.getElem?_cons_succ] at q0 q1 q2 q3 q4 q5
      by_cases hlt : j < n
      · have i2 : (0 : Int) ≤ (j : Int) := by omega
        have i3 : (j : Int) < (n : Int) := by omega
        have yhy := Cn.ix_some (l := l) (i := j) (by have := H.out.2.1; omega)
        obtain ⟨y, yeq⟩ : ∃ y, Cn.ix l j = y := ⟨_, rfl⟩
        rw [yeq] at yhy
        obtain ⟨b, off, rfl, -, yhbl, z0, z1, z2, z3, z4, z5⟩ := vr_cells H.out.1 yhy
        have y0 := (hh.1.cell (p := ⟨b, off + j * 6, none⟩) yhbl).trans z0
        have y1 := (hh.1.cell (p := ⟨b, off + j * 6 + 1, none⟩) yhbl).trans z1
        have y2 := (hh.1.cell (p := ⟨b, off + j * 6 + 2, none⟩) yhbl).trans z2
        have y3 := (hh.1.cell (p := ⟨b, off + j * 6 + 3, none⟩) yhbl).trans z3
        have y4 := (hh.1.cell (p := ⟨b, off + j * 6 + 4, none⟩) yhbl).trans z4
        have y5 := (hh.1.cell (p := ⟨b, off + j * 6 + 5, none⟩) yhbl).trans z5
        clear z0 z1 z2 z3 z4 z5
        by_cases hx : v.e ≤ y.e
        · have x1 : (v.e : Int) ≤ (y.e : Int) := by omega
          have hup := Cn.upto_here (x := v.e - 1) hu (by rw [yeq]; have := HV.out.1; omega)
          have hadd : Cn.add l v = (l, 150) := by
            unfold Cn.add
            rw [if_pos HV.out.2, hup, if_neg (by have := H.out.2.1; omega)]
          have HK := Lib.hid (And.intro hh hadd)
          clear hh hu yeq yhy hk hup hadd hx
          go_wp2_with fail
          go_region
          go_wp2_with fail
          rw [HK.out.2]
          have e1 := H.out.2.1
          refine bodyPost_ret (v := .tuple #[.slice (some ⟨b, off, none⟩) n c, .int .i64 150]) ?_ rfl ⟨some ⟨b, off, none⟩, c, by rw [e1], ?_, HK.out.1.1.drew⟩
          · simp [results, Try.results30, go_sem]
          · rw [e1]
            exact ((H.out.1.below HK.out.1.1).mono (fun b _ hb => .inl hb))
        · have x1 : ¬ (v.e : Int) ≤ (y.e : Int) := by omega
          have HK := Lib.hid (And.intro hh (And.intro hu (And.intro yeq hx)))
          clear hh hu yeq yhy hk hx
          go_wp2_with fail
          go_region
          go_wp2_with fail
          go_roundw
          case rel => exact ⟨j + 1, by omega, Cn.upto_more (by have := H.out.2.1; omega) HK.out.2.1 (by rw [HK.out.2.2.1]; have := HK.out.2.2.2; omega), by go_num, ⟨HK.out.1.1.drew, HK.out.1.2⟩⟩
          case measure => simp [intOf]; omega
      · obtain rfl : j = n := by omega
        have hadd : Cn.add l v = (l ++ [v], 0) := by
          unfold Cn.add
          rw [if_pos HV.out.2, if_pos (by have := H.out; omega)]
        have hsrc := H.out.1.below hh.1
        obtain ⟨A1, c1, w2, hrun, hown, hb2⟩ := append_copy (P := Try.prog) (w := wr) (F := F) (A := A) (n := j) (c := c) 25 46 i0 _ 48 Try.underlying25 HI.out.1 HI.out.2.1 HI.out.2.2.1 HI.out.2.2.2 rfl (by decide) 25 hsrc (vrL_one l) (by omega) (by decide)
        have HK := Lib.hid (And.intro (hh.step hb2) (And.intro hadd (And.intro hown (And.intro (below_next hh.1 hb2) (And.intro hh.1.size hb2.size)))))
        clear hh hu hk hadd hsrc hown hb2 hlt q0 q1 q2 q3 q4 q5
        have q0 := HK.out.1.top.cell 0
        have q1 := HK.out.1.top.cell 1
        have q2 := HK.out.1.top.cell 2
        have q3 := HK.out.1.top.cell 3
        have q4 := HK.out.1.top.cell 4
        have q5 := HK.out.1.top.cell 5
        simp only [List.getElem?_toArray, List.getElem?_cons_zero, List.getElem?_cons_succ] at q0 q1 q2 q3 q4 q5
        have HRUN := Lib.hid hrun
        clear hrun
        go_upto_region 10 with (at_builtin; refine wpList_append_eq rfl _ _ 25 rfl rfl rfl HRUN.out ?_)
        go_wp2_with (at_builtin; go_loud (refine wpList_append_lies _ rfl _ _ 25 rfl wr.heap.size 46 i0 _ 6 48 Try.underlying25 HI.out.1 HI.out.2.1 HI.out.2.2.1 HI.out.2.2.2 rfl (by decide) _ j _ rfl (HK.out.2.2.1.alloc _) _ 1 _ (verC v) rfl rfl (ver_new _ _ v _ rfl) (by intro u hu; exact vrL_one [v] u (by simpa [vrL] using hu)) (by decide) (by unfold maxLen; omega) (by omega) (by have := HK.out.2.2.2.2.2; simp; omega) _ rfl ?_; intro g c3 w3 hown3 hg3 hg4 hg5))
        have hlen : (l ++ [v]).length = j + 1 := by rw [List.length_append, H.out.2.1]; rfl
        have hbel : Below w.heap.size w w3 := grow_below HK.out.2.2.2.1 hg3 (fun b hb => Nat.le_trans HK.out.2.2.2.2.1 ((HK.out.2.2.1.lt b hb).1))
        rw [HK.out.2.1]
        refine bodyPost_ret (v := .tuple #[.slice (some ⟨g, 0, none⟩) (j + 1) c3, .int .i64 0]) ?_ rfl ⟨some ⟨g, 0, none⟩, c3, by rw [hlen], ?_, hbel⟩
        · simp [results, Try.results30, go_sem]
        · rw [hlen, show vrL (l ++ [v]) = vrL l ++ verC v by simp [vrL]]
          exact (Cells.of_own hown3).mono (fun b _ hb => .inr (Nat.le_trans HK.out.2.2.2.2.1 hb))
  · have h1 := (Bool.not_eq_true _).mp h1
    have hadd : Cn.add l v = (l, 2) := by
      unfold Cn.add
      rw [h1]
      rfl
    rw [h1] at HRT
    have HK := Lib.hid hadd
    clear h1 hadd
    go_enter Try.func30, Try.ntmps30
    go_wp2_with fail
    clear q0 q1 q2 q3 q4 q5 hw0 hrb
    refine (HRT.out _).mono ?_
    rintro e w1 ⟨rfl, b1⟩
    have K1 := Lib.hid (And.intro (K0.out.1.step b1) K0.out.2)
    clear b1
    go_wp2_with fail
    rw [HK.out]
    have e1 := H.out.2.1
    refine bodyPost_ret (v := .tuple #[.slice A n c, .int .i64 2]) ?_ rfl ⟨A, c, by rw [e1], ?_, K1.out.1.1⟩
    · simp [results, Try.results30, go_sem]
    · rw [e1]
      exact (H.out.1.below K1.out.1.1).mono (fun b _ hb => .inl hb)
namespace Cn
/-- All but the ones of an epoch. -/
def other (l : List Ver) (x : Nat) : List Ver := l.filter fun v => decide (v.e ≠ x)
theorem other_snoc {l : List Ver} {j x : Nat} {y : Ver} (hj : j < l.length) (hy : ix l j = y) : other (l.take (j + 1)) x = if y.e = x then other (l.take j) x else other (l.take j) x ++ [y] := by
  unfold other
  rw [List.take_succ_eq_append_getElem hj, List.filter_append]
  have : l[j] = y := by
    have := ix_some hj
    rw [List.getElem?_eq_getElem hj, hy] at this
    exact Option.some.inj this
  rw [this]
  by_cases h : y.e = x
  · rw [if_pos h]
    simp [h]
  · rw [if_neg h]
    simp [h]
theorem other_all {l : List Ver} {x : Nat} (h : ∀ i, i < l.length → (ix l i).e ≠ x) : other l x = l := by
  unfold other
  rw [List.filter_eq_self]
  intro v hv
  obtain ⟨i, hi, rfl⟩ := List.getElem_of_mem hv
  have h1 := h i hi
  have h2 := ix_some hi
  rw [List.getElem?_eq_getElem hi] at h2
  rw [Option.some.inj h2]
  exact decide_eq_true h1
theorem other_len (l : List Ver) (x : Nat) : (other l x).length ≤ l.length := List.length_filter_le _ _
theorem right_drop {l : List Ver} (hr : right l = true) (k : Nat) : right (l.drop k) = true := by
  rw [right_iff]
  intro i hi
  rw [List.length_drop] at hi
  have e : ∀ m, ix (l.drop k) m = ix l (k + m) := fun m => by
    unfold ix
    rw [List.getD_eq_getElem?_getD, List.getD_eq_getElem?_getD, List.getElem?_drop]
  refine ⟨?_, by rw [e]; exact ok_at hr (by omega)⟩
  unfold prev
  rw [e, e]
  by_cases h0 : i = 0
  · rw [if_pos h0]
    exact pos hr (by omega)
  · rw [if_neg h0]
    exact rising hr _ _ (by omega) (by omega)
theorem ix_drop (l : List Ver) (k m : Nat) : ix (l.drop k) m = ix l (k + m) := by
  unfold ix
  rw [List.getD_eq_getElem?_getD, List.getD_eq_getElem?_getD, List.getElem?_drop]
/-- What is garbage leaves all others. -/
theorem drop_other {l : List Ver} (hr : right l = true) {x f : Nat} (h : isAt l x f = true) : (drop l x f).1 = other l x := by
  unfold drop
  rw [if_pos h]
  unfold isAt at h
  rw [Bool.and_eq_true, Bool.and_eq_true] at h
  have h1 := of_decide_eq_true h.1
  have h2 := of_decide_eq_true h.2.1
  have hle := upto_le l x
  obtain ⟨k, hk⟩ : ∃ k, upto l x - 1 = k := ⟨_, rfl⟩
  rw [hk] at h2 ⊢
  have hkl : k < l.length := by omega
  show l.eraseIdx k = other l x
  have e : l = l.take k ++ ([ix l k] ++ l.drop (k + 1)) := by
    have h3 := List.take_append_drop k l
    rw [List.drop_eq_getElem_cons hkl] at h3
    have h4 := ix_some hkl
    rw [List.getElem?_eq_getElem hkl] at h4
    rw [Option.some.inj h4] at h3
    exact h3.symm
  have a1 : other (l.take k) x = l.take k := by
    refine other_all fun i hi => ?_
    rw [List.length_take] at hi
    have : ix (l.take k) i = ix l i := by
      unfold ix
      rw [List.getD_eq_getElem?_getD, List.getD_eq_getElem?_getD, List.getElem?_take_of_lt (by omega)]
    rw [this]
    have := rising hr k i (by omega) hkl
    omega
  have a2 : other (l.drop (k + 1)) x = l.drop (k + 1) := by
    refine other_all fun i hi => ?_
    rw [List.length_drop] at hi
    rw [ix_drop]
    have := rising hr (k + 1 + i) k (by omega) (by omega)
    omega
  rw [List.eraseIdx_eq_take_drop_succ]
  conv => rhs; rw [e]
  unfold other at a1 a2 ⊢
  rw [List.filter_append, List.filter_append, a1, a2]
  simp [h2]
theorem drop_fst_len (l : List Ver) (x f : Nat) : (drop l x f).1.length ≤ l.length := by
  unfold drop
  split
  · exact List.length_eraseIdx_le _ _
  · exact Nat.le_refl _
theorem drop_snd (l : List Ver) (x f : Nat) : (drop l x f).2 = isAt l x f := by
  unfold drop
  cases h : isAt l x f <;> rfl
end Cn
set_option maxRecDepth 100000 in
set_option maxHeartbeats 4000000 in
theorem refDrop_any (w : World) (F : Nat → Prop) (A : Option Addr) (n c : Nat) (l : List Cn.Ver) (x f : Nat) (h : Cells w F A n 6 (vrL l)) (hn : n ≤ 100000) (hr : Cn.right l = true) : Calls Try.prog 26 #[.slice A n c, .int .u64 (x : Int), .int .u64 (f : Int)] w (VrsP w F (Cn.drop l x f).1 (.bool (Cn.drop l x f).2)) := by
  have hln := vr_len h
  obtain ⟨i0, hi, hz0, hz1, hz2⟩ := info_parts Try.info46
  have HI := Lib.hid (And.intro hi (And.intro hz0 (And.intro hz1 hz2)))
  have HG := Lib.hid (refGarbage_any w F A n c l x f h (by omega) hr)
  have H := Lib.hid (And.intro h (And.intro hln hr))
  clear h hln hr hi hz0 hz1 hz2
  cases hg : Cn.isAt l x f with
  | false =>
    rw [hg] at HG
    have hd : Cn.drop l x f = (l, false) := by
      unfold Cn.drop
      rw [hg]
      rfl
    rw [hd]
    clear hd hg
    go_enter Try.func26, Try.ntmps26
    go_wp2_with fail
    refine HG.out.mono ?_
    rintro e w1 ⟨rfl, b1⟩
    have B1 := Lib.hid b1
    clear b1
    go_wp2_with fail
    have e1 := H.out.2.1
    refine bodyPost_ret (v := .tuple #[.slice A n c, .bool false]) ?_ rfl ⟨A, c, by rw [e1], ?_, B1.out⟩
    · simp [results, Try.results26, go_sem]
    · rw [e1]
      exact (H.out.1.below B1.out).mono (fun b _ hb => .inl hb)
  | true =>
    rw [hg] at HG
    have hd : Cn.drop l x f = (Cn.other l x, true) := by
      have h1 := Cn.drop_other H.out.2.2 hg
      have h2 := Cn.drop_snd l x f
      rw [hg] at h2
      rw [← h1, ← h2]
    rw [hd]
    clear hd hg
    go_enter Try.func26, Try.ntmps26
    go_wp2_with fail
    refine HG.out.mono ?_
    rintro e w1 ⟨rfl, b1⟩
    have B1 := Lib.hid b1
    clear b1
    go_wp2_with fail
    go_loopw [9, 8] (fun i o wr => ∃ (j : Nat) (A1 : Option Addr) (c1 : Nat), j ≤ n ∧ i = .int .i64 (j : Int) ∧ o = .slice A1 (Cn.other (l.take j) x).length c1 ∧ wr.ownsRow w.heap.size 46 6 (.slice A1 (Cn.other (l.take j) x).length c1) (Cn.other (l.take j) x).length (vrL (Cn.other (l.take j) x)) ∧ Below w.heap.size w wr) (fun i _ _ => n - (intOf i).toNat)
    case atStart => exact ⟨0, none, 0, Nat.zero_le _, rfl, rfl, own_nil _ _ _ _, B1.out⟩
    case round =>
      obtain ⟨j, A1, c1, hk, rfl, rfl, hown, hh⟩ := hrel
      by_cases hlt : j < n
      · have i2 : (0 : Int) ≤ (j : Int) := by omega
        have i3 : (j : Int) < (n : Int) := by omega
        have yhy := Cn.ix_some (l := l) (i := j) (by have := H.out.2.1; omega)
        obtain ⟨y, yeq⟩ : ∃ y, Cn.ix l j = y := ⟨_, rfl⟩
        rw [yeq] at yhy
        obtain ⟨b, off, rfl, -, yhbl, z0, z1, z2, z3, z4, z5⟩ := vr_cells H.out.1 yhy
        have y0 := (hh.cell (p := ⟨b, off + j * 6, none⟩) yhbl).trans z0
        have y1 := (hh.cell (p := ⟨b, off + j * 6 + 1, none⟩) yhbl).trans z1
        have y2 := (hh.cell (p := ⟨b, off + j * 6 + 2, none⟩) yhbl).trans z2
        have y3 := (hh.cell (p := ⟨b, off + j * 6 + 3, none⟩) yhbl).trans z3
        have y4 := (hh.cell (p := ⟨b, off + j * 6 + 4, none⟩) yhbl).trans z4
        have y5 := (hh.cell (p := ⟨b, off + j * 6 + 5, none⟩) yhbl).trans z5
        clear z0 z1 z2 z3 z4 z5
        have hsn := Cn.other_snoc (x := x) (l := l) (j := j) (by have := H.out.2.1; omega) yeq
        have hlo := Cn.other_len (l.take j) x
        rw [List.length_take] at hlo
        obtain ⟨L, hL⟩ : ∃ L, Cn.other (l.take j) x = L := ⟨_, rfl⟩
        rw [hL] at hsn hown hlo
        rw [hL]
        obtain ⟨m, hm⟩ : ∃ m, L.length = m := ⟨_, rfl⟩
        rw [hm] at hown hlo
        rw [hm]
        have hm2 : m ≤ 100000 := by omega
        by_cases hx : y.e = x
        · rw [if_pos hx] at hsn
          have x1 : ((y.e : Int) == (x : Int)) = true := by rw [hx]; simp
          have HK := Lib.hid (And.intro hsn (And.intro hown (And.intro hh hm)))
          clear hsn hown hh hx yhy yeq hL hk hlo hm
          go_wp2_with fail
          go_roundw
          case rel => exact ⟨j + 1, A1, c1, by omega, by go_num, by rw [HK.out.1, HK.out.2.2.2], by rw [HK.out.1, HK.out.2.2.2]; exact HK.out.2.1, HK.out.2.2.1⟩
          case measure => simp [intOf]; omega
        · rw [if_neg hx] at hsn
          have x1 : ((y.e : Int) == (x : Int)) = false := beq_eq_false_iff_ne.mpr (by omega)
          have HK := Lib.hid (And.intro hsn (And.intro hown (And.intro hh hm)))
          clear hsn hown hh hx yhy yeq hL hk hlo hm
          go_wp2_with (at_builtin; refine wpList_append_lies _ rfl _ _ 25 rfl w.heap.size 46 i0 _ 6 48 Try.underlying25 HI.out.1 HI.out.2.1 HI.out.2.2.1 HI.out.2.2.2 rfl (by decide) _ m _ rfl (HK.out.2.1.alloc _) _ 1 _ (verC y) rfl rfl (ver_new _ _ y _ rfl) (by intro u hu; exact vrL_one [y] u (by simpa [vrL] using hu)) (by decide) (by unfold maxLen; omega) (by omega) (by have := HK.out.2.2.1.size; simp; omega) _ rfl ?_; intro g c3 w3 hown3 hg3 hg4 hg5; have HW := Lib.hid (And.intro hown3 hg3); clear hown3 hg3 hg4 hg5)
          go_roundw
          case rel =>
            refine ⟨j + 1, some ⟨g, 0, none⟩, c3, by omega, by go_num, ?_, ?_, grow_below HK.out.2.2.1 HW.out.2 (fun b hb => (HK.out.2.1.lt b hb).1)⟩
            · rw [HK.out.1, List.length_append, HK.out.2.2.2]; rfl
            · rw [HK.out.1, List.length_append, HK.out.2.2.2, show vrL (L ++ [y]) = vrL L ++ verC y by simp [vrL]]
              exact HW.out.1
          case measure => simp [intOf]; omega
      · obtain rfl : j = n := by omega
        rw [List.take_of_length_le (by rw [H.out.2.1]; exact Nat.le_refl _)] at hown
        rw [List.take_of_length_le (by rw [H.out.2.1]; exact Nat.le_refl _)]
        have HK := Lib.hid (And.intro hown hh)
        clear hown hh hk hlt
        go_wp2_with fail
        refine bodyPost_ret (v := .tuple #[.slice A1 (Cn.other l x).length c1, .bool true]) ?_ rfl ⟨A1, c1, rfl, ?_, HK.out.2⟩
        · simp [results, Try.results26, go_sem]
        · exact (Cells.of_own HK.out.1).mono (fun b _ hb => .inr hb)
end Go.Proofs.Yteegnehfagkjcaa
