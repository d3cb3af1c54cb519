/- Layer 9, the program: when a request is right. -/
import Derived.Test.YtgailpljcobabaaDoorRqD
namespace Go.Proofs.YtgailpljcobabaaDoor
open Go.ChangeShapes Go.WideShapes Go.ChangeAt Go.RowKit

theorem text_empty {k : ByteArray} (h : k.size = 0) : k = ⟨#[]⟩ := ByteArray.ext (Array.eq_empty_of_size_eq_zero h)
theorem text_some {k : ByteArray} (h0 : ¬ k.size = 0) : (¬ k.toList = []) ∧ k.toList.isEmpty = false := by
  have q1 : ¬ k.toList = [] := by
    intro h
    rw [ByteArray.toList_eq] at h
    exact h0 (by rw [show k.size = k.data.toList.length from by simp, h]; rfl)
  refine ⟨q1, ?_⟩
  rw [Bool.eq_false_iff]
  intro h
  exact q1 (List.isEmpty_iff.1 h)
set_option maxRecDepth 100000 in
set_option maxHeartbeats 2000000 in
theorem durFits_any (x : Rq.V) (w : World) (hV : Vars w) (hk : x.k < 256) :
    Calls Tryd.prog 33 #[x.val] w fun e w' => e = .returned (.bool x.durOk) ∧ Below w.heap.size w w' := by
  have S0 := (Held.start w).new x.cells 26
  have HH := Lib.hid (has_any x.k 68 _ (hV.next S0.1) hk (by omega))
  rw [Rq.has_D] at HH
  have HB := Lib.hid S0.1
  clear S0 hV
  by_cases h1 : 0 < x.du
  · have e1 : x.durOk = true := by unfold Rq.V.durOk; rw [decide_eq_true h1]; rfl
    rw [e1]
    obtain ⟨k, id, pg, du, a, l, s, ky, to, lo, hi⟩ := x
    unfold Rq.V.val Rq.V.cells at *
    dsimp only at *
    have i1 : (0 : Int) < du := by omega
    have i2 : decide ((0 : Int) < du) = true := decide_eq_true i1
    go_enter Tryd.func33, Tryd.ntmps33
    go_wp2_with fail
    go_ret
    exact ⟨rfl, HB.out⟩
  · by_cases h2 : x.k = 6
    · have e1 : x.durOk = true := by unfold Rq.V.durOk; rw [decide_eq_true h2, Bool.or_true]; rfl
      rw [e1]
      obtain ⟨k, id, pg, du, a, l, s, ky, to, lo, hi⟩ := x
      unfold Rq.V.val Rq.V.cells at *
      dsimp only at *
      obtain rfl : du = 0 := by omega
      subst h2
      go_enter Tryd.func33, Tryd.ntmps33
      go_wp2_with fail
      go_ret
      exact ⟨rfl, HB.out⟩
    · have e1 : x.durOk = !Rq.hasD x.k := by unfold Rq.V.durOk; rw [decide_eq_false h1, decide_eq_false h2]; rfl
      rw [e1]
      obtain ⟨k, id, pg, du, a, l, s, ky, to, lo, hi⟩ := x
      unfold Rq.V.val Rq.V.cells at *
      dsimp only at *
      obtain rfl : du = 0 := by omega
      have i1 : ¬ (k : Int) = 6 := by omega
      have i2 : ((k : Int) == 6) = false := beq_eq_false_iff_ne.2 i1
      obtain ⟨b, hb⟩ : ∃ b, Rq.hasD k = b := ⟨_, rfl⟩
      rw [hb] at HH ⊢
      clear hb e1
      go_enter Tryd.func33, Tryd.ntmps33
      go_wp2_with fail
      refine HH.out.mono ?_
      rintro e w1 ⟨rfl, rfl⟩
      go_wp2_with fail
      go_ret
      exact ⟨rfl, HB.out⟩
set_option maxRecDepth 100000 in
set_option maxHeartbeats 4000000 in
theorem panesFit_any (x : Rq.V) (w : World) (hV : Vars w) (hk : x.k < 256) :
    Calls Tryd.prog 34 #[x.val] w fun e w' => e = .returned (.bool x.panesOk) ∧ Below w.heap.size w w' := by
  have S0 := (Held.start w).new x.cells 26
  have HH := Lib.hid (has_any x.k 87 _ (hV.next S0.1) hk (by omega))
  rw [Rq.has_W] at HH
  have HB := Lib.hid S0.1
  obtain ⟨r0, r1, r2, r3, r4, r5, r6, r7, r8, r9, r10⟩ := (req_cells S0.top).1
  clear S0 hV
  obtain ⟨r, hr⟩ : ∃ r, x.panesOk = r := ⟨_, rfl⟩
  rw [hr]
  unfold Rq.V.panesOk Rq.V.which at hr
  obtain ⟨k, id, pg, du, a, l, s, ky, to, lo, hi⟩ := x
  unfold Rq.V.val Rq.V.cells at *
  dsimp only at *
  go_enter Tryd.func34, Tryd.ntmps34
  go_wp2_with fail
  refine HH.out.mono ?_
  rintro e w1 ⟨rfl, rfl⟩
  clear HH
  cases hW : Rq.hasW k
  · rw [hW] at hr
    obtain rfl : true = r := hr
    clear hW
    go_wp2_with fail
    go_ret
    exact ⟨rfl, HB.out⟩
  rw [hW, Bool.not_true, Bool.false_or] at hr
  clear hW
  by_cases h1 : s = 1
  · rw [if_pos h1] at hr
    subst h1
    by_cases c0 : ky.size = 0
    · rw [decide_eq_false (by omega)] at hr
      obtain rfl : false = r := hr
      obtain rfl := text_empty c0
      go_wp2_with fail
      go_ret
      exact ⟨rfl, HB.out⟩
    obtain ⟨n0, m0⟩ := text_some c0
    by_cases c1 : ky.size ≤ 32
    rotate_left
    · rw [decide_eq_false (by omega)] at hr
      obtain rfl : false = r := hr
      have d1 : decide ((ky.size : Int) ≤ 32) = false := decide_eq_false (by omega)
      have d2 : ¬ ((ky.size : Int) ≤ 32) := by omega
      go_wp2_with fail
      go_ret
      exact ⟨rfl, HB.out⟩
    have n1 : decide ((ky.size : Int) ≤ 32) = true := decide_eq_true (by omega)
    have m1 : (ky.size : Int) ≤ 32 := by omega
    by_cases c2 : to.size = 0
    rotate_left
    · rw [decide_eq_false (by omega)] at hr
      obtain rfl : false = r := hr
      obtain ⟨d1, d2⟩ := text_some c2
      go_wp2_with fail
      go_ret
      exact ⟨rfl, HB.out⟩
    obtain rfl := text_empty c2
    by_cases c3 : hi = 0
    rotate_left
    · rw [decide_eq_false (by omega)] at hr
      obtain rfl : false = r := hr
      have d1 : (hi == 0) = false := beq_eq_false_iff_ne.2 c3
      have d2 : decide (hi = 0) = false := decide_eq_false c3
      go_wp2_with fail
      go_ret
      exact ⟨rfl, HB.out⟩
    subst c3
    rw [decide_eq_true (by refine ⟨by omega, by omega, rfl, rfl⟩)] at hr
    obtain rfl : true = r := hr
    go_wp2_with fail
    go_ret
    exact ⟨rfl, HB.out⟩
  rw [if_neg h1] at hr
  have j1 : ¬ (s : Int) = 1 := by omega
  have j2 : ((s : Int) == 1) = false := beq_eq_false_iff_ne.2 j1
  by_cases h2 : s = 2
  · rw [if_pos h2] at hr
    subst h2
    by_cases c0 : ky.size ≤ 32
    rotate_left
    · rw [decide_eq_false (by omega)] at hr
      obtain rfl : false = r := hr
      have d1 : decide ((ky.size : Int) ≤ 32) = false := decide_eq_false (by omega)
      have d2 : ¬ ((ky.size : Int) ≤ 32) := by omega
      go_wp2_with fail
      go_ret
      exact ⟨rfl, HB.out⟩
    have n0 : decide ((ky.size : Int) ≤ 32) = true := decide_eq_true (by omega)
    have m0 : (ky.size : Int) ≤ 32 := by omega
    by_cases c1 : to.size ≤ 32
    rotate_left
    · rw [decide_eq_false (by omega)] at hr
      obtain rfl : false = r := hr
      have d1 : decide ((to.size : Int) ≤ 32) = false := decide_eq_false (by omega)
      have d2 : ¬ ((to.size : Int) ≤ 32) := by omega
      go_wp2_with fail
      go_ret
      exact ⟨rfl, HB.out⟩
    have n1 : decide ((to.size : Int) ≤ 32) = true := decide_eq_true (by omega)
    have m1 : (to.size : Int) ≤ 32 := by omega
    by_cases c2 : lo = 0
    rotate_left
    · rw [decide_eq_false (by omega)] at hr
      obtain rfl : false = r := hr
      have d1 : (lo == 0) = false := beq_eq_false_iff_ne.2 c2
      have d2 : decide (lo = 0) = false := decide_eq_false c2
      go_wp2_with fail
      go_ret
      exact ⟨rfl, HB.out⟩
    subst c2
    by_cases c3 : hi = 0
    rotate_left
    · rw [decide_eq_false (by omega)] at hr
      obtain rfl : false = r := hr
      have d1 : (hi == 0) = false := beq_eq_false_iff_ne.2 c3
      have d2 : decide (hi = 0) = false := decide_eq_false c3
      go_wp2_with fail
      go_ret
      exact ⟨rfl, HB.out⟩
    subst c3
    rw [decide_eq_true (by refine ⟨by omega, by omega, rfl, rfl⟩)] at hr
    obtain rfl : true = r := hr
    go_wp2_with fail
    go_ret
    exact ⟨rfl, HB.out⟩
  rw [if_neg h2] at hr
  have j3 : ¬ (s : Int) = 2 := by omega
  have j4 : ((s : Int) == 2) = false := beq_eq_false_iff_ne.2 j3
  by_cases h3 : s = 3
  · rw [if_pos h3] at hr
    subst h3
    by_cases c0 : ky.size = 0
    rotate_left
    · rw [decide_eq_false (by omega)] at hr
      obtain rfl : false = r := hr
      obtain ⟨d1, d2⟩ := text_some c0
      go_wp2_with fail
      go_ret
      exact ⟨rfl, HB.out⟩
    obtain rfl := text_empty c0
    by_cases c1 : to.size = 0
    rotate_left
    · rw [decide_eq_false (by omega)] at hr
      obtain rfl : false = r := hr
      obtain ⟨d1, d2⟩ := text_some c1
      go_wp2_with fail
      go_ret
      exact ⟨rfl, HB.out⟩
    obtain rfl := text_empty c1
    rw [decide_eq_true (by exact ⟨rfl, rfl⟩)] at hr
    obtain rfl : true = r := hr
    go_wp2_with fail
    go_ret
    exact ⟨rfl, HB.out⟩
  rw [if_neg h3] at hr
  subst hr
  have j5 : ¬ (s : Int) = 3 := by omega
  have j6 : ((s : Int) == 3) = false := beq_eq_false_iff_ne.2 j5
  go_wp2_with fail
  go_ret
  exact ⟨rfl, HB.out⟩
set_option maxRecDepth 100000 in
set_option maxHeartbeats 4000000 in
theorem pRight9_any (x : Rq.V) (w : World) (hV : Vars w) (hk : x.k < 256) :
    Calls Tryd.prog 14 #[x.val] w fun e w' => e = .returned (.bool x.right) ∧ Below w.heap.size w w' := by
  have S0 := (Held.start w).new x.cells 26
  have RC : Hid (∀ W, Held w W [(w.heap.size, 26, x.cells)] → ReqCells W w.heap.size x) := Lib.hid fun W hW => (req_cells hW.top).1
  have HK := Lib.hid (isKind_any x.k (w.alloc (.cells x.cells 26)) hk)
  have HD : Hid (∀ W, Held w W [(w.heap.size, 26, x.cells)] → Calls Tryd.prog 33 #[x.val] W fun e w' => e = .returned (.bool x.durOk) ∧ Below W.heap.size W w') := Lib.hid fun W hW => durFits_any x W (hV.next hW.1) hk
  have HP : Hid (∀ W, Held w W [(w.heap.size, 26, x.cells)] → Calls Tryd.prog 34 #[x.val] W fun e w' => e = .returned (.bool x.panesOk) ∧ Below W.heap.size W w') := Lib.hid fun W hW => panesFit_any x W (hV.next hW.1) hk
  have HN : Hid (∀ W, Held w W [(w.heap.size, 26, x.cells)] → Calls Tryd.prog 35 #[x.val] W fun e w' => e = .returned (.bool x.bare) ∧ Below W.heap.size W w') := Lib.hid fun W hW => hasNoOther_any x W (hV.next hW.1) hk
  obtain ⟨r, hr⟩ : ∃ r, x.right = r := ⟨_, rfl⟩
  rw [hr]
  unfold Rq.V.right at hr
  obtain ⟨b1, h1⟩ : ∃ b, Rq.isK x.k = b := ⟨_, rfl⟩
  obtain ⟨b3, h3⟩ : ∃ b, x.durOk = b := ⟨_, rfl⟩
  obtain ⟨b4, h4⟩ : ∃ b, x.panesOk = b := ⟨_, rfl⟩
  obtain ⟨b5, h5⟩ : ∃ b, x.bare = b := ⟨_, rfl⟩
  rw [h1] at HK hr
  rw [h3] at HD hr
  rw [h4] at HP hr
  rw [h5] at HN hr
  clear h1 h3 h4 h5 hV
  have HS := Lib.hid S0
  obtain ⟨r0, r1, r2, r3, r4, r5, r6, r7, r8, r9, r10⟩ := RC.out _ S0
  clear S0
  obtain ⟨k, id, pg, du, a, l, s, ky, to, lo, hi⟩ := x
  unfold Rq.V.val ReqCells at *
  unfold Rq.V.cells at *
  dsimp only at *
  cases b1
  · rw [Bool.false_and, Bool.false_and, Bool.false_and, Bool.false_and] at hr
    subst hr
    go_enter Tryd.func14, Tryd.ntmps14
    go_wp2_with fail
    refine HK.out.mono ?_
    rintro e w1 ⟨rfl, rfl⟩
    go_wp2_with fail
    go_ret
    exact ⟨rfl, HS.out.1⟩
  by_cases hp : pg ≤ 64
  rotate_left
  · rw [decide_eq_false hp, Bool.and_false, Bool.false_and, Bool.false_and, Bool.false_and] at hr
    subst hr
    have d1 : ¬ (pg : Int) ≤ 64 := by omega
    have d2 : decide ((pg : Int) ≤ 64) = false := decide_eq_false d1
    go_enter Tryd.func14, Tryd.ntmps14
    go_wp2_with fail
    refine HK.out.mono ?_
    rintro e w1 ⟨rfl, rfl⟩
    go_wp2_with fail
    go_ret
    exact ⟨rfl, HS.out.1⟩
  have d1 : (pg : Int) ≤ 64 := by omega
  have d2 : decide ((pg : Int) ≤ 64) = true := decide_eq_true d1
  rw [decide_eq_true hp, Bool.true_and, Bool.true_and] at hr
  go_enter Tryd.func14, Tryd.ntmps14
  go_wp2_with fail
  refine HK.out.mono ?_
  rintro e w1 ⟨rfl, rfl⟩
  go_wp2_with fail
  refine (HD.out _ HS.out).mono ?_
  rintro e w2 ⟨rfl, p2⟩
  have S2 := HS.out.step p2
  clear r0 r1 r2 r3 r4 r5 r6 r7 r8 r9 r10
  obtain ⟨r0, r1, r2, r3, r4, r5, r6, r7, r8, r9, r10⟩ := RC.out _ S2
  have H2 := Lib.hid S2
  clear p2 S2
  cases b3
  · rw [Bool.false_and, Bool.false_and] at hr
    subst hr
    go_wp2_with fail
    go_ret
    exact ⟨rfl, H2.out.1⟩
  go_wp2_with fail
  refine (HP.out _ H2.out).mono ?_
  rintro e w3 ⟨rfl, p3⟩
  have S3 := H2.out.step p3
  clear r0 r1 r2 r3 r4 r5 r6 r7 r8 r9 r10
  obtain ⟨r0, r1, r2, r3, r4, r5, r6, r7, r8, r9, r10⟩ := RC.out _ S3
  have H3 := Lib.hid S3
  clear p3 S3
  rw [Bool.true_and] at hr
  cases b4
  · rw [Bool.false_and] at hr
    subst hr
    go_wp2_with fail
    go_ret
    exact ⟨rfl, H3.out.1⟩
  rw [Bool.true_and] at hr
  subst hr
  go_wp2_with fail
  refine (HN.out _ H3.out).mono ?_
  rintro e w4 ⟨rfl, p4⟩
  have H4 := Lib.hid (H3.out.step p4)
  clear p4
  go_wp2_with fail
  go_ret
  exact ⟨rfl, H4.out.1⟩
end Go.Proofs.YtgailpljcobabaaDoor
