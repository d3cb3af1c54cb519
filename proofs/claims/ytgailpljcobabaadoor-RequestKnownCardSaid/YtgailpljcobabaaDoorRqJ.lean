/- Layer 9's reference: Right. -/
import Derived.Test.YtgailpljcobabaaDoorRqI
namespace Go.Proofs.YtgailpljcobabaaDoor
open Go.ChangeShapes Go.WideShapes Go.ChangeAt Go.RowKit

namespace Rq
theorem V.right_other (x : V) : x.right = (isK x.k && decide (x.pg ≤ 64) && eqb x.keep x && !(decide (x.k = 2 ∨ x.k = 3 ∨ x.k = 5) && decide (x.du = 0)) && (!hasW x.k || x.which)) := by
  have hbare : x.bare = eqb x.keep x := by
    rw [Bool.eq_iff_iff, V.bare_keep, eqb_iff]
  unfold V.right
  rw [hbare]
  have hd : isK x.k = true → x.durOk = !(decide (x.k = 2 ∨ x.k = 3 ∨ x.k = 5) && decide (x.du = 0)) := fun hK => by
    have hh : 1 ≤ x.k ∧ x.k ≤ 8 := of_decide_eq_true hK
    unfold V.durOk hasD
    by_cases h1 : x.du = 0
    · by_cases h2 : x.k = 2 ∨ x.k = 3 ∨ x.k = 5
      · rw [decide_eq_true h1, decide_eq_true h2, decide_eq_false (show ¬ 0 < x.du by omega), decide_eq_false (show ¬ x.k = 6 by omega), decide_eq_true (show x.k = 2 ∨ x.k = 3 ∨ x.k = 5 ∨ x.k = 6 by omega)]; rfl
      · rw [decide_eq_true h1, decide_eq_false h2, decide_eq_false (show ¬ 0 < x.du by omega)]
        by_cases h6 : x.k = 6
        · rw [decide_eq_true h6]; rfl
        · rw [decide_eq_false h6, decide_eq_false (show ¬ (x.k = 2 ∨ x.k = 3 ∨ x.k = 5 ∨ x.k = 6) by omega)]; rfl
    · rw [decide_eq_false h1, decide_eq_true (show 0 < x.du by omega), Bool.and_false]; rfl
  cases hK : isK x.k
  · rfl
  · rw [hd hK]
    unfold V.panesOk
    cases decide (x.pg ≤ 64) <;> cases (eqb x.keep x) <;> cases (decide (x.k = 2 ∨ x.k = 3 ∨ x.k = 5) && decide (x.du = 0)) <;> cases (!hasW x.k || x.which) <;> rfl
end Rq
set_option maxRecDepth 100000 in
set_option maxHeartbeats 8000000 in
theorem refRight9_any (x : Rq.V) (w : World) : Calls Tryd.prog 15 #[x.val] w fun e w' => e = .returned (.bool x.right) ∧ Below w.heap.size w w' := by
  have S0 := (Held.start w).new x.cells 33
  have RC : Hid (∀ W, Held w W [(w.heap.size, 33, x.cells)] → ReqCells W w.heap.size x) := Lib.hid fun W hW => (req_cells hW.top).1
  have CO : Hid (∀ W, Calls Tryd.prog 36 #[x.val] W fun e w' => e = .returned x.keep.val ∧ Below W.heap.size W w') := Lib.hid fun W => refOnly_any x W
  have CW : Hid (∀ W, Calls Tryd.prog 37 #[x.val] W fun e w' => e = .returned (.bool x.which) ∧ Below W.heap.size W w') := Lib.hid fun W => refWhich_any x W
  have QE : Hid (∀ W, (Op.equalIn 10000 33 (.agg x.keep.cells) (.agg x.cells)).run Tryd.prog W = .ok (Rq.eqb x.keep x) W) := Lib.hid fun W => rreq_equal x.keep x W
  have hg := rreq_guard
  have HS := Lib.hid S0
  obtain ⟨r0, r1, r2, r3, r4, r5, r6, r7, r8, r9, r10⟩ := RC.out _ S0
  clear S0
  obtain ⟨r, hr⟩ : ∃ r, x.right = r := ⟨_, rfl⟩
  rw [hr]
  rw [Rq.V.right_other] at hr
  obtain ⟨y, hy⟩ : ∃ y, x.keep = y := ⟨_, rfl⟩
  obtain ⟨b, hb⟩ : ∃ b, Rq.eqb x.keep x = b := ⟨_, rfl⟩
  obtain ⟨wh, hwh⟩ : ∃ b, x.which = b := ⟨_, rfl⟩
  rw [hb] at QE hr
  rw [hy] at CO QE
  rw [hwh] at CW hr
  clear hy hb hwh
  obtain ⟨k, id, pg, du, a, l, s, ky, to, lo, hi⟩ := x
  obtain ⟨k', id', pg', du', a', l', s', ky', to', lo', hi'⟩ := y
  unfold Rq.V.val ReqCells at *
  unfold Rq.V.cells at *
  dsimp only at *
  obtain ⟨W0, hW0⟩ : ∃ W, w.alloc (.cells #[.int .u8 (k : Int), .int .u32 (id : Int), .int .u8 (pg : Int), .int .u16 (du : Int), .int .u64 (a : Int), .int .u64 (l : Int), .int .u8 (s : Int), .string ky, .string to, .int .i64 lo, .int .i64 hi] 33) = W := ⟨_, rfl⟩
  rw [hW0] at HS r0 r1 r2 r3 r4 r5 r6 r7 r8 r9 r10
  by_cases k1 : k < 1
  · obtain rfl : k = 0 := by omega
    rw [show Rq.isK 0 = false from rfl] at hr
    obtain rfl : false = r := hr
    go_enter Tryd.func15, Tryd.ntmps15
    go_wp2_with fail
    go_quiet (fail)
    go_wp2_with fail
    go_ret
    have hd := HS.out.drewN
    rw [← hW0] at hd
    exact ⟨rfl, (hd _).1⟩
  have a1 : ¬ (k : Int) < 1 := by omega
  have a2 : decide ((k : Int) < 1) = false := decide_eq_false a1
  by_cases k8 : 8 < k
  · have a3 : (8 : Int) < k := by omega
    have a4 : decide ((8 : Int) < k) = true := decide_eq_true a3
    rw [show Rq.isK k = false from decide_eq_false (by omega)] at hr
    obtain rfl : false = r := hr
    go_enter Tryd.func15, Tryd.ntmps15
    go_wp2_with fail
    go_quiet (fail)
    go_wp2_with fail
    go_ret
    exact ⟨rfl, (HS.out.drewN _).1⟩
  have a3 : ¬ (8 : Int) < k := by omega
  have a4 : decide ((8 : Int) < k) = false := decide_eq_false a3
  have hK : Rq.isK k = true := decide_eq_true (by omega)
  by_cases p64 : pg ≤ 64
  rotate_left
  · have a5 : (64 : Int) < pg := by omega
    have a6 : decide ((64 : Int) < pg) = true := decide_eq_true a5
    rw [hK, decide_eq_false p64] at hr
    obtain rfl : false = r := hr
    go_enter Tryd.func15, Tryd.ntmps15
    go_wp2_with fail
    go_quiet (fail)
    go_wp2_with fail
    go_ret
    exact ⟨rfl, (HS.out.drewN _).1⟩
  have a5 : ¬ (64 : Int) < pg := by omega
  have a6 : decide ((64 : Int) < pg) = false := decide_eq_false a5
  rw [hK, decide_eq_true p64, Bool.true_and, Bool.true_and] at hr
  cases b
  · rw [Bool.false_and, Bool.false_and] at hr
    subst hr
    have q := QE.out
    go_enter Tryd.func15, Tryd.ntmps15
    go_wp2_with fail
    clear hW0
    have D0 := Lib.hid (HS.out.step (Below.refl _ W0).drew)
    go_region_held3 (fun W => W.cell? ⟨w.heap.size, 0, none⟩ = some (.int .u8 (k : Int)) ∧ W.cell? ⟨w.heap.size, 1, none⟩ = some (.int .u32 (id : Int)) ∧ W.cell? ⟨w.heap.size, 2, none⟩ = some (.int .u8 (pg : Int)) ∧ W.cell? ⟨w.heap.size, 3, none⟩ = some (.int .u16 (du : Int)) ∧ W.cell? ⟨w.heap.size, 4, none⟩ = some (.int .u64 (a : Int)) ∧ W.cell? ⟨w.heap.size, 5, none⟩ = some (.int .u64 (l : Int)) ∧ W.cell? ⟨w.heap.size, 6, none⟩ = some (.int .u8 (s : Int)) ∧ W.cell? ⟨w.heap.size, 7, none⟩ = some (.string ky) ∧ W.cell? ⟨w.heap.size, 8, none⟩ = some (.string to) ∧ W.cell? ⟨w.heap.size, 9, none⟩ = some (.int .i64 lo) ∧ W.cell? ⟨w.heap.size, 10, none⟩ = some (.int .i64 hi)) (first | with_reducible exact RC.out _ D0.out | with_reducible exact RC.out _ D1.out) (first | (go_at_call 36; (with_reducible refine (CO.out _).mono ?_); rintro e w1 ⟨rfl, b1⟩; have D1 := Lib.hid (D0.out.step b1); clear b1))
    go_wp2_with fail
    go_ret
    exact ⟨rfl, D1.out.1⟩
  rw [Bool.true_and] at hr
  have q := QE.out
  go_enter Tryd.func15, Tryd.ntmps15
  go_wp2_with fail
  clear hW0
  have D0 := Lib.hid (HS.out.step (Below.refl _ W0).drew)
  go_region_held3 (fun W => W.cell? ⟨w.heap.size, 0, none⟩ = some (.int .u8 (k : Int)) ∧ W.cell? ⟨w.heap.size, 1, none⟩ = some (.int .u32 (id : Int)) ∧ W.cell? ⟨w.heap.size, 2, none⟩ = some (.int .u8 (pg : Int)) ∧ W.cell? ⟨w.heap.size, 3, none⟩ = some (.int .u16 (du : Int)) ∧ W.cell? ⟨w.heap.size, 4, none⟩ = some (.int .u64 (a : Int)) ∧ W.cell? ⟨w.heap.size, 5, none⟩ = some (.int .u64 (l : Int)) ∧ W.cell? ⟨w.heap.size, 6, none⟩ = some (.int .u8 (s : Int)) ∧ W.cell? ⟨w.heap.size, 7, none⟩ = some (.string ky) ∧ W.cell? ⟨w.heap.size, 8, none⟩ = some (.string to) ∧ W.cell? ⟨w.heap.size, 9, none⟩ = some (.int .i64 lo) ∧ W.cell? ⟨w.heap.size, 10, none⟩ = some (.int .i64 hi)) (first | with_reducible exact RC.out _ D0.out | with_reducible exact RC.out _ D1.out) (first | (go_at_call 36; (with_reducible refine (CO.out _).mono ?_); rintro e w1 ⟨rfl, b1⟩; have D1 := Lib.hid (D0.out.step b1); clear b1))
  clear r0 r1 r2 r3 r4 r5 r6 r7 r8 r9 r10 q hg
  obtain ⟨r0, r1, r2, r3, r4, r5, r6, r7, r8, r9, r10⟩ := RC.out _ D1.out
  rcases Rq.isK_cases hK with rfl | rfl | rfl | rfl | rfl | rfl | rfl | rfl
  · clear hK a1 a2 a3 a4
    obtain rfl : wh = r := hr
    go_wp2_with fail
    refine (CW.out _).mono ?_
    rintro e w2 ⟨rfl, b2⟩
    have D2 := Lib.hid (D1.out.step b2)
    clear b2
    go_wp2_with fail
    go_ret
    exact ⟨rfl, D2.out.1⟩
  · clear hK a1 a2 a3 a4
    by_cases hd : du = 0
    · subst hd
      obtain rfl : false = r := hr
      go_wp2_with fail
      go_ret
      exact ⟨rfl, D1.out.1⟩
    rw [decide_eq_false hd] at hr
    have b1 : ¬ (du : Int) = 0 := by omega
    have b2 : ((du : Int) == 0) = false := beq_eq_false_iff_ne.2 b1
    obtain rfl : true = r := hr
    go_wp2_with fail
    go_ret
    exact ⟨rfl, D1.out.1⟩
  · clear hK a1 a2 a3 a4
    by_cases hd : du = 0
    · subst hd
      obtain rfl : false = r := hr
      go_wp2_with fail
      go_ret
      exact ⟨rfl, D1.out.1⟩
    rw [decide_eq_false hd] at hr
    have b1 : ¬ (du : Int) = 0 := by omega
    have b2 : ((du : Int) == 0) = false := beq_eq_false_iff_ne.2 b1
    obtain rfl : true = r := hr
    go_wp2_with fail
    go_ret
    exact ⟨rfl, D1.out.1⟩
  · clear hK a1 a2 a3 a4
    obtain rfl : true = r := hr
    go_wp2_with fail
    go_ret
    exact ⟨rfl, D1.out.1⟩
  · clear hK a1 a2 a3 a4
    by_cases hd : du = 0
    · subst hd
      obtain rfl : false = r := hr
      go_wp2_with fail
      go_ret
      exact ⟨rfl, D1.out.1⟩
    rw [decide_eq_false hd] at hr
    have b1 : ¬ (du : Int) = 0 := by omega
    have b2 : ((du : Int) == 0) = false := beq_eq_false_iff_ne.2 b1
    obtain rfl : wh = r := hr
    go_wp2_with fail
    refine (CW.out _).mono ?_
    rintro e w2 ⟨rfl, b2⟩
    have D2 := Lib.hid (D1.out.step b2)
    clear b2
    go_wp2_with fail
    go_ret
    exact ⟨rfl, D2.out.1⟩
  · clear hK a1 a2 a3 a4
    obtain rfl : true = r := hr
    go_wp2_with fail
    go_ret
    exact ⟨rfl, D1.out.1⟩
  · clear hK a1 a2 a3 a4
    obtain rfl : true = r := hr
    go_wp2_with fail
    go_ret
    exact ⟨rfl, D1.out.1⟩
  · clear hK a1 a2 a3 a4
    obtain rfl : true = r := hr
    go_wp2_with fail
    go_ret
    exact ⟨rfl, D1.out.1⟩
end Go.Proofs.YtgailpljcobabaaDoor
