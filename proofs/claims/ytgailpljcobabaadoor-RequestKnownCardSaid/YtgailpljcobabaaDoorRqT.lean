/- Layer 9's reference: Parse. Made by tools/gen/rqt.py. -/
import Derived.Test.YtgailpljcobabaaDoorRqRa
import Derived.Test.YtgailpljcobabaaDoorRqRb
import Derived.Test.YtgailpljcobabaaDoorRqRc
import Derived.Test.YtgailpljcobabaaDoorRqRd
namespace Go.Proofs.YtgailpljcobabaaDoor
open Go.ChangeShapes Go.WideShapes Go.ChangeAt Go.RowKit

theorem rq_kind0 : Rq.vl (([] : List Nat), false) 1 = 0 := rfl
theorem rq_kind (y : Nat) (l : List Nat) : Rq.vl (y :: l, false) 1 = y := by
  unfold Rq.vl
  dsimp only
  rw [Pk.taken_no (Pk.fails_no (by simp))]
  simp [Pk.num]
set_option maxRecDepth 100000 in
set_option maxHeartbeats 4000000 in
theorem refParse9_bad (n c B y : Nat) (A : Option Addr) (b : List Nat) (w : World) (hb : Bytes w B A n b) (hB : B ≤ w.heap.size) (h0 : 0 < n) (hy : b.getD 0 0 = y) (hne : y = 0 ∨ 8 < y) (hpse : Rq.pse b = 80) : Calls Tryd.prog 20 #[.slice A n c] w (PsP w b) := by
  obtain ⟨W1, hW1⟩ : ∃ W, w.alloc (.cells #[.int .u8 0, .int .u32 0, .int .u8 0, .int .u16 0, .int .u64 0, .int .u64 0, .int .u8 0, .string ⟨#[]⟩, .string ⟨#[]⟩, .int .i64 0, .int .i64 0] 33) = W := ⟨_, rfl⟩
  have B1 : Below w.heap.size w W1 := by
    rw [← hW1]
    exact (Below.refl _ _).alloc (Nat.le_refl _) _
  have K1 : Blk W1 w.heap.size 33 #[.int .u8 0, .int .u32 0, .int .u8 0, .int .u16 0, .int .u64 0, .int .u64 0, .int .u8 0, .string ⟨#[]⟩, .string ⟨#[]⟩, .int .i64 0, .int .i64 0] := by
    rw [← hW1]
    exact Blk.new w _ _
  obtain ⟨bb, off, rfl, hbb, hc⟩ := hb.2.2 h0
  have hc0 := hc 0 h0
  rw [Nat.add_zero, hy] at hc0
  have d0 : W1.cell? ⟨bb, off, none⟩ = some (.int .u8 (y : Int)) := (B1.cell (p := ⟨bb, off, none⟩) (by show bb < w.heap.size; omega)).trans hc0
  have i1 : (0 : Int) < n := by omega
  have HB := Lib.hid B1
  have HP := Lib.hid hpse
  clear hb hB h0 hc hc0 hy hbb hpse B1
  rcases hne with rfl | h8
  · skip
    go_enter Tryd.func20, Tryd.ntmps20
    have p0 := K1.cell 0
    have q0 := K1.frozen 0
    have p1 := K1.cell 1
    have q1 := K1.frozen 1
    have p2 := K1.cell 2
    have q2 := K1.frozen 2
    have p3 := K1.cell 3
    have q3 := K1.frozen 3
    have p4 := K1.cell 4
    have q4 := K1.frozen 4
    have p5 := K1.cell 5
    have q5 := K1.frozen 5
    have p6 := K1.cell 6
    have q6 := K1.frozen 6
    have p7 := K1.cell 7
    have q7 := K1.frozen 7
    have p8 := K1.cell 8
    have q8 := K1.frozen 8
    have p9 := K1.cell 9
    have q9 := K1.frozen 9
    have p10 := K1.cell 10
    have q10 := K1.frozen 10
    clear K1
    go_wp2_with fail
    clear hW1
    refine bodyPost_ret (v := .tuple #[.agg #[.int .u8 0, .int .u32 0, .int .u8 0, .int .u16 0, .int .u64 0, .int .u64 0, .int .u8 0, .string ⟨#[]⟩, .string ⟨#[]⟩, .int .i64 0, .int .i64 0], .int .i64 80]) ?_ rfl (psp_bad HP.out (by decide) (below_11 HB.out (Nat.le_refl _) _ _ _ _ _ _ _ _ _ _ _))
    simp [results, Tryd.results20, go_sem, p0, p1, p2, p3, p4, p5, p6, p7, p8, p9, p10]
  · have i2 : (8 : Int) < y := by omega
    have i3 : ¬ (y : Int) < 1 := by omega
    go_enter Tryd.func20, Tryd.ntmps20
    have p0 := K1.cell 0
    have q0 := K1.frozen 0
    have p1 := K1.cell 1
    have q1 := K1.frozen 1
    have p2 := K1.cell 2
    have q2 := K1.frozen 2
    have p3 := K1.cell 3
    have q3 := K1.frozen 3
    have p4 := K1.cell 4
    have q4 := K1.frozen 4
    have p5 := K1.cell 5
    have q5 := K1.frozen 5
    have p6 := K1.cell 6
    have q6 := K1.frozen 6
    have p7 := K1.cell 7
    have q7 := K1.frozen 7
    have p8 := K1.cell 8
    have q8 := K1.frozen 8
    have p9 := K1.cell 9
    have q9 := K1.frozen 9
    have p10 := K1.cell 10
    have q10 := K1.frozen 10
    clear K1
    go_wp2_with fail
    clear hW1
    refine bodyPost_ret (v := .tuple #[.agg #[.int .u8 0, .int .u32 0, .int .u8 0, .int .u16 0, .int .u64 0, .int .u64 0, .int .u8 0, .string ⟨#[]⟩, .string ⟨#[]⟩, .int .i64 0, .int .i64 0], .int .i64 80]) ?_ rfl (psp_bad HP.out (by decide) (below_11 HB.out (Nat.le_refl _) _ _ _ _ _ _ _ _ _ _ _))
    simp [results, Tryd.results20, go_sem, p0, p1, p2, p3, p4, p5, p6, p7, p8, p9, p10]
theorem refParse9_any (n c B : Nat) (A : Option Addr) (b : List Nat) (w : World) (hb : Bytes w B A n b) (hB : B ≤ w.heap.size) (hn : n ≤ 1000000) (hnc : n ≤ c) : Calls Tryd.prog 20 #[.slice A n c] w (PsP w b) := by
  cases b with
  | nil => exact refParse9_0 n c B A [] w hb hB hn hnc hb.1.symm rfl rq_kind0
  | cons y l =>
    have h0 : 0 < n := by
      have := hb.1
      simp only [List.length_cons] at this
      omega
    have hy : (y :: l).getD 0 0 = y := rfl
    have htag : Rq.tag (y :: l) = !Rq.isK y := rfl
    have hk := rq_kind y l
    cases hK : Rq.isK y
    · have hp : Rq.pse (y :: l) = 80 := if_pos (by rw [htag, hK]; rfl)
      refine refParse9_bad n c B y A (y :: l) w hb hB h0 hy ?_ hp
      have hK' : ¬ (1 ≤ y ∧ y ≤ 8) := of_decide_eq_false hK
      omega
    · rw [hK] at htag
      rcases Rq.isK_cases hK with rfl | rfl | rfl | rfl | rfl | rfl | rfl | rfl
      · exact refParse9_1 n c B A _ w hb hB hn hnc h0 hy htag hk
      · exact refParse9_2 n c B A _ w hb hB hn hnc h0 hy htag hk
      · exact refParse9_3 n c B A _ w hb hB hn hnc h0 hy htag hk
      · exact refParse9_4 n c B A _ w hb hB hn hnc h0 hy htag hk
      · exact refParse9_5 n c B A _ w hb hB hn hnc h0 hy htag hk
      · exact refParse9_6 n c B A _ w hb hB hn hnc h0 hy htag hk
      · exact refParse9_7 n c B A _ w hb hB hn hnc h0 hy htag hk
      · exact refParse9_8 n c B A _ w hb hB hn hnc h0 hy htag hk
end Go.Proofs.YtgailpljcobabaaDoor
