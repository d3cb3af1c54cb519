/- Layer 9's reference: a request with its kind's parts alone; when it is right; a kind's name. -/
import Derived.Test.YtgailpljcobabaaDoorRqE
namespace Go.Proofs.YtgailpljcobabaaDoor
open Go.ChangeShapes Go.WideShapes Go.ChangeAt Go.RowKit

theorem rreq_equal (a b : Rq.V) (w : World) : (Op.equalIn 10000 33 (.agg a.cells) (.agg b.cells)).run Tryd.prog w = .ok (Rq.eqb a b) w := by
  have hS : Tryd.prog.underlying 33 = some (.struct (Tryd.prog.fieldsOf 33)) := by kernel_rfl
  have hp : Tryd.prog.stoodInHeld 33 = false := by kernel_rfl
  rw [show (10000 : Nat) = 9999 + 1 from rfl, run_equalIn_agg w 9999 33 _ _ hS hp]
  obtain ⟨a1, a2, a3, a4, a5, a6, a7, a8, a9, a10, a11⟩ := a
  obtain ⟨b1, b2, b3, b4, b5, b6, b7, b8, b9, b10, b11⟩ := b
  simp only [Program.fieldsOf, Tryd.underlying33]
  unfold Rq.eqb Rq.V.cells
  dsimp only
  go_simp
  by_cases h1 : (a1 : Int) = (b1 : Int)
  rotate_left
  · rw [if_neg h1, show ((a1 : Int) == (b1 : Int)) = false from beq_eq_false_iff_ne.2 h1]
    first | rfl | simp
  rw [if_pos h1, show ((a1 : Int) == (b1 : Int)) = true from beq_iff_eq.2 h1]
  by_cases h2 : (a2 : Int) = (b2 : Int)
  rotate_left
  · rw [if_neg h2, show ((a2 : Int) == (b2 : Int)) = false from beq_eq_false_iff_ne.2 h2]
    first | rfl | simp
  rw [if_pos h2, show ((a2 : Int) == (b2 : Int)) = true from beq_iff_eq.2 h2]
  by_cases h3 : (a3 : Int) = (b3 : Int)
  rotate_left
  · rw [if_neg h3, show ((a3 : Int) == (b3 : Int)) = false from beq_eq_false_iff_ne.2 h3]
    first | rfl | simp
  rw [if_pos h3, show ((a3 : Int) == (b3 : Int)) = true from beq_iff_eq.2 h3]
  by_cases h4 : (a4 : Int) = (b4 : Int)
  rotate_left
  · rw [if_neg h4, show ((a4 : Int) == (b4 : Int)) = false from beq_eq_false_iff_ne.2 h4]
    first | rfl | simp
  rw [if_pos h4, show ((a4 : Int) == (b4 : Int)) = true from beq_iff_eq.2 h4]
  by_cases h5 : (a5 : Int) = (b5 : Int)
  rotate_left
  · rw [if_neg h5, show ((a5 : Int) == (b5 : Int)) = false from beq_eq_false_iff_ne.2 h5]
    first | rfl | simp
  rw [if_pos h5, show ((a5 : Int) == (b5 : Int)) = true from beq_iff_eq.2 h5]
  by_cases h6 : (a6 : Int) = (b6 : Int)
  rotate_left
  · rw [if_neg h6, show ((a6 : Int) == (b6 : Int)) = false from beq_eq_false_iff_ne.2 h6]
    first | rfl | simp
  rw [if_pos h6, show ((a6 : Int) == (b6 : Int)) = true from beq_iff_eq.2 h6]
  by_cases h7 : (a7 : Int) = (b7 : Int)
  rotate_left
  · rw [if_neg h7, show ((a7 : Int) == (b7 : Int)) = false from beq_eq_false_iff_ne.2 h7]
    first | rfl | simp
  rw [if_pos h7, show ((a7 : Int) == (b7 : Int)) = true from beq_iff_eq.2 h7]
  by_cases h8 : a8.toList = b8.toList
  rotate_left
  · rw [if_neg h8, show (a8.toList == b8.toList) = false from beq_eq_false_iff_ne.2 h8]
    first | rfl | simp
  rw [if_pos h8, show (a8.toList == b8.toList) = true from beq_iff_eq.2 h8]
  by_cases h9 : a9.toList = b9.toList
  rotate_left
  · rw [if_neg h9, show (a9.toList == b9.toList) = false from beq_eq_false_iff_ne.2 h9]
    first | rfl | simp
  rw [if_pos h9, show (a9.toList == b9.toList) = true from beq_iff_eq.2 h9]
  by_cases h10 : a10 = b10
  rotate_left
  · rw [if_neg h10, show (a10 == b10) = false from beq_eq_false_iff_ne.2 h10]
    first | rfl | simp
  rw [if_pos h10, show (a10 == b10) = true from beq_iff_eq.2 h10]
  by_cases h11 : a11 = b11
  rotate_left
  · rw [if_neg h11, show (a11 == b11) = false from beq_eq_false_iff_ne.2 h11]
    first | rfl | simp
  rw [if_pos h11, show (a11 == b11) = true from beq_iff_eq.2 h11]
  rfl
theorem rreq_guard : Tryd.prog.eqGuardType Tryd.prog.depth 33 = false := by kernel_rfl
theorem bel3 (w : World) (o1 o2 o3 : Obj) : Below w.heap.size w (((w.alloc o1).alloc o2).alloc o3) := (((Below.refl _ _).alloc (Nat.le_refl _) _).alloc (by simp) _).alloc (by simp; omega) _
theorem bel_set {w W : World} {g i : Nat} (h : Below w.heap.size w W) (hg : w.heap.size ≤ g) (v : Value) : Below w.heap.size w (W.setCell ⟨g, i, none⟩ v) := h.setCell (p := ⟨g, i, none⟩) hg v
set_option maxRecDepth 100000 in
set_option maxHeartbeats 8000000 in
theorem refOnly_any (x : Rq.V) (w : World) : Calls Tryd.prog 36 #[x.val] w fun e w' => e = .returned x.keep.val ∧ Below w.heap.size w w' := by
  obtain ⟨k, id, pg, du, a, l, s, ky, to, lo, hi⟩ := x
  unfold Rq.V.val Rq.V.cells
  dsimp only
  cases hK : Rq.isK k
  · have hh : ¬ (1 ≤ k ∧ k ≤ 8) := of_decide_eq_false hK
    have e : Rq.V.keep ⟨k, id, pg, du, a, l, s, ky, to, lo, hi⟩ = Rq.only k id := by
      unfold Rq.V.keep Rq.hasA Rq.hasL Rq.hasP Rq.hasD Rq.hasW Rq.only
      dsimp only
      rw [decide_eq_false (show ¬ (k = 1 ∨ k = 2) by omega), decide_eq_false (show ¬ (k = 3 ∨ k = 4 ∨ k = 6 ∨ k = 7) by omega), decide_eq_false (show ¬ (k = 1 ∨ k = 6) by omega), decide_eq_false (show ¬ (k = 2 ∨ k = 3 ∨ k = 5 ∨ k = 6) by omega), decide_eq_false (show ¬ (k = 1 ∨ k = 5) by omega)]
      rfl
    rw [e]
    have i1 : ¬ (k : Int) = 1 := by omega
    have j1 : ((k : Int) == 1) = false := beq_eq_false_iff_ne.2 i1
    have i2 : ¬ (k : Int) = 2 := by omega
    have j2 : ((k : Int) == 2) = false := beq_eq_false_iff_ne.2 i2
    have i3 : ¬ (k : Int) = 3 := by omega
    have j3 : ((k : Int) == 3) = false := beq_eq_false_iff_ne.2 i3
    have i4 : ¬ (k : Int) = 4 := by omega
    have j4 : ((k : Int) == 4) = false := beq_eq_false_iff_ne.2 i4
    have i5 : ¬ (k : Int) = 5 := by omega
    have j5 : ((k : Int) == 5) = false := beq_eq_false_iff_ne.2 i5
    have i6 : ¬ (k : Int) = 6 := by omega
    have j6 : ((k : Int) == 6) = false := beq_eq_false_iff_ne.2 i6
    have i7 : ¬ (k : Int) = 7 := by omega
    have j7 : ((k : Int) == 7) = false := beq_eq_false_iff_ne.2 i7
    clear hh hK e
    go_enter Tryd.func36, Tryd.ntmps36
    go_wp2_with fail
    refine bodyPost_ret (v := .agg #[.int .u8 (k : Int), .int .u32 (id : Int), .int .u8 0, .int .u16 0, .int .u64 0, .int .u64 0, .int .u8 0, .string ⟨#[]⟩, .string ⟨#[]⟩, .int .i64 0, .int .i64 0]) ?_ rfl ⟨rfl, ?_⟩
    · simp [results, Tryd.results36, go_sem]
    · repeat (with_reducible refine bel_set ?_ (by omega) _)
      with_reducible exact bel3 w _ _ _
  rcases Rq.isK_cases hK with rfl | rfl | rfl | rfl | rfl | rfl | rfl | rfl
  · clear hK
    go_enter Tryd.func36, Tryd.ntmps36
    go_wp2_with fail
    refine bodyPost_ret (v := .agg #[.int .u8 1, .int .u32 (id : Int), .int .u8 (pg : Int), .int .u16 0, .int .u64 (a : Int), .int .u64 0, .int .u8 (s : Int), .string ky, .string to, .int .i64 lo, .int .i64 hi]) ?_ rfl ⟨rfl, ?_⟩
    · simp [results, Tryd.results36, go_sem]
    · repeat (with_reducible refine bel_set ?_ (by omega) _)
      with_reducible exact bel3 w _ _ _
  · clear hK
    go_enter Tryd.func36, Tryd.ntmps36
    go_wp2_with fail
    refine bodyPost_ret (v := .agg #[.int .u8 2, .int .u32 (id : Int), .int .u8 0, .int .u16 (du : Int), .int .u64 (a : Int), .int .u64 0, .int .u8 0, .string ⟨#[]⟩, .string ⟨#[]⟩, .int .i64 0, .int .i64 0]) ?_ rfl ⟨rfl, ?_⟩
    · simp [results, Tryd.results36, go_sem]
    · repeat (with_reducible refine bel_set ?_ (by omega) _)
      with_reducible exact bel3 w _ _ _
  · clear hK
    go_enter Tryd.func36, Tryd.ntmps36
    go_wp2_with fail
    refine bodyPost_ret (v := .agg #[.int .u8 3, .int .u32 (id : Int), .int .u8 0, .int .u16 (du : Int), .int .u64 0, .int .u64 (l : Int), .int .u8 0, .string ⟨#[]⟩, .string ⟨#[]⟩, .int .i64 0, .int .i64 0]) ?_ rfl ⟨rfl, ?_⟩
    · simp [results, Tryd.results36, go_sem]
    · repeat (with_reducible refine bel_set ?_ (by omega) _)
      with_reducible exact bel3 w _ _ _
  · clear hK
    go_enter Tryd.func36, Tryd.ntmps36
    go_wp2_with fail
    refine bodyPost_ret (v := .agg #[.int .u8 4, .int .u32 (id : Int), .int .u8 0, .int .u16 0, .int .u64 0, .int .u64 (l : Int), .int .u8 0, .string ⟨#[]⟩, .string ⟨#[]⟩, .int .i64 0, .int .i64 0]) ?_ rfl ⟨rfl, ?_⟩
    · simp [results, Tryd.results36, go_sem]
    · repeat (with_reducible refine bel_set ?_ (by omega) _)
      with_reducible exact bel3 w _ _ _
  · clear hK
    go_enter Tryd.func36, Tryd.ntmps36
    go_wp2_with fail
    refine bodyPost_ret (v := .agg #[.int .u8 5, .int .u32 (id : Int), .int .u8 0, .int .u16 (du : Int), .int .u64 0, .int .u64 0, .int .u8 (s : Int), .string ky, .string to, .int .i64 lo, .int .i64 hi]) ?_ rfl ⟨rfl, ?_⟩
    · simp [results, Tryd.results36, go_sem]
    · repeat (with_reducible refine bel_set ?_ (by omega) _)
      with_reducible exact bel3 w _ _ _
  · clear hK
    go_enter Tryd.func36, Tryd.ntmps36
    go_wp2_with fail
    refine bodyPost_ret (v := .agg #[.int .u8 6, .int .u32 (id : Int), .int .u8 (pg : Int), .int .u16 (du : Int), .int .u64 0, .int .u64 (l : Int), .int .u8 0, .string ⟨#[]⟩, .string ⟨#[]⟩, .int .i64 0, .int .i64 0]) ?_ rfl ⟨rfl, ?_⟩
    · simp [results, Tryd.results36, go_sem]
    · repeat (with_reducible refine bel_set ?_ (by omega) _)
      with_reducible exact bel3 w _ _ _
  · clear hK
    go_enter Tryd.func36, Tryd.ntmps36
    go_wp2_with fail
    refine bodyPost_ret (v := .agg #[.int .u8 7, .int .u32 (id : Int), .int .u8 0, .int .u16 0, .int .u64 0, .int .u64 (l : Int), .int .u8 0, .string ⟨#[]⟩, .string ⟨#[]⟩, .int .i64 0, .int .i64 0]) ?_ rfl ⟨rfl, ?_⟩
    · simp [results, Tryd.results36, go_sem]
    · repeat (with_reducible refine bel_set ?_ (by omega) _)
      with_reducible exact bel3 w _ _ _
  · clear hK
    go_enter Tryd.func36, Tryd.ntmps36
    go_wp2_with fail
    refine bodyPost_ret (v := .agg #[.int .u8 8, .int .u32 (id : Int), .int .u8 0, .int .u16 0, .int .u64 0, .int .u64 0, .int .u8 0, .string ⟨#[]⟩, .string ⟨#[]⟩, .int .i64 0, .int .i64 0]) ?_ rfl ⟨rfl, ?_⟩
    · simp [results, Tryd.results36, go_sem]
    · repeat (with_reducible refine bel_set ?_ (by omega) _)
      with_reducible exact bel3 w _ _ _
end Go.Proofs.YtgailpljcobabaaDoor
