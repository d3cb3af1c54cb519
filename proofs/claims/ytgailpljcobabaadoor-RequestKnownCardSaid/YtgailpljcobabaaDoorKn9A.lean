/- RequestKnown: full and part. Made by tools/gen/kn9.py. -/
import Derived.Test.YtgailpljcobabaaDoorRqO
import Derived.Test.YtgailpljcobabaaDoorRqH
namespace Go.Proofs.YtgailpljcobabaaDoor
open Go.ChangeShapes Go.WideShapes Go.ChangeAt Go.RowKit

def Rq.Fl (k : Nat) : Rq.V := ⟨k, 5, 3, 9, 7, 8, 2, ⟨#[97]⟩, ⟨#[98]⟩, 0, 0⟩
def Rq.Pt (k j : Nat) : Rq.V := ⟨k, 5, if j % 2 = 1 then 3 else 0, if j / 2 % 2 = 1 then 9 else 0, if j / 4 % 2 = 1 then 7 else 0, if j / 8 % 2 = 1 then 8 else 0, if j / 16 % 2 = 1 then 2 else 0, if j / 16 % 2 = 1 then ⟨#[97]⟩ else ⟨#[]⟩, if j / 16 % 2 = 1 then ⟨#[98]⟩ else ⟨#[]⟩, 0, 0⟩
theorem fl_ok {k : Nat} (h : k < 256) : (Rq.Fl k).ok := by
  unfold Rq.V.ok Rq.Fl
  dsimp only
  omega
theorem pt_ok {k : Nat} (j : Nat) (h : k < 256) : (Rq.Pt k j).ok := by
  unfold Rq.V.ok Rq.Pt
  dsimp only
  refine ⟨h, by omega, ?_, ?_, ?_, ?_, ?_, by omega, by omega⟩ <;> (split <;> omega)
theorem pg_ok {x : Rq.V} {p : Nat} (h : x.ok) (hp : p < 256) : ({ x with pg := p } : Rq.V).ok := ⟨h.1, h.2.1, hp, h.2.2.2⟩
set_option maxRecDepth 100000 in
set_option maxHeartbeats 2000000 in
theorem full9_any (k : Nat) (w : World) : Calls Tryd.prog 24 #[.int .u8 (k : Int)] w fun e w' => e = .returned (Rq.Fl k).val ∧ Below w.heap.size w w' := by
  go_enter Tryd.func24, Tryd.ntmps24
  go_wp2_with fail
  refine bodyPost_ret (v := (Rq.Fl k).val) ?_ rfl ⟨rfl, (Below.refl _ _).alloc (Nat.le_refl _) _⟩
  simp [results, Tryd.results24, go_sem, Rq.V.val, Rq.V.cells, Rq.Fl]
set_option maxRecDepth 100000 in
set_option maxHeartbeats 20000000 in
theorem part9_any (k j : Nat) (hj : j < 32) (w : World) : Calls Tryd.prog 23 #[(Rq.Fl k).val, .int .i64 (j : Int)] w fun e w' => e = .returned (Rq.Pt k j).val ∧ Below w.heap.size w w' := by
  have hj : j = 0 ∨ j = 1 ∨ j = 2 ∨ j = 3 ∨ j = 4 ∨ j = 5 ∨ j = 6 ∨ j = 7 ∨ j = 8 ∨ j = 9 ∨ j = 10 ∨ j = 11 ∨ j = 12 ∨ j = 13 ∨ j = 14 ∨ j = 15 ∨ j = 16 ∨ j = 17 ∨ j = 18 ∨ j = 19 ∨ j = 20 ∨ j = 21 ∨ j = 22 ∨ j = 23 ∨ j = 24 ∨ j = 25 ∨ j = 26 ∨ j = 27 ∨ j = 28 ∨ j = 29 ∨ j = 30 ∨ j = 31 := by omega
  have hb : ∀ (o1 o2 o3 : Obj), Below w.heap.size w (((w.alloc o1).alloc o2).alloc o3) := fun o1 o2 o3 => (((Below.refl _ _).alloc (Nat.le_refl _) _).alloc (by simp) _).alloc (by simp; omega) _
  have HB := Lib.hid hb
  clear hb
  unfold Rq.Fl Rq.V.val
  unfold Rq.V.cells
  dsimp only
  rcases hj with rfl | rfl | rfl | rfl | rfl | rfl | rfl | rfl | rfl | rfl | rfl | rfl | rfl | rfl | rfl | rfl | rfl | rfl | rfl | rfl | rfl | rfl | rfl | rfl | rfl | rfl | rfl | rfl | rfl | rfl | rfl | rfl
  · go_enter Tryd.func23, Tryd.ntmps23
    go_wp2_with fail
    refine bodyPost_ret (v := .agg #[.int .u8 (k : Int), .int .u32 5, .int .u8 0, .int .u16 0, .int .u64 0, .int .u64 0, .int .u8 0, .string ⟨#[]⟩, .string ⟨#[]⟩, .int .i64 0, .int .i64 0]) ?_ rfl ⟨rfl, ?_⟩
    · simp [results, Tryd.results23, go_sem]
    · repeat (with_reducible refine bel_set ?_ (by omega) _)
      with_reducible exact HB.out _ _ _
  · go_enter Tryd.func23, Tryd.ntmps23
    go_wp2_with fail
    refine bodyPost_ret (v := .agg #[.int .u8 (k : Int), .int .u32 5, .int .u8 3, .int .u16 0, .int .u64 0, .int .u64 0, .int .u8 0, .string ⟨#[]⟩, .string ⟨#[]⟩, .int .i64 0, .int .i64 0]) ?_ rfl ⟨rfl, ?_⟩
    · simp [results, Tryd.results23, go_sem]
    · repeat (with_reducible refine bel_set ?_ (by omega) _)
      with_reducible exact HB.out _ _ _
  · go_enter Tryd.func23, Tryd.ntmps23
    go_wp2_with fail
    refine bodyPost_ret (v := .agg #[.int .u8 (k : Int), .int .u32 5, .int .u8 0, .int .u16 9, .int .u64 0, .int .u64 0, .int .u8 0, .string ⟨#[]⟩, .string ⟨#[]⟩, .int .i64 0, .int .i64 0]) ?_ rfl ⟨rfl, ?_⟩
    · simp [results, Tryd.results23, go_sem]
    · repeat (with_reducible refine bel_set ?_ (by omega) _)
      with_reducible exact HB.out _ _ _
  · go_enter Tryd.func23, Tryd.ntmps23
    go_wp2_with fail
    refine bodyPost_ret (v := .agg #[.int .u8 (k : Int), .int .u32 5, .int .u8 3, .int .u16 9, .int .u64 0, .int .u64 0, .int .u8 0, .string ⟨#[]⟩, .string ⟨#[]⟩, .int .i64 0, .int .i64 0]) ?_ rfl ⟨rfl, ?_⟩
    · simp [results, Tryd.results23, go_sem]
    · repeat (with_reducible refine bel_set ?_ (by omega) _)
      with_reducible exact HB.out _ _ _
  · go_enter Tryd.func23, Tryd.ntmps23
    go_wp2_with fail
    refine bodyPost_ret (v := .agg #[.int .u8 (k : Int), .int .u32 5, .int .u8 0, .int .u16 0, .int .u64 7, .int .u64 0, .int .u8 0, .string ⟨#[]⟩, .string ⟨#[]⟩, .int .i64 0, .int .i64 0]) ?_ rfl ⟨rfl, ?_⟩
    · simp [results, Tryd.results23, go_sem]
    · repeat (with_reducible refine bel_set ?_ (by omega) _)
      with_reducible exact HB.out _ _ _
  · go_enter Tryd.func23, Tryd.ntmps23
    go_wp2_with fail
    refine bodyPost_ret (v := .agg #[.int .u8 (k : Int), .int .u32 5, .int .u8 3, .int .u16 0, .int .u64 7, .int .u64 0, .int .u8 0, .string ⟨#[]⟩, .string ⟨#[]⟩, .int .i64 0, .int .i64 0]) ?_ rfl ⟨rfl, ?_⟩
    · simp [results, Tryd.results23, go_sem]
    · repeat (with_reducible refine bel_set ?_ (by omega) _)
      with_reducible exact HB.out _ _ _
  · go_enter Tryd.func23, Tryd.ntmps23
    go_wp2_with fail
    refine bodyPost_ret (v := .agg #[.int .u8 (k : Int), .int .u32 5, .int .u8 0, .int .u16 9, .int .u64 7, .int .u64 0, .int .u8 0, .string ⟨#[]⟩, .string ⟨#[]⟩, .int .i64 0, .int .i64 0]) ?_ rfl ⟨rfl, ?_⟩
    · simp [results, Tryd.results23, go_sem]
    · repeat (with_reducible refine bel_set ?_ (by omega) _)
      with_reducible exact HB.out _ _ _
  · go_enter Tryd.func23, Tryd.ntmps23
    go_wp2_with fail
    refine bodyPost_ret (v := .agg #[.int .u8 (k : Int), .int .u32 5, .int .u8 3, .int .u16 9, .int .u64 7, .int .u64 0, .int .u8 0, .string ⟨#[]⟩, .string ⟨#[]⟩, .int .i64 0, .int .i64 0]) ?_ rfl ⟨rfl, ?_⟩
    · simp [results, Tryd.results23, go_sem]
    · repeat (with_reducible refine bel_set ?_ (by omega) _)
      with_reducible exact HB.out _ _ _
  · go_enter Tryd.func23, Tryd.ntmps23
    go_wp2_with fail
    refine bodyPost_ret (v := .agg #[.int .u8 (k : Int), .int .u32 5, .int .u8 0, .int .u16 0, .int .u64 0, .int .u64 8, .int .u8 0, .string ⟨#[]⟩, .string ⟨#[]⟩, .int .i64 0, .int .i64 0]) ?_ rfl ⟨rfl, ?_⟩
    · simp [results, Tryd.results23, go_sem]
    · repeat (with_reducible refine bel_set ?_ (by omega) _)
      with_reducible exact HB.out _ _ _
  · go_enter Tryd.func23, Tryd.ntmps23
    go_wp2_with fail
    refine bodyPost_ret (v := .agg #[.int .u8 (k : Int), .int .u32 5, .int .u8 3, .int .u16 0, .int .u64 0, .int .u64 8, .int .u8 0, .string ⟨#[]⟩, .string ⟨#[]⟩, .int .i64 0, .int .i64 0]) ?_ rfl ⟨rfl, ?_⟩
    · simp [results, Tryd.results23, go_sem]
    · repeat (with_reducible refine bel_set ?_ (by omega) _)
      with_reducible exact HB.out _ _ _
  · go_enter Tryd.func23, Tryd.ntmps23
    go_wp2_with fail
    refine bodyPost_ret (v := .agg #[.int .u8 (k : Int), .int .u32 5, .int .u8 0, .int .u16 9, .int .u64 0, .int .u64 8, .int .u8 0, .string ⟨#[]⟩, .string ⟨#[]⟩, .int .i64 0, .int .i64 0]) ?_ rfl ⟨rfl, ?_⟩
    · simp [results, Tryd.results23, go_sem]
    · repeat (with_reducible refine bel_set ?_ (by omega) _)
      with_reducible exact HB.out _ _ _
  · go_enter Tryd.func23, Tryd.ntmps23
    go_wp2_with fail
    refine bodyPost_ret (v := .agg #[.int .u8 (k : Int), .int .u32 5, .int .u8 3, .int .u16 9, .int .u64 0, .int .u64 8, .int .u8 0, .string ⟨#[]⟩, .string ⟨#[]⟩, .int .i64 0, .int .i64 0]) ?_ rfl ⟨rfl, ?_⟩
    · simp [results, Tryd.results23, go_sem]
    · repeat (with_reducible refine bel_set ?_ (by omega) _)
      with_reducible exact HB.out _ _ _
  · go_enter Tryd.func23, Tryd.ntmps23
    go_wp2_with fail
    refine bodyPost_ret (v := .agg #[.int .u8 (k : Int), .int .u32 5, .int .u8 0, .int .u16 0, .int .u64 7, .int .u64 8, .int .u8 0, .string ⟨#[]⟩, .string ⟨#[]⟩, .int .i64 0, .int .i64 0]) ?_ rfl ⟨rfl, ?_⟩
    · simp [results, Tryd.results23, go_sem]
    · repeat (with_reducible refine bel_set ?_ (by omega) _)
      with_reducible exact HB.out _ _ _
  · go_enter Tryd.func23, Tryd.ntmps23
    go_wp2_with fail
    refine bodyPost_ret (v := .agg #[.int .u8 (k : Int), .int .u32 5, .int .u8 3, .int .u16 0, .int .u64 7, .int .u64 8, .int .u8 0, .string ⟨#[]⟩, .string ⟨#[]⟩, .int .i64 0, .int .i64 0]) ?_ rfl ⟨rfl, ?_⟩
    · simp [results, Tryd.results23, go_sem]
    · repeat (with_reducible refine bel_set ?_ (by omega) _)
      with_reducible exact HB.out _ _ _
  · go_enter Tryd.func23, Tryd.ntmps23
    go_wp2_with fail
    refine bodyPost_ret (v := .agg #[.int .u8 (k : Int), .int .u32 5, .int .u8 0, .int .u16 9, .int .u64 7, .int .u64 8, .int .u8 0, .string ⟨#[]⟩, .string ⟨#[]⟩, .int .i64 0, .int .i64 0]) ?_ rfl ⟨rfl, ?_⟩
    · simp [results, Tryd.results23, go_sem]
    · repeat (with_reducible refine bel_set ?_ (by omega) _)
      with_reducible exact HB.out _ _ _
  · go_enter Tryd.func23, Tryd.ntmps23
    go_wp2_with fail
    refine bodyPost_ret (v := .agg #[.int .u8 (k : Int), .int .u32 5, .int .u8 3, .int .u16 9, .int .u64 7, .int .u64 8, .int .u8 0, .string ⟨#[]⟩, .string ⟨#[]⟩, .int .i64 0, .int .i64 0]) ?_ rfl ⟨rfl, ?_⟩
    · simp [results, Tryd.results23, go_sem]
    · repeat (with_reducible refine bel_set ?_ (by omega) _)
      with_reducible exact HB.out _ _ _
  · go_enter Tryd.func23, Tryd.ntmps23
    go_wp2_with fail
    refine bodyPost_ret (v := .agg #[.int .u8 (k : Int), .int .u32 5, .int .u8 0, .int .u16 0, .int .u64 0, .int .u64 0, .int .u8 2, .string ⟨#[97]⟩, .string ⟨#[98]⟩, .int .i64 0, .int .i64 0]) ?_ rfl ⟨rfl, ?_⟩
    · simp [results, Tryd.results23, go_sem]
    · repeat (with_reducible refine bel_set ?_ (by omega) _)
      with_reducible exact HB.out _ _ _
  · go_enter Tryd.func23, Tryd.ntmps23
    go_wp2_with fail
    refine bodyPost_ret (v := .agg #[.int .u8 (k : Int), .int .u32 5, .int .u8 3, .int .u16 0, .int .u64 0, .int .u64 0, .int .u8 2, .string ⟨#[97]⟩, .string ⟨#[98]⟩, .int .i64 0, .int .i64 0]) ?_ rfl ⟨rfl, ?_⟩
    · simp [results, Tryd.results23, go_sem]
    · repeat (with_reducible refine bel_set ?_ (by omega) _)
      with_reducible exact HB.out _ _ _
  · go_enter Tryd.func23, Tryd.ntmps23
    go_wp2_with fail
    refine bodyPost_ret (v := .agg #[.int .u8 (k : Int), .int .u32 5, .int .u8 0, .int .u16 9, .int .u64 0, .int .u64 0, .int .u8 2, .string ⟨#[97]⟩, .string ⟨#[98]⟩, .int .i64 0, .int .i64 0]) ?_ rfl ⟨rfl, ?_⟩
    · simp [results, Tryd.results23, go_sem]
    · repeat (with_reducible refine bel_set ?_ (by omega) _)
      with_reducible exact HB.out _ _ _
  · go_enter Tryd.func23, Tryd.ntmps23
    go_wp2_with fail
    refine bodyPost_ret (v := .agg #[.int .u8 (k : Int), .int .u32 5, .int .u8 3, .int .u16 9, .int .u64 0, .int .u64 0, .int .u8 2, .string ⟨#[97]⟩, .string ⟨#[98]⟩, .int .i64 0, .int .i64 0]) ?_ rfl ⟨rfl, ?_⟩
    · simp [results, Tryd.results23, go_sem]
    · repeat (with_reducible refine bel_set ?_ (by omega) _)
      with_reducible exact HB.out _ _ _
  · go_enter Tryd.func23, Tryd.ntmps23
    go_wp2_with fail
    refine bodyPost_ret (v := .agg #[.int .u8 (k : Int), .int .u32 5, .int .u8 0, .int .u16 0, .int .u64 7, .int .u64 0, .int .u8 2, .string ⟨#[97]⟩, .string ⟨#[98]⟩, .int .i64 0, .int .i64 0]) ?_ rfl ⟨rfl, ?_⟩
    · simp [results, Tryd.results23, go_sem]
    · repeat (with_reducible refine bel_set ?_ (by omega) _)
      with_reducible exact HB.out _ _ _
  · go_enter Tryd.func23, Tryd.ntmps23
    go_wp2_with fail
    refine bodyPost_ret (v := .agg #[.int .u8 (k : Int), .int .u32 5, .int .u8 3, .int .u16 0, .int .u64 7, .int .u64 0, .int .u8 2, .string ⟨#[97]⟩, .string ⟨#[98]⟩, .int .i64 0, .int .i64 0]) ?_ rfl ⟨rfl, ?_⟩
    · simp [results, Tryd.results23, go_sem]
    · repeat (with_reducible refine bel_set ?_ (by omega) _)
      with_reducible exact HB.out _ _ _
  · go_enter Tryd.func23, Tryd.ntmps23
    go_wp2_with fail
    refine bodyPost_ret (v := .agg #[.int .u8 (k : Int), .int .u32 5, .int .u8 0, .int .u16 9, .int .u64 7, .int .u64 0, .int .u8 2, .string ⟨#[97]⟩, .string ⟨#[98]⟩, .int .i64 0, .int .i64 0]) ?_ rfl ⟨rfl, ?_⟩
    · simp [results, Tryd.results23, go_sem]
    · repeat (with_reducible refine bel_set ?_ (by omega) _)
      with_reducible exact HB.out _ _ _
  · go_enter Tryd.func23, Tryd.ntmps23
    go_wp2_with fail
    refine bodyPost_ret (v := .agg #[.int .u8 (k : Int), .int .u32 5, .int .u8 3, .int .u16 9, .int .u64 7, .int .u64 0, .int .u8 2, .string ⟨#[97]⟩, .string ⟨#[98]⟩, .int .i64 0, .int .i64 0]) ?_ rfl ⟨rfl, ?_⟩
    · simp [results, Tryd.results23, go_sem]
    · repeat (with_reducible refine bel_set ?_ (by omega) _)
      with_reducible exact HB.out _ _ _
  · go_enter Tryd.func23, Tryd.ntmps23
    go_wp2_with fail
    refine bodyPost_ret (v := .agg #[.int .u8 (k : Int), .int .u32 5, .int .u8 0, .int .u16 0, .int .u64 0, .int .u64 8, .int .u8 2, .string ⟨#[97]⟩, .string ⟨#[98]⟩, .int .i64 0, .int .i64 0]) ?_ rfl ⟨rfl, ?_⟩
    · simp [results, Tryd.results23, go_sem]
    · repeat (with_reducible refine bel_set ?_ (by omega) _)
      with_reducible exact HB.out _ _ _
  · go_enter Tryd.func23, Tryd.ntmps23
    go_wp2_with fail
    refine bodyPost_ret (v := .agg #[.int .u8 (k : Int), .int .u32 5, .int .u8 3, .int .u16 0, .int .u64 0, .int .u64 8, .int .u8 2, .string ⟨#[97]⟩, .string ⟨#[98]⟩, .int .i64 0, .int .i64 0]) ?_ rfl ⟨rfl, ?_⟩
    · simp [results, Tryd.results23, go_sem]
    · repeat (with_reducible refine bel_set ?_ (by omega) _)
      with_reducible exact HB.out _ _ _
  · go_enter Tryd.func23, Tryd.ntmps23
    go_wp2_with fail
    refine bodyPost_ret (v := .agg #[.int .u8 (k : Int), .int .u32 5, .int .u8 0, .int .u16 9, .int .u64 0, .int .u64 8, .int .u8 2, .string ⟨#[97]⟩, .string ⟨#[98]⟩, .int .i64 0, .int .i64 0]) ?_ rfl ⟨rfl, ?_⟩
    · simp [results, Tryd.results23, go_sem]
    · repeat (with_reducible refine bel_set ?_ (by omega) _)
      with_reducible exact HB.out _ _ _
  · go_enter Tryd.func23, Tryd.ntmps23
    go_wp2_with fail
    refine bodyPost_ret (v := .agg #[.int .u8 (k : Int), .int .u32 5, .int .u8 3, .int .u16 9, .int .u64 0, .int .u64 8, .int .u8 2, .string ⟨#[97]⟩, .string ⟨#[98]⟩, .int .i64 0, .int .i64 0]) ?_ rfl ⟨rfl, ?_⟩
    · simp [results, Tryd.results23, go_sem]
    · repeat (with_reducible refine bel_set ?_ (by omega) _)
      with_reducible exact HB.out _ _ _
  · go_enter Tryd.func23, Tryd.ntmps23
    go_wp2_with fail
    refine bodyPost_ret (v := .agg #[.int .u8 (k : Int), .int .u32 5, .int .u8 0, .int .u16 0, .int .u64 7, .int .u64 8, .int .u8 2, .string ⟨#[97]⟩, .string ⟨#[98]⟩, .int .i64 0, .int .i64 0]) ?_ rfl ⟨rfl, ?_⟩
    · simp [results, Tryd.results23, go_sem]
    · repeat (with_reducible refine bel_set ?_ (by omega) _)
      with_reducible exact HB.out _ _ _
  · go_enter Tryd.func23, Tryd.ntmps23
    go_wp2_with fail
    refine bodyPost_ret (v := .agg #[.int .u8 (k : Int), .int .u32 5, .int .u8 3, .int .u16 0, .int .u64 7, .int .u64 8, .int .u8 2, .string ⟨#[97]⟩, .string ⟨#[98]⟩, .int .i64 0, .int .i64 0]) ?_ rfl ⟨rfl, ?_⟩
    · simp [results, Tryd.results23, go_sem]
    · repeat (with_reducible refine bel_set ?_ (by omega) _)
      with_reducible exact HB.out _ _ _
  · go_enter Tryd.func23, Tryd.ntmps23
    go_wp2_with fail
    refine bodyPost_ret (v := .agg #[.int .u8 (k : Int), .int .u32 5, .int .u8 0, .int .u16 9, .int .u64 7, .int .u64 8, .int .u8 2, .string ⟨#[97]⟩, .string ⟨#[98]⟩, .int .i64 0, .int .i64 0]) ?_ rfl ⟨rfl, ?_⟩
    · simp [results, Tryd.results23, go_sem]
    · repeat (with_reducible refine bel_set ?_ (by omega) _)
      with_reducible exact HB.out _ _ _
  · go_enter Tryd.func23, Tryd.ntmps23
    go_wp2_with fail
    refine bodyPost_ret (v := .agg #[.int .u8 (k : Int), .int .u32 5, .int .u8 3, .int .u16 9, .int .u64 7, .int .u64 8, .int .u8 2, .string ⟨#[97]⟩, .string ⟨#[98]⟩, .int .i64 0, .int .i64 0]) ?_ rfl ⟨rfl, ?_⟩
    · simp [results, Tryd.results23, go_sem]
    · repeat (with_reducible refine bel_set ?_ (by omega) _)
      with_reducible exact HB.out _ _ _
end Go.Proofs.YtgailpljcobabaaDoor
