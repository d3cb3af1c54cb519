/- Made by tools/gen/cn.py. -/
/- Layer 15, the statement ChainNone, as a walk: a chain that is not there answers so. -/
import Derived.Test.YteegnehfagkjcaaCnW
namespace Go.Proofs.Yteegnehfagkjcaa
open Go.ChangeShapes Go.WideShapes Go.ChangeAt Go.RowKit

set_option maxRecDepth 100000 in
set_option maxHeartbeats 4000000 in
theorem lawNone_any (w : World) (v : Cn.Ver) (a b : Nat) : Calls Try.prog 6 #[.agg #[.int .u64 (v.e : Int), .bool v.d, .int .i64 v.a.c, .int .i64 v.a.s, .int .i64 v.a.lo, .int .i64 v.a.hi], .int .u64 (a : Int), .int .u64 (b : Int)] w (BoolP w true) := by
  have K0 := Lib.hid ((Held.start w).new #[.int .u64 (v.e : Int), .bool v.d, .int .i64 v.a.c, .int .i64 v.a.s, .int .i64 v.a.lo, .int .i64 v.a.hi] 35)
  have N1 : Hid (∀ W, Calls Try.prog 14 #[.pointer none, .int .u64 (a : Int)] W (fun e w' => e = .returned (.tuple #[.agg #[.int .i64 0, .int .i64 0, .int .i64 0, .int .i64 0], .bool false]) ∧ Below W.heap.size W w')) := Lib.hid fun W => at_nil W a
  have N2 : Hid (∀ W, Calls Try.prog 16 #[.pointer none, .int .u64 (a : Int)] W (fun e w' => e = .returned (.tuple #[.agg #[.int .u64 0, .bool false, .int .i64 0, .int .i64 0, .int .i64 0, .int .i64 0], .bool false]) ∧ Below W.heap.size W w')) := Lib.hid fun W => next_nil W a
  go_enter Try.func6, Try.ntmps6
  go_wp2_with fail
  refine (N1.out _).mono ?_
  rintro e w1 ⟨rfl, b1⟩
  have K1 := Lib.hid (K0.out.step b1)
  clear b1
  go_wp2_with fail
  have K2 := K1.out.new #[.int .i64 0, .int .i64 0, .int .i64 0, .int .i64 0] 33
  refine (N2.out _).mono ?_
  rintro e w2 ⟨rfl, b2⟩
  have K3 := K2.step b2
  have K4 := K3.new #[.int .u64 0, .bool false, .int .i64 0, .int .i64 0, .int .i64 0, .int .i64 0] 35
  have c0 := K4.drop.drop.top.cell 0
  have c1 := K4.drop.drop.top.cell 1
  have c2 := K4.drop.drop.top.cell 2
  have c3 := K4.drop.drop.top.cell 3
  have c4 := K4.drop.drop.top.cell 4
  have c5 := K4.drop.drop.top.cell 5
  simp only [List.getElem?_toArray, List.getElem?_cons_zero, List.getElem?_cons_succ] at c0 c1 c2 c3 c4 c5
  have B4 := Lib.hid K4.1
  clear b2 K2 K3 K4
  go_wp2_with (first
    | (go_at_call 31; (refine (add_nil _ v).mono ?_); rintro e w3 ⟨rfl, b3⟩; have B5 := Lib.hid (B4.out.trans (b3.mono B4.out.size)); clear b3)
    | (go_at_call 19; (refine (differs_nil _ a b).mono ?_); rintro e w4 ⟨rfl, b4⟩; have B6 := Lib.hid (below_next B5.out b4); clear b4)
    | (go_at_call 21; (refine (garbC_nil _ a b).mono ?_); rintro e w5 ⟨rfl, b5⟩; have B7 := Lib.hid (below_next B6.out b5); clear b5)
    | (go_at_call 27; (refine (drop_nil _ a b).mono ?_); rintro e w6 ⟨rfl, b6⟩; have B8 := Lib.hid (below_next B7.out b6); clear b6)
    | (go_at_call 29; (refine (trim_nil _ b).mono ?_); rintro e w7 ⟨rfl, b7⟩; have B9 := Lib.hid (below_next B8.out b7); clear b7)
    | (go_at_call 24; (refine (versions_nil _).mono ?_); rintro e w8 ⟨A8, c8, rfl, -, b8⟩; have B10 := Lib.hid (below_next B9.out b8); clear b8)
    | (go_at_call 23; (refine (len_nil _).mono ?_); rintro e w9 ⟨rfl, b9⟩; have B11 := Lib.hid (below_next B10.out b9); clear b9)
    | (go_at_call 8; (refine (works_any _).mono ?_); rintro e w10 ⟨rfl, b10⟩; have B12 := Lib.hid (below_next B11.out b10); clear b10))
  go_ret
  exact ⟨rfl, B12.out⟩
end Go.Proofs.Yteegnehfagkjcaa
