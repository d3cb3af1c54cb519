/- Made by tools/gen/cn.py. -/
/- Layer 15, the statements' helpers: same, is, own, live, dead, example. -/
import Derived.Test.YteegnehfagkjcaaCnY
namespace Go.Proofs.Yteegnehfagkjcaa
open Go.ChangeShapes Go.WideShapes Go.ChangeAt Go.RowKit

theorem rver_guard : Try.prog.eqGuardType Try.prog.depth 46 = false := by kernel_rfl
theorem rver_self (v : Cn.Ver) (w : World) : (Op.equalIn 10000 46 (.agg #[.int .u64 (v.e : Int), .bool v.d, .int .i64 v.a.c, .int .i64 v.a.s, .int .i64 v.a.lo, .int .i64 v.a.hi]) (.agg #[.int .u64 (v.e : Int), .bool v.d, .int .i64 v.a.c, .int .i64 v.a.s, .int .i64 v.a.lo, .int .i64 v.a.hi])).run Try.prog w = .ok true w := by
  have hS : Try.prog.underlying 46 = some (.struct (Try.prog.fieldsOf 46)) := by kernel_rfl
  have hp : Try.prog.stoodInHeld 46 = false := by kernel_rfl
  rw [show (10000 : Nat) = 9999 + 1 from rfl, run_equalIn_agg w 9999 46 _ _ hS hp]
  simp only [Program.fieldsOf, Try.underlying46]
  go_simp
set_option maxRecDepth 100000 in
set_option maxHeartbeats 2000000 in
theorem same_yes (w : World) (F G : Nat → Prop) (A B : Option Addr) (n c d : Nat) (l : List Cn.Ver) (h : Cells w F A n 6 (vrL l)) (k : Cells w G B n 6 (vrL l)) (hn : n ≤ 100000) : Calls Try.prog 25 #[.slice A n c, .slice B n d] w (BoolP w true) := by
  have hln := vr_len h
  have HR := Lib.hid (refs_any w F A n c l h hn)
  unfold VrP at HR
  rw [hln] at HR
  have H := Lib.hid (And.intro k hln)
  have g1 := rver_guard
  clear h k hln
  go_enter Try.func25, Try.ntmps25
  go_wp2_with fail
  refine HR.out.mono ?_
  rintro e w1 ⟨A1, c1, rfl, ho, b1⟩
  have H1 := Lib.hid (And.intro (Cells.of_own ho) b1)
  clear ho b1
  go_wp2_with fail
  go_loopw [6] (fun i wr => ∃ j : Nat, j ≤ n ∧ i = .int .i64 (j : Int) ∧ Below w1.heap.size w1 wr) (fun i _ => n - (intOf i).toNat)
  case atStart => exact ⟨0, Nat.zero_le _, rfl, Below.refl _ _⟩
  case round =>
    obtain ⟨j, hk, rfl, hh⟩ := hrel
    by_cases hlt : j < n
    · have i2 : (0 : Int) ≤ (j : Int) := by omega
      have i3 : (j : Int) < (n : Int) := by omega
      have hy := Cn.ix_some (l := l) (i := j) (by have := H.out.2; omega)
      obtain ⟨y, hyy⟩ : ∃ y, Cn.ix l j = y := ⟨_, rfl⟩
      rw [hyy] at hy
      obtain ⟨b, off, rfl, -, hbl, z0, z1, z2, z3, z4, z5⟩ := vr_cells H1.out.1 hy
      obtain ⟨b', off', rfl, -, hbl', x0, x1, x2, x3, x4, x5⟩ := vr_cells (H.out.1.below H1.out.2) hy
      have y0 := (hh.cell (p := ⟨b, off + j * 6, none⟩) hbl).trans z0
      have y1 := (hh.cell (p := ⟨b, off + j * 6 + 1, none⟩) hbl).trans z1
      have y2 := (hh.cell (p := ⟨b, off + j * 6 + 2, none⟩) hbl).trans z2
      have y3 := (hh.cell (p := ⟨b, off + j * 6 + 3, none⟩) hbl).trans z3
      have y4 := (hh.cell (p := ⟨b, off + j * 6 + 4, none⟩) hbl).trans z4
      have y5 := (hh.cell (p := ⟨b, off + j * 6 + 5, none⟩) hbl).trans z5
      have u0 := (hh.cell (p := ⟨b', off' + j * 6, none⟩) hbl').trans x0
      have u1 := (hh.cell (p := ⟨b', off' + j * 6 + 1, none⟩) hbl').trans x1
      have u2 := (hh.cell (p := ⟨b', off' + j * 6 + 2, none⟩) hbl').trans x2
      have u3 := (hh.cell (p := ⟨b', off' + j * 6 + 3, none⟩) hbl').trans x3
      have u4 := (hh.cell (p := ⟨b', off' + j * 6 + 4, none⟩) hbl').trans x4
      have u5 := (hh.cell (p := ⟨b', off' + j * 6 + 5, none⟩) hbl').trans x5
      have q1 := fun W => rver_self y W
      have HH := Lib.hid hh
      clear hh hy hyy z0 z1 z2 z3 z4 z5 x0 x1 x2 x3 x4 x5 hk
      go_wp2_with fail
      go_quiet (fail)
      go_wp2_with fail
      go_roundw
      case rel => exact ⟨j + 1, by omega, by go_num, below_drewN HH.out _⟩
      case measure => simp [intOf]; omega
    · have HH := Lib.hid hh
      clear hh
      obtain rfl : j = n := by omega
      go_wp2_with fail
      go_ret
      exact ⟨rfl, below_next H1.out.2 HH.out⟩
set_option maxRecDepth 100000 in
set_option maxHeartbeats 1000000 in
theorem is_yes (w : World) (a : Ag.A) : Calls Try.prog 18 #[.agg #[.int .i64 a.c, .int .i64 a.s, .int .i64 a.lo, .int .i64 a.hi], .agg #[.int .i64 a.c, .int .i64 a.s, .int .i64 a.lo, .int .i64 a.hi]] w (BoolP w true) := by
  have HB := Lib.hid (below_next (bel_al w (.cells #[.int .i64 a.c, .int .i64 a.s, .int .i64 a.lo, .int .i64 a.hi] 33)) (bel_al _ (.cells #[.int .i64 a.c, .int .i64 a.s, .int .i64 a.lo, .int .i64 a.hi] 40)))
  go_enter Try.func18, Try.ntmps18
  go_wp2_with fail
  go_ret
  exact ⟨rfl, HB.out⟩
set_option maxRecDepth 100000 in
theorem own_any (w : World) (F : Nat → Prop) (A : Option Addr) (n c : Nat) (l : List Cn.Ver) (h : Cells w F A n 6 (vrL l)) (hn : n ≤ 100000) : Calls Try.prog 10 #[.slice A n c] w (VrP w 35 l) := by
  have hln := vr_len h
  obtain ⟨i0, hi, hz0, hz1, hz2⟩ := info_parts Try.info35
  obtain ⟨A1, c1, w2, hrun, hown, hb2⟩ := append_copy (P := Try.prog) (w := w) (F := F) (A := A) (n := n) (c := c) 22 35 i0 _ 48 Try.underlying22 hi hz0 hz1 hz2 rfl (by decide) 22 h (vrL_one l) (by omega) (by decide)
  have HRUN := Lib.hid (And.intro hrun (And.intro hown (And.intro hb2 hln)))
  clear hrun hown hb2 h hln hi hz0 hz1 hz2
  go_enter Try.func10, Try.ntmps10
  go_wp2_with (at_builtin; refine wpList_append_eq rfl _ _ 22 rfl rfl rfl HRUN.out.1 ?_)
  go_ret
  exact ⟨A1, c1, by rw [HRUN.out.2.2.2]; rfl, by rw [HRUN.out.2.2.2]; exact HRUN.out.2.1, HRUN.out.2.2.1⟩
def VerP (w : World) (v : Cn.Ver) (e : Ending) (w' : World) : Prop := e = .returned (.agg #[.int .u64 (v.e : Int), .bool v.d, .int .i64 v.a.c, .int .i64 v.a.s, .int .i64 v.a.lo, .int .i64 v.a.hi]) ∧ Below w.heap.size w w'
def Cn.liveV (x : Nat) (v : Int) : Cn.Ver := ⟨x, false, ⟨1, v, v, v⟩⟩
def Cn.deadV (x : Nat) : Cn.Ver := ⟨x, true, Ag.none'⟩
set_option maxRecDepth 100000 in
set_option maxHeartbeats 1000000 in
theorem live_any (w : World) (x : Nat) (v : Int) : Calls Try.prog 32 #[.int .u64 (x : Int), .int .i64 v] w (VerP w (Cn.liveV x v)) := by
  go_enter Try.func32, Try.ntmps32
  go_wp2_with fail
  refine bodyPost_ret (v := .agg #[.int .u64 (x : Int), .bool false, .int .i64 1, .int .i64 v, .int .i64 v, .int .i64 v]) ?_ rfl ⟨rfl, bel_al _ _⟩
  simp [results, Try.results32, go_sem]
set_option maxRecDepth 100000 in
set_option maxHeartbeats 1000000 in
theorem dead_any (w : World) (x : Nat) : Calls Try.prog 33 #[.int .u64 (x : Int)] w (VerP w (Cn.deadV x)) := by
  go_enter Try.func33, Try.ntmps33
  go_wp2_with fail
  refine bodyPost_ret (v := .agg #[.int .u64 (x : Int), .bool true, .int .i64 0, .int .i64 0, .int .i64 0, .int .i64 0]) ?_ rfl ⟨rfl, bel_al _ _⟩
  simp [results, Try.results33, go_sem]
def Cn.ex : List Cn.Ver := [Cn.liveV 2 5, Cn.deadV 4, Cn.liveV 7 9]
theorem Cn.ex_right : Cn.right Cn.ex = true := by decide
def ChQ (w : World) (l : List Cn.Ver) (e : Ending) (w' : World) : Prop := ∃ g, e = .returned (.pointer (some ⟨g, 0, none⟩)) ∧ ChIn w' (fun b => w.heap.size ≤ b) g l ∧ Below w.heap.size w w'
set_option maxRecDepth 100000 in
set_option maxHeartbeats 2000000 in
theorem example_any (w : World) : Calls Try.prog 34 #[] w (ChQ w Cn.ex) := by
  have l1 : ∀ W, Calls Try.prog 32 #[.int .u64 2, .int .i64 5] W (fun e w' => e = .returned (.agg #[.int .u64 2, .bool false, .int .i64 1, .int .i64 5, .int .i64 5, .int .i64 5]) ∧ Below W.heap.size W w') := fun W => live_any W 2 5
  have l2 : ∀ W, Calls Try.prog 33 #[.int .u64 4] W (fun e w' => e = .returned (.agg #[.int .u64 4, .bool true, .int .i64 0, .int .i64 0, .int .i64 0, .int .i64 0]) ∧ Below W.heap.size W w') := fun W => dead_any W 4
  have l3 : ∀ W, Calls Try.prog 32 #[.int .u64 7, .int .i64 9] W (fun e w' => e = .returned (.agg #[.int .u64 7, .bool false, .int .i64 1, .int .i64 9, .int .i64 9, .int .i64 9]) ∧ Below W.heap.size W w') := fun W => live_any W 7 9
  have L1 := Lib.hid l1
  have L2 := Lib.hid l2
  have L3 := Lib.hid l3
  have hof : ∀ W : World, Calls Try.prog 11 #[.slice (some ⟨W.heap.size, 0, none⟩) 3 3] (W.alloc (.cells #[.int .u64 2, .bool false, .int .i64 1, .int .i64 5, .int .i64 5, .int .i64 5, .int .u64 4, .bool true, .int .i64 0, .int .i64 0, .int .i64 0, .int .i64 0, .int .u64 7, .bool false, .int .i64 1, .int .i64 9, .int .i64 9, .int .i64 9] 35)) (OfQ (W.alloc (.cells #[.int .u64 2, .bool false, .int .i64 1, .int .i64 5, .int .i64 5, .int .i64 5, .int .u64 4, .bool true, .int .i64 0, .int .i64 0, .int .i64 0, .int .i64 0, .int .u64 7, .bool false, .int .i64 1, .int .i64 9, .int .i64 9, .int .i64 9] 35)) Cn.ex) := fun W =>
    in_of _ (fun _ => True) (some ⟨W.heap.size, 0, none⟩) 3 3 Cn.ex (Cells.of_blk (Blk.new W 35 _) trivial rfl rfl) (by omega)
  have HO := Lib.hid hof
  clear l1 l2 l3 hof
  go_enter Try.func34, Try.ntmps34
  go_wp2_with (first
    | (go_at_call 32; (with_reducible refine (L1.out _).mono ?_); rintro e w1 ⟨rfl, b1⟩; have B1 := Lib.hid b1; clear b1)
    | (go_at_call 33; (with_reducible refine (L2.out _).mono ?_); rintro e w2 ⟨rfl, b2⟩; have B2 := Lib.hid (below_next B1.out b2); clear b2)
    | (go_at_call 32; (with_reducible refine (L3.out _).mono ?_); rintro e w3 ⟨rfl, b3⟩; have B3 := Lib.hid (below_next B2.out b3); clear b3)
    | (go_at_call 11; (refine (HO.out _).mono ?_); rintro e w4 (⟨h4, -⟩ | ⟨-, g, rfl, h4, b4⟩); (exact absurd (Cn.ex_right.symm.trans h4) (by decide)); have B4 := Lib.hid (And.intro h4 b4); clear h4 b4))
  go_ret
  have hX := bel_al w3 (.cells #[.int .u64 2, .bool false, .int .i64 1, .int .i64 5, .int .i64 5, .int .i64 5, .int .u64 4, .bool true, .int .i64 0, .int .i64 0, .int .i64 0, .int .i64 0, .int .u64 7, .bool false, .int .i64 1, .int .i64 9, .int .i64 9, .int .i64 9] 35)
  have hY := below_next B3.out hX
  exact ⟨g, rfl, B4.out.1.mono (fun b _ hb => Nat.le_trans hY.size hb), below_next hY B4.out.2⟩
end Go.Proofs.Yteegnehfagkjcaa
