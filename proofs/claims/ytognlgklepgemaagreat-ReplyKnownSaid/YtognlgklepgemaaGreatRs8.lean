/- Layer 5, the reference: rows compared (made by tools/slice.py). -/
import Derived.Test.YtognlgklepgemaaGreatAg8
import Derived.Test.YtognlgklepgemaaGreatRpE
namespace Go.Proofs.YtognlgklepgemaaGreat
open Go.ChangeShapes Go.WideShapes Go.ChangeAt Go.RowKit

theorem rrow_guard : Tryz.prog.eqGuardType Tryz.prog.depth 93 = false := by kernel_rfl
theorem rrow_same (r q : Rw) (w : World) : (Op.equalIn 10000 93 (.agg #[.string r.p.k, .int .i64 r.p.s, .int .i64 r.p.e, .int .i64 r.a.c, .int .i64 r.a.s, .int .i64 r.a.lo, .int .i64 r.a.hi]) (.agg #[.string q.p.k, .int .i64 q.p.s, .int .i64 q.p.e, .int .i64 q.a.c, .int .i64 q.a.s, .int .i64 q.a.lo, .int .i64 q.a.hi])).run Tryz.prog w = .ok (reqB r q) w := by
  have hS : Tryz.prog.underlying 93 = some (.struct (Tryz.prog.fieldsOf 93)) := by kernel_rfl
  have hp : Tryz.prog.stoodInHeld 93 = false := by kernel_rfl
  rw [show (10000 : Nat) = 9999 + 1 from rfl, run_equalIn_agg w 9999 93 _ _ hS hp]
  simp only [Program.fieldsOf, Tryz.underlying93]
  go_simp
  unfold reqB
  (repeat' split) <;> simp [*]
set_option maxRecDepth 100000 in
set_option maxHeartbeats 2000000 in
theorem refSame_any (n c n2 c2 B : Nat) (A A2 : Option Addr) (l l2 : List Rw) (w : World) (h : RowsIn w B A n l) (h2 : RowsIn w B A2 n2 l2) (hn : n ≤ 1000) (hn2 : n2 ≤ 1000) :
    Calls Tryz.prog 53 #[.slice A n c, .slice A2 n2 c2] w fun e w' => e = .returned (.bool (rsame l l2)) ∧ Drew w w' := by
  have g1 := rrow_guard
  by_cases hne : n = n2
  · subst hne
    have HP := Lib.hid (And.intro h h2)
    clear h h2
    go_enter Tryz.func53, Tryz.ntmps53
    go_wp2_with fail
    go_loopw [5] (fun i wr => ∃ j : Nat, j ≤ n ∧ i = .int .i64 (j : Int) ∧ rsame (l.drop j) (l2.drop j) = rsame l l2 ∧ Drew w wr) (fun i _ => n - (intOf i).toNat)
    case atStart => exact ⟨0, by omega, rfl, rfl, 0, rfl⟩
    case round =>
      obtain ⟨j, hj, rfl, hr, m, rfl⟩ := hrel
      by_cases hlt : j < n
      · obtain ⟨b, off, rfl, hb, hc⟩ := HP.out.1.at_ hlt
        obtain ⟨b2, off2, rfl, hb2, hc2⟩ := HP.out.2.at_ hlt
        have hd := rsame_drop (a := l) (b := l2) (j := j) (by rw [HP.out.1.1]; exact hlt) (by rw [HP.out.2.1]; exact hlt)
        obtain ⟨x, hx⟩ : ∃ x, l.getD j default = x := ⟨_, rfl⟩
        obtain ⟨y, hy⟩ : ∃ y, l2.getD j default = y := ⟨_, rfl⟩
        obtain ⟨x0, x1, x2, x3, x4, x5, x6⟩ := hc x hx
        obtain ⟨y0, y1, y2, y3, y4, y5, y6⟩ := hc2 y hy
        rw [hx, hy, hr] at hd
        have q1 := fun W => rrow_same x y W
        have i1 : (0 : Int) ≤ j := by omega
        have i2 : (j : Int) < n := by omega
        clear hx hy hc hc2 hr
        cases hq : reqB x y
        · rw [hq, Bool.false_and] at hd
          rw [hq] at q1
          have HD := Lib.hid hd
          clear hd hq
          go_wp2_with fail
          go_quiet (fail)
          go_wp2_with fail
          go_ret
          exact ⟨by rw [HD.out]; rfl, drew_more _ _ _⟩
        · rw [hq, Bool.true_and] at hd
          rw [hq] at q1
          have HD := Lib.hid hd
          clear hd hq
          go_wp2_with fail
          go_quiet (fail)
          go_wp2_with fail
          go_roundw
          case rel => exact ⟨j + 1, by omega, by go_num, HD.out.symm, _, rfl⟩
          case measure => simp [intOf]; omega
      · obtain rfl : j = n := by omega
        have e1 : l.drop j = [] := List.drop_eq_nil_of_le (by rw [HP.out.1.1]; exact Nat.le_refl _)
        have e2 : l2.drop j = [] := List.drop_eq_nil_of_le (by rw [HP.out.2.1]; exact Nat.le_refl _)
        rw [e1, e2] at hr
        have HR := Lib.hid hr
        clear hr e1 e2
        go_wp2_with fail
        go_ret
        exact ⟨by rw [← HR.out]; rfl, _, rfl⟩
  · have e : rsame l l2 = false := rsame_len (by rw [h.1, h2.1]; exact hne)
    rw [e]
    have i1 : ((n : Int) != n2) = true := by
      rw [bne_iff_ne]; omega
    have i2 : (n != n2) = true := by rw [bne_iff_ne]; exact hne
    have i3 : decide (n = n2) = false := decide_eq_false hne
    clear h h2 e
    go_enter Tryz.func53, Tryz.ntmps53
    go_wp2_with fail
    go_ret
    exact ⟨rfl, 0, rfl⟩
end Go.Proofs.YtognlgklepgemaaGreat
