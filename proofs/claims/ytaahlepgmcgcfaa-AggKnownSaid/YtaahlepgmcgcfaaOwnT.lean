/- Stage 5's reference: rows in memory of the call's own, a row of them turned; rows held against each other. -/
import Derived.Test.YtaahlepgmcgcfaaLaw5C
namespace Go.Proofs.Ytaahlepgmcgcfaa
open Go.ChangeShapes Go.WideShapes Go.ChangeAt Go.RowKit

/-- Block g is the call's own, and holds the rows X from its start on. -/
def OwnT (T : TypeId) (w : World) (base g n cap : Nat) (X : List Rw) : Prop := base ≤ g ∧ n ≤ cap ∧ cap ≤ maxLen ∧ X.length = n ∧ ∃ cs, Blk w g T cs ∧ cs.size = cap * 7 ∧ ∀ i, i < n → ∀ j, j < 7 → cs[i * 7 + j]? = (rowL (X.getD i default))[j]?
section
variable {T : TypeId} {w w' : World} {base g n cap : Nat} {X : List Rw}
theorem OwnT.of_own (h : w.ownsRow base T 7 (.slice (some ⟨g, 0, none⟩) n cap) n (rcells X)) : OwnT T w base g n cap X := by
  have hl : X.length = n := by have := h.1; rw [rcells_len] at this; omega
  rcases h.2 with ⟨e, _⟩ | ⟨g', cap', cur, e, hb, hh, hnc, hcm, hcs, htake⟩
  · cases e
  · injection e with e1 e2 e3
    injection e1 with e1
    injection e1 with e1
    subst e1 e3
    refine ⟨hb, hnc, hcm, hl, cur, hh, hcs, fun i hi j hj => ?_⟩
    rw [← rcells_at X i j (by omega) hj, ← htake, List.getElem?_take_of_lt (by omega), Array.getElem?_toList]
theorem OwnT.to_own (h : OwnT T w base g n cap X) : w.ownsRow base T 7 (.slice (some ⟨g, 0, none⟩) n cap) n (rcells X) := by
  obtain ⟨hb, hnc, hcm, hl, cs, hh, hcs, hc⟩ := h
  refine ⟨by rw [rcells_len, hl], .inr ⟨g, cap, cs, rfl, hb, hh, hnc, hcm, hcs, ?_⟩⟩
  apply List.ext_getElem?
  intro k
  rcases Nat.lt_or_ge k (n * 7) with hk | hk
  · have hkd : k / 7 < n := by omega
    have hkm : k % 7 < 7 := Nat.mod_lt _ (by omega)
    have e2 : k / 7 * 7 + k % 7 = k := by omega
    have h1 := hc (k / 7) hkd (k % 7) hkm
    have h2 := rcells_at X (k / 7) (k % 7) (by omega) hkm
    rw [e2] at h1 h2
    rw [List.getElem?_take_of_lt hk, Array.getElem?_toList, h1, h2]
  · rw [List.getElem?_eq_none (by simp; omega), List.getElem?_eq_none (by rw [rcells_len, hl]; omega)]
theorem OwnT.below (h : OwnT T w base g n cap X) (b : Below w.heap.size w w') : OwnT T w' base g n cap X := by
  obtain ⟨hb, hnc, hcm, hl, cs, hh, r⟩ := h
  exact ⟨hb, hnc, hcm, hl, cs, hh.below b hh.lt, r⟩
theorem OwnT.cells (h : OwnT T w base g n cap X) {i : Nat} (hi : i < n) {r : Rw} (hr : X.getD i default = r) : w.cell? ⟨g, i * 7, none⟩ = some (.string r.p.k) ∧ w.cell? ⟨g, i * 7 + 1, none⟩ = some (.int .i64 r.p.s) ∧ w.cell? ⟨g, i * 7 + 2, none⟩ = some (.int .i64 r.p.e) ∧ w.cell? ⟨g, i * 7 + 3, none⟩ = some (.int .i64 r.a.c) ∧ w.cell? ⟨g, i * 7 + 4, none⟩ = some (.int .i64 r.a.s) ∧ w.cell? ⟨g, i * 7 + 5, none⟩ = some (.int .i64 r.a.lo) ∧ w.cell? ⟨g, i * 7 + 6, none⟩ = some (.int .i64 r.a.hi) := by
  subst hr
  obtain ⟨hb, hnc, hcm, hl, cs, hh, hcs, hc⟩ := h
  have e := fun j hj => (hh.cell (i * 7 + j)).trans (hc i hi j hj)
  exact ⟨e 0 (by omega), e 1 (by omega), e 2 (by omega), e 3 (by omega), e 4 (by omega), e 5 (by omega), e 6 (by omega)⟩
theorem OwnT.frozen (h : OwnT T w base g n cap X) (i : Nat) : w.frozen? ⟨g, i, none⟩ = false := by
  obtain ⟨hb, hnc, hcm, hl, cs, hh, hcs, hc⟩ := h
  exact hh.frozen i
theorem OwnT.set (h : OwnT T w base g n cap X) {i : Nat} (hi : i < n) (r : Rw) : OwnT T (setRow w g (i * 7) r) base g n cap (X.set i r) := by
  obtain ⟨hb, hnc, hcm, hl, cs, h1, hcs, h2⟩ := h
  refine ⟨hb, hnc, hcm, by rw [List.length_set]; exact hl, _, (((((((h1.set_ _ _).set_ _ _).set_ _ _).set_ _ _).set_ _ _).set_ _ _).set_ _ _), by simp only [Array.size_setIfInBounds]; exact hcs, fun k hk j hj => ?_⟩
  have hz : ∀ j, j < 7 → i * 7 + j < cs.size := fun j hj => by rw [hcs]; omega
  have z0 := hz 0 (by omega)
  have z1 := hz 1 (by omega)
  have z2 := hz 2 (by omega)
  have z3 := hz 3 (by omega)
  have z4 := hz 4 (by omega)
  have z5 := hz 5 (by omega)
  have z6 := hz 6 (by omega)
  have hb := h2 k hk j hj
  simp only [Array.getElem?_setIfInBounds, Array.size_setIfInBounds]
  rcases Nat.lt_trichotomy k i with hki | hki | hki
  · have e : (X.set i r).getD k default = X.getD k default := by
      rw [List.getD_eq_getElem?_getD, List.getD_eq_getElem?_getD, List.getElem?_set_ne (by omega)]
    rw [e, if_neg (by omega), if_neg (by omega), if_neg (by omega), if_neg (by omega), if_neg (by omega), if_neg (by omega), if_neg (by omega)]
    exact hb
  · subst hki
    have e : (X.set k r).getD k default = r := by
      rw [List.getD_eq_getElem?_getD, List.getElem?_set_self (by omega)]; rfl
    rw [e]
    rcases (by omega : j = 0 ∨ j = 1 ∨ j = 2 ∨ j = 3 ∨ j = 4 ∨ j = 5 ∨ j = 6) with rfl | rfl | rfl | rfl | rfl | rfl | rfl
    all_goals
      simp only [Nat.add_right_cancel_iff, Nat.add_left_cancel_iff, rowL]
      simp
      try omega
  · have e : (X.set i r).getD k default = X.getD k default := by
      rw [List.getD_eq_getElem?_getD, List.getD_eq_getElem?_getD, List.getElem?_set_ne (by omega)]
    rw [e, if_neg (by omega), if_neg (by omega), if_neg (by omega), if_neg (by omega), if_neg (by omega), if_neg (by omega), if_neg (by omega)]
    exact hb
end
theorem RowsIn.of_own {w : World} {base n c : Nat} {A : Option Addr} {T : TypeId} {l : List Rw} (h : w.ownsRow base T 7 (.slice A n c) n (rcells l)) : RowsIn w w.heap.size A n l := by
  have hl : l.length = n := by have := h.1; rw [rcells_len] at this; omega
  refine ⟨hl, fun hn => ?_⟩
  rcases h.2 with ⟨_, h1⟩ | ⟨g', cap', cur, e, hb, hh, hnc, hcm, hcs, htake⟩
  · omega
  · injection e with e1 e2 e3
    subst e1
    have hk : Blk w g' T cur := hh
    refine ⟨g', 0, rfl, hk.lt, fun i hi j hj => ?_⟩
    rw [Nat.zero_add, hk.cell, ← rcells_at l i j (by omega) hj, ← htake, List.getElem?_take_of_lt (by omega), Array.getElem?_toList]
theorem rrow_guard : Try.prog.eqGuardType Try.prog.depth 58 = false := by kernel_rfl
theorem rrow_same (r q : Rw) (w : World) : (Op.equalIn 10000 58 (.agg #[.string r.p.k, .int .i64 r.p.s, .int .i64 r.p.e, .int .i64 r.a.c, .int .i64 r.a.s, .int .i64 r.a.lo, .int .i64 r.a.hi]) (.agg #[.string q.p.k, .int .i64 q.p.s, .int .i64 q.p.e, .int .i64 q.a.c, .int .i64 q.a.s, .int .i64 q.a.lo, .int .i64 q.a.hi])).run Try.prog w = .ok (reqB r q) w := by
  have hS : Try.prog.underlying 58 = some (.struct (Try.prog.fieldsOf 58)) := by kernel_rfl
  have hp : Try.prog.stoodInHeld 58 = false := by kernel_rfl
  rw [show (10000 : Nat) = 9999 + 1 from rfl, run_equalIn_agg w 9999 58 _ _ hS hp]
  simp only [Program.fieldsOf, Try.underlying58]
  go_simp
  unfold reqB
  (repeat' split) <;> simp [*]
set_option maxRecDepth 100000 in
set_option maxHeartbeats 2000000 in
theorem refSame_any (n c n2 c2 B : Nat) (A A2 : Option Addr) (l l2 : List Rw) (w : World) (h : RowsIn w B A n l) (h2 : RowsIn w B A2 n2 l2) (hn : n ≤ 1000) (hn2 : n2 ≤ 1000) :
    Calls Try.prog 10 #[.slice A n c, .slice A2 n2 c2] w fun e w' => e = .returned (.bool (rsame l l2)) ∧ Drew w w' := by
  have g1 := rrow_guard
  by_cases hne : n = n2
  · subst hne
    have HP := Lib.hid (And.intro h h2)
    clear h h2
    go_enter Try.func10, Try.ntmps10
    go_wp2_with fail
    go_loopw [5] (fun i wr => ∃ j : Nat, j ≤ n ∧ i = .int .i64 (j : Int) ∧ rsame (l.drop j) (l2.drop j) = rsame l l2 ∧ Drew w wr) (fun i _ => n - (intOf i).toNat)
    case atStart => exact ⟨0, by omega, rfl, rfl, 0, rfl⟩
    case round =>
      obtain ⟨j, hj, rfl, hr, m, rfl⟩ := hrel
      by_cases hlt : j < n
      · obtain ⟨b, off, rfl, hb, hc⟩ := HP.out.1.at_ hlt
        obtain ⟨b2, off2, rfl, hb2, hc2⟩ := HP.out.2.at_ hlt
        have hd := rsame_drop (a := l) (b := l2) (j := j) (by rw [HP.out.1.1]; exact hlt) (by rw [HP.out.2.1]; exact hlt)
        obtain ⟨x, hx⟩ : ∃ x, l.getD j default = x := ⟨_, rfl⟩
        obtain ⟨y, hy⟩ : ∃ y, l2.getD j default = y := ⟨_, rfl⟩
        obtain ⟨x0, x1, x2, x3, x4, x5, x6⟩ := hc x hx
        obtain ⟨y0, y1, y2, y3, y4, y5, y6⟩ := hc2 y hy
        rw [hx, hy, hr] at hd
        have q1 := fun W => rrow_same x y W
        have i1 : (0 : Int) ≤ j := by omega
        have i2 : (j : Int) < n := by omega
        clear hx hy hc hc2 hr
        cases hq : reqB x y
        · rw [hq, Bool.false_and] at hd
          rw [hq] at q1
          have HD := Lib.hid hd
          clear hd hq
          go_wp2_with fail
          go_quiet (fail)
          go_wp2_with fail
          go_ret
          exact ⟨by rw [HD.out]; rfl, drew_more _ _ _⟩
        · rw [hq, Bool.true_and] at hd
          rw [hq] at q1
          have HD := Lib.hid hd
          clear hd hq
          go_wp2_with fail
          go_quiet (fail)
          go_wp2_with fail
          go_roundw
          case rel => exact ⟨j + 1, by omega, by go_num, HD.out.symm, _, rfl⟩
          case measure => simp [intOf]; omega
      · obtain rfl : j = n := by omega
        have e1 : l.drop j = [] := List.drop_eq_nil_of_le (by rw [HP.out.1.1]; exact Nat.le_refl _)
        have e2 : l2.drop j = [] := List.drop_eq_nil_of_le (by rw [HP.out.2.1]; exact Nat.le_refl _)
        rw [e1, e2] at hr
        have HR := Lib.hid hr
        clear hr e1 e2
        go_wp2_with fail
        go_ret
        exact ⟨by rw [← HR.out]; rfl, _, rfl⟩
  · have e : rsame l l2 = false := rsame_len (by rw [h.1, h2.1]; exact hne)
    rw [e]
    have i1 : ((n : Int) != n2) = true := by
      rw [bne_iff_ne]; omega
    have i2 : (n != n2) = true := by rw [bne_iff_ne]; exact hne
    have i3 : decide (n = n2) = false := decide_eq_false hne
    clear h h2 e
    go_enter Try.func10, Try.ntmps10
    go_wp2_with fail
    go_ret
    exact ⟨rfl, 0, rfl⟩
end Go.Proofs.Ytaahlepgmcgcfaa
