/- Made by tools/gen/cn.py. -/
/- Layer 15, the program: what is garbage; place, At, Next, Differs, Garbage. -/
import Derived.Test.YteegnehfagkjcaaCnG
import Derived.Deep.DeepCutAuto
import Derived.Deep.CutBlock
namespace Go.Proofs.Yteegnehfagkjcaa
open Go.ChangeShapes Go.WideShapes Go.ChangeAt Go.RowKit

theorem garbL_cases (v : Cn.Ver) (first : Bool) (bh f : Nat) : Cn.garbL v first bh f = if bh ≠ 0 ∧ bh ≤ f then true else if v.d = true ∧ first = true then decide (v.e ≤ f) else false := by
  unfold Cn.garbL
  by_cases h1 : bh ≠ 0 ∧ bh ≤ f
  · rw [if_pos h1, decide_eq_true h1.1, decide_eq_true h1.2]
    rfl
  · rw [if_neg h1]
    have : (decide (bh ≠ 0) && decide (bh ≤ f)) = false := by
      rw [← Bool.not_eq_true, Bool.and_eq_true, decide_eq_true_iff, decide_eq_true_iff]
      exact h1
    rw [this, Bool.false_or]
    cases v.d <;> cases first <;> simp
set_option maxRecDepth 100000 in
set_option maxHeartbeats 1000000 in
theorem garbage_any (w : World) (f bh : Nat) (v : Cn.Ver) (first : Bool) : Calls Try.prog 40 #[.agg #[.int .u64 (f : Int)], .agg #[.int .u64 (v.e : Int), .bool v.d, .int .i64 v.a.c, .int .i64 v.a.s, .int .i64 v.a.lo, .int .i64 v.a.hi, .bool first, .int .u64 (bh : Int)]] w (BoolP w (Cn.garbL v first bh f)) := by
  rw [garbL_cases]
  obtain ⟨z, hz⟩ : ∃ z : Int, (bh : Int) = z := ⟨_, rfl⟩
  rw [hz]
  have hB := ((Held.start w).new #[.int .u64 (f : Int)] 81).new #[.int .u64 (v.e : Int), .bool v.d, .int .i64 v.a.c, .int .i64 v.a.s, .int .i64 v.a.lo, .int .i64 v.a.hi, .bool first, .int .u64 z] 86
  have HB := Lib.hid hB.1
  clear hB
  obtain ⟨e, d, x⟩ := v
  dsimp only
  dsimp only at HB
  by_cases hb : bh ≠ 0 ∧ bh ≤ f
  · rw [if_pos hb]
    have b0 : (z != 0) = true := by rw [bne_iff_ne]; omega
    have b1 : z ≤ (f : Int) := by omega
    clear hb hz
    go_enter Try.func40, Try.ntmps40
    go_wp2_with fail
    go_ret
    exact ⟨rfl, HB.out⟩
  · rw [if_neg hb]
    obtain ⟨q, hq⟩ : ∃ q, (if d = true ∧ first = true then decide (e ≤ f) else false) = q := ⟨_, rfl⟩
    rw [hq]
    have HQ := Lib.hid hq
    clear hq
    by_cases h0 : bh = 0
    · obtain rfl : z = 0 := by omega
      clear hb h0 hz
      cases d <;> cases first
      all_goals
        go_enter Try.func40, Try.ntmps40
        go_wp2_with fail
        go_ret
        exact ⟨by rw [← HQ.out]; simp, HB.out⟩
    · have b0 : (z != 0) = true := by rw [bne_iff_ne]; omega
      have b1 : ¬ z ≤ (f : Int) := by omega
      clear hb h0 hz
      cases d <;> cases first
      all_goals
        go_enter Try.func40, Try.ntmps40
        go_wp2_with fail
        go_ret
        exact ⟨by rw [← HQ.out]; simp, HB.out⟩
/-- The function value that tells what is garbage by a floor. -/
def byF (f : Nat) : Value := .func (.func 40) #[.agg #[.int .u64 (f : Int)]] #[]
def PlaceP (w : World) (p : Nat × Bool) (e : Ending) (w' : World) : Prop := e = .returned (.tuple #[.int .i64 (p.1 : Int), .bool p.2]) ∧ Below w.heap.size w w'
set_option maxRecDepth 100000 in
set_option maxHeartbeats 4000000 in
theorem place_any (w : World) (g n c sp x f : Nat) (A : Option Addr) (l : List Cn.Ver) (h : ChAt w g A n c sp l) (hn : n ≤ 1000000) : Calls Try.prog 39 #[.pointer (some ⟨g, 0, none⟩), .int .u64 (x : Int), byF f] w (PlaceP w (Cn.place l x f)) := by
  have hent : ∀ (args : Array Value) (W : World), (callFunc 40 args).run Try.prog W = .ok (.enter 40 args) W := enters_of Try.func40 (by kernel_rfl) rfl
  have hle := Cn.upto_le l x
  have HU := Lib.hid (upto_any w g n c sp x A l h hn)
  obtain ⟨u, hu⟩ : ∃ u, Cn.upto l x = u := ⟨_, rfl⟩
  rw [hu] at hle HU
  have hpl : Cn.place l x f = if (decide (0 < u) && (decide ((Cn.ix l (u - 1)).e = x) && Cn.garb l (u - 1) f)) then (u - 1, true) else (0, false) := by unfold Cn.place Cn.isAt; rw [hu]
  rw [hpl]
  clear hpl hu
  have hw1 : IntKind.i64.wrap ((u : Int) - 1) = (u : Int) - 1 := by rw [IntKind.wrap_i64]; have := h.len; omega
  unfold byF
  rcases Nat.eq_zero_or_pos u with h0 | h0
  · subst h0
    clear h hle hw1
    go_enter Try.func39, Try.ntmps39
    go_wp2_with (go_at_call 38; (with_reducible refine HU.out.mono ?_); rintro e w1 ⟨rfl, b1⟩; have B1 := Lib.hid b1; clear b1)
    refine bodyPost_ret (v := .tuple #[.int .i64 0, .bool false]) ?_ rfl ⟨rfl, B1.out⟩
    simp [results, Try.results39, go_sem]
  · obtain ⟨k, rfl⟩ : ∃ k, u = k + 1 := ⟨u - 1, by omega⟩
    rw [Nat.add_sub_cancel, decide_eq_true h0, Bool.true_and]
    have hk : k < n := by have := h.len; omega
    have ek : ((k + 1 : Nat) : Int) - 1 = (k : Int) := by omega
    rw [ek] at hw1
    have i2 : (0 : Int) ≤ (k : Int) := by omega
    have i3 : (k : Int) < (n : Int) := by omega
    have i4 : ¬ (k : Int) < 0 := by omega
    have EK := Lib.hid ek
    clear ek h0 hle
    have yhy := Cn.ix_some (l := l) (i := k) (by have := h.len; omega)
    obtain ⟨y, yeq⟩ : ∃ y, Cn.ix l k = y := ⟨_, rfl⟩
    rw [yeq] at yhy
    obtain ⟨b, off, rfl, -, yhbl, z0, z1, z2, z3, z4, z5⟩ := vr_cells h.row.cells yhy
    have y0 := ((Below.refl w.heap.size w).cell (p := ⟨b, off + k * 6, none⟩) yhbl).trans z0
    have y1 := ((Below.refl w.heap.size w).cell (p := ⟨b, off + k * 6 + 1, none⟩) yhbl).trans z1
    have y2 := ((Below.refl w.heap.size w).cell (p := ⟨b, off + k * 6 + 2, none⟩) yhbl).trans z2
    have y3 := ((Below.refl w.heap.size w).cell (p := ⟨b, off + k * 6 + 3, none⟩) yhbl).trans z3
    have y4 := ((Below.refl w.heap.size w).cell (p := ⟨b, off + k * 6 + 4, none⟩) yhbl).trans z4
    have y5 := ((Below.refl w.heap.size w).cell (p := ⟨b, off + k * 6 + 5, none⟩) yhbl).trans z5
    clear z0 z1 z2 z3 z4 z5
    have HC : Hid (∀ W, Below w.heap.size w W → W.cell? ⟨g, 0, none⟩ = some (.slice (some ⟨b, off, none⟩) n c) ∧ W.cell? ⟨b, off + k * 6, none⟩ = some (.int .u64 (y.e : Int))) := Lib.hid fun W hW => by
      have hc := (h.blk.below hW h.blk.lt).cell 0
      exact ⟨hc, (hW.cell (p := ⟨b, off + k * 6, none⟩) yhbl).trans y0⟩
    rw [yeq]
    have H := Lib.hid h
    clear h y0 y1 y2 y3 y4 y5 yhbl yhy
    by_cases hx : y.e = x
    · subst hx
      have hgg : Cn.garb l k f = Cn.garbL y (k == 0) (Cn.behind l k) f := by unfold Cn.garb; rw [yeq]
      obtain ⟨r, hr⟩ : ∃ r, Cn.garb l k f = r := ⟨_, rfl⟩
      rw [hr, decide_eq_true rfl, Bool.true_and]
      have HG := Lib.hid (hgg.symm.trans hr)
      have YE := Lib.hid yeq
      have x1 : ((y.e : Int) != (y.e : Int)) = false := by simp
      clear hgg hr yeq
      go_enter Try.func39, Try.ntmps39
      cases r
      all_goals
        go_wp2_with (first
          | (go_at_call 38; (with_reducible refine HU.out.mono ?_); rintro e w1 ⟨rfl, b1⟩; obtain ⟨a0, a1⟩ := HC.out w1 b1; have ek := EK.out; have B1 := Lib.hid b1; clear b1)
          | (go_at_call 48; (refine (linkAt_any w1 g n c sp k _ l (H.out.below B1.out) hn hk).mono ?_); rintro e w2 ⟨rfl, b2⟩; rw [YE.out]; have B2 := Lib.hid (below_next B1.out b2); clear b2)
          | (go_at_call 40; (refine (garbage_any w2 f (Cn.behind l k) y (k == 0)).mono ?_); rintro e w3 ⟨rfl, b3⟩; rw [HG.out]; have B3 := Lib.hid (below_next B2.out b3); clear b3))
      · refine bodyPost_ret (v := .tuple #[.int .i64 0, .bool false]) ?_ rfl ⟨rfl, B3.out⟩
        simp [results, Try.results39, go_sem]
      · refine bodyPost_ret (v := .tuple #[.int .i64 (k : Int), .bool true]) ?_ rfl ⟨rfl, B3.out⟩
        simp [results, Try.results39, go_sem]
    · have x1 : ((y.e : Int) != (x : Int)) = true := by rw [bne_iff_ne]; omega
      rw [decide_eq_false hx, Bool.false_and]
      clear hx yeq
      go_enter Try.func39, Try.ntmps39
      go_wp2_with (go_at_call 38; (with_reducible refine HU.out.mono ?_); rintro e w1 ⟨rfl, b1⟩; obtain ⟨a0, a1⟩ := HC.out w1 b1; have ek := EK.out; have B1 := Lib.hid b1; clear b1)
      refine bodyPost_ret (v := .tuple #[.int .i64 0, .bool false]) ?_ rfl ⟨rfl, B1.out⟩
      simp [results, Try.results39, go_sem]
set_option maxRecDepth 100000 in
theorem place_nil (w : World) (x f : Nat) : Calls Try.prog 39 #[.pointer none, .int .u64 (x : Int), byF f] w (PlaceP w (0, false)) := by
  have HU := Lib.hid (upto_nil w x)
  have hw1 : IntKind.i64.wrap ((0 : Int) - 1) = (0 : Int) - 1 := by rw [IntKind.wrap_i64]; omega
  unfold byF
  go_enter Try.func39, Try.ntmps39
  go_wp2_with (go_at_call 38; (with_reducible refine HU.out.mono ?_); rintro e w1 ⟨rfl, b1⟩; have B1 := Lib.hid b1; clear b1)
  refine bodyPost_ret (v := .tuple #[.int .i64 0, .bool false]) ?_ rfl ⟨rfl, B1.out⟩
  simp [results, Try.results39, go_sem]
set_option maxRecDepth 100000 in
theorem garbC_of (w : World) (p : Value) (x f : Nat) (r : Nat × Bool) (h : ∀ W, Below w.heap.size w W → Calls Try.prog 39 #[p, .int .u64 (x : Int), byF f] W (PlaceP W r)) : Calls Try.prog 21 #[p, .int .u64 (x : Int), .int .u64 (f : Int)] w (BoolP w r.2) := by
  have hmf : ∀ (fn : Fn) (first cap : Array Value) (w : World), (Instr.makeFunc fn first cap).run Try.prog w = .ok (.func fn first cap) w := fun _ _ _ _ => rfl
  have H := Lib.hid h
  clear h
  obtain ⟨i, b⟩ := r
  go_enter Try.func21, Try.ntmps21
  go_wp2_with (go_at_call 39; (refine (H.out w (Below.refl _ _)).mono ?_); rintro e w1 ⟨rfl, b1⟩; have B1 := Lib.hid b1; clear b1)
  go_ret
  exact ⟨rfl, B1.out⟩
theorem garbC_any (w : World) (g n c sp x f : Nat) (A : Option Addr) (l : List Cn.Ver) (h : ChAt w g A n c sp l) (hn : n ≤ 1000000) : Calls Try.prog 21 #[.pointer (some ⟨g, 0, none⟩), .int .u64 (x : Int), .int .u64 (f : Int)] w (BoolP w (Cn.isAt l x f)) := by
  have e : (Cn.place l x f).2 = Cn.isAt l x f := by unfold Cn.place; cases Cn.isAt l x f <;> rfl
  rw [← e]
  exact garbC_of w _ x f _ fun W hW => place_any W g n c sp x f A l (h.below hW) hn
theorem garbC_nil (w : World) (x f : Nat) : Calls Try.prog 21 #[.pointer none, .int .u64 (x : Int), .int .u64 (f : Int)] w (BoolP w false) := garbC_of w _ x f (0, false) fun W _ => place_nil W x f
theorem Cn.dead_blank {v : Cn.Ver} (h : Cn.vok v = true) (hd : v.d = true) : v.a = Ag.none' := by
  unfold Cn.vok at h
  rw [Bool.and_eq_true, beq_iff_eq, hd] at h
  exact (Ag.blank_iff _).1 h.2.symm
set_option maxRecDepth 100000 in
set_option maxHeartbeats 4000000 in
theorem at_any (w : World) (g n c sp x : Nat) (A : Option Addr) (l : List Cn.Ver) (h : ChAt w g A n c sp l) (hn : n ≤ 1000000) : Calls Try.prog 14 #[.pointer (some ⟨g, 0, none⟩), .int .u64 (x : Int)] w (AtP w (Cn.at_ l x)) := by
  have hle := Cn.upto_le l x
  obtain ⟨rb, hrb⟩ : ∃ rb, w.heap.size = rb := ⟨_, rfl⟩
  have K := (Held.start w).new #[.int .i64 0, .int .i64 0, .int .i64 0, .int .i64 0] 33
  obtain ⟨w0, hw0⟩ : ∃ w0, w.alloc (.cells #[.int .i64 0, .int .i64 0, .int .i64 0, .int .i64 0] 33) = w0 := ⟨_, rfl⟩
  rw [hw0, hrb] at K
  have HU := Lib.hid (upto_any w0 g n c sp x A l (h.below K.1) hn)
  obtain ⟨u, hu⟩ : ∃ u, Cn.upto l x = u := ⟨_, rfl⟩
  rw [hu] at hle HU
  have hat : Cn.at_ l x = if u = 0 then (Ag.none', false) else ((Cn.ix l (u - 1)).a, !(Cn.ix l (u - 1)).d) := by unfold Cn.at_; rw [hu]
  rw [hat]
  have hw1 : IntKind.i64.wrap ((u : Int) - 1) = (u : Int) - 1 := by rw [IntKind.wrap_i64]; have := h.len; omega
  have HK := Lib.hid (And.intro K hrb)
  clear K hat hu
  rcases Nat.eq_zero_or_pos u with h0 | h0
  · subst h0
    rw [if_pos rfl]
    clear h hle hw1
    go_enter Try.func14, Try.ntmps14
    go_wp2_with (go_at_call 38; (refine HU.out.mono ?_); rintro e w1 ⟨rfl, b1⟩; have k1 := HK.out.1.step b1; have f0 := k1.top.frozen 0; have f1 := k1.top.frozen 1; have f2 := k1.top.frozen 2; have f3 := k1.top.frozen 3; have g0 := k1.top.cell 0; have g1 := k1.top.cell 1; have g2 := k1.top.cell 2; have g3 := k1.top.cell 3; simp only [List.getElem?_toArray, List.getElem?_cons_zero, List.getElem?_cons_succ] at g0 g1 g2 g3; have K1 := Lib.hid k1; clear b1 k1)
    have Q := K1.out.put4 (by have := HK.out.2; omega) (.int .i64 0) (.int .i64 0) (.int .i64 0) (.int .i64 0)
    have t0 := Q.top.cell 0
    have t1 := Q.top.cell 1
    have t2 := Q.top.cell 2
    have t3 := Q.top.cell 3
    simp only [List.getElem?_toArray, List.getElem?_cons_zero, List.getElem?_cons_succ] at t0 t1 t2 t3
    refine bodyPost_ret (v := .tuple #[.agg #[.int .i64 0, .int .i64 0, .int .i64 0, .int .i64 0], .bool false]) ?_ rfl ⟨rfl, Q.1⟩
    simp [results, Try.results14, go_sem, t0, t1, t2, t3]
  · obtain ⟨k, rfl⟩ : ∃ k, u = k + 1 := ⟨u - 1, by omega⟩
    rw [if_neg (by omega), Nat.add_sub_cancel]
    have hk : k < n := by have := h.len; omega
    have ek : ((k + 1 : Nat) : Int) - 1 = (k : Int) := by omega
    rw [ek] at hw1
    have k0 : (((k + 1 : Nat) : Int) == 0) = false := beq_eq_false_iff_ne.mpr (by omega)
    have i2 : (0 : Int) ≤ (k : Int) := by omega
    have i3 : (k : Int) < (n : Int) := by omega
    have EK := Lib.hid (And.intro ek k0)
    have hdb := fun hd => Cn.dead_blank (Cn.ok_at h.right (i := k) (by have := h.len; omega)) hd
    clear ek k0 h0 hle
    have yhy := Cn.ix_some (l := l) (i := k) (by have := h.len; omega)
    obtain ⟨y, yeq⟩ : ∃ y, Cn.ix l k = y := ⟨_, rfl⟩
    rw [yeq] at yhy
    obtain ⟨b, off, rfl, -, yhbl, z0, z1, z2, z3, z4, z5⟩ := vr_cells h.row.cells yhy
    have y0 := ((Below.refl w.heap.size w).cell (p := ⟨b, off + k * 6, none⟩) yhbl).trans z0
    have y1 := ((Below.refl w.heap.size w).cell (p := ⟨b, off + k * 6 + 1, none⟩) yhbl).trans z1
    have y2 := ((Below.refl w.heap.size w).cell (p := ⟨b, off + k * 6 + 2, none⟩) yhbl).trans z2
    have y3 := ((Below.refl w.heap.size w).cell (p := ⟨b, off + k * 6 + 3, none⟩) yhbl).trans z3
    have y4 := ((Below.refl w.heap.size w).cell (p := ⟨b, off + k * 6 + 4, none⟩) yhbl).trans z4
    have y5 := ((Below.refl w.heap.size w).cell (p := ⟨b, off + k * 6 + 5, none⟩) yhbl).trans z5
    clear z0 z1 z2 z3 z4 z5
    have HC : Hid (∀ W, Below w.heap.size w W → W.cell? ⟨g, 0, none⟩ = some (.slice (some ⟨b, off, none⟩) n c) ∧ W.cell? ⟨b, off + k * 6 + 1, none⟩ = some (.bool y.d) ∧ W.cell? ⟨b, off + k * 6 + 2, none⟩ = some (.int .i64 y.a.c) ∧ W.cell? ⟨b, off + k * 6 + 3, none⟩ = some (.int .i64 y.a.s) ∧ W.cell? ⟨b, off + k * 6 + 4, none⟩ = some (.int .i64 y.a.lo) ∧ W.cell? ⟨b, off + k * 6 + 5, none⟩ = some (.int .i64 y.a.hi)) := Lib.hid fun W hW => by
      have hc := (h.blk.below hW h.blk.lt).cell 0
      exact ⟨hc, (hW.cell (p := ⟨b, off + k * 6 + 1, none⟩) yhbl).trans y1, (hW.cell (p := ⟨b, off + k * 6 + 2, none⟩) yhbl).trans y2, (hW.cell (p := ⟨b, off + k * 6 + 3, none⟩) yhbl).trans y3, (hW.cell (p := ⟨b, off + k * 6 + 4, none⟩) yhbl).trans y4, (hW.cell (p := ⟨b, off + k * 6 + 5, none⟩) yhbl).trans y5⟩
    have hne : b ≠ rb := by omega
    rw [yeq]
    rw [yeq] at hdb
    clear h y0 y1 y2 y3 y4 y5 yhbl yhy yeq
    obtain ⟨ye, yd, ya⟩ := y
    dsimp only at HC hdb ⊢
    cases yd with
    | true =>
      rw [hdb rfl] at HC ⊢
      clear hdb
      go_enter Try.func14, Try.ntmps14
      go_wp2_with (go_at_call 38; (refine HU.out.mono ?_); rintro e w1 ⟨rfl, b1⟩; have k1 := HK.out.1.step b1; obtain ⟨a0, a1, a2, a3, a4, a5⟩ := HC.out w1 k1.1; obtain ⟨ek, k0⟩ := EK.out; have f0 := k1.top.frozen 0; have f1 := k1.top.frozen 1; have f2 := k1.top.frozen 2; have f3 := k1.top.frozen 3; have g0 := k1.top.cell 0; have g1 := k1.top.cell 1; have g2 := k1.top.cell 2; have g3 := k1.top.cell 3; simp only [List.getElem?_toArray, List.getElem?_cons_zero, List.getElem?_cons_succ] at g0 g1 g2 g3; have K1 := Lib.hid k1; clear b1 k1)
      have Q := K1.out.put4 (by have := HK.out.2; omega) (.int .i64 0) (.int .i64 0) (.int .i64 0) (.int .i64 0)
      have t0 := Q.top.cell 0
      have t1 := Q.top.cell 1
      have t2 := Q.top.cell 2
      have t3 := Q.top.cell 3
      simp only [List.getElem?_toArray, List.getElem?_cons_zero, List.getElem?_cons_succ] at t0 t1 t2 t3
      refine bodyPost_ret (v := .tuple #[.agg #[.int .i64 0, .int .i64 0, .int .i64 0, .int .i64 0], .bool false]) ?_ rfl ⟨rfl, Q.1⟩
      simp [results, Try.results14, go_sem, t0, t1, t2, t3]
    | false =>
      clear hdb
      go_enter Try.func14, Try.ntmps14
      go_wp2_with (go_at_call 38; (refine HU.out.mono ?_); rintro e w1 ⟨rfl, b1⟩; have k1 := HK.out.1.step b1; obtain ⟨a0, a1, a2, a3, a4, a5⟩ := HC.out w1 k1.1; obtain ⟨ek, k0⟩ := EK.out; have f0 := k1.top.frozen 0; have f1 := k1.top.frozen 1; have f2 := k1.top.frozen 2; have f3 := k1.top.frozen 3; have g0 := k1.top.cell 0; have g1 := k1.top.cell 1; have g2 := k1.top.cell 2; have g3 := k1.top.cell 3; simp only [List.getElem?_toArray, List.getElem?_cons_zero, List.getElem?_cons_succ] at g0 g1 g2 g3; have K1 := Lib.hid k1; clear b1 k1)
      have Q := K1.out.put4 (by have := HK.out.2; omega) (.int .i64 ya.c) (.int .i64 ya.s) (.int .i64 ya.lo) (.int .i64 ya.hi)
      have t0 := Q.top.cell 0
      have t1 := Q.top.cell 1
      have t2 := Q.top.cell 2
      have t3 := Q.top.cell 3
      simp only [List.getElem?_toArray, List.getElem?_cons_zero, List.getElem?_cons_succ] at t0 t1 t2 t3
      refine bodyPost_ret (v := .tuple #[.agg #[.int .i64 ya.c, .int .i64 ya.s, .int .i64 ya.lo, .int .i64 ya.hi], .bool true]) ?_ rfl ⟨rfl, Q.1⟩
      simp [results, Try.results14, go_sem, t0, t1, t2, t3]
set_option maxRecDepth 100000 in
set_option maxHeartbeats 1000000 in
theorem at_nil (w : World) (x : Nat) : Calls Try.prog 14 #[.pointer none, .int .u64 (x : Int)] w (AtP w (Ag.none', false)) := by
  obtain ⟨rb, hrb⟩ : ∃ rb, w.heap.size = rb := ⟨_, rfl⟩
  have K := (Held.start w).new #[.int .i64 0, .int .i64 0, .int .i64 0, .int .i64 0] 33
  obtain ⟨w0, hw0⟩ : ∃ w0, w.alloc (.cells #[.int .i64 0, .int .i64 0, .int .i64 0, .int .i64 0] 33) = w0 := ⟨_, rfl⟩
  rw [hw0, hrb] at K
  have HU := Lib.hid (upto_nil w0 x)
  have HK := Lib.hid (And.intro K hrb)
  clear K
  go_enter Try.func14, Try.ntmps14
  go_wp2_with (go_at_call 38; (refine HU.out.mono ?_); rintro e w1 ⟨rfl, b1⟩; have k1 := HK.out.1.step b1; have f0 := k1.top.frozen 0; have f1 := k1.top.frozen 1; have f2 := k1.top.frozen 2; have f3 := k1.top.frozen 3; have g0 := k1.top.cell 0; have g1 := k1.top.cell 1; have g2 := k1.top.cell 2; have g3 := k1.top.cell 3; simp only [List.getElem?_toArray, List.getElem?_cons_zero, List.getElem?_cons_succ] at g0 g1 g2 g3; have K1 := Lib.hid k1; clear b1 k1)
  have Q := K1.out.put4 (by have := HK.out.2; omega) (.int .i64 0) (.int .i64 0) (.int .i64 0) (.int .i64 0)
  have t0 := Q.top.cell 0
  have t1 := Q.top.cell 1
  have t2 := Q.top.cell 2
  have t3 := Q.top.cell 3
  simp only [List.getElem?_toArray, List.getElem?_cons_zero, List.getElem?_cons_succ] at t0 t1 t2 t3
  refine bodyPost_ret (v := .tuple #[.agg #[.int .i64 0, .int .i64 0, .int .i64 0, .int .i64 0], .bool false]) ?_ rfl ⟨rfl, Q.1⟩
  simp [results, Try.results14, go_sem, t0, t1, t2, t3]
end Go.Proofs.Yteegnehfagkjcaa
