/- Made by tools/gen/cn.py. -/
/- Layer 15, the program: Next, Differs; rows copied; Of. -/
import Derived.Test.YteegnehfagkjcaaCnH
namespace Go.Proofs.Yteegnehfagkjcaa
open Go.ChangeShapes Go.WideShapes Go.ChangeAt Go.RowKit

namespace Cn
def differs (l : List Ver) (x y : Nat) : Bool := !same (at_ l x).1 (at_ l y).1
theorem same_iff (a b : Ag.A) : same a b = true ↔ a = b := by
  obtain ⟨c, s, l, h⟩ := a
  obtain ⟨c', s', l', h'⟩ := b
  simp only [same, Ag.A.mk.injEq, Bool.and_eq_true, beq_iff_eq]
  constructor
  · rintro ⟨⟨⟨h1, h2⟩, h3⟩, h4⟩; exact ⟨h1, h2, h3, h4⟩
  · rintro ⟨h1, h2, h3, h4⟩; exact ⟨⟨⟨h1, h2⟩, h3⟩, h4⟩
/-- Where something is told it is not blank, and elsewhere it is. -/
theorem at_blank {l : List Ver} (hr : right l = true) (x : Nat) : (at_ l x).2 = !Ag.blank (at_ l x).1 := by
  unfold at_
  by_cases h : upto l x = 0
  · rw [if_pos h]
    rfl
  · rw [if_neg h]
    have hle := upto_le l x
    have hv := ok_at hr (i := upto l x - 1) (by omega)
    unfold vok at hv
    rw [Bool.and_eq_true, beq_iff_eq] at hv
    show (!(ix l (upto l x - 1)).d) = !Ag.blank (ix l (upto l x - 1)).a
    rw [hv.2]
theorem differs_ref {l : List Ver} (hr : right l = true) (x y : Nat) : differs l x y = differsR l x y := by
  unfold differs differsR
  rw [at_blank hr x, at_blank hr y]
  generalize (at_ l x).1 = a
  generalize (at_ l y).1 = b
  cases hs : same a b with
  | true =>
    rw [(same_iff a b).1 hs]
    simp
  | false =>
    have hne : a ≠ b := fun e => by rw [(same_iff a b).2 e] at hs; cases hs
    cases ha : Ag.blank a <;> cases hb : Ag.blank b
    · rfl
    · rfl
    · rfl
    · exact absurd (((Ag.blank_iff a).1 ha).trans ((Ag.blank_iff b).1 hb).symm) hne
end Cn
set_option maxRecDepth 100000 in
set_option maxHeartbeats 4000000 in
theorem next_any (w : World) (g n c sp x : Nat) (A : Option Addr) (l : List Cn.Ver) (h : ChAt w g A n c sp l) (hn : n ≤ 1000000) : Calls Try.prog 16 #[.pointer (some ⟨g, 0, none⟩), .int .u64 (x : Int)] w (NextP w (Cn.next l x)) := by
  have hle := Cn.upto_le l x
  obtain ⟨rb, hrb⟩ : ∃ rb, w.heap.size = rb := ⟨_, rfl⟩
  have K := (Held.start w).new #[.int .u64 0, .bool false, .int .i64 0, .int .i64 0, .int .i64 0, .int .i64 0] 35
  obtain ⟨w0, hw0⟩ : ∃ w0, w.alloc (.cells #[.int .u64 0, .bool false, .int .i64 0, .int .i64 0, .int .i64 0, .int .i64 0] 35) = w0 := ⟨_, rfl⟩
  rw [hw0, hrb] at K
  have HU := Lib.hid (upto_any w0 g n c sp x A l (h.below K.1) hn)
  obtain ⟨u, hu⟩ : ∃ u, Cn.upto l x = u := ⟨_, rfl⟩
  rw [hu] at hle HU
  have hat : Cn.next l x = if u = l.length then (Cn.zero, false) else (Cn.ix l u, true) := by unfold Cn.next; rw [hu]
  rw [hat, h.len]
  have HK := Lib.hid (And.intro K hrb)
  have HS := Lib.hid h
  clear K hat hu
  by_cases h0 : u = n
  · subst h0
    rw [if_pos rfl]
    clear h hle
    go_enter Try.func16, Try.ntmps16
    go_wp2_with (first
      | (go_at_call 38; (refine HU.out.mono ?_); rintro e w1 ⟨rfl, b1⟩; have K1 := Lib.hid (HK.out.1.step b1); clear b1)
      | (go_at_call 23; (refine (len_any w1 g u c sp A l (HS.out.below K1.out.1)).mono ?_); rintro e w2 ⟨rfl, b2⟩; have k1 := K1.out.step b2; have f0 := k1.top.frozen 0; have f1 := k1.top.frozen 1; have f2 := k1.top.frozen 2; have f3 := k1.top.frozen 3; have f4 := k1.top.frozen 4; have f5 := k1.top.frozen 5; have g0 := k1.top.cell 0; have g1 := k1.top.cell 1; have g2 := k1.top.cell 2; have g3 := k1.top.cell 3; have g4 := k1.top.cell 4; have g5 := k1.top.cell 5; simp only [List.getElem?_toArray, List.getElem?_cons_zero, List.getElem?_cons_succ] at g0 g1 g2 g3 g4 g5; have K2 := Lib.hid k1; clear b2 k1))
    have Q := K2.out.put6 (by have := HK.out.2; omega) (.int .u64 0) (.bool false) (.int .i64 0) (.int .i64 0) (.int .i64 0) (.int .i64 0)
    have t0 := Q.top.cell 0
    have t1 := Q.top.cell 1
    have t2 := Q.top.cell 2
    have t3 := Q.top.cell 3
    have t4 := Q.top.cell 4
    have t5 := Q.top.cell 5
    simp only [List.getElem?_toArray, List.getElem?_cons_zero, List.getElem?_cons_succ] at t0 t1 t2 t3 t4 t5
    refine bodyPost_ret (v := .tuple #[.agg #[.int .u64 0, .bool false, .int .i64 0, .int .i64 0, .int .i64 0, .int .i64 0], .bool false]) ?_ rfl ⟨rfl, Q.1⟩
    simp [results, Try.results16, go_sem, t0, t1, t2, t3, t4, t5]
  · rw [if_neg h0]
    have hk : u < n := by have := h.len; omega
    have hne : ((u : Int) == (n : Int)) = false := beq_eq_false_iff_ne.mpr (by omega)
    have i2 : (0 : Int) ≤ (u : Int) := by omega
    have i3 : (u : Int) < (n : Int) := by omega
    have yhy := Cn.ix_some (l := l) (i := u) (by have := h.len; omega)
    obtain ⟨y, yeq⟩ : ∃ y, Cn.ix l u = y := ⟨_, rfl⟩
    rw [yeq] at yhy
    obtain ⟨b, off, rfl, -, yhbl, z0, z1, z2, z3, z4, z5⟩ := vr_cells h.row.cells yhy
    have y0 := ((Below.refl w.heap.size w).cell (p := ⟨b, off + u * 6, none⟩) yhbl).trans z0
    have y1 := ((Below.refl w.heap.size w).cell (p := ⟨b, off + u * 6 + 1, none⟩) yhbl).trans z1
    have y2 := ((Below.refl w.heap.size w).cell (p := ⟨b, off + u * 6 + 2, none⟩) yhbl).trans z2
    have y3 := ((Below.refl w.heap.size w).cell (p := ⟨b, off + u * 6 + 3, none⟩) yhbl).trans z3
    have y4 := ((Below.refl w.heap.size w).cell (p := ⟨b, off + u * 6 + 4, none⟩) yhbl).trans z4
    have y5 := ((Below.refl w.heap.size w).cell (p := ⟨b, off + u * 6 + 5, none⟩) yhbl).trans z5
    clear z0 z1 z2 z3 z4 z5
    have HC : Hid (∀ W, Below w.heap.size w W → W.cell? ⟨g, 0, none⟩ = some (.slice (some ⟨b, off, none⟩) n c) ∧ W.cell? ⟨b, off + u * 6, none⟩ = some (.int .u64 (y.e : Int)) ∧ W.cell? ⟨b, off + u * 6 + 1, none⟩ = some (.bool y.d) ∧ W.cell? ⟨b, off + u * 6 + 2, none⟩ = some (.int .i64 y.a.c) ∧ W.cell? ⟨b, off + u * 6 + 3, none⟩ = some (.int .i64 y.a.s) ∧ W.cell? ⟨b, off + u * 6 + 4, none⟩ = some (.int .i64 y.a.lo) ∧ W.cell? ⟨b, off + u * 6 + 5, none⟩ = some (.int .i64 y.a.hi)) := Lib.hid fun W hW => by
      have hc := (h.blk.below hW h.blk.lt).cell 0
      exact ⟨hc, (hW.cell (p := ⟨b, off + u * 6, none⟩) yhbl).trans y0, (hW.cell (p := ⟨b, off + u * 6 + 1, none⟩) yhbl).trans y1, (hW.cell (p := ⟨b, off + u * 6 + 2, none⟩) yhbl).trans y2, (hW.cell (p := ⟨b, off + u * 6 + 3, none⟩) yhbl).trans y3, (hW.cell (p := ⟨b, off + u * 6 + 4, none⟩) yhbl).trans y4, (hW.cell (p := ⟨b, off + u * 6 + 5, none⟩) yhbl).trans y5⟩
    have hbr : b ≠ rb := by omega
    rw [yeq]
    clear h y0 y1 y2 y3 y4 y5 yhbl yhy yeq h0 hle
    go_enter Try.func16, Try.ntmps16
    go_wp2_with (first
      | (go_at_call 38; (refine HU.out.mono ?_); rintro e w1 ⟨rfl, b1⟩; have K1 := Lib.hid (HK.out.1.step b1); clear b1)
      | (go_at_call 23; (refine (len_any w1 g n c sp _ l (HS.out.below K1.out.1)).mono ?_); rintro e w2 ⟨rfl, b2⟩; have k1 := K1.out.step b2; obtain ⟨a, a0, a1, a2, a3, a4, a5⟩ := HC.out w2 k1.1; have f0 := k1.top.frozen 0; have f1 := k1.top.frozen 1; have f2 := k1.top.frozen 2; have f3 := k1.top.frozen 3; have f4 := k1.top.frozen 4; have f5 := k1.top.frozen 5; have g0 := k1.top.cell 0; have g1 := k1.top.cell 1; have g2 := k1.top.cell 2; have g3 := k1.top.cell 3; have g4 := k1.top.cell 4; have g5 := k1.top.cell 5; simp only [List.getElem?_toArray, List.getElem?_cons_zero, List.getElem?_cons_succ] at a g0 g1 g2 g3 g4 g5; have K2 := Lib.hid k1; clear b2 k1))
    have Q := K2.out.put6 (by have := HK.out.2; omega) (.int .u64 (y.e : Int)) (.bool y.d) (.int .i64 y.a.c) (.int .i64 y.a.s) (.int .i64 y.a.lo) (.int .i64 y.a.hi)
    have t0 := Q.top.cell 0
    have t1 := Q.top.cell 1
    have t2 := Q.top.cell 2
    have t3 := Q.top.cell 3
    have t4 := Q.top.cell 4
    have t5 := Q.top.cell 5
    simp only [List.getElem?_toArray, List.getElem?_cons_zero, List.getElem?_cons_succ] at t0 t1 t2 t3 t4 t5
    refine bodyPost_ret (v := .tuple #[.agg #[.int .u64 (y.e : Int), .bool y.d, .int .i64 y.a.c, .int .i64 y.a.s, .int .i64 y.a.lo, .int .i64 y.a.hi], .bool true]) ?_ rfl ⟨rfl, Q.1⟩
    simp [results, Try.results16, go_sem, t0, t1, t2, t3, t4, t5]
set_option maxRecDepth 100000 in
set_option maxHeartbeats 1000000 in
theorem next_nil (w : World) (x : Nat) : Calls Try.prog 16 #[.pointer none, .int .u64 (x : Int)] w (NextP w (Cn.zero, false)) := by
  obtain ⟨rb, hrb⟩ : ∃ rb, w.heap.size = rb := ⟨_, rfl⟩
  have K := (Held.start w).new #[.int .u64 0, .bool false, .int .i64 0, .int .i64 0, .int .i64 0, .int .i64 0] 35
  obtain ⟨w0, hw0⟩ : ∃ w0, w.alloc (.cells #[.int .u64 0, .bool false, .int .i64 0, .int .i64 0, .int .i64 0, .int .i64 0] 35) = w0 := ⟨_, rfl⟩
  rw [hw0, hrb] at K
  have HU := Lib.hid (upto_nil w0 x)
  have HK := Lib.hid (And.intro K hrb)
  clear K
  go_enter Try.func16, Try.ntmps16
  go_wp2_with (first
    | (go_at_call 38; (refine HU.out.mono ?_); rintro e w1 ⟨rfl, b1⟩; have K1 := Lib.hid (HK.out.1.step b1); clear b1)
    | (go_at_call 23; (refine (len_nil w1).mono ?_); rintro e w2 ⟨rfl, b2⟩; have k1 := K1.out.step b2; have f0 := k1.top.frozen 0; have f1 := k1.top.frozen 1; have f2 := k1.top.frozen 2; have f3 := k1.top.frozen 3; have f4 := k1.top.frozen 4; have f5 := k1.top.frozen 5; have g0 := k1.top.cell 0; have g1 := k1.top.cell 1; have g2 := k1.top.cell 2; have g3 := k1.top.cell 3; have g4 := k1.top.cell 4; have g5 := k1.top.cell 5; simp only [List.getElem?_toArray, List.getElem?_cons_zero, List.getElem?_cons_succ] at g0 g1 g2 g3 g4 g5; have K2 := Lib.hid k1; clear b2 k1))
  have Q := K2.out.put6 (by have := HK.out.2; omega) (.int .u64 0) (.bool false) (.int .i64 0) (.int .i64 0) (.int .i64 0) (.int .i64 0)
  have t0 := Q.top.cell 0
  have t1 := Q.top.cell 1
  have t2 := Q.top.cell 2
  have t3 := Q.top.cell 3
  have t4 := Q.top.cell 4
  have t5 := Q.top.cell 5
  simp only [List.getElem?_toArray, List.getElem?_cons_zero, List.getElem?_cons_succ] at t0 t1 t2 t3 t4 t5
  refine bodyPost_ret (v := .tuple #[.agg #[.int .u64 0, .bool false, .int .i64 0, .int .i64 0, .int .i64 0, .int .i64 0], .bool false]) ?_ rfl ⟨rfl, Q.1⟩
  simp [results, Try.results16, go_sem, t0, t1, t2, t3, t4, t5]
set_option maxRecDepth 100000 in
set_option maxHeartbeats 4000000 in
theorem differs_of (w : World) (p : Value) (x y : Nat) (P Q : Ag.A × Bool) (hx : ∀ W, Below w.heap.size w W → Calls Try.prog 14 #[p, .int .u64 (x : Int)] W (AtP W P)) (hy : ∀ W, Below w.heap.size w W → Calls Try.prog 14 #[p, .int .u64 (y : Int)] W (AtP W Q)) : Calls Try.prog 19 #[p, .int .u64 (x : Int), .int .u64 (y : Int)] w (BoolP w (!Cn.same P.1 Q.1)) := by
  have HX := Lib.hid (hx w (Below.refl _ _))
  have HY := Lib.hid hy
  clear hx hy
  obtain ⟨a, ok⟩ := P
  obtain ⟨b, is⟩ := Q
  dsimp only at HX HY ⊢
  have q1 := fun W => pagg_equal a.c a.s a.lo a.hi b.c b.s b.lo b.hi W
  obtain ⟨r, hrs⟩ : ∃ r, Cn.same a b = r := ⟨_, rfl⟩
  have hrs2 : (a.c == b.c && a.s == b.s && a.lo == b.lo && a.hi == b.hi) = r := hrs
  rw [hrs2] at q1
  have g1 := pagg_guard
  rw [hrs]
  clear hrs hrs2
  go_enter Try.func19, Try.ntmps19
  go_wp2_with fail
  refine HX.out.mono ?_
  rintro e w1 ⟨rfl, b1⟩
  dsimp only
  have B1 := Lib.hid b1
  clear b1
  go_wp2_with fail
  refine (HY.out _ (B1.out.alloc B1.out.size _)).mono ?_
  rintro e w2 ⟨rfl, b2⟩
  dsimp only
  have k := (Blk.new w1 33 #[.int .i64 a.c, .int .i64 a.s, .int .i64 a.lo, .int .i64 a.hi]).below b2 (Blk.new w1 33 #[.int .i64 a.c, .int .i64 a.s, .int .i64 a.lo, .int .i64 a.hi]).lt
  have k0 := k.cell 0
  have k1 := k.cell 1
  have k2 := k.cell 2
  have k3 := k.cell 3
  simp only [List.getElem?_toArray, List.getElem?_cons_zero, List.getElem?_cons_succ] at k0 k1 k2 k3
  have hlt : w1.heap.size < w2.heap.size := k.lt
  have B2 := Lib.hid ((B1.out.alloc B1.out.size _).trans (b2.mono (B1.out.alloc B1.out.size (.cells #[.int .i64 a.c, .int .i64 a.s, .int .i64 a.lo, .int .i64 a.hi] 33)).size))
  have kk : ∀ o, (w2.alloc o).cell? ⟨w1.heap.size, 0, none⟩ = some (.int .i64 a.c) ∧ (w2.alloc o).cell? ⟨w1.heap.size, 1, none⟩ = some (.int .i64 a.s) ∧ (w2.alloc o).cell? ⟨w1.heap.size, 2, none⟩ = some (.int .i64 a.lo) ∧ (w2.alloc o).cell? ⟨w1.heap.size, 3, none⟩ = some (.int .i64 a.hi) := fun o =>
    ⟨(World.cell?_alloc_lt w2 o ⟨w1.heap.size, 0, none⟩ hlt).trans k0, (World.cell?_alloc_lt w2 o ⟨w1.heap.size, 1, none⟩ hlt).trans k1, (World.cell?_alloc_lt w2 o ⟨w1.heap.size, 2, none⟩ hlt).trans k2, (World.cell?_alloc_lt w2 o ⟨w1.heap.size, 3, none⟩ hlt).trans k3⟩
  obtain ⟨m0, m1, m2, m3⟩ := kk (.cells #[.int .i64 b.c, .int .i64 b.s, .int .i64 b.lo, .int .i64 b.hi] 33)
  clear b2 k k0 k1 k2 k3 hlt kk
  go_wp2_with fail
  go_ret
  exact ⟨rfl, B2.out.alloc B2.out.size _⟩
theorem differs_any (w : World) (g n c sp x y : Nat) (A : Option Addr) (l : List Cn.Ver) (h : ChAt w g A n c sp l) (hn : n ≤ 1000000) : Calls Try.prog 19 #[.pointer (some ⟨g, 0, none⟩), .int .u64 (x : Int), .int .u64 (y : Int)] w (BoolP w (Cn.differs l x y)) :=
  differs_of w _ x y _ _ (fun W hW => at_any W g n c sp x A l (h.below hW) hn) (fun W hW => at_any W g n c sp y A l (h.below hW) hn)
theorem differs_nil (w : World) (x y : Nat) : Calls Try.prog 19 #[.pointer none, .int .u64 (x : Int), .int .u64 (y : Int)] w (BoolP w false) := differs_of w _ x y (Ag.none', false) (Ag.none', false) (fun W _ => at_nil W x) (fun W _ => at_nil W y)
theorem Try.info35 : (Try.prog.info? 35).map (fun i => (i.zero, i.size, i.bytes)) = some (some (.agg #[.int .u64 0, .bool false, .int .i64 0, .int .i64 0, .int .i64 0, .int .i64 0]), 6, 48) := by kernel_rfl
theorem run_eql_none {P : Program} (w : World) (t e : TypeId) (a : Option Addr) (l c : Nat) (h : P.underlying t = some (.slice e)) : (binOp .eql t (.slice a l c) (.slice none 0 0)).run P w = .ok (.bool a.isNone) w := by
  have h0 : ∀ d, (Op.equalIn (d + 1) t (.slice a l c) (.slice none 0 0)).run P w = .ok a.isNone w := fun d => by
    cases a <;> simp [Op.equalIn, run_underlying h]
  have h1 : (Op.equal t (.slice a l c) (.slice none 0 0)).run P w = .ok a.isNone w := h0 9999
  simp [binOp, h1]
/-- Versions in new memory. -/
def NewVr (w : World) (n : Nat) (l : List Cn.Ver) (e : Ending) (w' : World) : Prop := ∃ A c, e = .returned (.slice A n c) ∧ OwF w' (fun b => w.heap.size ≤ b) 35 6 A n c (vrL l) ∧ Below w.heap.size w w'
set_option maxRecDepth 100000 in
set_option maxHeartbeats 2000000 in
theorem clone_any (w : World) (F : Nat → Prop) (A : Option Addr) (n c : Nat) (l : List Cn.Ver) (h : Cells w F A n 6 (vrL l)) (hn : n ≤ 1000000) : Calls Try.prog 35 #[.slice A n c] w (NewVr w n l) := by
  obtain ⟨i0, hi, hz0, hz1, hz2⟩ := info_parts Try.info35
  have hq := fun (W : World) (B : Option Addr) => run_eql_none (P := Try.prog) W 22 35 B n c Try.underlying22
  cases A with
  | none =>
    obtain rfl : n = 0 := by
      rcases Nat.eq_zero_or_pos n with h0 | h0
      · exact h0
      · obtain ⟨b, off, e, _⟩ := h.2 h0
        cases e
    have hq := fun W => hq W none
    have hl : vrL l = [] := List.length_eq_zero_iff.1 (by rw [h.1, Nat.zero_mul])
    have HL := Lib.hid hl
    clear h hi hz0 hz1 hz2 hl
    go_enter Try.func35, Try.ntmps35
    go_wp2_with fail
    go_ret
    exact ⟨none, 0, rfl, .inl ⟨rfl, rfl, rfl, HL.out⟩, Below.refl _ _⟩
  | some ad =>
    have HI := Lib.hid (And.intro hi (And.intro hz0 (And.intro hz1 hz2)))
    have hnews : ∀ j u, (vrL l)[j]? = some u → (w.alloc (.cells #[] 35)).cell? (ad.add j) = some u := fun j u hu => by
      rcases Nat.eq_zero_or_pos n with h0 | h0
      · subst h0
        have : vrL l = [] := List.length_eq_zero_iff.1 (by rw [h.1, Nat.zero_mul])
        rw [this] at hu
        cases hu
      · obtain ⟨b, off, e, _, hb, hc⟩ := h.2 h0
        cases e
        rw [add_at]
        exact (World.cell?_alloc_lt w _ ⟨b, off + j, none⟩ hb).trans (hc j u hu)
    have HN := Lib.hid (And.intro hnews h.1)
    have hq := fun W => hq W (some ad)
    clear h hi hz0 hz1 hz2 hnews
    go_enter Try.func35, Try.ntmps35
    go_wp2_with (at_builtin; refine wpList_append_own _ rfl _ _ 22 rfl w.heap.size 35 i0 _ 6 48 Try.underlying22 HI.out.1 HI.out.2.1 HI.out.2.2.1 HI.out.2.2.2 rfl (by decide) _ 0 [] rfl (World.ownsRow_made w #[] 0 (Nat.le_refl _) (by decide) rfl) ad n c (vrL l) rfl HN.out.2 HN.out.1 (vrL_one l) (by unfold maxLen; omega) (by omega) (by simp) ?_; intro v' w1 hown hgrow _)
    rw [Nat.zero_add, List.nil_append] at hown
    obtain ⟨A', c', rfl⟩ := own_slice hown
    have hbw : Below w.heap.size w w1 := grow_below (Below.refl _ _) hgrow (fun g hg => by injection hg with hg; simp at hg; omega)
    have HR := Lib.hid (And.intro hown hbw)
    clear hgrow hbw hown
    go_ret
    exact ⟨A', c', rfl, OwF.of_own HR.out.1, HR.out.2⟩
/-- The chain that is answered, or none. -/
def OfP (w : World) (l : List Cn.Ver) (e : Ending) (w' : World) : Prop :=
  (Cn.right l = false ∧ e = .returned (.tuple #[.pointer none, .int .i64 2]) ∧ Below w.heap.size w w') ∨
  (Cn.right l = true ∧ ∃ g A c, e = .returned (.tuple #[.pointer (some ⟨g, 0, none⟩), .int .i64 0]) ∧ ChAt w' g A l.length c 0 l ∧ w.heap.size ≤ g ∧ (∀ b o p, A = some ⟨b, o, p⟩ → w.heap.size ≤ b) ∧ Below w.heap.size w w')
set_option maxRecDepth 100000 in
set_option maxHeartbeats 2000000 in
theorem of_any (w : World) (F : Nat → Prop) (A : Option Addr) (n c : Nat) (l : List Cn.Ver) (h : Cells w F A n 6 (vrL l)) (hn : n ≤ 1000000) : Calls Try.prog 11 #[.slice A n c] w (OfP w l) := by
  have hln := vr_len h
  have HR := Lib.hid (rights_any w F A n c l h hn)
  have HC := Lib.hid (fun (W : World) (hW : Below w.heap.size w W) => clone_any W F A n c l (h.below hW) hn)
  clear h
  cases hr : Cn.right l with
  | false =>
    rw [hr] at HR
    have H := Lib.hid hr
    clear hr
    go_enter Try.func11, Try.ntmps11
    go_wp2_with (go_at_call 13; (refine HR.out.mono ?_); rintro e w1 ⟨rfl, b1⟩; have B1 := Lib.hid b1; clear b1)
    refine bodyPost_ret (v := .tuple #[.pointer none, .int .i64 2]) ?_ rfl (.inl ⟨H.out, rfl, B1.out⟩)
    simp [results, Try.results11, go_sem]
  | true =>
    rw [hr] at HR
    have H := Lib.hid (And.intro hr hln)
    clear hr hln
    go_enter Try.func11, Try.ntmps11
    go_wp2_with (first
      | (go_at_call 13; (refine HR.out.mono ?_); rintro e w1 ⟨rfl, b1⟩; have B1 := Lib.hid b1; clear b1)
      | (go_at_call 35; (refine (HC.out w1 B1.out).mono ?_); rintro e w2 ⟨A2, c2, rfl, ho, b2⟩; have B2 := Lib.hid (And.intro ho (And.intro b2 (below_next B1.out b2))); clear ho b2))
    refine bodyPost_ret (v := .tuple #[.pointer (some ⟨w2.heap.size, 0, none⟩), .int .i64 0]) ?_ rfl (.inr ⟨H.out.1, w2.heap.size, A2, c2, rfl, ⟨?_, ?_, rfl, Nat.zero_le _, H.out.1⟩, B2.out.2.2.size, ?_, B2.out.2.2.alloc B2.out.2.2.size _⟩)
    · simp [results, Try.results11, go_sem]
    · rw [H.out.2]
      exact Blk.new _ _ _
    · rw [H.out.2]
      exact (B2.out.1.mono (fun _ _ _ => trivial)).below (bel_al _ _)
    · intro b o p e
      have h1 := B2.out.1
      rcases h1 with ⟨h1, -⟩ | ⟨g, o', cur, h1, h2, -⟩
      · rw [h1] at e
        cases e
      · rw [h1] at e
        injection e with e
        injection e with e1 e2 e3
        subst e1
        exact Nat.le_trans B1.out.size h2
end Go.Proofs.Yteegnehfagkjcaa
