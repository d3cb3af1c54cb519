/- Made by tools/gen/cn.py. -/
/- Layer 15, the program: a version and what is beside it; what is garbage; place, At, Next, Differs, Garbage. -/
import Derived.Test.YteegnehfagkjcaaCnF
import Derived.Deep.DeepCutAuto
import Derived.Deep.CutBlock
namespace Go.Proofs.Yteegnehfagkjcaa
open Go.ChangeShapes Go.WideShapes Go.ChangeAt Go.RowKit

def LnkP (w : World) (v : Cn.Ver) (first : Bool) (bh : Nat) (e : Ending) (w' : World) : Prop := e = .returned (.agg #[.int .u64 (v.e : Int), .bool v.d, .int .i64 v.a.c, .int .i64 v.a.s, .int .i64 v.a.lo, .int .i64 v.a.hi, .bool first, .int .u64 (bh : Int)]) ∧ Below w.heap.size w w'
theorem Held.tail7 {w W : World} {g r : Nat} {T : TypeId} {a b c d e f p q : Value} {cs : Array Value} (h : Held w W [(g, T, #[a, b, c, d, e, f, p, q]), (r, T, cs)]) (hne : g ≠ r) (hg : w.heap.size ≤ g) (v : Value) : Held w (W.setCell ⟨g, 7, none⟩ v) [(g, T, #[a, b, c, d, e, f, p, v]), (r, T, cs)] :=
  ⟨h.1.setCell (p := ⟨g, 7, none⟩) hg v, fun y hy => by
    rcases List.mem_cons.1 hy with rfl | hy
    · exact h.top.set_ 7 v
    · rcases List.mem_cons.1 hy with rfl | hy
      · exact h.drop.top.far hne v
      · cases hy⟩
set_option maxHeartbeats 2000000 in
theorem Held.put8r {w W : World} {x : Nat × TypeId × Array Value} {g : Nat} {T : TypeId} {a b c d e f p q : Value} (h : Held w W [x, (g, T, #[a, b, c, d, e, f, p, q])]) (hg : w.heap.size ≤ g) (a' b' c' d' e' f' p' q' : Value) :
    Held w ((((((((W.setCell ⟨g, 0, none⟩ a').setCell ⟨g, 1, none⟩ b').setCell ⟨g, 2, none⟩ c').setCell ⟨g, 3, none⟩ d').setCell ⟨g, 4, none⟩ e').setCell ⟨g, 5, none⟩ f').setCell ⟨g, 6, none⟩ p').setCell ⟨g, 7, none⟩ q') [(g, T, #[a', b', c', d', e', f', p', q'])] :=
  ⟨(((((((h.1.setCell (p := ⟨g, 0, none⟩) hg a').setCell (p := ⟨g, 1, none⟩) hg b').setCell (p := ⟨g, 2, none⟩) hg c').setCell (p := ⟨g, 3, none⟩) hg d').setCell (p := ⟨g, 4, none⟩) hg e').setCell (p := ⟨g, 5, none⟩) hg f').setCell (p := ⟨g, 6, none⟩) hg p').setCell (p := ⟨g, 7, none⟩) hg q', fun y hy => by
    rcases List.mem_cons.1 hy with rfl | hy
    · exact (((((((h.drop.top.set_ 0 a').set_ 1 b').set_ 2 c').set_ 3 d').set_ 4 e').set_ 5 f').set_ 6 p').set_ 7 q'
    · cases hy⟩
set_option maxRecDepth 100000 in
set_option maxHeartbeats 4000000 in
theorem linkAt_any (w : World) (g n c sp i : Nat) (A : Option Addr) (l : List Cn.Ver) (h : ChAt w g A n c sp l) (hn : n ≤ 1000000) (hi : i < n) : Calls Try.prog 48 #[.pointer (some ⟨g, 0, none⟩), .int .i64 (i : Int)] w (LnkP w (Cn.ix l i) (i == 0) (Cn.behind l i)) := by
  have i2 : (0 : Int) ≤ (i : Int) := by omega
  have i3 : (i : Int) < (n : Int) := by omega
  have hw1 : IntKind.i64.wrap ((i : Int) + 1) = (i : Int) + 1 := by rw [IntKind.wrap_i64]; omega
  obtain ⟨fb, hfb⟩ : ∃ fb, ((i : Int) == 0) = fb := ⟨_, rfl⟩
  have hfb2 : (i == 0) = fb := by rw [← hfb, Bool.eq_iff_iff]; simp
  rw [hfb2]
  obtain ⟨rb, hrb⟩ : ∃ rb, w.heap.size = rb := ⟨_, rfl⟩
  have K := (Held.start w).new #[.int .u64 0, .bool false, .int .i64 0, .int .i64 0, .int .i64 0, .int .i64 0, .bool false, .int .u64 0] 86
  obtain ⟨w0, hw0⟩ : ∃ w0, w.alloc (.cells #[.int .u64 0, .bool false, .int .i64 0, .int .i64 0, .int .i64 0, .int .i64 0, .bool false, .int .u64 0] 86) = w0 := ⟨_, rfl⟩
  rw [hw0, hrb] at K
  have yhy := Cn.ix_some (l := l) (i := i) (by have := h.len; omega)
  obtain ⟨y, yeq⟩ : ∃ y, Cn.ix l i = y := ⟨_, rfl⟩
  rw [yeq] at yhy
  obtain ⟨b, off, rfl, -, yhbl, z0, z1, z2, z3, z4, z5⟩ := vr_cells h.row.cells yhy
  have y0 := (K.1.cell (p := ⟨b, off + i * 6, none⟩) yhbl).trans z0
  have y1 := (K.1.cell (p := ⟨b, off + i * 6 + 1, none⟩) yhbl).trans z1
  have y2 := (K.1.cell (p := ⟨b, off + i * 6 + 2, none⟩) yhbl).trans z2
  have y3 := (K.1.cell (p := ⟨b, off + i * 6 + 3, none⟩) yhbl).trans z3
  have y4 := (K.1.cell (p := ⟨b, off + i * 6 + 4, none⟩) yhbl).trans z4
  have y5 := (K.1.cell (p := ⟨b, off + i * 6 + 5, none⟩) yhbl).trans z5
  clear z0 z1 z2 z3 z4 z5
  have hc := (h.blk.below K.1 h.blk.lt).cell 0
  simp only [List.getElem?_toArray, List.getElem?_cons_zero] at hc
  have hrlt := K.top.lt
  have H := Lib.hid (And.intro h (And.intro K (And.intro yeq (And.intro hrb hrlt))))
  rw [yeq]
  obtain ⟨bh, hbh⟩ : ∃ bh, Cn.behind l i = bh := ⟨_, rfl⟩
  rw [hbh]
  clear h K yeq yhy yhbl hfb2 hrlt
  go_enter Try.func48, Try.ntmps48
  go_upto_region 2 with fail
  obtain ⟨lb, hlb⟩ : ∃ lb, w0.heap.size = lb := ⟨_, rfl⟩
  obtain ⟨w1, hw1'⟩ : ∃ w1, w0.alloc (.cells #[.int .u64 (y.e : Int), .bool y.d, .int .i64 y.a.c, .int .i64 y.a.s, .int .i64 y.a.lo, .int .i64 y.a.hi, .bool fb, .int .u64 0] 86) = w1 := ⟨_, rfl⟩
  have K1 := H.out.2.1.new #[.int .u64 (y.e : Int), .bool y.d, .int .i64 y.a.c, .int .i64 y.a.s, .int .i64 y.a.lo, .int .i64 y.a.hi, .bool fb, .int .u64 0] 86
  rw [hw1', hlb] at K1
  try rw [hw1']
  try rw [hlb]
  have hne : lb ≠ rb := by have := H.out.2.2.2.2; omega
  have hge : rb ≤ lb := by have := H.out.2.2.2.2; omega
  have HK := Lib.hid (And.intro K1 (And.intro hne hge))
  have HS := H.out.1.below K1.1
  have hc := HS.blk.cell 0
  simp only [List.getElem?_toArray, List.getElem?_cons_zero] at hc
  have hcl := HS.row.cells
  have t0 := K1.top.cell 0
  have t1 := K1.top.cell 1
  have t2 := K1.top.cell 2
  have t3 := K1.top.cell 3
  have t4 := K1.top.cell 4
  have t5 := K1.top.cell 5
  have t6 := K1.top.cell 6
  have t7 := K1.top.cell 7
  have f7 := K1.top.frozen 7
  have r0 := K1.drop.top.frozen 0
  have r1 := K1.drop.top.frozen 1
  have r2 := K1.drop.top.frozen 2
  have r3 := K1.drop.top.frozen 3
  have r4 := K1.drop.top.frozen 4
  have r5 := K1.drop.top.frozen 5
  have r6 := K1.drop.top.frozen 6
  have r7 := K1.drop.top.frozen 7
  have s0 := K1.drop.top.cell 0
  have s1 := K1.drop.top.cell 1
  have s2 := K1.drop.top.cell 2
  have s3 := K1.drop.top.cell 3
  have s4 := K1.drop.top.cell 4
  have s5 := K1.drop.top.cell 5
  have s6 := K1.drop.top.cell 6
  have s7 := K1.drop.top.cell 7
  simp only [List.getElem?_toArray, List.getElem?_cons_zero, List.getElem?_cons_succ] at t0 t1 t2 t3 t4 t5 t6 t7 s0 s1 s2 s3 s4 s5 s6 s7
  clear hw0 hrb hw1' hlb K1 y0 y1 y2 y3 y4 y5
  by_cases h1 : i + 1 < n
  · have j2 : (0 : Int) ≤ (i : Int) + 1 := by omega
    have j3 : (i : Int) + 1 < (n : Int) := by omega
    have hb2 : Cn.behind l i = (Cn.ix l (i + 1)).e := by unfold Cn.behind; rw [if_pos (by rw [H.out.1.len]; exact h1)]
    have xhy := Cn.ix_some (l := l) (i := (i + 1)) (by have := H.out.1.len; omega)
    obtain ⟨v, xeq⟩ : ∃ v, Cn.ix l (i + 1) = v := ⟨_, rfl⟩
    rw [xeq] at xhy
    obtain ⟨bx, offx, ex, -, xhbl, z0, z1, z2, z3, z4, z5⟩ := vr_cells hcl xhy
    obtain ⟨rfl, rfl⟩ : b = bx ∧ off = offx := by injection ex with ex; injection ex with ea eb; exact ⟨ea, eb⟩
    clear ex
    have x0 := ((Below.refl w1.heap.size w1).cell (p := ⟨b, off + (i + 1) * 6, none⟩) xhbl).trans z0
    have x1 := ((Below.refl w1.heap.size w1).cell (p := ⟨b, off + (i + 1) * 6 + 1, none⟩) xhbl).trans z1
    have x2 := ((Below.refl w1.heap.size w1).cell (p := ⟨b, off + (i + 1) * 6 + 2, none⟩) xhbl).trans z2
    have x3 := ((Below.refl w1.heap.size w1).cell (p := ⟨b, off + (i + 1) * 6 + 3, none⟩) xhbl).trans z3
    have x4 := ((Below.refl w1.heap.size w1).cell (p := ⟨b, off + (i + 1) * 6 + 4, none⟩) xhbl).trans z4
    have x5 := ((Below.refl w1.heap.size w1).cell (p := ⟨b, off + (i + 1) * 6 + 5, none⟩) xhbl).trans z5
    clear z0 z1 z2 z3 z4 z5
    rw [xeq, hbh] at hb2
    subst hb2
    clear hcl HS hbh xeq xhy xhbl h1 x1 x2 x3 x4 x5
    go_upto_region 4 with fail
    have K2 := HK.out.1.tail7 HK.out.2.1 (by have := H.out.2.2.2.1; have := HK.out.2.2; omega) (.int .u64 (v.e : Int))
    obtain ⟨w2, hw2⟩ : ∃ w2, w1.setCell ⟨lb, 7, none⟩ (.int .u64 (v.e : Int)) = w2 := ⟨_, rfl⟩
    rw [hw2] at K2
    have t0 := K2.top.cell 0
    have t1 := K2.top.cell 1
    have t2 := K2.top.cell 2
    have t3 := K2.top.cell 3
    have t4 := K2.top.cell 4
    have t5 := K2.top.cell 5
    have t6 := K2.top.cell 6
    have t7 := K2.top.cell 7
    have r0 := K2.drop.top.frozen 0
    have r1 := K2.drop.top.frozen 1
    have r2 := K2.drop.top.frozen 2
    have r3 := K2.drop.top.frozen 3
    have r4 := K2.drop.top.frozen 4
    have r5 := K2.drop.top.frozen 5
    have r6 := K2.drop.top.frozen 6
    have r7 := K2.drop.top.frozen 7
    have s0 := K2.drop.top.cell 0
    have s1 := K2.drop.top.cell 1
    have s2 := K2.drop.top.cell 2
    have s3 := K2.drop.top.cell 3
    have s4 := K2.drop.top.cell 4
    have s5 := K2.drop.top.cell 5
    have s6 := K2.drop.top.cell 6
    have s7 := K2.drop.top.cell 7
    simp only [List.getElem?_toArray, List.getElem?_cons_zero, List.getElem?_cons_succ] at t0 t1 t2 t3 t4 t5 t6 t7 s0 s1 s2 s3 s4 s5 s6 s7
    have K3 := K2.put8r (by have := H.out.2.2.2.1; omega) (.int .u64 (y.e : Int)) (.bool y.d) (.int .i64 y.a.c) (.int .i64 y.a.s) (.int .i64 y.a.lo) (.int .i64 y.a.hi) (.bool fb) (.int .u64 (v.e : Int))
    have HK3 := Lib.hid K3
    clear K2 K3 hc x0
    rw [hw2]
    clear hw2
    go_wp2_with fail
    have z0 := HK3.out.top.cell 0
    have z1 := HK3.out.top.cell 1
    have z2 := HK3.out.top.cell 2
    have z3 := HK3.out.top.cell 3
    have z4 := HK3.out.top.cell 4
    have z5 := HK3.out.top.cell 5
    have z6 := HK3.out.top.cell 6
    have z7 := HK3.out.top.cell 7
    simp only [List.getElem?_toArray, List.getElem?_cons_zero, List.getElem?_cons_succ] at z0 z1 z2 z3 z4 z5 z6 z7
    refine bodyPost_ret (v := .agg #[.int .u64 (y.e : Int), .bool y.d, .int .i64 y.a.c, .int .i64 y.a.s, .int .i64 y.a.lo, .int .i64 y.a.hi, .bool fb, .int .u64 (v.e : Int)]) ?_ rfl ⟨rfl, HK3.out.1⟩
    simp [results, Try.results48, go_sem, z0, z1, z2, z3, z4, z5, z6, z7]
  · have j3 : ¬ (i : Int) + 1 < (n : Int) := by omega
    have hb2 : Cn.behind l i = 0 := by unfold Cn.behind; rw [if_neg (by rw [H.out.1.len]; exact h1)]
    rw [hbh] at hb2
    subst hb2
    clear hcl HS hbh h1
    go_upto_region 4 with fail
    have K3 := HK.out.1.put8r (by have := H.out.2.2.2.1; omega) (.int .u64 (y.e : Int)) (.bool y.d) (.int .i64 y.a.c) (.int .i64 y.a.s) (.int .i64 y.a.lo) (.int .i64 y.a.hi) (.bool fb) (.int .u64 0)
    have HK3 := Lib.hid K3
    clear K3 hc
    go_wp2_with fail
    have z0 := HK3.out.top.cell 0
    have z1 := HK3.out.top.cell 1
    have z2 := HK3.out.top.cell 2
    have z3 := HK3.out.top.cell 3
    have z4 := HK3.out.top.cell 4
    have z5 := HK3.out.top.cell 5
    have z6 := HK3.out.top.cell 6
    have z7 := HK3.out.top.cell 7
    simp only [List.getElem?_toArray, List.getElem?_cons_zero, List.getElem?_cons_succ] at z0 z1 z2 z3 z4 z5 z6 z7
    refine bodyPost_ret (v := .agg #[.int .u64 (y.e : Int), .bool y.d, .int .i64 y.a.c, .int .i64 y.a.s, .int .i64 y.a.lo, .int .i64 y.a.hi, .bool fb, .int .u64 0]) ?_ rfl ⟨rfl, HK3.out.1⟩
    simp [results, Try.results48, go_sem, z0, z1, z2, z3, z4, z5, z6, z7]
end Go.Proofs.Yteegnehfagkjcaa
