/- Layer 15, the reference: right, At, Next, Garbage. -/
import Derived.Test.YteegnehfagkjcaaCnM
import Derived.Test.YteegnehfagkjcaaRefRi
import Derived.Test.YteegnehfagkjcaaHeld
import Derived.BigRegion
import Derived.Deep.RegionHeld3
import Derived.Laws.EntriesVeiled
namespace Go.Proofs.Yteegnehfagkjcaa
open Go.ChangeShapes Go.WideShapes Go.ChangeAt Go.RowKit

theorem bel_al (w : World) (o : Obj) : Below w.heap.size w (w.alloc o) := (Below.refl _ _).alloc (Nat.le_refl _) _
def AtP (w : World) (p : Ag.A × Bool) (e : Ending) (w' : World) : Prop := e = .returned (.tuple #[.agg #[.int .i64 p.1.c, .int .i64 p.1.s, .int .i64 p.1.lo, .int .i64 p.1.hi], .bool p.2]) ∧ Below w.heap.size w w'
def NextP (w : World) (p : Cn.Ver × Bool) (e : Ending) (w' : World) : Prop := e = .returned (.tuple #[.agg #[.int .u64 (p.1.e : Int), .bool p.1.d, .int .i64 p.1.a.c, .int .i64 p.1.a.s, .int .i64 p.1.a.lo, .int .i64 p.1.a.hi], .bool p.2]) ∧ Below w.heap.size w w'
def BoolP (w : World) (b : Bool) (e : Ending) (w' : World) : Prop := e = .returned (.bool b) ∧ Below w.heap.size w w'
set_option maxRecDepth 100000 in
set_option maxHeartbeats 1000000 in
theorem refRt_any (v : Cn.Ver) (w : World) : Calls Try.prog 36 #[.agg #[.int .u64 (v.e : Int), .bool v.d, .int .i64 v.a.c, .int .i64 v.a.s, .int .i64 v.a.lo, .int .i64 v.a.hi]] w (BoolP w (Cn.one v)) := by
  obtain ⟨e, d, x⟩ := v
  dsimp only
  have HB := Lib.hid (bel_al w (.cells #[.int .u64 (e : Int), .bool d, .int .i64 x.c, .int .i64 x.s, .int .i64 x.lo, .int .i64 x.hi] 46))
  have q1 := fun W => agg_blank x W
  have g1 := agg_guard
  have hR := fun W => refRight_any x W
  have hone : Cn.one ⟨e, d, x⟩ = (decide (0 < e) && (Ag.right x && (d == Ag.blank x))) := rfl
  rw [hone]
  clear hone
  generalize Ag.blank x = b at q1
  generalize Ag.right x = r at hR
  have HR := Lib.hid hR
  clear hR
  have hbl := Blk.new w 46 #[.int .u64 (e : Int), .bool d, .int .i64 x.c, .int .i64 x.s, .int .i64 x.lo, .int .i64 x.hi]
  have HL := Lib.hid hbl
  clear hbl
  by_cases he : 0 < e
  · have e1 : (1 : Int) ≤ (e : Int) := by omega
    rw [decide_eq_true he, Bool.true_and]
    clear he
    go_enter Try.func36, Try.ntmps36
    cases r with
    | false =>
      go_wp2_with (go_at_call 43; (with_reducible refine (HR.out _).mono ?_); rintro y w1 ⟨rfl, b1⟩; have hc := (HL.out.below b1 HL.out.lt).cell 1; simp only [List.getElem?_toArray, List.getElem?_cons_zero, List.getElem?_cons_succ] at hc; have B1 := Lib.hid b1; clear b1)
      go_ret
      exact ⟨rfl, HB.out.trans (B1.out.mono HB.out.size)⟩
    | true =>
      go_wp2_with (go_at_call 43; (with_reducible refine (HR.out _).mono ?_); rintro y w1 ⟨rfl, b1⟩; have hc := (HL.out.below b1 HL.out.lt).cell 1; simp only [List.getElem?_toArray, List.getElem?_cons_zero, List.getElem?_cons_succ] at hc; have B1 := Lib.hid b1; clear b1)
      go_ret
      exact ⟨by rw [Bool.true_and]; rfl, HB.out.trans (B1.out.mono HB.out.size)⟩
  · have e1 : ¬ (1 : Int) ≤ (e : Int) := by omega
    rw [decide_eq_false he, Bool.false_and]
    clear he
    go_enter Try.func36, Try.ntmps36
    go_wp2_with fail
    go_ret
    exact ⟨rfl, HB.out⟩
theorem Cn.upto_found {l : List Cn.Ver} (hr : Cn.right l = true) {x k : Nat} (h0 : 0 < k) (hk : k ≤ l.length) (h1 : (Cn.ix l (k - 1)).e ≤ x) (h2 : Cn.upto l x ≤ k) : Cn.upto l x = k := by
  rcases Nat.lt_or_ge (Cn.upto l x) k with h | h
  · have := Cn.upto_ge hr (x := x) (i := k - 1) (by omega) (by omega)
    omega
  · omega
theorem Cn.upto_less {l : List Cn.Ver} {x k : Nat} (h1 : x < (Cn.ix l (k - 1)).e) (_ : Cn.upto l x ≤ k) : Cn.upto l x ≤ k - 1 := by
  rcases Nat.lt_or_ge (k - 1) (Cn.upto l x) with h | h
  · have := Cn.upto_lt h
    omega
  · exact h
theorem Held.put4 {w W : World} {g : Nat} {T : TypeId} {a b c d : Value} (h : Held w W [(g, T, #[a, b, c, d])]) (hg : w.heap.size ≤ g) (a' b' c' d' : Value) : Held w ((((W.setCell ⟨g, 0, none⟩ a').setCell ⟨g, 1, none⟩ b').setCell ⟨g, 2, none⟩ c').setCell ⟨g, 3, none⟩ d') [(g, T, #[a', b', c', d'])] :=
  ⟨(((h.1.setCell (p := ⟨g, 0, none⟩) hg a').setCell (p := ⟨g, 1, none⟩) hg b').setCell (p := ⟨g, 2, none⟩) hg c').setCell (p := ⟨g, 3, none⟩) hg d', fun y hy => by
    rcases List.mem_cons.1 hy with rfl | hy
    · exact (((h.top.set_ 0 a').set_ 1 b').set_ 2 c').set_ 3 d'
    · cases hy⟩
theorem Held.put6 {w W : World} {g : Nat} {T : TypeId} {a b c d e f : Value} (h : Held w W [(g, T, #[a, b, c, d, e, f])]) (hg : w.heap.size ≤ g) (a' b' c' d' e' f' : Value) : Held w ((((((W.setCell ⟨g, 0, none⟩ a').setCell ⟨g, 1, none⟩ b').setCell ⟨g, 2, none⟩ c').setCell ⟨g, 3, none⟩ d').setCell ⟨g, 4, none⟩ e').setCell ⟨g, 5, none⟩ f') [(g, T, #[a', b', c', d', e', f'])] :=
  ⟨(((((h.1.setCell (p := ⟨g, 0, none⟩) hg a').setCell (p := ⟨g, 1, none⟩) hg b').setCell (p := ⟨g, 2, none⟩) hg c').setCell (p := ⟨g, 3, none⟩) hg d').setCell (p := ⟨g, 4, none⟩) hg e').setCell (p := ⟨g, 5, none⟩) hg f', fun y hy => by
    rcases List.mem_cons.1 hy with rfl | hy
    · exact (((((h.top.set_ 0 a').set_ 1 b').set_ 2 c').set_ 3 d').set_ 4 e').set_ 5 f'
    · cases hy⟩
set_option maxRecDepth 100000 in
set_option maxHeartbeats 4000000 in
theorem refAt_any (w : World) (F : Nat → Prop) (A : Option Addr) (n c : Nat) (l : List Cn.Ver) (x : Nat) (h : Cells w F A n 6 (vrL l)) (hn : n ≤ 1000000) (hr : Cn.right l = true) : Calls Try.prog 15 #[.slice A n c, .int .u64 (x : Int)] w (AtP w (Cn.at_ l x)) := by
  have hln := vr_len h
  have hw1 : IntKind.i64.wrap ((n : Int) - 1) = (n : Int) - 1 := by rw [IntKind.wrap_i64]; omega
  have hup := Cn.upto_le l x
  have H := Lib.hid (And.intro h (And.intro hln (And.intro hr hup)))
  clear h hln hr hup
  go_enter Try.func15, Try.ntmps15
  go_wp2_with fail
  obtain ⟨w1, hw1'⟩ : ∃ w1, (w.alloc (.cells #[.int .i64 0, .int .i64 0, .int .i64 0, .int .i64 0] 40)) = w1 := ⟨_, rfl⟩
  obtain ⟨rb, hrb⟩ : ∃ rb, w.heap.size = rb := ⟨_, rfl⟩
  have h0 := (Held.start w).new #[.int .i64 0, .int .i64 0, .int .i64 0, .int .i64 0] 40
  rw [hw1', hrb] at h0
  rw [hw1', hrb]
  have HH := Lib.hid (And.intro h0 hrb)
  clear h0 hw1' hrb
  go_loopw [6] (fun i wr => ∃ k : Nat, k ≤ n ∧ Cn.upto l x ≤ k ∧ i = .int .i64 ((k : Int) - 1) ∧ Held w wr [(rb, 40, #[.int .i64 0, .int .i64 0, .int .i64 0, .int .i64 0])]) (fun i _ => (intOf i + 1).toNat)
  case atStart => exact ⟨n, Nat.le_refl _, by have := H.out; omega, rfl, HH.out.1⟩
  case round =>
    obtain ⟨k, hk, hu, rfl, hh⟩ := hrel
    have q := hh.top
    have f0 := q.frozen 0
    have f1 := q.frozen 1
    have f2 := q.frozen 2
    have f3 := q.frozen 3
    have g0 := q.cell 0
    have g1 := q.cell 1
    have g2 := q.cell 2
    have g3 := q.cell 3
    simp only [List.getElem?_toArray, List.getElem?_cons_zero, List.getElem?_cons_succ] at g0 g1 g2 g3
    by_cases hlt : 0 < k
    · obtain ⟨j, rfl⟩ : ∃ j, k = j + 1 := ⟨k - 1, by omega⟩
      have ej : ((j + 1 : Nat) : Int) - 1 = (j : Int) := by omega
      rw [ej]
      have i2 : (0 : Int) ≤ (j : Int) := by omega
      have i3 : (j : Int) < (n : Int) := by omega
      have hy := Cn.ix_some (l := l) (i := j) (by have := H.out.2.1; omega)
      obtain ⟨y, hyy⟩ : ∃ y, Cn.ix l j = y := ⟨_, rfl⟩
      rw [hyy] at hy
      obtain ⟨b, off, rfl, -, hbl, z0, z1, z2, z3, z4, z5⟩ := vr_cells H.out.1 hy
      have y0 := (hh.1.cell (p := ⟨b, off + j * 6, none⟩) hbl).trans z0
      have y1 := (hh.1.cell (p := ⟨b, off + j * 6 + 1, none⟩) hbl).trans z1
      have y2 := (hh.1.cell (p := ⟨b, off + j * 6 + 2, none⟩) hbl).trans z2
      have y3 := (hh.1.cell (p := ⟨b, off + j * 6 + 3, none⟩) hbl).trans z3
      have y4 := (hh.1.cell (p := ⟨b, off + j * 6 + 4, none⟩) hbl).trans z4
      have y5 := (hh.1.cell (p := ⟨b, off + j * 6 + 5, none⟩) hbl).trans z5
      have hne : b ≠ rb := by have := HH.out.2; omega
      have hw2 : IntKind.i64.wrap ((j : Int) - 1) = (j : Int) - 1 := by rw [IntKind.wrap_i64]; omega
      have HK := Lib.hid (And.intro hh (And.intro q (And.intro hu (And.intro hyy hk))))
      clear hh q hu hyy hy z0 z1 z2 z3 z4 z5 hk hlt ej
      by_cases hx : y.e ≤ x
      · have x1 : (y.e : Int) ≤ (x : Int) := by omega
        have hup := Cn.upto_found H.out.2.2.1 (x := x) (k := j + 1) (by omega) (by have := H.out.2.1; have := HK.out.2.2.2.2; omega) (by rw [Nat.add_sub_cancel, HK.out.2.2.2.1]; exact hx) HK.out.2.2.1
        have hat : Cn.at_ l x = (y.a, !y.d) := by
          unfold Cn.at_
          rw [hup, if_neg (by omega), Nat.add_sub_cancel, HK.out.2.2.2.1]
        have HAT := Lib.hid hat
        clear hup hat hx hw2
        go_wp2_with fail
        go_region
        have Q := HK.out.1.put4 (by have := HH.out.2; omega) (.int .i64 y.a.c) (.int .i64 y.a.s) (.int .i64 y.a.lo) (.int .i64 y.a.hi)
        have t0 := Q.top.cell 0
        have t1 := Q.top.cell 1
        have t2 := Q.top.cell 2
        have t3 := Q.top.cell 3
        simp only [List.getElem?_toArray, List.getElem?_cons_zero, List.getElem?_cons_succ] at t0 t1 t2 t3
        have HQ := Lib.hid Q.1
        clear Q g0 g1 g2 g3 y0 y1 y2 y3 y4 y5
        go_wp2_with fail
        refine bodyPost_ret (v := .tuple #[.agg #[.int .i64 y.a.c, .int .i64 y.a.s, .int .i64 y.a.lo, .int .i64 y.a.hi], .bool !y.d]) ?_ rfl ⟨by rw [HAT.out], HQ.out.drew⟩
        simp [results, Try.results15, go_sem, t0, t1, t2, t3]
      · have x1 : ¬ (y.e : Int) ≤ (x : Int) := by omega
        clear hx
        go_wp2_with fail
        go_roundw
        case rel => exact ⟨j, by have := HK.out.2.2.2.2; omega, by have := Cn.upto_less (l := l) (x := x) (k := j + 1) (by rw [Nat.add_sub_cancel, HK.out.2.2.2.1]; omega) HK.out.2.2.1; omega, rfl, HK.out.1⟩
        case measure => show ((j : Int) - 1 + 1).toNat < ((j : Int) + 1).toNat; omega
    · obtain rfl : k = 0 := by omega
      have hat : Cn.at_ l x = (Ag.none', false) := by
        unfold Cn.at_
        rw [if_pos (by omega)]
      have HAT := Lib.hid hat
      have HK := Lib.hid (And.intro hh q)
      clear hat hh q hu hk hlt
      rw [show ((0 : Nat) : Int) - 1 = -1 from rfl]
      go_wp2_with fail
      have Q := HK.out.1.put4 (by have := HH.out.2; omega) (.int .i64 0) (.int .i64 0) (.int .i64 0) (.int .i64 0)
      have t0 := Q.top.cell 0
      have t1 := Q.top.cell 1
      have t2 := Q.top.cell 2
      have t3 := Q.top.cell 3
      simp only [List.getElem?_toArray, List.getElem?_cons_zero, List.getElem?_cons_succ] at t0 t1 t2 t3
      have HQ := Lib.hid Q.1
      clear Q g0 g1 g2 g3
      refine bodyPost_ret (v := .tuple #[.agg #[.int .i64 0, .int .i64 0, .int .i64 0, .int .i64 0], .bool false]) ?_ rfl ⟨by rw [HAT.out]; rfl, HQ.out⟩
      simp [results, Try.results15, go_sem, t0, t1, t2, t3]
end Go.Proofs.Yteegnehfagkjcaa
