/- Layer 8, the program: rows, lists and numbers taken. -/
import Derived.Test.YtognlgklepgemaaRpTa
import Derived.Test.YtognlgklepgemaaRpI
namespace Go.Proofs.Ytognlgklepgemaa
open Go.ChangeShapes Go.WideShapes Go.ChangeAt Go.RowKit

set_option maxRecDepth 100000 in
set_option maxHeartbeats 4000000 in
theorem take_row (w0 W : World) (T g : Nat) (s : Rp.St) (odd : Bool) (h : Tk w0 W T g s odd) :
    Calls Try.prog 125 #[.pointer (some ⟨T, 0, none⟩)] W fun e W' => e = .returned (rowV (Rp.tRow s).1) ∧ Tk w0 W' T g (Rp.tRow s).2 odd ∧ StayR W W' := by
  have b0 : Below W.heap.size W (W.alloc (.cells #[.string ⟨#[]⟩, .int .i64 0, .int .i64 0, .int .i64 0, .int .i64 0, .int .i64 0, .int .i64 0] 81)) := (Below.refl _ _).alloc (Nat.le_refl _) _
  have K0 := Blk.new W 81 #[.string ⟨#[]⟩, .int .i64 0, .int .i64 0, .int .i64 0, .int .i64 0, .int .i64 0, .int .i64 0]
  have H0 := Lib.hid (And.intro (h.below b0) (And.intro (StayR.below b0) K0))
  have hgW := h.here
  have hTW := h.top
  have CP := Lib.hid (take_pane w0 _ T g s odd (h.below b0))
  obtain ⟨pp, ep⟩ : ∃ p, Rp.tPane s = p := ⟨_, rfl⟩
  obtain ⟨⟨vk, vs, ve⟩, s1⟩ := pp
  obtain ⟨a0, e0⟩ : ∃ v, sg (Rp.vl s1 8) = v := ⟨_, rfl⟩
  obtain ⟨a1, e1⟩ : ∃ v, sg (Rp.vl (Rp.nx s1 8) 8) = v := ⟨_, rfl⟩
  obtain ⟨a2, e2⟩ : ∃ v, sg (Rp.vl (Rp.nx (Rp.nx s1 8) 8) 8) = v := ⟨_, rfl⟩
  obtain ⟨a3, e3⟩ : ∃ v, sg (Rp.vl (Rp.nx (Rp.nx (Rp.nx s1 8) 8) 8) 8) = v := ⟨_, rfl⟩
  have er : Rp.tRow s = (⟨⟨vk, vs, ve⟩, ⟨a0, a1, a2, a3⟩⟩, Rp.nx (Rp.nx (Rp.nx (Rp.nx s1 8) 8) 8) 8) := by
    unfold Rp.tRow Rp.tAgg
    rw [ep, e0, e1, e2, e3]
  rw [er]
  rw [ep] at CP
  unfold rowV
  dsimp only at CP ⊢
  have HE := Lib.hid (And.intro e0 (And.intro e1 (And.intro e2 e3)))
  clear h b0 K0 e0 e1 e2 e3 er ep
  go_enter Try.func125, Try.ntmps125
  go_wp2_with fail
  refine CP.out.mono ?_
  rintro e w1 ⟨rfl, k1, t1⟩
  have K1 := t1.1 _ _ _ (by decide) H0.out.2.2
  have b1 : Below w1.heap.size w1 (w1.alloc (.cells #[.string vk, .int .i64 vs, .int .i64 ve, .int .i64 0, .int .i64 0, .int .i64 0, .int .i64 0] 81)) := (Below.refl _ _).alloc (Nat.le_refl _) _
  have H1 := Lib.hid (And.intro (k1.below b1) (And.intro ((H0.out.2.1.trans t1).trans (StayR.below b1)) (And.intro (K1.below b1 K1.lt) (Blk.new w1 81 #[.string vk, .int .i64 vs, .int .i64 ve, .int .i64 0, .int .i64 0, .int .i64 0, .int .i64 0]))))
  have hz1 : W.heap.size < w1.heap.size := K1.lt
  obtain ⟨t0, -⟩ := H1.out.1.cell
  clear k1 t1 K1 b1
  go_wp2_with fail
  clear t0
  refine (tk_int H1.out.1).mono ?_
  rintro e w2 ⟨rfl, k, t⟩
  rw [HE.out.1]
  have K := t.1 _ _ _ (by decide) H1.out.2.2.1
  have L := t.1 _ _ _ (by decide) H1.out.2.2.2
  have l1 : w2.cell? ⟨w1.heap.size, 3, none⟩ = some (.int .i64 0) := L.cell 3
  have f1 := L.frozen 3
  have k3 := k.set (P := w1.heap.size) (i := 3) (by omega) (by omega) (.int .i64 a0)
  have KK := K.far (b := w1.heap.size) (o := 3) (by omega) (.int .i64 a0)
  have LL := L.set_ 3 (.int .i64 a0)
  have H2 := Lib.hid (And.intro k3 (And.intro ((H1.out.2.1.trans t).set (P := w1.heap.size) (i := 3) (by omega) (.int .i64 a0)) (And.intro KK (show Blk _ w1.heap.size 81 #[.string vk, .int .i64 vs, .int .i64 ve, .int .i64 a0, .int .i64 0, .int .i64 0, .int .i64 0] from LL))))
  obtain ⟨t0, -⟩ := k3.cell
  clear k k3 t K L KK LL
  go_wp2_with fail
  clear l1 f1
  clear t0
  refine (tk_int H2.out.1).mono ?_
  rintro e w3 ⟨rfl, k, t⟩
  rw [HE.out.2.1]
  have K := t.1 _ _ _ (by decide) H2.out.2.2.1
  have L := t.1 _ _ _ (by decide) H2.out.2.2.2
  have l1 : w3.cell? ⟨w1.heap.size, 4, none⟩ = some (.int .i64 0) := L.cell 4
  have f1 := L.frozen 4
  have k3 := k.set (P := w1.heap.size) (i := 4) (by omega) (by omega) (.int .i64 a1)
  have KK := K.far (b := w1.heap.size) (o := 4) (by omega) (.int .i64 a1)
  have LL := L.set_ 4 (.int .i64 a1)
  have H3 := Lib.hid (And.intro k3 (And.intro ((H2.out.2.1.trans t).set (P := w1.heap.size) (i := 4) (by omega) (.int .i64 a1)) (And.intro KK (show Blk _ w1.heap.size 81 #[.string vk, .int .i64 vs, .int .i64 ve, .int .i64 a0, .int .i64 a1, .int .i64 0, .int .i64 0] from LL))))
  obtain ⟨t0, -⟩ := k3.cell
  clear k k3 t K L KK LL
  go_wp2_with fail
  clear l1 f1
  clear t0
  refine (tk_int H3.out.1).mono ?_
  rintro e w4 ⟨rfl, k, t⟩
  rw [HE.out.2.2.1]
  have K := t.1 _ _ _ (by decide) H3.out.2.2.1
  have L := t.1 _ _ _ (by decide) H3.out.2.2.2
  have l1 : w4.cell? ⟨w1.heap.size, 5, none⟩ = some (.int .i64 0) := L.cell 5
  have f1 := L.frozen 5
  have k3 := k.set (P := w1.heap.size) (i := 5) (by omega) (by omega) (.int .i64 a2)
  have KK := K.far (b := w1.heap.size) (o := 5) (by omega) (.int .i64 a2)
  have LL := L.set_ 5 (.int .i64 a2)
  have H4 := Lib.hid (And.intro k3 (And.intro ((H3.out.2.1.trans t).set (P := w1.heap.size) (i := 5) (by omega) (.int .i64 a2)) (And.intro KK (show Blk _ w1.heap.size 81 #[.string vk, .int .i64 vs, .int .i64 ve, .int .i64 a0, .int .i64 a1, .int .i64 a2, .int .i64 0] from LL))))
  obtain ⟨t0, -⟩ := k3.cell
  clear k k3 t K L KK LL
  go_wp2_with fail
  clear l1 f1
  clear t0
  refine (tk_int H4.out.1).mono ?_
  rintro e w5 ⟨rfl, k, t⟩
  rw [HE.out.2.2.2]
  have K := t.1 _ _ _ (by decide) H4.out.2.2.1
  have L := t.1 _ _ _ (by decide) H4.out.2.2.2
  have l1 : w5.cell? ⟨w1.heap.size, 6, none⟩ = some (.int .i64 0) := L.cell 6
  have f1 := L.frozen 6
  have k3 := k.set (P := w1.heap.size) (i := 6) (by omega) (by omega) (.int .i64 a3)
  have KK := K.far (b := w1.heap.size) (o := 6) (by omega) (.int .i64 a3)
  have LL := L.set_ 6 (.int .i64 a3)
  have H5 := Lib.hid (And.intro k3 (And.intro ((H4.out.2.1.trans t).set (P := w1.heap.size) (i := 6) (by omega) (.int .i64 a3)) (And.intro KK (show Blk _ w1.heap.size 81 #[.string vk, .int .i64 vs, .int .i64 ve, .int .i64 a0, .int .i64 a1, .int .i64 a2, .int .i64 a3] from LL))))
  have y0 : (w5.setCell ⟨w1.heap.size, 6, none⟩ (.int .i64 a3)).cell? ⟨w1.heap.size, 0, none⟩ = some (.string vk) := LL.cell 0
  have y1 : (w5.setCell ⟨w1.heap.size, 6, none⟩ (.int .i64 a3)).cell? ⟨w1.heap.size, 1, none⟩ = some (.int .i64 vs) := LL.cell 1
  have y2 : (w5.setCell ⟨w1.heap.size, 6, none⟩ (.int .i64 a3)).cell? ⟨w1.heap.size, 2, none⟩ = some (.int .i64 ve) := LL.cell 2
  have y3 : (w5.setCell ⟨w1.heap.size, 6, none⟩ (.int .i64 a3)).cell? ⟨w1.heap.size, 3, none⟩ = some (.int .i64 a0) := LL.cell 3
  have y4 : (w5.setCell ⟨w1.heap.size, 6, none⟩ (.int .i64 a3)).cell? ⟨w1.heap.size, 4, none⟩ = some (.int .i64 a1) := LL.cell 4
  have y5 : (w5.setCell ⟨w1.heap.size, 6, none⟩ (.int .i64 a3)).cell? ⟨w1.heap.size, 5, none⟩ = some (.int .i64 a2) := LL.cell 5
  have y6 : (w5.setCell ⟨w1.heap.size, 6, none⟩ (.int .i64 a3)).cell? ⟨w1.heap.size, 6, none⟩ = some (.int .i64 a3) := LL.cell 6
  have p0 := KK.cell 0
  have q0 := KK.frozen 0
  have p1 := KK.cell 1
  have q1 := KK.frozen 1
  have p2 := KK.cell 2
  have q2 := KK.frozen 2
  have p3 := KK.cell 3
  have q3 := KK.frozen 3
  have p4 := KK.cell 4
  have q4 := KK.frozen 4
  have p5 := KK.cell 5
  have q5 := KK.frozen 5
  have p6 := KK.cell 6
  have q6 := KK.frozen 6
  have H6 := Lib.hid (And.intro (((((((H5.out.1.set (P := W.heap.size) (i := 0) hgW (by omega) (.string vk)).set (P := W.heap.size) (i := 1) hgW (by omega) (.int .i64 vs)).set (P := W.heap.size) (i := 2) hgW (by omega) (.int .i64 ve)).set (P := W.heap.size) (i := 3) hgW (by omega) (.int .i64 a0)).set (P := W.heap.size) (i := 4) hgW (by omega) (.int .i64 a1)).set (P := W.heap.size) (i := 5) hgW (by omega) (.int .i64 a2)).set (P := W.heap.size) (i := 6) hgW (by omega) (.int .i64 a3)) (((((((H5.out.2.1.set (P := W.heap.size) (i := 0) (Nat.le_refl _) (.string vk)).set (P := W.heap.size) (i := 1) (Nat.le_refl _) (.int .i64 vs)).set (P := W.heap.size) (i := 2) (Nat.le_refl _) (.int .i64 ve)).set (P := W.heap.size) (i := 3) (Nat.le_refl _) (.int .i64 a0)).set (P := W.heap.size) (i := 4) (Nat.le_refl _) (.int .i64 a1)).set (P := W.heap.size) (i := 5) (Nat.le_refl _) (.int .i64 a2)).set (P := W.heap.size) (i := 6) (Nat.le_refl _) (.int .i64 a3)))
  obtain ⟨X, hX⟩ : ∃ X, (w5.setCell ⟨w1.heap.size, 6, none⟩ (.int .i64 a3)) = X := ⟨_, rfl⟩
  rw [hX] at y0 p0 q0 y1 p1 q1 y2 p2 q2 y3 p3 q3 y4 p4 q4 y5 p5 q5 y6 p6 q6 H6
  clear k k3 t K L KK LL
  go_wp2_with fail
  refine bodyPost_ret (v := .agg #[.string vk, .int .i64 vs, .int .i64 ve, .int .i64 a0, .int .i64 a1, .int .i64 a2, .int .i64 a3]) ?_ rfl ⟨rfl, H6.out⟩
  simp [results, Try.results125, go_sem, p0, p1, p2, p3, p4, p5, p6]
/-- The reply's block. -/
def RepB (W : World) (R : Nat) (x : Rp.V) : Prop := Blk W R 28 x.cells
/-- A call that takes a part into the reply at R, turning the value at its cell i. -/
def TakeP (w0 W : World) (T g R i : Nat) (s' : Rp.St) (odd' : Bool) (cs : Array Value) (v : Value) (e : Ending) (W' : World) : Prop :=
  e = .returned (.tuple #[]) ∧ Tk w0 W' T g s' odd' ∧ Blk W' R 28 (cs.setIfInBounds i v) ∧ (∀ k t ds, t ≠ 136 → t ≠ 107 → k ≠ R → Blk W k t ds → Blk W' k t ds) ∧ W.heap.size ≤ W'.heap.size
set_option maxRecDepth 100000 in
theorem take_code (w0 W : World) (T g R i : Nat) (s : Rp.St) (odd : Bool) (cs : Array Value) (h : Tk w0 W T g s odd) (hb : Blk W R 28 cs) (hgR : g < R) (hRT : R ≠ T) (hi : i < cs.size) :
    Calls Try.prog 115 #[.pointer (some ⟨T, 0, none⟩), .pointer (some ⟨R, i, none⟩)] W (TakeP w0 W T g R i (Rp.nx s 2) odd cs (.int .u16 ((Rp.vl s 2 : Nat) : Int))) := by
  obtain ⟨t0, -⟩ := h.cell
  have H := Lib.hid (And.intro (tk_u16 h) hb)
  clear h hb
  go_enter Try.func115, Try.ntmps115
  go_wp2_with fail
  refine H.out.1.mono ?_
  rintro e w1 ⟨rfl, k1, t1⟩
  have K1 := t1.1 _ _ _ (by decide) H.out.2
  have c1 : w1.cell? ⟨R, i, none⟩ = some (cs[i]) := (K1.cell i).trans (Array.getElem?_eq_getElem hi)
  have f1 := K1.frozen i
  have HH := Lib.hid (And.intro (k1.set (P := R) (i := i) hgR hRT (.int .u16 ((Rp.vl s 2 : Nat) : Int))) (And.intro (K1.set_ i (.int .u16 ((Rp.vl s 2 : Nat) : Int))) t1))
  clear k1 t1 K1 t0
  go_wp2_with fail
  go_end0
  exact ⟨rfl, HH.out.1, HH.out.2.1, fun k t ds h1 _ h3 hk => (HH.out.2.2.1 k t ds h1 hk).far (fun e => h3 e.symm) _, by simpa [World.setCell] using HH.out.2.2.2⟩
set_option maxRecDepth 100000 in
theorem take_number (w0 W : World) (T g R i : Nat) (s : Rp.St) (odd : Bool) (cs : Array Value) (h : Tk w0 W T g s odd) (hb : Blk W R 28 cs) (hgR : g < R) (hRT : R ≠ T) (hi : i < cs.size) :
    Calls Try.prog 117 #[.pointer (some ⟨T, 0, none⟩), .pointer (some ⟨R, i, none⟩)] W (TakeP w0 W T g R i (Rp.nx s 8) odd cs (.int .u64 ((Rp.vl s 8 : Nat) : Int))) := by
  obtain ⟨t0, -⟩ := h.cell
  have H := Lib.hid (And.intro (tk_u64 h) hb)
  clear h hb
  go_enter Try.func117, Try.ntmps117
  go_wp2_with fail
  refine H.out.1.mono ?_
  rintro e w1 ⟨rfl, k1, t1⟩
  have K1 := t1.1 _ _ _ (by decide) H.out.2
  have c1 : w1.cell? ⟨R, i, none⟩ = some (cs[i]) := (K1.cell i).trans (Array.getElem?_eq_getElem hi)
  have f1 := K1.frozen i
  have HH := Lib.hid (And.intro (k1.set (P := R) (i := i) hgR hRT (.int .u64 ((Rp.vl s 8 : Nat) : Int))) (And.intro (K1.set_ i (.int .u64 ((Rp.vl s 8 : Nat) : Int))) t1))
  clear k1 t1 K1 t0
  go_wp2_with fail
  go_end0
  exact ⟨rfl, HH.out.1, HH.out.2.1, fun k t ds h1 _ h3 hk => (HH.out.2.2.1 k t ds h1 hk).far (fun e => h3 e.symm) _, by simpa [World.setCell] using HH.out.2.2.2⟩
end Go.Proofs.Ytognlgklepgemaa
