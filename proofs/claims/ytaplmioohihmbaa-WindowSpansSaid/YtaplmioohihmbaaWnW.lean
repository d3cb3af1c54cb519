/- Layer 14's law: its examples. -/
import Derived.Test.YtaplmioohihmbaaWnO
import Derived.Test.YtaplmioohihmbaaWnK
namespace Go.Proofs.Ytaplmioohihmbaa
open Go.ChangeShapes Go.WideShapes Go.ChangeAt Go.RowKit

def TrueP (w : World) (e : Ending) (w' : World) : Prop := e = .returned (.bool true) ∧ Below w.heap.size w w'
/-- A row of one pair, of two. -/
def Sp1 (w : World) (x : Int × Int) (e : Ending) (w' : World) : Prop := ∃ g c, e = .returned (.slice (some ⟨g, 0, none⟩) 1 c) ∧ g < w'.heap.size ∧ w'.cell? ⟨g, 0, none⟩ = some (.int .i64 x.1) ∧ w'.cell? ⟨g, 1, none⟩ = some (.int .i64 x.2) ∧ Below w.heap.size w w'
def Sp2 (w : World) (x y : Int × Int) (e : Ending) (w' : World) : Prop := ∃ g c, e = .returned (.slice (some ⟨g, 0, none⟩) 2 c) ∧ g < w'.heap.size ∧ w'.cell? ⟨g, 0, none⟩ = some (.int .i64 x.1) ∧ w'.cell? ⟨g, 1, none⟩ = some (.int .i64 x.2) ∧ w'.cell? ⟨g, 2, none⟩ = some (.int .i64 y.1) ∧ w'.cell? ⟨g, 3, none⟩ = some (.int .i64 y.2) ∧ Below w.heap.size w w'
theorem sp1_of {w w' : World} {T : TypeId} {x : Int × Int} {e : Ending} (h : SpP w T [x] e w') : Sp1 w x e w' := by
  obtain ⟨A, c, he, ho, hb⟩ := h
  obtain ⟨g, cap, hv, hc, hlt⟩ := ho.form (by simp)
  injection hv with h1 h2 h3
  subst h1
  have k0 := ho.cells (g := g) rfl 0 _ (spL_at [x] 0 x rfl).1
  have k1 := ho.cells (g := g) rfl 1 _ (spL_at [x] 0 x rfl).2
  rw [add_at] at k0 k1
  exact ⟨g, c, he, hlt, k0, k1, hb⟩
theorem sp2_of {w w' : World} {T : TypeId} {x y : Int × Int} {e : Ending} (h : SpP w T [x, y] e w') : Sp2 w x y e w' := by
  obtain ⟨A, c, he, ho, hb⟩ := h
  obtain ⟨g, cap, hv, hc, hlt⟩ := ho.form (by simp)
  injection hv with h1 h2 h3
  subst h1
  have k0 := ho.cells (g := g) rfl 0 _ (spL_at [x, y] 0 x rfl).1
  have k1 := ho.cells (g := g) rfl 1 _ (spL_at [x, y] 0 x rfl).2
  have k2 := ho.cells (g := g) rfl 2 _ (spL_at [x, y] 1 y rfl).1
  have k3 := ho.cells (g := g) rfl 3 _ (spL_at [x, y] 1 y rfl).2
  rw [add_at] at k0 k1 k2 k3
  exact ⟨g, c, he, hlt, k0, k1, k2, k3, hb⟩
theorem ex1 (w : World) : Calls Try.prog 10 #[.agg #[.int .u8 1, .int .i64 10, .int .i64 0, .int .i64 0], .int .i64 25] w (Sp1 w (20, 30)) := by
  have h := of_any 1 10 0 0 25 w
  rw [show Wn.ofL ⟨1, 10, 0, 0⟩ 25 = [(20, 30)] by decide +kernel] at h
  exact h.mono fun e w' => sp1_of
theorem ex2 (w : World) : Calls Try.prog 10 #[.agg #[.int .u8 1, .int .i64 10, .int .i64 0, .int .i64 0], .int .i64 (-1)] w (Sp1 w (-10, 0)) := by
  have h := of_any 1 10 0 0 (-1) w
  rw [show Wn.ofL ⟨1, 10, 0, 0⟩ (-1) = [(-10, 0)] by decide +kernel] at h
  exact h.mono fun e w' => sp1_of
theorem ex3 (w : World) : Calls Try.prog 10 #[.agg #[.int .u8 1, .int .i64 10, .int .i64 0, .int .i64 0], .int .i64 20] w (Sp1 w (20, 30)) := by
  have h := of_any 1 10 0 0 20 w
  rw [show Wn.ofL ⟨1, 10, 0, 0⟩ 20 = [(20, 30)] by decide +kernel] at h
  exact h.mono fun e w' => sp1_of
theorem ex4 (w : World) : Calls Try.prog 10 #[.agg #[.int .u8 2, .int .i64 10, .int .i64 5, .int .i64 0], .int .i64 12] w (Sp2 w (5, 15) (10, 20)) := by
  have h := of_any 2 10 5 0 12 w
  rw [show Wn.ofL ⟨2, 10, 5, 0⟩ 12 = [(5, 15), (10, 20)] by decide +kernel] at h
  exact h.mono fun e w' => sp2_of
theorem ex5 (w : World) : Calls Try.prog 10 #[.agg #[.int .u8 3, .int .i64 0, .int .i64 0, .int .i64 4], .int .i64 7] w (Sp1 w (7, 11)) := by
  have h := of_any 3 0 0 4 7 w
  rw [show Wn.ofL ⟨3, 0, 0, 4⟩ 7 = [(7, 11)] by decide +kernel] at h
  exact h.mono fun e w' => sp1_of
theorem ex6 (w : World) (g : Nat) (h : Blk w g 25 #[.int .i64 7, .int .i64 11, .int .i64 9, .int .i64 13]) : Calls Try.prog 17 #[.slice (some ⟨g, 0, none⟩) 2 2] w (ValP w (.agg #[.int .i64 7, .int .i64 13])) :=
  together_any w (fun _ => True) (some ⟨g, 0, none⟩) 2 2 [(7, 11), (9, 13)] (Cells.of_blk h trivial rfl rfl) (by omega)
set_option maxRecDepth 100000 in
set_option maxHeartbeats 4000000 in
theorem works_any (w : World) : Calls Try.prog 16 #[] w (TrueP w) := by
  go_enter Try.func16, Try.ntmps16
  go_wp2_with fail
  refine (ofTumbling_any 10 _).mono ?_
  rintro e w1 ⟨rfl, b1⟩
  go_wp2_with fail
  refine (ex1 _).mono ?_
  rintro e w2 ⟨g1, k1, rfl, l1, u1, u2, b2⟩
  have B2 := below_next b1 b2
  clear b1 b2
  go_wp2_with fail
  refine (ofTumbling_any 10 _).mono ?_
  rintro e w3 ⟨rfl, b3⟩
  go_wp2_with fail
  refine (ex2 _).mono ?_
  rintro e w4 ⟨g2, k2, rfl, l2, u3, u4, b4⟩
  have c1 := below_next b3 b4
  have B4 := below_next B2 c1
  have u1 := (c1.cell (p := ⟨g1, 0, none⟩) l1).trans u1
  have u2 := (c1.cell (p := ⟨g1, 1, none⟩) l1).trans u2
  have l1 := Nat.lt_of_lt_of_le l1 c1.size
  clear b3 b4 B2 c1
  go_wp2_with fail
  refine (ofTumbling_any 10 _).mono ?_
  rintro e w5 ⟨rfl, b5⟩
  go_wp2_with fail
  refine (ex3 _).mono ?_
  rintro e w6 ⟨g3, k3, rfl, l3, u5, u6, b6⟩
  have c1 := below_next b5 b6
  have B6 := below_next B4 c1
  have u1 := (c1.cell (p := ⟨g1, 0, none⟩) l1).trans u1
  have u2 := (c1.cell (p := ⟨g1, 1, none⟩) l1).trans u2
  have u3 := (c1.cell (p := ⟨g2, 0, none⟩) l2).trans u3
  have u4 := (c1.cell (p := ⟨g2, 1, none⟩) l2).trans u4
  have l1 := Nat.lt_of_lt_of_le l1 c1.size
  have l2 := Nat.lt_of_lt_of_le l2 c1.size
  clear b5 b6 B4 c1
  go_wp2_with fail
  refine (ofSliding_any 10 5 _).mono ?_
  rintro e w7 ⟨rfl, b7⟩
  go_wp2_with fail
  refine (ex4 _).mono ?_
  rintro e w8 ⟨g4, k4, rfl, l4, u7, u8, u9, u10, b8⟩
  have c1 := below_next b7 b8
  have B8 := below_next B6 c1
  have u1 := (c1.cell (p := ⟨g1, 0, none⟩) l1).trans u1
  have u2 := (c1.cell (p := ⟨g1, 1, none⟩) l1).trans u2
  have u3 := (c1.cell (p := ⟨g2, 0, none⟩) l2).trans u3
  have u4 := (c1.cell (p := ⟨g2, 1, none⟩) l2).trans u4
  have u5 := (c1.cell (p := ⟨g3, 0, none⟩) l3).trans u5
  have u6 := (c1.cell (p := ⟨g3, 1, none⟩) l3).trans u6
  have l1 := Nat.lt_of_lt_of_le l1 c1.size
  have l2 := Nat.lt_of_lt_of_le l2 c1.size
  have l3 := Nat.lt_of_lt_of_le l3 c1.size
  clear b7 b8 B6 c1
  go_wp2_with fail
  refine (ofSession_any 4 _).mono ?_
  rintro e w9 ⟨rfl, b9⟩
  go_wp2_with fail
  refine (ex5 _).mono ?_
  rintro e wA ⟨g5, k5, rfl, l5, u11, u12, bA⟩
  have c1 := below_next b9 bA
  have BA := below_next B8 c1
  have HC : Hid (∀ X, Below wA.heap.size wA X → X.cell? ⟨g1, 0, none⟩ = some (.int .i64 20) ∧ X.cell? ⟨g1, 1, none⟩ = some (.int .i64 30) ∧ X.cell? ⟨g2, 0, none⟩ = some (.int .i64 (-10)) ∧ X.cell? ⟨g2, 1, none⟩ = some (.int .i64 0) ∧ X.cell? ⟨g3, 0, none⟩ = some (.int .i64 20) ∧ X.cell? ⟨g3, 1, none⟩ = some (.int .i64 30) ∧ X.cell? ⟨g4, 0, none⟩ = some (.int .i64 5) ∧ X.cell? ⟨g4, 1, none⟩ = some (.int .i64 15) ∧ X.cell? ⟨g4, 2, none⟩ = some (.int .i64 10) ∧ X.cell? ⟨g4, 3, none⟩ = some (.int .i64 20) ∧ X.cell? ⟨g5, 0, none⟩ = some (.int .i64 7) ∧ X.cell? ⟨g5, 1, none⟩ = some (.int .i64 11)) := Lib.hid fun X hX => by
    have c2 := c1.trans (hX.mono c1.size)
    exact ⟨(c2.cell (p := ⟨g1, 0, none⟩) l1).trans u1, (c2.cell (p := ⟨g1, 1, none⟩) l1).trans u2, (c2.cell (p := ⟨g2, 0, none⟩) l2).trans u3, (c2.cell (p := ⟨g2, 1, none⟩) l2).trans u4, (c2.cell (p := ⟨g3, 0, none⟩) l3).trans u5, (c2.cell (p := ⟨g3, 1, none⟩) l3).trans u6, (c2.cell (p := ⟨g4, 0, none⟩) l4).trans u7, (c2.cell (p := ⟨g4, 1, none⟩) l4).trans u8, (c2.cell (p := ⟨g4, 2, none⟩) l4).trans u9, (c2.cell (p := ⟨g4, 3, none⟩) l4).trans u10, (hX.cell (p := ⟨g5, 0, none⟩) l5).trans u11, (hX.cell (p := ⟨g5, 1, none⟩) l5).trans u12⟩
  have HB := Lib.hid BA
  have D : Hid (Below wA.heap.size wA wA.drew) := Lib.hid (Below.refl _ _).drew
  have D2 : Hid (Below wA.heap.size wA (wA.alloc (.cells #[.int .i64 7, .int .i64 11, .int .i64 9, .int .i64 13] 25)).drew) := Lib.hid ((Below.refl _ _).alloc (Nat.le_refl _) _).drew
  have HT : Hid (Calls Try.prog 17 #[.slice (some ⟨wA.heap.size, 0, none⟩) 2 2] (wA.alloc (.cells #[.int .i64 7, .int .i64 11, .int .i64 9, .int .i64 13] 25)).drew (ValP (wA.alloc (.cells #[.int .i64 7, .int .i64 11, .int .i64 9, .int .i64 13] 25)).drew (.agg #[.int .i64 7, .int .i64 13]))) := Lib.hid (ex6 _ _ (show Blk (wA.alloc (.cells #[.int .i64 7, .int .i64 11, .int .i64 9, .int .i64 13] 25)).drew wA.heap.size 25 _ from Blk.new wA _ _))
  have gg := span_guard
  have hq := fun a b c d W => span_same a b c d W
  clear u1 u2 u3 u4 u5 u6 u7 u8 u9 u10 u11 u12 l1 l2 l3 l4 l5 b9 bA c1 B8 BA
  go_wp2_with fail
  go_region_held3 (fun X => X.cell? ⟨g1, 0, none⟩ = some (.int .i64 20) ∧ X.cell? ⟨g1, 1, none⟩ = some (.int .i64 30) ∧ X.cell? ⟨g2, 0, none⟩ = some (.int .i64 (-10)) ∧ X.cell? ⟨g2, 1, none⟩ = some (.int .i64 0) ∧ X.cell? ⟨g3, 0, none⟩ = some (.int .i64 20) ∧ X.cell? ⟨g3, 1, none⟩ = some (.int .i64 30) ∧ X.cell? ⟨g4, 0, none⟩ = some (.int .i64 5) ∧ X.cell? ⟨g4, 1, none⟩ = some (.int .i64 15) ∧ X.cell? ⟨g4, 2, none⟩ = some (.int .i64 10) ∧ X.cell? ⟨g4, 3, none⟩ = some (.int .i64 20) ∧ X.cell? ⟨g5, 0, none⟩ = some (.int .i64 7) ∧ X.cell? ⟨g5, 1, none⟩ = some (.int .i64 11)) (first | with_reducible exact HC.out _ D3.out | with_reducible exact HC.out _ D2.out | with_reducible exact HC.out _ D.out)
    ((go_at_call 17; (with_reducible refine HT.out.mono ?_); rintro e X ⟨rfl, bb⟩; have D3 : Hid (Below wA.heap.size wA X) := Lib.hid (D2.out.trans (bb.mono D2.out.size)); clear bb))
  all_goals
    go_wp2_with fail
    go_ret
    exact ⟨rfl, HB.out.trans (D3.out.mono HB.out.size)⟩
end Go.Proofs.Ytaplmioohihmbaa
