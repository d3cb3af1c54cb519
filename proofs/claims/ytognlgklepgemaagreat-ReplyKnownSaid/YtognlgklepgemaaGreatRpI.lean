/- tidepooldocs: a reply as the reference has it. -/
import Derived.Test.YtognlgklepgemaaGreatRpG
namespace Go.Proofs.YtognlgklepgemaaGreat
open Go.ChangeShapes Go.WideShapes Go.ChangeAt Go.RowKit

theorem RowsIn.of_own {w : World} {base n c : Nat} {A : Option Addr} {l : List Rw} {t : TypeId} (h : w.ownsRow base t 7 (.slice A n c) n (rcells l)) : RowsIn w w.heap.size A n l := by
  have hn : l.length = n := by have := h.1; rw [rcells_len] at this; omega
  refine ⟨hn, fun h0 => ?_⟩
  obtain ⟨g, cap, hv, hc, hlt⟩ := h.form h0
  injection hv with hv
  subst hv
  refine ⟨g, 0, rfl, hlt, fun i hi j hj => ?_⟩
  have e := rcells_at l i j (by omega) hj
  have hk : (rowL (l.getD i default))[j]? = some ((rowL (l.getD i default))[j]'hj) := List.getElem?_eq_getElem hj
  rw [hk] at e ⊢
  have := h.cells (g := g) rfl _ _ e
  rw [add_at] at this
  rw [show 0 + i * 7 + j = 0 + (i * 7 + j) by omega]
  exact this
theorem PansIn.of_own {w : World} {base n c : Nat} {A : Option Addr} {l : List Pn} {t : TypeId} (h : w.ownsRow base t 3 (.slice A n c) n (pncells l)) : PansIn w w.heap.size A n l := by
  have hn : l.length = n := by have := h.1; rw [pncells_len] at this; omega
  refine ⟨hn, fun h0 => ?_⟩
  obtain ⟨g, cap, hv, hc, hlt⟩ := h.form h0
  injection hv with hv
  subst hv
  refine ⟨g, 0, rfl, hlt, fun i hi j hj => ?_⟩
  have e := pncells_at l i j (by omega) hj
  have hk : (panL (l.getD i default))[j]? = some ((panL (l.getD i default))[j]'hj) := List.getElem?_eq_getElem hj
  rw [hk] at e ⊢
  have := h.cells (g := g) rfl _ _ e
  rw [add_at] at this
  rw [show 0 + i * 3 + j = 0 + (i * 3 + j) by omega]
  exact this
/-- The reply with its rows and panes elsewhere. -/
def Rp.V.at_ (x : Rp.V) (A : Option Addr) (c : Nat) (G : Option Addr) (d : Nat) : Rp.V := { x with A := A, c := c, G := G, d := d }
/-- A call that answers a reply, in memory of its own. -/
def RepP (w : World) (x : Rp.V) (rows : List Rw) (gone : List Pn) (e : Ending) (w' : World) : Prop := ∃ A c G d, e = .returned (x.at_ A c G d).val ∧ (x.at_ A c G d).In w' w'.heap.size rows gone ∧ Below w.heap.size w w'
theorem below_12 {B g : Nat} {w W : World} (h : Below B w W) (hg : B ≤ g) (u0 u1 u2 u3 u4 u5 u6 u7 u8 u9 u10 u11 : Value) : Below B w ((((((((((((W.setCell ⟨g, 0, none⟩ u0).setCell ⟨g, 1, none⟩ u1).setCell ⟨g, 2, none⟩ u2).setCell ⟨g, 3, none⟩ u3).setCell ⟨g, 4, none⟩ u4).setCell ⟨g, 5, none⟩ u5).setCell ⟨g, 6, none⟩ u6).setCell ⟨g, 7, none⟩ u7).setCell ⟨g, 8, none⟩ u8).setCell ⟨g, 9, none⟩ u9).setCell ⟨g, 10, none⟩ u10).setCell ⟨g, 11, none⟩ u11) :=
  (((((((((((h.setCell (p := ⟨g, 0, none⟩) hg u0).setCell (p := ⟨g, 1, none⟩) hg u1).setCell (p := ⟨g, 2, none⟩) hg u2).setCell (p := ⟨g, 3, none⟩) hg u3).setCell (p := ⟨g, 4, none⟩) hg u4).setCell (p := ⟨g, 5, none⟩) hg u5).setCell (p := ⟨g, 6, none⟩) hg u6).setCell (p := ⟨g, 7, none⟩) hg u7).setCell (p := ⟨g, 8, none⟩) hg u8).setCell (p := ⟨g, 9, none⟩) hg u9).setCell (p := ⟨g, 10, none⟩) hg u10).setCell (p := ⟨g, 11, none⟩) hg u11
theorem blk_12 {W : World} {g : Nat} {T : TypeId} {x0 x1 x2 x3 x4 x5 x6 x7 x8 x9 x10 x11 : Value} (h : Blk W g T #[x0, x1, x2, x3, x4, x5, x6, x7, x8, x9, x10, x11]) (u0 u1 u2 u3 u4 u5 u6 u7 u8 u9 u10 u11 : Value) : Blk ((((((((((((W.setCell ⟨g, 0, none⟩ u0).setCell ⟨g, 1, none⟩ u1).setCell ⟨g, 2, none⟩ u2).setCell ⟨g, 3, none⟩ u3).setCell ⟨g, 4, none⟩ u4).setCell ⟨g, 5, none⟩ u5).setCell ⟨g, 6, none⟩ u6).setCell ⟨g, 7, none⟩ u7).setCell ⟨g, 8, none⟩ u8).setCell ⟨g, 9, none⟩ u9).setCell ⟨g, 10, none⟩ u10).setCell ⟨g, 11, none⟩ u11) g T #[u0, u1, u2, u3, u4, u5, u6, u7, u8, u9, u10, u11] := by
  have hh := ((((((((((((h.set_ 0 u0).set_ 1 u1).set_ 2 u2).set_ 3 u3).set_ 4 u4).set_ 5 u5).set_ 6 u6).set_ 7 u7).set_ 8 u8).set_ 9 u9).set_ 10 u10).set_ 11 u11)
  rw [arr12] at hh
  exact hh
theorem grown_12 (W : World) (g : Nat) (u0 u1 u2 u3 u4 u5 u6 u7 u8 u9 u10 u11 : Value) : W.grownBy ((((((((((((W.setCell ⟨g, 0, none⟩ u0).setCell ⟨g, 1, none⟩ u1).setCell ⟨g, 2, none⟩ u2).setCell ⟨g, 3, none⟩ u3).setCell ⟨g, 4, none⟩ u4).setCell ⟨g, 5, none⟩ u5).setCell ⟨g, 6, none⟩ u6).setCell ⟨g, 7, none⟩ u7).setCell ⟨g, 8, none⟩ u8).setCell ⟨g, 9, none⟩ u9).setCell ⟨g, 10, none⟩ u10).setCell ⟨g, 11, none⟩ u11) (some g) :=
  only_setCell (only_setCell (only_setCell (only_setCell (only_setCell (only_setCell (only_setCell (only_setCell (only_setCell (only_setCell (only_setCell (grown_set 0 u0) 1 u1) 2 u2) 3 u3) 4 u4) 5 u5) 6 u6) 7 u7) 8 u8) 9 u9) 10 u10) 11 u11
set_option maxRecDepth 100000 in
set_option maxHeartbeats 4000000 in
theorem docRep_any (x : Rp.V) (rows : List Rw) (gone : List Pn) (B : Nat) (w : World) (hx : x.In w B rows gone) (hB : B ≤ w.heap.size) (hn : x.n ≤ 1000) (hm : x.m ≤ 1000) :
    Calls Tryz.prog 9 #[x.val] w (RepP w x rows gone) := by
  obtain ⟨W0, hW0⟩ : ∃ W, (w.alloc (.cells x.cells 28)).alloc (.cells #[.int .u8 0, .int .u32 0, .int .u16 0, .bool false, .int .u64 0, .int .u64 0, .int .u64 0, .int .u64 0, .int .u64 0, .int .u64 0, .slice none 0 0, .slice none 0 0] 40) = W := ⟨_, rfl⟩
  have B0 : Below w.heap.size w W0 := by
    rw [← hW0]
    exact ((Below.refl _ _).alloc (Nat.le_refl _) _).alloc (by simp) _
  have K1 : Blk W0 w.heap.size 28 x.cells := by
    rw [← hW0]
    exact blk_al (Blk.new w _ _) _
  have K2 : Blk W0 (w.heap.size + 1) 40 #[.int .u8 0, .int .u32 0, .int .u16 0, .bool false, .int .u64 0, .int .u64 0, .int .u64 0, .int .u64 0, .int .u64 0, .int .u64 0, .slice none 0 0, .slice none 0 0] := by
    rw [← hW0]
    exact blk_nw _ _ _ _ (by simp)
  have hz0 : w.heap.size + 1 < W0.heap.size := K2.lt
  have P : Hid (∀ W, Below (w.heap.size + 1) W0 W → RepCells W w.heap.size x) := Lib.hid fun W hW => (rep_cells (K1.below hW (by omega))).1
  have D0 : Hid (Below W0.heap.size W0 W0.drew) := Lib.hid (Below.refl _ _).drew
  have CR : Hid (∀ W, Below W0.heap.size W0 W → Calls Tryz.prog 27 #[.slice x.A x.n x.c] W fun e w' => ∃ A c, e = .returned (.slice A x.n c) ∧ w'.ownsRow W0.heap.size 93 7 (.slice A x.n c) x.n (rcells rows) ∧ Below W.heap.size W w') := Lib.hid fun W hW => by
    have hb0 : Below w.heap.size w W := B0.trans (hW.mono B0.size)
    refine (docRows_any x.n x.c B x.A rows W (hx.1.below hb0 hB) (Nat.le_trans hB hb0.size) hn).mono ?_
    rintro e w' ⟨A, c, rfl, ho, hb⟩
    rw [hx.1.1] at ho ⊢
    exact ⟨A, c, rfl, own_lower ho hW.size, hb⟩
  have CP : Hid (∀ W, Below W0.heap.size W0 W → Calls Tryz.prog 28 #[.slice x.G x.m x.d] W fun e w' => ∃ A c, e = .returned (.slice A x.m c) ∧ w'.ownsRow W0.heap.size 90 3 (.slice A x.m c) x.m (pncells gone) ∧ Below W.heap.size W w') := Lib.hid fun W hW => by
    have hb0 : Below w.heap.size w W := B0.trans (hW.mono B0.size)
    refine (docPanes_any x.m x.d B x.G gone W (hx.2.below hb0 hB) (Nat.le_trans hB hb0.size) hm).mono ?_
    rintro e w' ⟨A, c, rfl, ho, hb⟩
    rw [hx.2.1] at ho ⊢
    exact ⟨A, c, rfl, own_lower ho hW.size, hb⟩
  have HB := Lib.hid (And.intro B0 K2)
  have hfz : ∀ W, Below W0.heap.size W0 W → W.frozen? ⟨w.heap.size + 1, 0, none⟩ = false ∧ W.frozen? ⟨w.heap.size + 1, 1, none⟩ = false ∧ W.frozen? ⟨w.heap.size + 1, 2, none⟩ = false ∧ W.frozen? ⟨w.heap.size + 1, 3, none⟩ = false ∧ W.frozen? ⟨w.heap.size + 1, 4, none⟩ = false ∧ W.frozen? ⟨w.heap.size + 1, 5, none⟩ = false ∧ W.frozen? ⟨w.heap.size + 1, 6, none⟩ = false ∧ W.frozen? ⟨w.heap.size + 1, 7, none⟩ = false ∧ W.frozen? ⟨w.heap.size + 1, 8, none⟩ = false ∧ W.frozen? ⟨w.heap.size + 1, 9, none⟩ = false ∧ W.frozen? ⟨w.heap.size + 1, 10, none⟩ = false ∧ W.frozen? ⟨w.heap.size + 1, 11, none⟩ = false := fun W hW => (rep_cells (Y := Rp.only 0 0) (K2.below hW K2.lt)).2
  have hcl : ∀ W, Below W0.heap.size W0 W → RepCells W (w.heap.size + 1) (Rp.only 0 0) := fun W hW => (rep_cells (Y := Rp.only 0 0) (K2.below hW K2.lt)).1
  have HFC := Lib.hid (And.intro hfz hcl)
  clear hfz hcl
  clear hx hB hn hm B0 K1 K2
  obtain ⟨k, id, code, last, ep, fl, un, le, st, ti, A, n, c, G, m, d⟩ := x
  unfold Rp.V.val Rp.only RepCells at *
  unfold Rp.V.cells at *
  dsimp only at *
  go_enter Tryz.func9, Tryz.ntmps9
  go_upto_region 1 with (fail)
  clear hW0
  go_region_held3 (fun W => W.cell? ⟨w.heap.size, 0, none⟩ = some (.int .u8 (k : Int)) ∧ W.cell? ⟨w.heap.size, 1, none⟩ = some (.int .u32 (id : Int)) ∧ W.cell? ⟨w.heap.size, 2, none⟩ = some (.int .u16 (code : Int)) ∧ W.cell? ⟨w.heap.size, 3, none⟩ = some (.bool last) ∧ W.cell? ⟨w.heap.size, 4, none⟩ = some (.int .u64 (ep : Int)) ∧ W.cell? ⟨w.heap.size, 5, none⟩ = some (.int .u64 (fl : Int)) ∧ W.cell? ⟨w.heap.size, 6, none⟩ = some (.int .u64 (un : Int)) ∧ W.cell? ⟨w.heap.size, 7, none⟩ = some (.int .u64 (le : Int)) ∧ W.cell? ⟨w.heap.size, 8, none⟩ = some (.int .u64 (st : Int)) ∧ W.cell? ⟨w.heap.size, 9, none⟩ = some (.int .u64 (ti : Int)) ∧ W.cell? ⟨w.heap.size, 10, none⟩ = some (.slice A n c) ∧ W.cell? ⟨w.heap.size, 11, none⟩ = some (.slice G m d)) (first | with_reducible exact P.out _ (D0.out.mono (Nat.le_of_lt hz0)) | with_reducible exact P.out _ (D1.out.mono (Nat.le_of_lt hz0)) | with_reducible exact P.out _ (D2.out.mono (Nat.le_of_lt hz0)) | with_reducible exact P.out _ (below_12 (D2.out.mono (Nat.le_of_lt hz0)) (Nat.le_refl _) _ _ _ _ _ _ _ _ _ _ _ _)) (first
      | (go_at_call 27; (with_reducible refine (CR.out _ D0.out).mono ?_); rintro e w3 ⟨A3, c3, rfl, r3, b3⟩; have D1 := Lib.hid (below_next D0.out b3); have R3 := Lib.hid r3; clear b3 r3)
      | (go_at_call 28; (with_reducible refine (CP.out _ D1.out).mono ?_); rintro e w4 ⟨A4, c4, rfl, r4, b4⟩; have D2 := Lib.hid (below_next D1.out b4); have R4 := Lib.hid (And.intro r4 (own_below R3.out b4)); have ⟨f0, f1, f2, f3, f4, f5, f6, f7, f8, f9, f10, f11⟩ := HFC.out.1 _ D2.out; have ⟨y0, y1, y2, y3, y4, y5, y6, y7, y8, y9, y10, y11⟩ := HFC.out.2 _ D2.out; clear b4 r4))
  all_goals (go_wp2_with fail)
  obtain ⟨WW, hWW⟩ : ∃ WW, ((((((((((((w4.setCell ⟨w.heap.size + 1, 0, none⟩ (.int .u8 (k : Int))).setCell ⟨w.heap.size + 1, 1, none⟩ (.int .u32 (id : Int))).setCell ⟨w.heap.size + 1, 2, none⟩ (.int .u16 (code : Int))).setCell ⟨w.heap.size + 1, 3, none⟩ (.bool last)).setCell ⟨w.heap.size + 1, 4, none⟩ (.int .u64 (ep : Int))).setCell ⟨w.heap.size + 1, 5, none⟩ (.int .u64 (fl : Int))).setCell ⟨w.heap.size + 1, 6, none⟩ (.int .u64 (un : Int))).setCell ⟨w.heap.size + 1, 7, none⟩ (.int .u64 (le : Int))).setCell ⟨w.heap.size + 1, 8, none⟩ (.int .u64 (st : Int))).setCell ⟨w.heap.size + 1, 9, none⟩ (.int .u64 (ti : Int))).setCell ⟨w.heap.size + 1, 10, none⟩ (.slice A3 n c3)).setCell ⟨w.heap.size + 1, 11, none⟩ (.slice A4 m c4)) = WW := ⟨_, rfl⟩
  have KW : Blk WW (w.heap.size + 1) 40 #[.int .u8 (k : Int), .int .u32 (id : Int), .int .u16 (code : Int), .bool last, .int .u64 (ep : Int), .int .u64 (fl : Int), .int .u64 (un : Int), .int .u64 (le : Int), .int .u64 (st : Int), .int .u64 (ti : Int), .slice A3 n c3, .slice A4 m c4] := by
    rw [← hWW]
    exact blk_12 (HB.out.2.below D2.out HB.out.2.lt) _ _ _ _ _ _ _ _ _ _ _ _
  have BW : Below (w.heap.size + 1) W0 WW := by
    rw [← hWW]
    exact below_12 (D2.out.mono (Nat.le_of_lt hz0)) (Nat.le_refl _) _ _ _ _ _ _ _ _ _ _ _ _
  have GW : w4.grownBy WW (some (w.heap.size + 1)) := by
    rw [← hWW]
    exact grown_12 _ _ _ _ _ _ _ _ _ _ _ _ _ _
  rw [hWW]
  obtain ⟨z0, z1, z2, z3, z4, z5, z6, z7, z8, z9, z10, z11⟩ := (rep_cells (Y := ⟨k, id, code, last, ep, fl, un, le, st, ti, A3, n, c3, A4, m, c4⟩) KW).1
  have HWW := Lib.hid (And.intro BW GW)
  clear hWW KW BW GW y0 y1 y2 y3 y4 y5 y6 y7 y8 y9 y10 y11 f0 f1 f2 f3 f4 f5 f6 f7 f8 f9 f10 f11
  refine bodyPost_ret (v := .agg #[.int .u8 (k : Int), .int .u32 (id : Int), .int .u16 (code : Int), .bool last, .int .u64 (ep : Int), .int .u64 (fl : Int), .int .u64 (un : Int), .int .u64 (le : Int), .int .u64 (st : Int), .int .u64 (ti : Int), .slice A3 n c3, .slice A4 m c4]) ?_ rfl ⟨A3, c3, A4, c4, rfl, ⟨?_, ?_⟩, ?_⟩
  · simp [results, Tryz.results9, go_sem, z0, z1, z2, z3, z4, z5, z6, z7, z8, z9, z10, z11]
  · exact RowsIn.of_own (own_off R4.out.2 HWW.out.2 (HB.out.2.below D2.out HB.out.2.lt) (by decide))
  · exact PansIn.of_own (own_off R4.out.1 HWW.out.2 (HB.out.2.below D2.out HB.out.2.lt) (by decide))
  · exact HB.out.1.trans (HWW.out.1.mono (Nat.le_succ _))
end Go.Proofs.YtognlgklepgemaaGreat
