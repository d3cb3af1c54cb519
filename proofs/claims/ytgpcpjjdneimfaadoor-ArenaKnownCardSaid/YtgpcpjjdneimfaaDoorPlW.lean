/- ArenaPlays: a call, whichever; what the two arenas have. -/
import Derived.Test.YtgpcpjjdneimfaaDoorM11K
namespace Go.Proofs.YtgpcpjjdneimfaaDoor
open Go.ChangeShapes Go.WideShapes Go.ChangeAt Go.RowKit

theorem Few.le {L : List Ar.Pl} {k k' : Nat} (h : Few L k) (hk : k ≤ k') : Few L k' := ⟨Nat.le_trans h.len hk, fun i p hp => Nat.le_trans (h.turn i p hp) hk⟩
theorem DoesP.more {w0 w : World} {P R : Nat → Prop} {g k k' : Nat} {e : Ending} {w' : World} (h : DoesP w0 w g P R k e w') (hk : k ≤ k') : DoesP w0 w g P R k' e w' := by
  obtain ⟨L', A', n', c', P', R', h1, h2, h3, h4⟩ := h
  exact ⟨L', A', n', c', P', R', h1, h2, h3.le hk, h4⟩
/-- Pick tells one number, whenever it is asked. -/
theorem pick_one (i : Int) (n : Nat) (hn : 0 < n) (hm : n ≤ 1000000) : ∃ k : Nat, k < n ∧ ∀ w, Calls Tryd.prog 22 #[.int .i64 i, .int .i64 (n : Int)] w fun e w' => e = .returned (.int .i64 (k : Int)) ∧ w = w' := by
  have h0 := Int.emod_nonneg i (by omega : (n : Int) ≠ 0)
  have h1 := Int.emod_lt_of_pos i (by omega : 0 < (n : Int))
  obtain ⟨k, hk⟩ := Int.eq_ofNat_of_zero_le h0
  refine ⟨k, by omega, fun w => ?_⟩
  have hp := pick_math i n (by omega)
  rw [hk] at hp
  have h2 : -(n : Int) < i.tmod n ∧ i.tmod n < n := by
    have : (i.tmod n).natAbs < (n : Int).natAbs := by rw [Int.natAbs_tmod]; exact Nat.mod_lt _ (by omega)
    omega
  generalize ht : i.tmod n = t at hp h2
  clear hk h0 h1
  go_enter Tryd.func22, Tryd.ntmps22
  go_wp2
  go_ret
  exact ⟨rfl, rfl⟩
theorem does_any (w0 w : World) (g : Nat) (L : List Ar.Pl) (A : Option Addr) (n c : Nat) (P R : Nat → Prop) (k : Nat) (h : Two w0 w g L L A n P R) (hf : Few L k) (hk : k ≤ 1000) (x : Int) (v : NdV) (d : Ar.Nd) (Al : Option Addr) (m cl : Nat) (l : List (Int × Int)) (hv : NdIn w (fun b => b < w0.heap.size) v d) (hl : Cells w (fun b => b < w0.heap.size) Al m 2 (hanL l)) (hm : m ≤ 1000000) :
    Calls Tryd.prog 11 #[.pointer (some ⟨g, 0, none⟩), .agg #[.slice A n c], .agg #[.int .i64 x, .bool d.leaf, .slice v.A1 v.n1 v.c1, .slice v.A2 v.n2 v.c2, .slice v.A3 v.n3 v.c3, .slice Al m cl]] w (DoesP w0 w g P R (k + 1)) := by
  obtain ⟨q, hq, hp⟩ := pick_one x 4 (by decide) (by decide)
  obtain rfl | rfl | rfl | rfl : q = 0 ∨ q = 1 ∨ q = 2 ∨ q = 3 := by omega
  · exact does_make w0 w g L A n c P R k h hf hk x v d Al m cl l hv hl 0 rfl rfl hp
  · exact does_make w0 w g L A n c P R k h hf hk x v d Al m cl l hv hl 1 rfl rfl hp
  · exact (does_put w0 w g L A n c P R k h hf hk x v d Al m cl l hv hl hp).mono fun _ _ h => h.more (by omega)
  · exact (does_free w0 w g L A n c P R k h hf hk x v d Al m cl l hv hl hm hp).mono fun _ _ h => h.more (by omega)
theorem got_has {L : List Ar.Pl} {x : Int × Int} {v : NdV} {d : Ar.Nd} {r : Int} (h : Got L x v d r) (hh : Ar.has L x = true) : r = 0 ∧ ∃ p, L[x.1.toNat]? = some p ∧ d = p.nd := by
  rcases h with ⟨-, h1, h2⟩ | ⟨h1, -⟩
  · exact ⟨h1, h2⟩
  · rw [h1] at hh
    cases hh
/-- Two rows, side by side. -/
def RowsP (W wx : World) (u : Nat) (l : List (Int × Int)) (p p' : Value) : Prop := ∃ A1 c1 A2 c2, p = .slice A1 u c1 ∧ p' = .slice A2 u c2 ∧ Cells wx (fun _ => True) A1 u 2 (hanL l) ∧ Cells wx (fun _ => True) A2 u 2 (hanL l) ∧ Below W.heap.size W wx
set_option maxRecDepth 100000 in
set_option maxHeartbeats 4000000 in
theorem is_any (w0 w : World) (g : Nat) (L : List Ar.Pl) (A : Option Addr) (n c : Nat) (P R : Nat → Prop) (k : Nat) (h : Two w0 w g L L A n P R) (hf : Few L k) (hk : k ≤ 1000) :
    Calls Tryd.prog 12 #[.pointer (some ⟨g, 0, none⟩), .agg #[.slice A n c]] w (BoolP w true) := by
  obtain ⟨a, ha⟩ : ∃ a, w.heap.size = a := ⟨_, rfl⟩
  obtain ⟨W, hW⟩ : ∃ W, w.alloc (.cells #[.slice A n c] 29) = W := ⟨_, rfl⟩
  have hB : Below w.heap.size w W := hW ▸ (Below.refl _ _).alloc (Nat.le_refl _) _
  have hbox : Blk W a 29 #[.slice A n c] := hW ▸ ha ▸ Blk.new _ _ _
  obtain ⟨u, hu⟩ : ∃ u, (Ar.used L).length = u := ⟨_, rfl⟩
  have hul : u ≤ L.length := by
    rw [← hu, Ar.used_length]
    exact List.countP_le_length
  have hLn := h.pl.len
  have hL1 := hf.len
  have HU1 : Hid (∀ X', Below W.heap.size W X' → Calls Tryd.prog 21 #[.pointer (some ⟨g, 0, none⟩)] X' (SliceP X' u (Ar.used L))) := Lib.hid fun X' h1 => hu ▸ arUsed_any X' _ g L ((h.ar.below hB).below h1) (by omega)
  have HU2 : Hid (∀ X', Below W.heap.size W X' → Calls Tryd.prog 34 #[.agg #[.slice A n c]] X' (RowP X' 51 2 u (hanL (Ar.used L)))) := Lib.hid fun X' h1 => hu ▸ refUsed_any X' _ A n c L ((h.pl.below hB).below h1) (by omega)
  have HU3 : Hid (∀ X', Below W.heap.size W X' → Calls Tryd.prog 25 #[.pointer (some ⟨g, 0, none⟩)] X' (LenP X' (u : Int) (n : Int))) := Lib.hid fun X' h1 => by
    have h2 := arLen_any X' _ g L ((h.ar.below hB).below h1) (by omega)
    rwa [hu, hLn] at h2
  have H := Lib.hid (And.intro hW (And.intro ha (And.intro hB (And.intro hbox (And.intro (h.below hB) (And.intro hu (And.intro hul (And.intro hLn hL1))))))))
  have a0 := hbox.cell 0
  simp only [List.getElem?_toArray, List.getElem?_cons_zero] at a0
  clear hW ha hB hbox h hu hul hLn hL1 hf
  go_enter Tryd.func12, Tryd.ntmps12
  go_upto_region 1 with fail
  rw [H.out.1, H.out.2.1]
  go_cut [5, 6] (fun p p' wx => RowsP W wx u (Ar.used L) p p')
  case first =>
    as_aux_lemma =>
    have PA : Hid (∀ X', Below W.heap.size W X' → X'.cell? ⟨a, 0, none⟩ = some (.slice A n c)) := Lib.hid fun X' hX => (hX.cell (p := ⟨a, 0, none⟩) H.out.2.2.2.1.lt).trans a0
    have E0 : Hid (Below W.heap.size W W.drew) := Lib.hid (Below.refl _ _).drew
    clear a0
    go_region_held3 (fun X' => X'.cell? ⟨a, 0, none⟩ = some (.slice A n c)) (first | with_reducible exact PA.out _ E0.out | with_reducible exact PA.out _ E1.out | with_reducible exact PA.out _ E2.out) (first
      | (go_at_call 21; (with_reducible refine (HU1.out _ E0.out).mono ?_); rintro e X1 ⟨A1, c1, rfl, o1, bb⟩; have E1 := Lib.hid (below_next E0.out bb); have R1 := Lib.hid (Cells.mono (G := fun _ => True) (Cells.of_own o1) (fun _ _ _ => trivial)); clear bb o1)
      | (go_at_call 34; (with_reducible refine (HU2.out _ E0.out).mono ?_); rintro e X1 ⟨A2, c2, rfl, o1, bb⟩; have E1 := Lib.hid (below_next E0.out bb); have R2 := Lib.hid (Cells.mono (G := fun _ => True) (Cells.of_own o1) (fun _ _ _ => trivial)); clear bb o1)
      | (go_at_call 21; (with_reducible refine (HU1.out _ E1.out).mono ?_); rintro e X2 ⟨A1, c1, rfl, o1, bb⟩; have E2 := Lib.hid (below_next E1.out bb); have R1 := Lib.hid (Cells.mono (G := fun _ => True) (Cells.of_own o1) (fun _ _ _ => trivial)); have R2 := Lib.hid (R2.out.below bb); clear bb o1)
      | (go_at_call 34; (with_reducible refine (HU2.out _ E1.out).mono ?_); rintro e X2 ⟨A2, c2, rfl, o1, bb⟩; have E2 := Lib.hid (below_next E1.out bb); have R2 := Lib.hid (Cells.mono (G := fun _ => True) (Cells.of_own o1) (fun _ _ _ => trivial)); have R1 := Lib.hid (R1.out.below bb); clear bb o1))
    all_goals go_wp2_with fail
    all_goals go_meet
    all_goals (case rel => exact ⟨_, _, _, _, rfl, rfl, R1.out, R2.out, E2.out⟩)
  case rest =>
    obtain ⟨A1, c1, A2, c2, rfl, rfl, R1, R2, hbc⟩ := hcut
    have HR := Lib.hid (And.intro R1 (And.intro R2 hbc))
    have HL := Lib.hid (HU3.out wc hbc)
    clear R1 R2 hbc HU1 HU2 HU3
    go_upto_region 2 with fail
    go_wp2_with fail
    refine HL.out.mono ?_
    clear a0 HL
    rintro e V ⟨rfl, bV⟩
    have hbV := below_next HR.out.2.2 bV
    have hboxV := H.out.2.2.2.1.below hbV H.out.2.2.2.1.lt
    have a0 := hboxV.cell 0
    simp only [List.getElem?_toArray, List.getElem?_cons_zero] at a0
    have G := Lib.hid (And.intro (HR.out.1.below bV) (And.intro (HR.out.2.1.below bV) (And.intro hbV (And.intro hboxV (H.out.2.2.2.2.1.below hbV)))))
    clear bV hbV hboxV HR
    have e1 : ((u : Int) != (u : Int)) = false := by simp
    have e2 : ((n : Int) != (n : Int)) = false := by simp
    have e3 : ((u : Int) == (u : Int)) = true := by simp
    have e4 : ((n : Int) == (n : Int)) = true := by simp
    go_upto_region 4 with fail
    have HBd := Lib.hid (And.intro e1 e2)
    clear e1 e2 e3 e4 a0
    go_wp2_with fail
    go_loopw [9] (fun i wr => ∃ j : Nat, j ≤ u ∧ i = .int .i64 (j : Int) ∧ Below V.heap.size V wr) (fun i _ => u - (intOf i).toNat)
    case atStart => exact ⟨0, by omega, rfl, Below.refl _ _⟩
    case round =>
      obtain ⟨j, hj, rfl, hbel⟩ := hrel
      by_cases hlt : j < u
      · have i1 : (0 : Int) ≤ (j : Int) := by omega
        have i2 : (j : Int) < (u : Int) := by omega
        obtain ⟨y, hy⟩ : ∃ y, (Ar.used L)[j]? = some y := ⟨_, List.getElem?_eq_getElem (by rw [H.out.2.2.2.2.2.1]; exact hlt)⟩
        obtain ⟨b1, o1, rfl, -, hb1, hc1⟩ := G.out.1.at_ hlt
        obtain ⟨b2, o2, rfl, -, hb2, hc2⟩ := G.out.2.1.at_ hlt
        have hy2 := hanL_at _ j y hy
        have hhas : Ar.has L y = true := (Ar.used_mem L y).1 (List.mem_of_getElem? hy)
        obtain ⟨y1, y2⟩ := y
        have p0 := (hc1 0 (by omega)).trans hy2.1
        have p1 := (hc1 1 (by omega)).trans hy2.2
        have p2 := (hc2 0 (by omega)).trans hy2.1
        have p3 := (hc2 1 (by omega)).trans hy2.2
        simp only [Nat.add_zero] at p0 p2
        simp only at p0 p1 p2 p3
        have HJ := Lib.hid (And.intro hbel (And.intro hb1 (And.intro hb2 (And.intro p0 (And.intro p1 (And.intro p2 (And.intro p3 hhas)))))))
        have hub : u ≤ 1000 := by have h1 := H.out.2.2.2.2.2.2.1; have h2 := H.out.2.2.2.2.2.2.2.2; omega
        have HLe := Lib.hid (And.intro hj (And.intro hlt hub))
        clear hub
        clear hbel hb1 hb2 p0 p1 p2 p3 hhas hc1 hc2 hy2 hy
        go_wp2_with fail
        go_loopw [10] (fun t wr => ∃ k : Nat, k ≤ 2 ∧ t = .int .i64 (k : Int) ∧ Below V.heap.size V wr) (fun t _ => 2 - (intOf t).toNat)
        case atStart => exact ⟨0, by omega, rfl, HJ.out.1⟩
        case round =>
          obtain ⟨k, hk2, rfl, hbel⟩ := hrel
          by_cases hkt : k < 2
          · have k2 : (k : Int) < 2 := by omega
            have p0 := (hbel.cell (p := ⟨b1, o1 + j * 2, none⟩) HJ.out.2.1).trans HJ.out.2.2.2.1
            have p1 := (hbel.cell (p := ⟨b1, o1 + j * 2 + 1, none⟩) HJ.out.2.1).trans HJ.out.2.2.2.2.1
            have HG := Lib.hid (arGetW_any wr _ g L (G.out.2.2.2.2.ar.below hbel) (by have := H.out.2.2.2.2.2.2.2.2; omega) y1 y2)
            have HW := Lib.hid (And.intro hbel hkt)
            clear hbel
            go_wp2_with fail
            refine HG.out.mono ?_
            clear p0 p1 HG
            rintro e X ⟨v1, d, r, rfl, hN1, bX, hGot, hWr⟩
            have hhas := HJ.out.2.2.2.2.2.2.2
            obtain ⟨rfl, p, hp, rfl⟩ := got_has hGot hhas
            obtain ⟨d, hd⟩ : ∃ d, p.nd = d := ⟨_, rfl⟩
            rw [hd] at hN1 ⊢
            simp only [NdV.val]
            obtain ⟨nb, hnb⟩ : ∃ nb, X.heap.size = nb := ⟨_, rfl⟩
            obtain ⟨Y, hY⟩ : ∃ Y, X.alloc (.cells #[.bool d.leaf, .slice v1.A1 v1.n1 v1.c1, .slice v1.A2 v1.n2 v1.c2, .slice v1.A3 v1.n3 v1.c3] 36) = Y := ⟨_, rfl⟩
            have bXY : Below X.heap.size X Y := hY ▸ (Below.refl _ _).alloc (Nat.le_refl _) _
            have hbox1 : Blk Y nb 36 #[.bool d.leaf, .slice v1.A1 v1.n1 v1.c1, .slice v1.A2 v1.n2 v1.c2, .slice v1.A3 v1.n3 v1.c3] := by
              rw [← hY, ← hnb]
              exact Blk.new _ _ _
            have bY := below_next HW.out.1 (below_next bX bXY)
            have hNY := hN1.below bXY
            have hWY : Wr Y wr.heap.size v1 := ⟨hWr.a1.below bXY, hWr.a2.below bXY, hWr.a3.below bXY⟩
            have HY := Lib.hid (And.intro hY (And.intro hnb (And.intro bY (And.intro hNY (And.intro hWY (And.intro hbox1 (And.intro hp hd)))))))
            clear hY hnb bXY hbox1 bY hNY hWY hN1 hWr bX hp hd hhas
            go_upto_region 12 with fail
            change Code.wp _ _ _ _ (X.alloc (.cells #[.bool d.leaf, .slice v1.A1 v1.n1 v1.c1, .slice v1.A2 v1.n2 v1.c2, .slice v1.A3 v1.n3 v1.c3] 36))
            rw [HY.out.1, HY.out.2.1]
            go_cut [13, 14] (fun p' e wx => ∃ (mb : Nat) (v2 : NdV), p' = .pointer (some ⟨mb, 0, none⟩) ∧ e = .int .i64 0 ∧ Blk wx mb 48 #[.bool d.leaf, .slice v2.A1 v2.n1 v2.c1, .slice v2.A2 v2.n2 v2.c2, .slice v2.A3 v2.n3 v2.c3] ∧ NdIn wx R v2 d ∧ Below Y.heap.size Y wx)
            case first =>
              as_aux_lemma =>
              have PA : Hid (∀ X', Below Y.heap.size Y X' → X'.cell? ⟨a, 0, none⟩ = some (.slice A n c) ∧ X'.cell? ⟨b2, o2 + j * 2, none⟩ = some (.int .i64 y1) ∧ X'.cell? ⟨b2, o2 + j * 2 + 1, none⟩ = some (.int .i64 y2)) := Lib.hid fun X' hX => by
                have h1 := below_next HY.out.2.2.1 hX
                exact ⟨(G.out.2.2.2.1.below h1 G.out.2.2.2.1.lt).cell 0, (h1.cell (p := ⟨b2, o2 + j * 2, none⟩) HJ.out.2.2.1).trans HJ.out.2.2.2.2.2.1, (h1.cell (p := ⟨b2, o2 + j * 2 + 1, none⟩) HJ.out.2.2.1).trans HJ.out.2.2.2.2.2.2.1⟩
              have E0 : Hid (Below Y.heap.size Y Y.drew) := Lib.hid (Below.refl _ _).drew
              have E0b : Hid (∀ o, Below Y.heap.size Y (Y.alloc o).drew) := Lib.hid fun o => ((Below.refl _ _).alloc (Nat.le_refl _) _).drew
              have HG : Hid (∀ X', Below Y.heap.size Y X' → Calls Tryd.prog 14 #[.agg #[.slice A n c], .agg #[.int .i64 y1, .int .i64 y2]] X' (fun e w' => Below X'.heap.size X' w' ∧ ∃ v2 : NdV, e = .returned (.tuple #[.agg #[.bool d.leaf, .slice v2.A1 v2.n1 v2.c1, .slice v2.A2 v2.n2 v2.c2, .slice v2.A3 v2.n3 v2.c3], .int .i64 0]) ∧ NdIn w' R v2 d)) := Lib.hid fun X' h1 => (refGet_any X' _ A n c L (G.out.2.2.2.2.pl.below (below_next HY.out.2.2.1 h1)) y1 y2).mono (by
                rintro e w' ⟨bb, h2⟩
                rw [if_pos HJ.out.2.2.2.2.2.2.2] at h2
                obtain ⟨p', v2, hp', he, hn⟩ := h2
                have h3 := HY.out.2.2.2.2.2.2.1
                have h4 : p' = p := Option.some.inj (hp'.symm.trans h3)
                subst h4
                rw [HY.out.2.2.2.2.2.2.2] at he hn
                exact ⟨bb, v2, he, hn⟩)
              go_region_held3 (fun X' => X'.cell? ⟨a, 0, none⟩ = some (.slice A n c) ∧ X'.cell? ⟨b2, o2 + j * 2, none⟩ = some (.int .i64 y1) ∧ X'.cell? ⟨b2, o2 + j * 2 + 1, none⟩ = some (.int .i64 y2)) (first | with_reducible exact PA.out _ E1.out | with_reducible exact PA.out _ E0.out | with_reducible exact PA.out _ (E0b.out _) | with_reducible exact PA.out _ (Below.alloc E1.out (Below.size E1.out) _) | (refine PA.out _ ?_; repeat (first | with_reducible exact E1.out | refine Below.setCell (p := ⟨_, _, none⟩) ?_ N.out.2.2 _)) | fail) (first
                | (go_at_call 14; (with_reducible refine (HG.out _ E0.out).mono ?_); rintro e X1 ⟨bb, v2, rfl, hn2⟩; have E1 := Lib.hid (below_next E0.out bb); have NV := Lib.hid hn2; clear bb hn2)
                | (go_at_call 14; (with_reducible refine (HG.out _ (E0b.out _)).mono ?_); rintro e X1 ⟨bb, v2, rfl, hn2⟩; have E1 := Lib.hid (below_next (E0b.out _) bb); have NV := Lib.hid hn2; have N := Lib.hid (Nb.new0 bb); have z0 := N.out.1.cell 0; have z1 := N.out.1.cell 1; have z2 := N.out.1.cell 2; have z3 := N.out.1.cell 3; have y0 := fun i => N.out.1.frozen i; simp only [List.getElem?_toArray, List.getElem?_cons_zero, List.getElem?_cons_succ] at z0 z1 z2 z3; clear bb hn2))
              all_goals go_wp2_with fail
              all_goals go_meet
              · case rel => exact ⟨_, v2, rfl, rfl, Blk.new _ _ _, NV.out.below ((Below.refl _ _).alloc (Nat.le_refl _) _), E1.out.alloc E1.out.size _⟩
              · case rel =>
                  refine ⟨_, v2, rfl, rfl, Blk.node N.out.1 _ _ _ _, NV.out.turn (setNode_turn (F := fun x => x = Y.heap.size) (Turns.refl _ _) 0 _ _ _ _ (fun _ => rfl)) ?_, (setNode_turn (F := fun x => x = Y.heap.size) (Turns.of_below E1.out) 0 _ _ _ _ (fun _ => rfl)).below (Nat.le_refl _) (fun y hy => Nat.le_of_eq hy.symm)⟩
                  rintro y hy rfl
                  have h1 := H.out.2.2.2.2.1.rlt _ hy
                  have h2 := HY.out.2.2.1.size
                  have h3 := G.out.2.2.1.size
                  omega
            case rest =>
              as_aux_lemma =>
              obtain ⟨mb, v2, rfl, rfl, hbox2, hN2, hbel⟩ := hcut
              have bV := below_next HY.out.2.2.1 hbel
              have PA : Hid (∀ X', Below wc.heap.size wc X' → X'.cell? ⟨b1, o1 + j * 2, none⟩ = some (.int .i64 y1) ∧ X'.cell? ⟨b1, o1 + j * 2 + 1, none⟩ = some (.int .i64 y2) ∧ X'.cell? ⟨b2, o2 + j * 2, none⟩ = some (.int .i64 y1) ∧ X'.cell? ⟨b2, o2 + j * 2 + 1, none⟩ = some (.int .i64 y2) ∧ X'.cell? ⟨nb, 0, none⟩ = some (.bool d.leaf) ∧ X'.cell? ⟨nb, 1, none⟩ = some (.slice v1.A1 v1.n1 v1.c1) ∧ X'.cell? ⟨nb, 2, none⟩ = some (.slice v1.A2 v1.n2 v1.c2) ∧ X'.cell? ⟨nb, 3, none⟩ = some (.slice v1.A3 v1.n3 v1.c3) ∧ X'.cell? ⟨mb, 0, none⟩ = some (.bool d.leaf) ∧ X'.cell? ⟨mb, 1, none⟩ = some (.slice v2.A1 v2.n1 v2.c1) ∧ X'.cell? ⟨mb, 2, none⟩ = some (.slice v2.A2 v2.n2 v2.c2) ∧ X'.cell? ⟨mb, 3, none⟩ = some (.slice v2.A3 v2.n3 v2.c3)) := Lib.hid fun X' hX => by
                have h1 := below_next bV hX
                have h2 := HY.out.2.2.2.2.2.1.below (below_next hbel hX) HY.out.2.2.2.2.2.1.lt
                have h3 := hbox2.below hX hbox2.lt
                exact ⟨(h1.cell (p := ⟨b1, o1 + j * 2, none⟩) HJ.out.2.1).trans HJ.out.2.2.2.1, (h1.cell (p := ⟨b1, o1 + j * 2 + 1, none⟩) HJ.out.2.1).trans HJ.out.2.2.2.2.1, (h1.cell (p := ⟨b2, o2 + j * 2, none⟩) HJ.out.2.2.1).trans HJ.out.2.2.2.2.2.1, (h1.cell (p := ⟨b2, o2 + j * 2 + 1, none⟩) HJ.out.2.2.1).trans HJ.out.2.2.2.2.2.2.1, h2.cell 0, h2.cell 1, h2.cell 2, h2.cell 3, h3.cell 0, h3.cell 1, h3.cell 2, h3.cell 3⟩
              have E0 : Hid (Below wc.heap.size wc wc.drew) := Lib.hid (Below.refl _ _).drew
              have HN : Hid (∀ X', Below wc.heap.size wc X' → Calls Tryd.prog 17 #[.agg #[.bool d.leaf, .slice v1.A1 v1.n1 v1.c1, .slice v1.A2 v1.n2 v1.c2, .slice v1.A3 v1.n3 v1.c3]] X' (NdNew X' d)) := Lib.hid fun X' h1 => node_any X' _ v1 d ((HY.out.2.2.2.1.below hbel).below h1)
              have HSm : Hid (∀ X' v3 F3, NdIn X' F3 v3 d → Below wc.heap.size wc X' → Calls Tryd.prog 16 #[.agg #[.bool d.leaf, .slice v3.A1 v3.n1 v3.c1, .slice v3.A2 v3.n2 v3.c2, .slice v3.A3 v3.n3 v3.c3], .agg #[.bool d.leaf, .slice v2.A1 v2.n1 v2.c1, .slice v2.A2 v2.n2 v2.c2, .slice v2.A3 v2.n3 v2.c3]] X' (SameP X' d d)) := Lib.hid fun X' v3 F3 h3 h1 => refSame_any X' _ _ v3 v2 d d h3 (hN2.below h1)
              have HHs : Hid (∀ X', Below wc.heap.size wc X' → Calls Tryd.prog 18 #[.pointer (some ⟨g, 0, none⟩), .agg #[.int .i64 y1, .int .i64 y2]] X' (BoolP X' true)) := Lib.hid fun X' h1 => by
                have h2 := arHas_any X' _ g L ((G.out.2.2.2.2.ar.below bV).below h1) (by have := H.out.2.2.2.2.2.2.2.2; omega) y1 y2
                rwa [HJ.out.2.2.2.2.2.2.2] at h2
              have HC := Lib.hid (And.intro bV (And.intro hbox2 (And.intro hN2 hbel)))
              clear bV hbox2 hN2 hbel
              have g1 := rhandle_guard
              have q1 : ∀ W, (Op.equalIn 10000 51 (.agg #[.int .i64 y1, .int .i64 y2]) (.agg #[.int .i64 y1, .int .i64 y2])).run Tryd.prog W = .ok true W := fun W => by
                rw [rhandle_same]
                simp
              go_upto_region 13 with fail
              go_region_held3 (fun X' => X'.cell? ⟨b1, o1 + j * 2, none⟩ = some (.int .i64 y1) ∧ X'.cell? ⟨b1, o1 + j * 2 + 1, none⟩ = some (.int .i64 y2) ∧ X'.cell? ⟨b2, o2 + j * 2, none⟩ = some (.int .i64 y1) ∧ X'.cell? ⟨b2, o2 + j * 2 + 1, none⟩ = some (.int .i64 y2) ∧ X'.cell? ⟨nb, 0, none⟩ = some (.bool d.leaf) ∧ X'.cell? ⟨nb, 1, none⟩ = some (.slice v1.A1 v1.n1 v1.c1) ∧ X'.cell? ⟨nb, 2, none⟩ = some (.slice v1.A2 v1.n2 v1.c2) ∧ X'.cell? ⟨nb, 3, none⟩ = some (.slice v1.A3 v1.n3 v1.c3) ∧ X'.cell? ⟨mb, 0, none⟩ = some (.bool d.leaf) ∧ X'.cell? ⟨mb, 1, none⟩ = some (.slice v2.A1 v2.n1 v2.c1) ∧ X'.cell? ⟨mb, 2, none⟩ = some (.slice v2.A2 v2.n2 v2.c2) ∧ X'.cell? ⟨mb, 3, none⟩ = some (.slice v2.A3 v2.n3 v2.c3)) (first | with_reducible exact PA.out _ E0.out | with_reducible exact PA.out _ E1.out | with_reducible exact PA.out _ E2.out | with_reducible exact PA.out _ E3.out | with_reducible exact PA.out _ E4.out | fail) (first
                | (go_at_call 15; (with_reducible refine (handle_any _ _ _).mono ?_); rintro e X1 ⟨rfl, bb⟩; have E1 := Lib.hid (below_next E0.out bb); clear bb)
                | (go_at_call 17; (with_reducible refine (HN.out _ E1.out).mono ?_); rintro e X2 ⟨v3, rfl, hv3, bb⟩; simp only [NdV.val]; have E2 := Lib.hid (below_next E1.out bb); have NV := Lib.hid hv3; clear bb hv3)
                | (go_at_call 16; (with_reducible refine (HSm.out _ _ _ NV.out E2.out).mono ?_); rintro e X3 ⟨⟨b, rfl, hb⟩, bb⟩; obtain rfl : b = true := hb.2 rfl; have E3 := Lib.hid (below_next E2.out bb); clear bb hb)
                | (go_at_call 18; (with_reducible refine (HHs.out _ E3.out).mono ?_); rintro e X4 ⟨rfl, bb⟩; have E4 := Lib.hid (below_next E3.out bb); clear bb))
              obtain ⟨-, -, -, -, x0, x1, x2, x3, -⟩ := PA.out _ E4.out
              have b4 := below_next HC.out.2.2.2 E4.out
              have HS := Lib.hid (spoil_any X4 _ wr.heap.size v1 d d.leaf (HY.out.2.2.2.1.below b4) ⟨HY.out.2.2.2.2.1.a1.below b4, HY.out.2.2.2.2.1.a2.below b4, HY.out.2.2.2.2.1.a3.below b4⟩)
              have b5 := Lib.hid (below_next HC.out.1 E4.out)
              clear b4 HN HSm HHs PA E0 g1 q1
              as_aux_lemma =>
              go_wp2_with fail
              refine HS.out.mono ?_
              clear x0 x1 x2 x3
              rintro e X5 ⟨rfl, hSp⟩
              have b6 : Below V.heap.size V X5 := b5.out.trans (hSp.below b5.out.size (fun b hb => Nat.le_trans HW.out.1.size hb))
              have b7 := Lib.hid b6
              have k3 : k + 1 ≤ 2 := HW.out.2
              clear hSp b6
              go_wp2_with fail
              exact ⟨⟨k + 1, k3, by go_num, b7.out⟩, by simp [intOf]; omega⟩
          · as_aux_lemma =>
            have k2 : ¬ (k : Int) < 2 := by omega
            have HW := Lib.hid hbel
            clear hbel
            have hub := HLe.out.2.2
            have hlt := HLe.out.2.1
            go_wp2_with fail
            exact ⟨⟨j + 1, HLe.out.2.1, by go_num, HW.out⟩, by simp [intOf]; omega⟩
      · as_aux_lemma =>
        obtain rfl : j = u := by omega
        have HW := Lib.hid hbel
        clear hbel
        go_wp2_with fail
        go_ret
        exact ⟨rfl, H.out.2.2.1.trans ((below_next G.out.2.2.1 HW.out).mono H.out.2.2.1.size)⟩
end Go.Proofs.YtgpcpjjdneimfaaDoor
