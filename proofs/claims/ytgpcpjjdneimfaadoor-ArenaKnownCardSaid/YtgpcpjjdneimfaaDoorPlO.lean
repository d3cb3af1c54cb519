/- ArenaPlays: a call that frees. -/
import Derived.Test.YtgpcpjjdneimfaaDoorM11C
import Derived.Deep.RegionHeld3
import Derived.Deep.DeepCutAuto
import Derived.Test.YtgpcpjjdneimfaaDoorPick
namespace Go.Proofs.YtgpcpjjdneimfaaDoor
open Go.ChangeShapes Go.WideShapes Go.ChangeAt Go.RowKit

/-- What a call, to both, leaves. -/
def DoesP (w0 w : World) (g : Nat) (P R : Nat → Prop) (k : Nat) (e : Ending) (w' : World) : Prop :=
  ∃ L' A' n' c' P' R', e = .returned (.tuple #[.agg #[.slice A' n' c'], .bool true]) ∧ Two w0 w' g L' L' A' n' P' R' ∧ Few L' k ∧ Turns P w w' ∧ (∀ b, P' b → P b ∨ w.heap.size ≤ b) ∧ ∀ b, R' b → R b ∨ w.heap.size ≤ b
theorem does_made (w : World) (A : Option Addr) (n c : Nat) (u0 u1 u2 u3 u4 u5 : Value) : ∃ W a q s, ((w.alloc (.cells #[.slice A n c] 29)).alloc (.cells #[u0, u1, u2, u3, u4, u5] 38)).alloc (.cells #[.slice none 0 0] 29) = W ∧ w.heap.size = a ∧ w.heap.size + 1 = q ∧ w.heap.size + 1 + 1 = s ∧ Below w.heap.size w W ∧ Blk W a 29 #[.slice A n c] ∧ Blk W q 38 #[u0, u1, u2, u3, u4, u5] ∧ Blk W s 29 #[.slice none 0 0] ∧ W.heap.size = w.heap.size + 3 := by
  have H1 := (Held.start w).new #[.slice A n c] 29
  have H2 := H1.new #[u0, u1, u2, u3, u4, u5] 38
  have H3 := H2.new #[.slice none 0 0] 29
  simp only [show ∀ (X : World) (o : Obj), (X.alloc o).heap.size = X.heap.size + 1 from fun X o => by simp] at H3
  exact ⟨_, _, _, _, rfl, rfl, rfl, rfl, H3.1, H3.at_ (by simp), H3.at_ (by simp), H3.at_ (by simp), by simp⟩
theorem rfree_one {w w' : World} {F : Nat → Prop} {L : List Ar.Pl} {l : List (Int × Int)} {e : Ending} (h : RFreeP w F L l e w') : ∃ (r : Int) (M : List Ar.Pl), ((r = 0 ∧ Ar.free L l = some M) ∨ (r = 110 ∧ Ar.free L l = none ∧ M = L)) ∧ RArP w F M r e w' := by
  rcases h with ⟨M, h1, h2⟩ | ⟨h1, h2⟩
  · exact ⟨0, M, .inl ⟨rfl, h1⟩, h2⟩
  · exact ⟨110, L, .inr ⟨rfl, h1, rfl⟩, h2⟩
set_option maxRecDepth 100000 in
set_option maxHeartbeats 4000000 in
theorem does_free (w0 w : World) (g : Nat) (L : List Ar.Pl) (A : Option Addr) (n c : Nat) (P R : Nat → Prop) (k : Nat) (h : Two w0 w g L L A n P R) (hf : Few L k) (hk : k ≤ 1000) (x : Int) (v : NdV) (d : Ar.Nd) (Al : Option Addr) (m cl : Nat) (l : List (Int × Int)) (hv : NdIn w (fun b => b < w0.heap.size) v d) (hl : Cells w (fun b => b < w0.heap.size) Al m 2 (hanL l)) (hm : m ≤ 1000000) (hx : ∀ w, Calls Tryd.prog 22 #[.int .i64 x, .int .i64 4] w fun e w' => e = .returned (.int .i64 3) ∧ w = w') :
    Calls Tryd.prog 11 #[.pointer (some ⟨g, 0, none⟩), .agg #[.slice A n c], .agg #[.int .i64 x, .bool d.leaf, .slice v.A1 v.n1 v.c1, .slice v.A2 v.n2 v.c2, .slice v.A3 v.n3 v.c3, .slice Al m cl]] w (DoesP w0 w g P R k) := by
  obtain ⟨W, a, q, s, hW, ha, hq, hs, hB, hbox, hact, hres, hWs⟩ := does_made w A n c (.int .i64 x) (.bool d.leaf) (.slice v.A1 v.n1 v.c1) (.slice v.A2 v.n2 v.c2) (.slice v.A3 v.n3 v.c3) (.slice Al m cl)
  have HK := Lib.hid (And.intro hW (And.intro ha (And.intro hq (And.intro hs (And.intro hB hWs)))))
  have hT := h.below hB
  have hvW := hv.below hB
  have hlW := hl.below hB
  have q0 := hact.cell 0
  have q1 := hact.cell 1
  have q2 := hact.cell 2
  have q3 := hact.cell 3
  have q4 := hact.cell 4
  simp only [List.getElem?_toArray, List.getElem?_cons_zero, List.getElem?_cons_succ] at q0 q1 q2 q3 q4
  have HO := Lib.hid (own_any W _ v d hvW)
  have HM := Lib.hid (And.intro hbox (And.intro hact (And.intro hres (And.intro hT (And.intro hlW (And.intro hf h))))))
  have HX := Lib.hid hx
  clear hx hW ha hq hs hB hbox hact hres hT hvW hlW hv hl h hf hWs
  go_enter Tryd.func11, Tryd.ntmps11
  go_upto_region 1 with fail
  rw [HK.out.1, HK.out.2.2.2.1, HK.out.2.2.1, HK.out.2.1]
  go_wp2_with fail
  refine HO.out.mono ?_
  clear q0 q1 q2 q3 q4
  rintro e X ⟨v1, rfl, hN1, bX, hWr⟩
  simp only [NdV.val]
  obtain ⟨Y, hY⟩ : ∃ Y, X.alloc (.cells #[.bool d.leaf, .slice v1.A1 v1.n1 v1.c1, .slice v1.A2 v1.n2 v1.c2, .slice v1.A3 v1.n3 v1.c3] 36) = Y := ⟨_, rfl⟩
  have bXY : Below X.heap.size X Y := hY ▸ (Below.refl _ _).alloc (Nat.le_refl _) _
  have bY := below_next bX bXY
  have hact := HM.out.2.1.below bY HM.out.2.1.lt
  have q0 := hact.cell 0
  have q5 := hact.cell 5
  simp only [List.getElem?_toArray, List.getElem?_cons_zero, List.getElem?_cons_succ] at q0 q5
  have hT := HM.out.2.2.2.1.below bY
  have HF := Lib.hid (arFree_any Y P _ g L hT.ar (HM.out.2.2.2.2.2.1.mono (by omega)) Al m cl l (HM.out.2.2.2.2.1.below bY) hm (fun b hb hp => by have := hT.pge b hp; omega))
  have HY := Lib.hid (And.intro hY (And.intro bY (And.intro hact hT)))
  clear hY bXY bY hact hT hN1 hWr bX
  have e1 : ((3 : Int) == 2) = false := rfl
  have e2 : ((3 : Int) == 3) = true := rfl
  go_upto_region 2 with fail
  change Code.wp _ _ _ _ (X.alloc (.cells #[.bool d.leaf, .slice v1.A1 v1.n1 v1.c1, .slice v1.A2 v1.n2 v1.c2, .slice v1.A3 v1.n3 v1.c3] 36))
  rw [HY.out.1]
  go_wp2_with fail
  refine (HX.out _).mono ?_
  rintro e Y1 ⟨rfl, rfl⟩
  go_wp2_with fail
  refine HF.out.mono ?_
  clear q0 q5 e1 e2
  rintro e Z hZ
  obtain ⟨r1, L1, P1, rfl, hT1, hf1, hr, hTZ, hPY⟩ := HY.out.2.2.2.freed HM.out.2.2.2.2.2.1 hZ
  clear hZ
  have hna : ∀ b, w.heap.size ≤ b → ¬ P b := fun b hb hp => by have := HM.out.2.2.2.2.2.2.plt b hp; omega
  have hactZ := hTZ.blk HY.out.2.2.1 (hna _ (by have := HK.out.2.2.1; omega))
  have hboxZ := hTZ.blk (HM.out.1.below HY.out.2.1 HM.out.1.lt) (hna _ (by have := HK.out.2.1; omega))
  have hresZ := hTZ.blk (HM.out.2.2.1.below HY.out.2.1 HM.out.2.2.1.lt) (hna _ (by have := HK.out.2.2.2.1; omega))
  have hlZ := (HM.out.2.2.2.2.1.below HY.out.2.1).turn hTZ (fun b hb hp => by have := HM.out.2.2.2.2.2.2.pge b hp; omega)
  have q5 := hactZ.cell 5
  have a0 := hboxZ.cell 0
  simp only [List.getElem?_toArray, List.getElem?_cons_zero, List.getElem?_cons_succ] at q5 a0
  have HZ := Lib.hid (And.intro hT1 (And.intro hf1 (And.intro hr (And.intro hactZ (And.intro hboxZ (And.intro hresZ (And.intro hlZ hPY)))))))
  have HT := Lib.hid ((Turns.of_below (below_next HK.out.2.2.2.2.1 HY.out.2.1)).trans hTZ : Turns P w Z)
  clear hPY hT1 hf1 hr hactZ hboxZ hresZ hlZ hTZ hna HF HO HX
  go_upto_region 10 with fail
  go_cut [13, 14] (fun p e wx => ∃ (b : Nat) (A2 : Option Addr) (n2 c2 : Nat) (r2 : Int) (M : List Ar.Pl), p = .pointer (some ⟨b, 0, none⟩) ∧ e = .int .i64 r2 ∧ Z.heap.size ≤ b ∧ Blk wx b 29 #[.slice A2 n2 c2] ∧ Below Z.heap.size Z wx ∧ PlIn wx (fun x => R x ∨ Z.heap.size ≤ x) A2 n2 M ∧ ((r2 = 0 ∧ Ar.free L l = some M) ∨ (r2 = 110 ∧ Ar.free L l = none ∧ M = L)))
  case first =>
    have PA : Hid (∀ X', Below Z.heap.size Z X' → X'.cell? ⟨a, 0, none⟩ = some (.slice A n c) ∧ X'.cell? ⟨q, 5, none⟩ = some (.slice Al m cl)) := Lib.hid fun X' hX => ⟨(hX.cell (p := ⟨a, 0, none⟩) HZ.out.2.2.2.2.1.lt).trans a0, (hX.cell (p := ⟨q, 5, none⟩) HZ.out.2.2.2.1.lt).trans q5⟩
    have P4 : Hid (∀ (X' : World) (b : Nat), Z.heap.size ≤ b → Below Z.heap.size Z X' → ∀ u : Value, (X'.setCell ⟨b, 0, none⟩ u).cell? ⟨a, 0, none⟩ = some (.slice A n c) ∧ (X'.setCell ⟨b, 0, none⟩ u).cell? ⟨q, 5, none⟩ = some (.slice Al m cl)) := Lib.hid fun X' b hb hX u => PA.out _ (hX.setCell (p := ⟨b, 0, none⟩) hb u)
    have HCh : Hid (∀ X', Below Z.heap.size Z X' → Calls Tryd.prog 32 #[.slice Al m cl] X' (RowP X' 51 2 m (hanL l))) := Lib.hid fun X' hX => handles_any X' _ Al m cl l (HZ.out.2.2.2.2.2.2.1.below hX) hm
    have HCf : Hid (∀ X' B kc base, X'.ownsRow base 51 2 (.slice B m kc) m (hanL l) → Below Z.heap.size Z X' → Calls Tryd.prog 31 #[.agg #[.slice A n c], .slice B m kc] X' (RFreeP X' R L l)) := Lib.hid fun X' B kc base ho hX => refFree_any X' R _ A n c L (HZ.out.1.pl.below hX) (by have h1 := HZ.out.1.pl.len; have h2 := HM.out.2.2.2.2.2.1.len; omega) B m kc l (Cells.of_own ho) hm
    have E0 : Hid (Below Z.heap.size Z Z.drew) := Lib.hid (Below.refl _ _).drew
    have E0b : Hid (Below Z.heap.size Z (Z.alloc (.cells #[.slice none 0 0] 29)).drew) := Lib.hid ((Below.refl _ _).alloc (Nat.le_refl _) _).drew
    have PN : Hid (∀ X', Below (Z.alloc (.cells #[.slice none 0 0] 29)).drew.heap.size (Z.alloc (.cells #[.slice none 0 0] 29)).drew X' → X'.cell? ⟨Z.heap.size, 0, none⟩ = some (.slice none 0 0) ∧ X'.frozen? ⟨Z.heap.size, 0, none⟩ = false) := Lib.hid fun X' hX =>
      have h1 : Blk (Z.alloc (.cells #[.slice none 0 0] 29)).drew Z.heap.size 29 #[.slice none 0 0] := Blk.new Z _ _
      have h2 := h1.below hX h1.lt
      ⟨h2.cell 0, h2.frozen 0⟩
    have PN2 : Hid (∀ X0 X' : World, Below (X0.alloc (.cells #[.slice none 0 0] 29)).heap.size (X0.alloc (.cells #[.slice none 0 0] 29)) X' → X'.cell? ⟨X0.heap.size, 0, none⟩ = some (.slice none 0 0) ∧ X'.frozen? ⟨X0.heap.size, 0, none⟩ = false) := Lib.hid fun X0 X' hX =>
      have h1 : Blk (X0.alloc (.cells #[.slice none 0 0] 29)) X0.heap.size 29 #[.slice none 0 0] := Blk.new X0 _ _
      have h2 := h1.below hX h1.lt
      ⟨h2.cell 0, h2.frozen 0⟩
    clear a0 q5
    go_region_held3 (fun X' => X'.cell? ⟨a, 0, none⟩ = some (.slice A n c) ∧ X'.cell? ⟨q, 5, none⟩ = some (.slice Al m cl)) (first | with_reducible exact PA.out _ E0.out | with_reducible exact PA.out _ E0b.out | with_reducible exact PA.out _ E1.out | with_reducible exact PA.out _ (E1.out.alloc E1.out.size _) | with_reducible exact PA.out _ E2.out | with_reducible exact PA.out _ (E2.out.alloc E2.out.size _) | with_reducible exact P4.out _ _ E1.out.size E2.out _ | with_reducible exact P4.out _ _ (Nat.le_refl _) E2.out _ | fail) (first
      | (go_at_call 32; (with_reducible refine (HCh.out _ E0.out).mono ?_); rintro e X1 ⟨B, kc, rfl, o1, bb1⟩; have E1 := Lib.hid (below_next E0.out bb1); have O1 := Lib.hid o1; clear o1 bb1)
      | (go_at_call 32; (with_reducible refine (HCh.out _ E0b.out).mono ?_); rintro e X1 ⟨B, kc, rfl, o1, bb1⟩; have E1 := Lib.hid (below_next E0b.out bb1); have O1 := Lib.hid o1; have N1 := Lib.hid bb1; clear o1 bb1)
      | (go_at_call 31; (with_reducible refine (HCf.out _ _ _ _ O1.out E1.out).mono ?_); rintro e X2 hX2; obtain ⟨r2, M, hr2, A2, n2, c2, rfl, hP2, bb2⟩ := rfree_one hX2; clear hX2; obtain ⟨z0, y0⟩ := PN.out _ (N1.out.trans (bb2.mono N1.out.size)); have E2 := Lib.hid (below_next E1.out bb2); have O2 := Lib.hid (And.intro hr2 (And.intro hP2 bb2)); clear hr2 hP2 bb2)
      | (go_at_call 31; (with_reducible refine (HCf.out _ _ _ _ O1.out E1.out).mono ?_); rintro e X2 hX2; obtain ⟨r2, M, hr2, A2, n2, c2, rfl, hP2, bb2⟩ := rfree_one hX2; clear hX2; have E2 := Lib.hid (below_next E1.out bb2); have O2 := Lib.hid (And.intro hr2 (And.intro hP2 bb2)); clear hr2 hP2 bb2)
      | (go_at_call 31; (with_reducible refine (HCf.out _ _ _ _ (O1.out.alloc _) (E1.out.alloc E1.out.size _)).mono ?_); rintro e X2 hX2; obtain ⟨r2, M, hr2, A2, n2, c2, rfl, hP2, bb2⟩ := rfree_one hX2; clear hX2; obtain ⟨z0, y0⟩ := PN2.out _ _ bb2; have E2 := Lib.hid (below_next (E1.out.alloc E1.out.size _) bb2); have O2 := Lib.hid (And.intro hr2 (And.intro hP2 bb2)); clear hr2 hP2 bb2))
    · go_wp2_with fail
      go_meet
      case rel =>
        exact ⟨X2.heap.size, A2, n2, c2, r2, M, rfl, rfl, E2.out.size, Blk.new _ _ _, E2.out.alloc E2.out.size _, (O2.out.2.1.mono (G := fun x => R x ∨ Z.heap.size ≤ x) (fun x _ hx => hx.elim .inl (fun h => .inr (Nat.le_trans E1.out.size h)))).below ((Below.refl _ _).alloc (Nat.le_refl _) _), O2.out.1⟩
    · go_wp2_with fail
      go_meet
      case rel =>
        have h1 : Blk (X1.alloc (.cells #[.slice none 0 0] 29)) X1.heap.size 29 #[.slice none 0 0] := Blk.new _ _ _
        have h2 := (h1.below O2.out.2.2 h1.lt).set_ 0 (.slice A2 n2 c2)
        have hT : Turns (fun x => x = X1.heap.size) X2 (X2.setCell ⟨X1.heap.size, 0, none⟩ (.slice A2 n2 c2)) := (Turns.refl (fun x => x = X1.heap.size) X2).setCell (g := X1.heap.size) _ _ (fun _ => rfl)
        have hz : (X1.alloc (.cells #[.slice none 0 0] 29)).heap.size = X1.heap.size + 1 := by simp
        have hE1 := E1.out.size
        exact ⟨X1.heap.size, A2, n2, c2, r2, M, rfl, rfl, E1.out.size, h2, E2.out.setCell (p := ⟨X1.heap.size, 0, none⟩) E1.out.size _, (O2.out.2.1.turn hT (fun x hx e => by subst e; exact hx.elim (fun h => absurd (HZ.out.1.rlt _ h) (by omega)) (fun h => by omega))).mono (fun x _ hx => hx.elim .inl (fun h => .inr (by omega))), O2.out.1⟩
    · go_wp2_with fail
      go_meet
      case rel =>
        have h1 : Blk (Z.alloc (.cells #[.slice none 0 0] 29)).drew Z.heap.size 29 #[.slice none 0 0] := Blk.new Z _ _
        have h2 := (h1.below (N1.out.trans (O2.out.2.2.mono N1.out.size)) h1.lt).set_ 0 (.slice A2 n2 c2)
        have hT : Turns (fun x => x = Z.heap.size) X2 (X2.setCell ⟨Z.heap.size, 0, none⟩ (.slice A2 n2 c2)) := (Turns.refl (fun x => x = Z.heap.size) X2).setCell (g := Z.heap.size) _ _ (fun _ => rfl)
        have hz : (Z.alloc (.cells #[.slice none 0 0] 29)).drew.heap.size = Z.heap.size + 1 := by
          show (Z.alloc _).heap.size = _
          simp
        have hN1 := N1.out.size
        exact ⟨Z.heap.size, A2, n2, c2, r2, M, rfl, rfl, Nat.le_refl _, h2, E2.out.setCell (p := ⟨Z.heap.size, 0, none⟩) (Nat.le_refl _) _, (O2.out.2.1.turn hT (fun x hx e => by subst e; exact hx.elim (fun h => absurd (HZ.out.1.rlt _ h) (by omega)) (fun h => by omega))).mono (fun x _ hx => hx.elim .inl (fun h => .inr (by omega))), O2.out.1⟩
  case rest =>
    obtain ⟨b, A2, n2, c2, r2, M, rfl, rfl, hbZ, hb2, hbel, hP2, hr2⟩ := hcut
    obtain ⟨hT1, hf1, hr, hactZ, hboxZ, hresZ, hlZ, hPY⟩ := HZ.out
    obtain ⟨rfl, rfl⟩ : r2 = r1 ∧ M = L1 := by
      rcases hr with ⟨h1, h2⟩ | ⟨h1, h2, h3⟩ <;> rcases hr2 with ⟨g1, g2⟩ | ⟨g1, g2, g3⟩
      · rw [h2] at g2
        exact ⟨by rw [h1, g1], (Option.some.inj g2).symm⟩
      · rw [h2] at g2; cases g2
      · rw [h2] at g2; cases g2
      · exact ⟨by rw [h1, g1], by rw [h3, g3]⟩
    have hT2 := hT1.ref hbel hP2
    have hresW := hresZ.below hbel hresZ.lt
    have z0 := hb2.cell 0
    have y0 := hresW.cell 0
    have f0 := hresW.frozen 0
    have hee : (r2 == r2) = true := by simp
    simp only [List.getElem?_toArray, List.getElem?_cons_zero] at z0 y0
    obtain ⟨V, hV⟩ : ∃ V, wc.setCell ⟨s, 0, none⟩ (.slice A2 n2 c2) = V := ⟨_, rfl⟩
    have tV : Turns (fun x => x = s) wc V := hV ▸ (Turns.refl (fun x => x = s) wc).setCell (g := s) _ _ (fun _ => rfl)
    have bV : Blk V s 29 #[.slice A2 n2 c2] := hV ▸ hresW.set_ 0 _
    have x0 := bV.cell 0
    simp only [List.getElem?_toArray, List.getElem?_cons_zero] at x0
    have hsw : w.heap.size ≤ s := by have := HK.out.2.2.2.1; omega
    have hsZ := hresZ.lt
    have hP0 := HM.out.2.2.2.2.2.2.plt
    have hsw2 : w.heap.size ≤ s := hsw
    have TV : Turns P w V := ((HT.out.trans (Turns.of_below hbel)).then tV (fun y hy e => by subst e; omega))
    have HE := Lib.hid (And.intro hT2 (And.intro tV (And.intro hV hf1)))
    have HTV := Lib.hid TV
    clear TV hsw2 hT2 tV hV bV hresW hb2 hbel hP2 hr hr2 hT1 hactZ hboxZ hresZ hlZ hf1
    go_wp2_with fail
    change bodyPost _ _ _ _ _ (wc.setCell ⟨s, 0, none⟩ (.slice A2 n2 c2))
    rw [HE.out.2.2.1]
    refine bodyPost_ret (v := .tuple #[.agg #[.slice A2 n2 c2], .bool true]) ?_ rfl ⟨M, A2, n2, c2, _, _, rfl, HE.out.1.off HE.out.2.1 ?_, HE.out.2.2.2, HTV.out, ?_, ?_⟩
    · simp [results, Tryd.results11, go_sem, x0]
    · rintro y rfl
      have hw0 := HM.out.2.2.2.2.2.2.bel.size
      have hYl : y < Y.heap.size := (HM.out.2.2.1.below HY.out.2.1 HM.out.2.2.1.lt).lt
      refine ⟨fun e => ?_, fun e => ?_, by omega⟩
      · rcases hPY y e with h1 | h1
        · have := hP0 y h1
          omega
        · omega
      · rcases e.1 with h1 | h1
        · have := HM.out.2.2.2.2.2.2.rlt y h1
          omega
        · omega
    · intro b hb
      have hs1 := HK.out.2.2.2.2.1.size
      have hs2 := HY.out.2.1.size
      rcases hPY b hb with h1 | h1
      · exact .inl h1
      · exact .inr (by omega)
    · rintro b ⟨h1 | h1, -⟩
      · exact .inl h1
      · have hs3 := HT.out.size
        exact .inr (by omega)
end Go.Proofs.YtgpcpjjdneimfaaDoor
