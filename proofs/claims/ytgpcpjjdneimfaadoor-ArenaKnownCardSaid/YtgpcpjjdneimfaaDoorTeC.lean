/- ArenaTells: of any handle it is told whether it tells a node, and which. -/
import Derived.Test.YtgpcpjjdneimfaaDoorM11D
import Derived.Deep.RegionHeld3
import Derived.Deep.DeepCutAuto
namespace Go.Proofs.YtgpcpjjdneimfaaDoor
open Go.ChangeShapes Go.WideShapes Go.ChangeAt Go.RowKit

theorem tells_made (w : World) (x1 x2 : Int) (u0 u1 u2 u3 v0 v1 v2 v3 : Value) : ∃ W a r s, ((w.alloc (.cells #[.int .i64 x1, .int .i64 x2] 42)).alloc (.cells #[u0, u1, u2, u3] 36)).alloc (.cells #[v0, v1, v2, v3] 36) = W ∧ w.heap.size = a ∧ w.heap.size + 1 = r ∧ w.heap.size + 1 + 1 = s ∧ Below w.heap.size w W ∧ Blk W a 42 #[.int .i64 x1, .int .i64 x2] ∧ Blk W r 36 #[u0, u1, u2, u3] ∧ Blk W s 36 #[v0, v1, v2, v3] ∧ W.heap.size = w.heap.size + 3 := by
  have H1 := (Held.start w).new #[.int .i64 x1, .int .i64 x2] 42
  have H2 := H1.new #[u0, u1, u2, u3] 36
  have H3 := H2.new #[v0, v1, v2, v3] 36
  simp only [show ∀ (X : World) (o : Obj), (X.alloc o).heap.size = X.heap.size + 1 from fun X o => by simp] at H3
  exact ⟨_, _, _, _, rfl, rfl, rfl, rfl, H3.1, H3.at_ (by simp), H3.at_ (by simp), H3.at_ (by simp), by simp⟩
/-- The boxes that hold what came in. -/
structure TeAt (w0 X : World) (a r s : Nat) (x1 x2 : Int) (vx vy : NdV) (dx dy : Ar.Nd) : Prop where
  han : Blk X a 42 #[.int .i64 x1, .int .i64 x2]
  x : Blk X r 36 #[.bool dx.leaf, .slice vx.A1 vx.n1 vx.c1, .slice vx.A2 vx.n2 vx.c2, .slice vx.A3 vx.n3 vx.c3]
  y : Blk X s 36 #[.bool dy.leaf, .slice vy.A1 vy.n1 vy.c1, .slice vy.A2 vy.n2 vy.c2, .slice vy.A3 vy.n3 vy.c3]
  rx : AcRaw X (fun b => b < w0.heap.size) ⟨0, vx, dx, none, 0, 0, []⟩
  ry : AcRaw X (fun b => b < w0.heap.size) ⟨0, vy, dy, none, 0, 0, []⟩
theorem AcRaw.turn {W W' : World} {F G : Nat → Prop} {a : Ac} (h : AcRaw W F a) (ht : Turns G W W') (hd : ∀ b, F b → ¬ G b) : AcRaw W' F a := ⟨h.keys.turn ht hd, h.kids.turn ht hd, h.vals.turn ht hd, h.hl.turn ht hd⟩
section
variable {w0 X X' : World} {a r s : Nat} {x1 x2 : Int} {vx vy : NdV} {dx dy : Ar.Nd} {G : Nat → Prop}
theorem TeAt.turn (h : TeAt w0 X a r s x1 x2 vx vy dx dy) (ht : Turns G X X') (hG : ∀ b, G b → w0.heap.size ≤ b ∧ b ≠ a ∧ b ≠ r ∧ b ≠ s) : TeAt w0 X' a r s x1 x2 vx vy dx dy where
  han := ht.blk h.han fun e => (hG a e).2.1 rfl
  x := ht.blk h.x fun e => (hG r e).2.2.1 rfl
  y := ht.blk h.y fun e => (hG s e).2.2.2 rfl
  rx := h.rx.turn ht fun b hb hg => by have := (hG b hg).1; omega
  ry := h.ry.turn ht fun b hb hg => by have := (hG b hg).1; omega
theorem TeAt.below (h : TeAt w0 X a r s x1 x2 vx vy dx dy) (hb : Below X.heap.size X X') : TeAt w0 X' a r s x1 x2 vx vy dx dy := h.turn (G := fun _ => False) (Turns.of_below hb) fun _ e => e.elim
end
theorem AcRaw.mono {W : World} {F G : Nat → Prop} {a : Ac} (h : AcRaw W F a) (hG : ∀ b, F b → G b) : AcRaw W G a := ⟨h.keys.mono fun _ _ e => hG _ e, h.kids.mono fun _ _ e => hG _ e, h.vals.mono fun _ _ e => hG _ e, h.hl.mono fun _ _ e => hG _ e⟩
/-- Two calls of nothing, with a node each. -/
theorem act_two (w w0 : World) (vx vy : NdV) (dx dy : Ar.Nd) (hx : AcRaw w (fun b => b < w0.heap.size) ⟨0, vx, dx, none, 0, 0, []⟩) (hy : AcRaw w (fun b => b < w0.heap.size) ⟨0, vy, dy, none, 0, 0, []⟩) : ActIn (w.alloc (.cells #[.int .i64 0, .bool dx.leaf, .slice vx.A1 vx.n1 vx.c1, .slice vx.A2 vx.n2 vx.c2, .slice vx.A3 vx.n3 vx.c3, .slice none 0 0, .int .i64 0, .bool dy.leaf, .slice vy.A1 vy.n1 vy.c1, .slice vy.A2 vy.n2 vy.c2, .slice vy.A3 vy.n3 vy.c3, .slice none 0 0] 38)) (fun _ => True) (some ⟨w.heap.size, 0, none⟩) 2 [⟨0, vx, dx, none, 0, 0, []⟩, ⟨0, vy, dy, none, 0, 0, []⟩] where
  len := rfl
  row _ := by
    have hB := Blk.new w 38 #[.int .i64 0, .bool dx.leaf, .slice vx.A1 vx.n1 vx.c1, .slice vx.A2 vx.n2 vx.c2, .slice vx.A3 vx.n3 vx.c3, .slice none 0 0, .int .i64 0, .bool dy.leaf, .slice vy.A1 vy.n1 vy.c1, .slice vy.A2 vy.n2 vy.c2, .slice vy.A3 vy.n3 vy.c3, .slice none 0 0]
    refine ⟨_, _, rfl, trivial, by simp, fun i a hi j hj => (hB.cell (0 + i * 6 + j)).trans ?_⟩
    match i, hi with
    | 0, hi =>
      simp at hi
      subst hi
      obtain rfl | rfl | rfl | rfl | rfl | rfl : j = 0 ∨ j = 1 ∨ j = 2 ∨ j = 3 ∨ j = 4 ∨ j = 5 := by omega
      all_goals rfl
    | 1, hi =>
      simp at hi
      subst hi
      obtain rfl | rfl | rfl | rfl | rfl | rfl : j = 0 ∨ j = 1 ∨ j = 2 ∨ j = 3 ∨ j = 4 ∨ j = 5 := by omega
      all_goals rfl
    | k + 2, hi => simp at hi
  raw i a hi := by
    have hb : Below w.heap.size w (w.alloc (.cells #[.int .i64 0, .bool dx.leaf, .slice vx.A1 vx.n1 vx.c1, .slice vx.A2 vx.n2 vx.c2, .slice vx.A3 vx.n3 vx.c3, .slice none 0 0, .int .i64 0, .bool dy.leaf, .slice vy.A1 vy.n1 vy.c1, .slice vy.A2 vy.n2 vy.c2, .slice vy.A3 vy.n3 vy.c3, .slice none 0 0] 38)) := (Below.refl _ _).alloc (Nat.le_refl _) _
    match i, hi with
    | 0, hi =>
      simp at hi
      subst hi
      exact (hx.below hb).mono fun _ _ => trivial
    | 1, hi =>
      simp at hi
      subst hi
      exact (hy.below hb).mono fun _ _ => trivial
    | k + 2, hi => simp at hi
/-- A call of both, its answer stored where the reference's arena was. -/
theorem Play.stored {w0 X0 X1 : World} {g rb j n n2 c c2 : Nat} {L L' : List Ar.Pl} {A A2 : Option Addr} {P R P' R' : Nat → Prop} (h : Play w0 X0 g rb j L A n c P R) (h2 : Two w0 X1 g L' L' A2 n2 P' R') (h3 : Few L' (j + 1)) (hT : Turns P X0 X1) (hP : ∀ b, P' b → P b ∨ X0.heap.size ≤ b) (hR : ∀ b, R' b → R b ∨ X0.heap.size ≤ b) : Play w0 (X1.setCell ⟨rb, 0, none⟩ (.slice A2 n2 c2)) g rb (j + 1) L' A2 n2 c2 P' R' := by
  have hl := h.box.lt
  have o1 : ¬ P' rb := fun e => (hP _ e).elim h.offP (fun e => by omega)
  have o2 : ¬ R' rb := fun e => (hR _ e).elim h.offR (fun e => by omega)
  have t1 : Turns (fun x => x = rb) X1 (X1.setCell ⟨rb, 0, none⟩ (.slice A2 n2 c2)) := (Turns.refl (fun x => x = rb) X1).setCell (g := rb) _ _ (fun _ => rfl)
  refine ⟨h2.off t1 ?_, h3, by simpa using (hT.blk h.box h.offP).set_ 0 (.slice A2 n2 c2), o1, o2, h.ge⟩
  rintro b rfl
  exact ⟨o1, o2, h.ge⟩
/-- What the reference's Get tells, beside the program's. -/
theorem rget_one {w w' : World} {F : Nat → Prop} {L : List Ar.Pl} {x : Int × Int} {v : NdV} {d : Ar.Nd} {r : Int} {e : Ending} (h : RGetP w F L x e w') (hg : Got L x v d r) : ∃ v2 : NdV, e = .returned (.tuple #[.agg #[.bool d.leaf, .slice v2.A1 v2.n1 v2.c1, .slice v2.A2 v2.n2 v2.c2, .slice v2.A3 v2.n3 v2.c3], .int .i64 r]) ∧ NdIn w' F v2 d ∧ Below w.heap.size w w' := by
  obtain ⟨bb, h⟩ := h
  rcases hg with ⟨hh, rfl, p, hp, rfl⟩ | ⟨hh, rfl, rfl, rfl⟩
  · rw [if_pos hh] at h
    obtain ⟨p', v2, hp', he, hn⟩ := h
    rw [hp] at hp'
    cases hp'
    exact ⟨v2, he, hn, bb⟩
  · rw [if_neg (by rw [hh]; simp)] at h
    exact ⟨NdV.blank, h, NdIn.blank _ _, bb⟩
theorem eq_tells (d d' : Ar.Nd) : ∃ b : Bool, (b = true ↔ d = d') := by
  by_cases h : d = d'
  · exact ⟨true, by simp [h]⟩
  · exact ⟨false, by simp [h]⟩
theorem SameP.one {w w' : World} {d d' : Ar.Nd} {e : Ending} {b : Bool} (h : SameP w d d' e w') (hb : b = true ↔ d = d') : e = .returned (.bool b) ∧ Below w.heap.size w w' := by
  obtain ⟨⟨c, rfl, hc⟩, h2⟩ := h
  have : c = b := by
    cases c <;> cases b <;> simp_all
  rw [this]
  exact ⟨rfl, h2⟩
set_option maxRecDepth 100000 in
set_option maxHeartbeats 4000000 in
theorem lawTells_any (w : World) (hv : Vars w) (A : Option Addr) (n c : Nat) (q : List Ac) (h : ActIn w (fun b => b < w.heap.size) A n q) (hn : n ≤ 9223372036854775807) (x1 x2 : Int) (vx vy : NdV) (dx dy : Ar.Nd) (hx : AcRaw w (fun b => b < w.heap.size) ⟨0, vx, dx, none, 0, 0, []⟩) (hy : AcRaw w (fun b => b < w.heap.size) ⟨0, vy, dy, none, 0, 0, []⟩) : Calls Tryd.prog 4 #[.slice A n c, .agg #[.int .i64 x1, .int .i64 x2], .agg #[.bool dx.leaf, .slice vx.A1 vx.n1 vx.c1, .slice vx.A2 vx.n2 vx.c2, .slice vx.A3 vx.n3 vx.c3], .agg #[.bool dy.leaf, .slice vy.A1 vy.n1 vy.c1, .slice vy.A2 vy.n2 vy.c2, .slice vy.A3 vy.n3 vy.c3]] w (WorksP w) := by
  obtain ⟨W, a, r, s, hW, ha, hr, hs, hB, h1, h2, h3, hWs⟩ := tells_made w x1 x2 (.bool dx.leaf) (.slice vx.A1 vx.n1 vx.c1) (.slice vx.A2 vx.n2 vx.c2) (.slice vx.A3 vx.n3 vx.c3) (.bool dy.leaf) (.slice vy.A1 vy.n1 vy.c1) (.slice vy.A2 vy.n2 vy.c2) (.slice vy.A3 vy.n3 vy.c3)
  have hT : TeAt w W a r s x1 x2 vx vy dx dy := ⟨h1, h2, h3, hx.below hB, hy.below hB⟩
  have H := Lib.hid h
  have HV := Lib.hid hv
  have HK := Lib.hid (And.intro hW (And.intro ha (And.intro hr (And.intro hs (And.intro hB (And.intro hT hWs))))))
  have HF := Lib.hid (few_any W _ A n c q (h.below hB) hn 40)
  clear h hv hx hy hW ha hr hs hB h1 h2 h3 hWs hT
  go_enter Tryd.func4, Tryd.ntmps4
  go_upto_region 1 with fail
  rw [HK.out.1, HK.out.2.2.2.1, HK.out.2.2.1, HK.out.2.1]
  go_wp2_with fail
  refine HF.out.mono ?_
  clear HF
  rintro e w1 ⟨b, rfl, hb, b1⟩
  have HB := Lib.hid (And.intro b1 (HK.out.2.2.2.2.1.trans (b1.mono HK.out.2.2.2.2.1.size)))
  clear b1
  cases b with
  | false =>
    as_aux_lemma =>
    clear hb
    have HW := Lib.hid (works_any w1 (HV.out.next HB.out.2))
    go_wp2_with fail
    refine HW.out.mono ?_
    clear HW
    rintro e w2 ⟨rfl, b2⟩
    have HB2 := Lib.hid (below_next HB.out.2 b2)
    clear b2
    go_wp2_with fail
    go_ret
    exact ⟨rfl, HB2.out⟩
  | true =>
    obtain ⟨hn40, hfa⟩ := hb rfl
    have hn41 : n ≤ 40 := by omega
    have HFA := Lib.hid hfa
    have hT1 := HK.out.2.2.2.2.2.1.below HB.out.1
    have p0 := hT1.x.cell 0
    have p1 := hT1.x.cell 1
    have p2 := hT1.x.cell 2
    have p3 := hT1.x.cell 3
    have q0 := hT1.y.cell 0
    have q1 := hT1.y.cell 1
    have q2 := hT1.y.cell 2
    have q3 := hT1.y.cell 3
    simp only [List.getElem?_toArray, List.getElem?_cons_zero, List.getElem?_cons_succ] at p0 p1 p2 p3 q0 q1 q2 q3
    have HT1 := Lib.hid hT1
    clear hb hfa hn40 hT1
    go_wp2_with fail
    have HF2 := Lib.hid (few_any _ _ _ 2 2 _ (act_two w1 w vx vy dx dy HT1.out.rx HT1.out.ry) (by omega) 2)
    refine HF2.out.mono ?_
    clear p0 p1 p2 p3 q0 q1 q2 q3 HF2
    rintro e w2 ⟨b, rfl, hb, b2⟩
    have b2 : Below w1.heap.size w1 w2 := below_next ((Below.refl _ _).alloc (Nat.le_refl _) _) b2
    have HB2 := Lib.hid (And.intro b2 (below_next HB.out.2 b2))
    clear b2
    cases b with
    | false =>
      as_aux_lemma =>
      clear hb
      have HW := Lib.hid (works_any w2 (HV.out.next HB2.out.2))
      go_wp2_with fail
      refine HW.out.mono ?_
      clear HW
      rintro e w3 ⟨rfl, b3⟩
      have HB3 := Lib.hid (below_next HB2.out.2 b3)
      clear b3
      go_wp2_with fail
      go_ret
      exact ⟨rfl, HB3.out⟩
    | true =>
      have hfx := (hb rfl).2 0 _ (by omega) rfl
      have hfy := (hb rfl).2 1 _ (by omega) rfl
      have HXY := Lib.hid (And.intro hfx (And.intro hfy (HT1.out.below HB2.out.1)))
      clear hb hfx hfy HT1
      go_wp2_with fail
      refine (arNew_any w2).mono ?_
      rintro e w3 ⟨rfl, rfl⟩
      obtain ⟨g, hg⟩ : ∃ g, w2.heap.size = g := ⟨_, rfl⟩
      obtain ⟨rb, hrb⟩ : ∃ rb, w2.heap.size + 1 = rb := ⟨_, rfl⟩
      obtain ⟨w4, hw4⟩ : ∃ w4, (w2.alloc (.cells #[.slice none 0 0, .map none, .int .i64 0] 73)).alloc (.cells #[.slice none 0 0] 29) = w4 := ⟨_, rfl⟩
      have hP0 := Play.start w w2 HV.out HB2.out.2
      have b4 : Below w2.heap.size w2 w4 := hw4 ▸ ((Below.refl _ _).alloc (Nat.le_refl _) _).alloc (by simp) _
      rw [hw4, hrb, hg] at hP0
      have hlow : W.heap.size ≤ w2.heap.size := Nat.le_trans HB.out.1.size HB2.out.1.size
      have S0 := Lib.hid (And.intro hP0 (HXY.out.2.2.below b4))
      have HK2 := Lib.hid (And.intro hg (And.intro hrb (And.intro hw4 hlow)))
      clear hP0 hg hrb hw4 b4 hlow
      go_upto_region 5 with fail
      change Code.wp _ _ _ _ ((w2.alloc (.cells #[.slice none 0 0, .map none, .int .i64 0] 73)).alloc (.cells #[.slice none 0 0] 29))
      rw [HK2.out.2.2.1, HK2.out.2.1, HK2.out.1]
      go_wp2_with fail
      go_loopw [11] (fun i wr => ∃ (j : Nat) (L : List Ar.Pl) (A' : Option Addr) (n' c' : Nat) (P R : Nat → Prop), j ≤ n ∧ i = .int .i64 (j : Int) ∧ Play w wr g rb j L A' n' c' P R ∧ TeAt w wr a r s x1 x2 vx vy dx dy ∧ (∀ b, P b → W.heap.size ≤ b)) (fun i _ => n - (intOf i).toNat)
      case atStart => exact ⟨0, [], none, 0, 0, _, _, by omega, rfl, S0.out.1, S0.out.2, fun b hb => by have h1 := HK2.out.1; have h2 := HK2.out.2.2.2; subst hb; omega⟩
      case round =>
        obtain ⟨j, L, A', n', c', P, R, hj, rfl, hP, hTe, hPW⟩ := hrel
        have HP := Lib.hid (And.intro hP (And.intro hTe hPW))
        clear hP hTe hPW S0
        by_cases hlt : j < n
        · as_aux_lemma =>
          have i1 : (0 : Int) ≤ (j : Int) := by omega
          have i2 : (j : Int) < (n : Int) := by omega
          obtain ⟨a0, ha⟩ : ∃ a0, q[j]? = some a0 := ⟨_, List.getElem?_eq_getElem (by rw [H.out.len]; exact hlt)⟩
          obtain ⟨b, off, rfl, -, hbw, hc⟩ := H.out.row (by omega)
          have hfa := HFA.out j a0 (by omega) ha
          have h3 : ∀ k, k < 6 → wr.cell? ⟨b, off + j * 6 + k, none⟩ = (acRow a0)[k]? := fun k hk => (HP.out.1.two.bel.cell (p := ⟨b, off + j * 6 + k, none⟩) hbw).trans (hc j a0 ha k hk)
          have x0 := HP.out.1.box.cell 0
          have z0 := h3 0 (by omega)
          have z1 := h3 1 (by omega)
          have z2 := h3 2 (by omega)
          have z3 := h3 3 (by omega)
          have z4 := h3 4 (by omega)
          have z5 := h3 5 (by omega)
          simp only [acRow, List.getElem?_toArray, List.getElem?_cons_zero, List.getElem?_cons_succ, Nat.add_zero] at x0 z0 z1 z2 z3 z4 z5
          have hD0 := HP.out.1.below (Below.refl _ _).drew
          have hraw := (H.out.raw j a0 ha).below HP.out.1.two.bel
          have hraw := hraw.below (Below.refl _ _).drew
          have HD := Lib.hid (does_any w wr.drew g L A' n' c' P R j hD0.two hD0.few (by omega) a0.x a0.v a0.d a0.Al a0.m a0.cl a0.l (hraw.nd hfa) hraw.hl (by have := hfa.2.2.2; omega))
          have HP2 := Lib.hid (And.intro hD0 (HP.out.2.1.below (Below.refl _ _).drew))
          clear hD0 hraw h3 hc ha hbw hfa
          go_upto_region 8 with fail
          go_region_with (go_at_call 11; (with_reducible refine HD.out.mono ?_); rintro e X1 ⟨L', A2, n2, c2, P', R', rfl, hT2, hF2, hTu, hPs, hRs⟩; have hb1 := hTu.blk HP2.out.1.box HP2.out.1.offP; have y0 := hb1.cell 0; have f0 := hb1.frozen 0; simp only [List.getElem?_toArray, List.getElem?_cons_zero] at y0)
          all_goals (
            have hPl := HP2.out.1.stored (c2 := c2) hT2 hF2 hTu hPs hRs
            have hea := HK.out.2.1
            have her := HK.out.2.2.1
            have hes := HK.out.2.2.2.1
            have heW := HK.out.2.2.2.2.2.2
            have hww := HK.out.2.2.2.2.1.size
            have hrbW : W.heap.size ≤ rb := by have h1 := HK2.out.2.1; have h2 := HK2.out.2.2.2; omega
            have hTe := (HP2.out.2.turn hTu (fun b hb => by have := HP.out.2.2 b hb; exact ⟨by omega, by omega, by omega, by omega⟩)).turn ((Turns.refl (fun x => x = rb) X1).setCell (g := rb) 0 (.slice A2 n2 c2) (fun _ => rfl)) (fun b hb => by subst hb; exact ⟨by omega, by omega, by omega, by omega⟩)
            have hPW : ∀ b, P' b → W.heap.size ≤ b := fun b hb => (hPs b hb).elim (HP.out.2.2 b) (fun e => by have h1 := HP2.out.1.two.bel.size; have h3 := HP2.out.1.box.lt; omega)
            have HN := Lib.hid (And.intro hPl (And.intro hTe hPW))
            clear hb1 hPl hTe hPW hea her hes heW hww hrbW hT2 hF2 hTu hPs hRs y0 f0
            go_wp2_with fail
            exact ⟨⟨j + 1, L', A2, n2, c2, P', R', by omega, by go_num, HN.out.1, HN.out.2.1, HN.out.2.2⟩, by simp [intOf]; omega⟩)
        · obtain rfl : j = n := by omega
          have h0 := HP.out.2.1.han.cell 0
          have h1 := HP.out.2.1.han.cell 1
          simp only [List.getElem?_toArray, List.getElem?_cons_zero, List.getElem?_cons_succ] at h0 h1
          have HG := Lib.hid (arGetW_any wr P g L HP.out.1.two.ar (by have := HP.out.1.few.len; omega) x1 x2)
          go_wp2_with fail
          refine HG.out.mono ?_
          clear h0 h1 HG
          rintro e X ⟨v1, d1, r1, rfl, hN1, bX, hGot, -⟩
          simp only [NdV.val]
          obtain ⟨nb, hnb⟩ : ∃ nb, X.heap.size = nb := ⟨_, rfl⟩
          obtain ⟨Y, hY⟩ : ∃ Y, X.alloc (.cells #[.bool d1.leaf, .slice v1.A1 v1.n1 v1.c1, .slice v1.A2 v1.n2 v1.c2, .slice v1.A3 v1.n3 v1.c3] 36) = Y := ⟨_, rfl⟩
          have bXY : Below X.heap.size X Y := hY ▸ (Below.refl _ _).alloc (Nat.le_refl _) _
          have hbox1 : Blk Y nb 36 #[.bool d1.leaf, .slice v1.A1 v1.n1 v1.c1, .slice v1.A2 v1.n2 v1.c2, .slice v1.A3 v1.n3 v1.c3] := by
            rw [← hY, ← hnb]
            exact Blk.new _ _ _
          have bY := below_next bX bXY
          have HY := Lib.hid (And.intro hY (And.intro hnb (And.intro (HP.out.1.below bY) (And.intro (HP.out.2.1.below bY) (And.intro (hN1.below bXY) (And.intro hbox1 (And.intro hGot bY)))))))
          clear hY hnb bXY hbox1 bY hN1 bX hGot
          go_upto_region 10 with fail
          change Code.wp _ _ _ _ (X.alloc (.cells #[.bool d1.leaf, .slice v1.A1 v1.n1 v1.c1, .slice v1.A2 v1.n2 v1.c2, .slice v1.A3 v1.n3 v1.c3] 36))
          rw [HY.out.1, HY.out.2.1]
          go_cut [14, 15] (fun p' e wx => ∃ (mb : Nat) (v2 : NdV), p' = .pointer (some ⟨mb, 0, none⟩) ∧ e = .int .i64 r1 ∧ Blk wx mb 48 #[.bool d1.leaf, .slice v2.A1 v2.n1 v2.c1, .slice v2.A2 v2.n2 v2.c2, .slice v2.A3 v2.n3 v2.c3] ∧ NdIn wx R v2 d1 ∧ Below Y.heap.size Y wx)
          case first =>
            as_aux_lemma =>
            have PA : Hid (∀ X', Below Y.heap.size Y X' → X'.cell? ⟨rb, 0, none⟩ = some (.slice A' n' c') ∧ X'.cell? ⟨a, 0, none⟩ = some (.int .i64 x1) ∧ X'.cell? ⟨a, 1, none⟩ = some (.int .i64 x2)) := Lib.hid fun X' hX =>
              have h1 := (HY.out.2.2.1.below hX).box
              have h2 := (HY.out.2.2.2.1.below hX).han
              ⟨h1.cell 0, h2.cell 0, h2.cell 1⟩
            have E : Hid (Below Y.heap.size Y Y) := Lib.hid (Below.refl _ _)
            have E0 : Hid (Below Y.heap.size Y Y.drew) := Lib.hid (Below.refl _ _).drew
            have E0b : Hid (∀ o, Below Y.heap.size Y (Y.alloc o).drew) := Lib.hid fun o => ((Below.refl _ _).alloc (Nat.le_refl _) _).drew
            have EA : Hid (∀ X' o, Below Y.heap.size Y X' → Below Y.heap.size Y (X'.alloc o)) := Lib.hid fun X' o h => h.alloc h.size _
            have HG : Hid (∀ X', Below Y.heap.size Y X' → Calls Tryd.prog 14 #[.agg #[.slice A' n' c'], .agg #[.int .i64 x1, .int .i64 x2]] X' (fun e w' => ∃ v2 : NdV, e = .returned (.tuple #[.agg #[.bool d1.leaf, .slice v2.A1 v2.n1 v2.c1, .slice v2.A2 v2.n2 v2.c2, .slice v2.A3 v2.n3 v2.c3], .int .i64 r1]) ∧ NdIn w' R v2 d1 ∧ Below X'.heap.size X' w')) := Lib.hid fun X' h1 => (refGet_any X' R A' n' c' L (HY.out.2.2.1.below h1).two.pl x1 x2).mono fun e w' h => rget_one h HY.out.2.2.2.2.2.2.1
            go_region_held3 (fun X' => X'.cell? ⟨rb, 0, none⟩ = some (.slice A' n' c') ∧ X'.cell? ⟨a, 0, none⟩ = some (.int .i64 x1) ∧ X'.cell? ⟨a, 1, none⟩ = some (.int .i64 x2)) (first | with_reducible exact PA.out _ E.out | with_reducible exact PA.out _ E0.out | with_reducible exact PA.out _ (E0b.out _) | with_reducible exact PA.out _ (EA.out _ _ E.out) | (refine PA.out _ ?_; repeat (first | with_reducible exact E.out | refine Below.setCell (p := ⟨_, _, none⟩) ?_ N.out.2.2 _)) | fail) (first
              | (go_at_call 15; (with_reducible refine (handle_any _ _ _).mono ?_); rintro e X1 ⟨rfl, bb⟩; (first | (have N := Lib.hid (Nb.new0 (T := 48) bb); have E := Lib.hid (below_next (E0b.out _) bb)) | (have E := Lib.hid (below_next E0.out bb))); clear bb)
              | (go_at_call 14; (first | (with_reducible refine (HG.out _ E.out).mono ?_) | (with_reducible refine (HG.out _ (EA.out _ _ E.out)).mono ?_)); rintro e X2 ⟨v2, rfl, hn2, bb⟩; (try first | (have N := Lib.hid (Nb.new (T := 48) E.out.size bb)) | (have N := Lib.hid (Nb.next N.out bb))); (first | (have E := Lib.hid (below_next E.out bb)) | (have E := Lib.hid (below_next (EA.out _ _ E.out) bb))); have NV := Lib.hid hn2; (try (have z0 := N.out.1.cell 0; have z1 := N.out.1.cell 1; have z2 := N.out.1.cell 2; have z3 := N.out.1.cell 3; have y0 := fun i => N.out.1.frozen i; simp only [List.getElem?_toArray, List.getElem?_cons_zero, List.getElem?_cons_succ] at z0 z1 z2 z3)); clear bb hn2))
            all_goals go_wp2_with fail
            all_goals go_meet
            · case rel => exact ⟨_, v2, rfl, rfl, Blk.new _ _ _, NV.out.below ((Below.refl _ _).alloc (Nat.le_refl _) _), E.out.alloc E.out.size _⟩
            · case rel =>
                refine ⟨_, v2, rfl, rfl, Blk.node N.out.1 _ _ _ _, NV.out.turn (setNode_turn (F := fun x => x = X1.heap.size) (Turns.refl _ _) 0 _ _ _ _ (fun _ => rfl)) ?_, (setNode_turn (F := fun x => x = X1.heap.size) (Turns.of_below E.out) 0 _ _ _ _ (fun _ => rfl)).below (Nat.le_refl _) (fun y hy => ?_)⟩
                · rintro y hy rfl
                  have h1 := HY.out.2.2.1.two.rlt _ hy
                  have h2 := N.out.2.2
                  omega
                · have h2 := N.out.2.2
                  have h3 : y = X1.heap.size := hy
                  omega
            · case rel =>
                refine ⟨_, v2, rfl, rfl, Blk.node N.out.1 _ _ _ _, NV.out.turn (setNode_turn (F := fun x => x = Y.heap.size) (Turns.refl _ _) 0 _ _ _ _ (fun _ => rfl)) ?_, (setNode_turn (F := fun x => x = Y.heap.size) (Turns.of_below E.out) 0 _ _ _ _ (fun _ => rfl)).below (Nat.le_refl _) (fun y hy => ?_)⟩
                · rintro y hy rfl
                  have h1 := HY.out.2.2.1.two.rlt _ hy
                  have h2 := N.out.2.2
                  omega
                · have h2 := N.out.2.2
                  have h3 : y = Y.heap.size := hy
                  omega
          case rest =>
            obtain ⟨mb, v2, rfl, rfl, hbox2, hN2, hbel⟩ := hcut
            obtain ⟨bxy, hbxy⟩ := eq_tells dx dy
            obtain ⟨hh, hhh⟩ : ∃ hh, Ar.has L (x1, x2) = hh := ⟨_, rfl⟩
            have bwc := HB2.out.2
            have hPc := HY.out.2.2.1.below hbel
            have hTc := HY.out.2.2.2.1.below hbel
            have hN1c := HY.out.2.2.2.2.1.below hbel
            have hb1c := HY.out.2.2.2.2.2.1.below hbel HY.out.2.2.2.2.2.1.lt
            have PA : Hid (∀ X', Below wc.heap.size wc X' → X'.cell? ⟨rb, 0, none⟩ = some (.slice A' n' c') ∧ X'.cell? ⟨a, 0, none⟩ = some (.int .i64 x1) ∧ X'.cell? ⟨a, 1, none⟩ = some (.int .i64 x2) ∧ X'.cell? ⟨r, 0, none⟩ = some (.bool dx.leaf) ∧ X'.cell? ⟨r, 1, none⟩ = some (.slice vx.A1 vx.n1 vx.c1) ∧ X'.cell? ⟨r, 2, none⟩ = some (.slice vx.A2 vx.n2 vx.c2) ∧ X'.cell? ⟨r, 3, none⟩ = some (.slice vx.A3 vx.n3 vx.c3) ∧ X'.cell? ⟨s, 0, none⟩ = some (.bool dy.leaf) ∧ X'.cell? ⟨s, 1, none⟩ = some (.slice vy.A1 vy.n1 vy.c1) ∧ X'.cell? ⟨s, 2, none⟩ = some (.slice vy.A2 vy.n2 vy.c2) ∧ X'.cell? ⟨s, 3, none⟩ = some (.slice vy.A3 vy.n3 vy.c3) ∧ X'.cell? ⟨nb, 0, none⟩ = some (.bool d1.leaf) ∧ X'.cell? ⟨nb, 1, none⟩ = some (.slice v1.A1 v1.n1 v1.c1) ∧ X'.cell? ⟨nb, 2, none⟩ = some (.slice v1.A2 v1.n2 v1.c2) ∧ X'.cell? ⟨nb, 3, none⟩ = some (.slice v1.A3 v1.n3 v1.c3) ∧ X'.cell? ⟨mb, 0, none⟩ = some (.bool d1.leaf) ∧ X'.cell? ⟨mb, 1, none⟩ = some (.slice v2.A1 v2.n1 v2.c1) ∧ X'.cell? ⟨mb, 2, none⟩ = some (.slice v2.A2 v2.n2 v2.c2) ∧ X'.cell? ⟨mb, 3, none⟩ = some (.slice v2.A3 v2.n3 v2.c3)) := Lib.hid fun X' hX => by
              have h1 := (hPc.below hX).box
              have h2 := hTc.below hX
              have h3 := hb1c.below hX hb1c.lt
              have h4 := hbox2.below hX hbox2.lt
              exact ⟨h1.cell 0, h2.han.cell 0, h2.han.cell 1, h2.x.cell 0, h2.x.cell 1, h2.x.cell 2, h2.x.cell 3, h2.y.cell 0, h2.y.cell 1, h2.y.cell 2, h2.y.cell 3, h3.cell 0, h3.cell 1, h3.cell 2, h3.cell 3, h4.cell 0, h4.cell 1, h4.cell 2, h4.cell 3⟩
            have E : Hid (Below wc.heap.size wc wc.drew) := Lib.hid (Below.refl _ _).drew
            have hndx := hTc.rx.nd HXY.out.1
            have hndy := hTc.ry.nd HXY.out.2.1
            have HN1 : Hid (∀ X', Below wc.heap.size wc X' → Calls Tryd.prog 17 #[.agg #[.bool d1.leaf, .slice v1.A1 v1.n1 v1.c1, .slice v1.A2 v1.n2 v1.c2, .slice v1.A3 v1.n3 v1.c3]] X' (NdNew X' d1)) := Lib.hid fun X' h1 => node_any X' _ v1 d1 (hN1c.below h1)
            have HNx : Hid (∀ X', Below wc.heap.size wc X' → Calls Tryd.prog 17 #[.agg #[.bool dx.leaf, .slice vx.A1 vx.n1 vx.c1, .slice vx.A2 vx.n2 vx.c2, .slice vx.A3 vx.n3 vx.c3]] X' (NdNew X' dx)) := Lib.hid fun X' h1 => node_any X' _ vx dx (hndx.below h1)
            have HNy : Hid (∀ X', Below wc.heap.size wc X' → Calls Tryd.prog 17 #[.agg #[.bool dy.leaf, .slice vy.A1 vy.n1 vy.c1, .slice vy.A2 vy.n2 vy.c2, .slice vy.A3 vy.n3 vy.c3]] X' (NdNew X' dy)) := Lib.hid fun X' h1 => node_any X' _ vy dy (hndy.below h1)
            have HS1 : Hid (∀ X' v3 F3, NdIn X' F3 v3 d1 → Below wc.heap.size wc X' → Calls Tryd.prog 16 #[.agg #[.bool d1.leaf, .slice v3.A1 v3.n1 v3.c1, .slice v3.A2 v3.n2 v3.c2, .slice v3.A3 v3.n3 v3.c3], .agg #[.bool d1.leaf, .slice v2.A1 v2.n1 v2.c1, .slice v2.A2 v2.n2 v2.c2, .slice v2.A3 v2.n3 v2.c3]] X' (BoolP X' true)) := Lib.hid fun X' v3 F3 h3 h1 => (refSame_any X' _ _ v3 v2 d1 d1 h3 (hN2.below h1)).mono fun e w' h => h.one (by simp)
            have HS2 : Hid (∀ X' v4 v5 F4 F5, NdIn X' F4 v4 dx → NdIn X' F5 v5 dy → Calls Tryd.prog 16 #[.agg #[.bool dx.leaf, .slice v4.A1 v4.n1 v4.c1, .slice v4.A2 v4.n2 v4.c2, .slice v4.A3 v4.n3 v4.c3], .agg #[.bool dy.leaf, .slice v5.A1 v5.n1 v5.c1, .slice v5.A2 v5.n2 v5.c2, .slice v5.A3 v5.n3 v5.c3]] X' (BoolP X' bxy)) := Lib.hid fun X' v4 v5 F4 F5 h4 h5 => (refSame_any X' _ _ v4 v5 dx dy h4 h5).mono fun e w' h => h.one hbxy
            have HHp : Hid (∀ X', Below wc.heap.size wc X' → Calls Tryd.prog 18 #[.pointer (some ⟨g, 0, none⟩), .agg #[.int .i64 x1, .int .i64 x2]] X' (BoolP X' hh)) := Lib.hid fun X' h1 => hhh ▸ arHas_any X' _ g L (hPc.below h1).two.ar (by have := HP.out.1.few.len; omega) x1 x2
            have HHr : Hid (∀ X', Below wc.heap.size wc X' → Calls Tryd.prog 19 #[.agg #[.slice A' n' c'], .agg #[.int .i64 x1, .int .i64 x2]] X' (BoolP X' hh)) := Lib.hid fun X' h1 => hhh ▸ refHas_any X' _ A' n' c' L (hPc.below h1).two.pl x1 x2
            have HSp : Hid (∀ X', Below wc.heap.size wc X' → Calls Tryd.prog 20 #[.agg #[.bool dx.leaf, .slice vx.A1 vx.n1 vx.c1, .slice vx.A2 vx.n2 vx.c2, .slice vx.A3 vx.n3 vx.c3], .agg #[.bool dy.leaf, .slice vy.A1 vy.n1 vy.c1, .slice vy.A2 vy.n2 vy.c2, .slice vy.A3 vy.n3 vy.c3]] X' (BoolP X' bxy)) := Lib.hid fun X' h1 => (arenaSame_any X' _ _ vx vy dx dy (hndx.below h1) (hndy.below h1)).mono fun e w' h => h.one hbxy
            have HSx : Hid (∀ X', Below wc.heap.size wc X' → Calls Tryd.prog 20 #[.agg #[.bool dx.leaf, .slice vx.A1 vx.n1 vx.c1, .slice vx.A2 vx.n2 vx.c2, .slice vx.A3 vx.n3 vx.c3], .agg #[.bool dx.leaf, .slice vx.A1 vx.n1 vx.c1, .slice vx.A2 vx.n2 vx.c2, .slice vx.A3 vx.n3 vx.c3]] X' (BoolP X' true)) := Lib.hid fun X' h1 => (arenaSame_any X' _ _ vx vx dx dx (hndx.below h1) (hndx.below h1)).mono fun e w' h => h.one (by simp)
            have HWk : Hid (∀ X', Below wc.heap.size wc X' → Calls Tryd.prog 9 #[] X' (WorksP X')) := Lib.hid fun X' h1 => works_any X' (hPc.below h1).two.vars
            have HEnd := Lib.hid hPc.two.bel
            clear hbox2 hN2 hbel hbxy hhh bwc hPc hTc hN1c hb1c hndx hndy
            have e1 : (r1 == r1) = true := by simp
            have e2 : (bxy == bxy) = true := by simp
            have e3 : (hh == hh) = true := by simp
            go_upto_region 11 with fail
            go_region_held3 (fun X' => X'.cell? ⟨rb, 0, none⟩ = some (.slice A' n' c') ∧ X'.cell? ⟨a, 0, none⟩ = some (.int .i64 x1) ∧ X'.cell? ⟨a, 1, none⟩ = some (.int .i64 x2) ∧ X'.cell? ⟨r, 0, none⟩ = some (.bool dx.leaf) ∧ X'.cell? ⟨r, 1, none⟩ = some (.slice vx.A1 vx.n1 vx.c1) ∧ X'.cell? ⟨r, 2, none⟩ = some (.slice vx.A2 vx.n2 vx.c2) ∧ X'.cell? ⟨r, 3, none⟩ = some (.slice vx.A3 vx.n3 vx.c3) ∧ X'.cell? ⟨s, 0, none⟩ = some (.bool dy.leaf) ∧ X'.cell? ⟨s, 1, none⟩ = some (.slice vy.A1 vy.n1 vy.c1) ∧ X'.cell? ⟨s, 2, none⟩ = some (.slice vy.A2 vy.n2 vy.c2) ∧ X'.cell? ⟨s, 3, none⟩ = some (.slice vy.A3 vy.n3 vy.c3) ∧ X'.cell? ⟨nb, 0, none⟩ = some (.bool d1.leaf) ∧ X'.cell? ⟨nb, 1, none⟩ = some (.slice v1.A1 v1.n1 v1.c1) ∧ X'.cell? ⟨nb, 2, none⟩ = some (.slice v1.A2 v1.n2 v1.c2) ∧ X'.cell? ⟨nb, 3, none⟩ = some (.slice v1.A3 v1.n3 v1.c3) ∧ X'.cell? ⟨mb, 0, none⟩ = some (.bool d1.leaf) ∧ X'.cell? ⟨mb, 1, none⟩ = some (.slice v2.A1 v2.n1 v2.c1) ∧ X'.cell? ⟨mb, 2, none⟩ = some (.slice v2.A2 v2.n2 v2.c2) ∧ X'.cell? ⟨mb, 3, none⟩ = some (.slice v2.A3 v2.n3 v2.c3)) (first | with_reducible exact PA.out _ E.out | fail) (first
              | (go_at_call 17; (with_reducible refine (HN1.out _ E.out).mono ?_); rintro e X1 ⟨v3, rfl, hv3, bb⟩; simp only [NdV.val]; have E := Lib.hid (below_next E.out bb); have NV := Lib.hid hv3; clear bb hv3)
              | (go_at_call 17; (with_reducible refine (HNx.out _ E.out).mono ?_); rintro e X1 ⟨v4, rfl, hv4, bb⟩; simp only [NdV.val]; have E := Lib.hid (below_next E.out bb); (try have NY := Lib.hid (NY.out.below bb)); have NX := Lib.hid hv4; clear bb hv4)
              | (go_at_call 17; (with_reducible refine (HNy.out _ E.out).mono ?_); rintro e X1 ⟨v5, rfl, hv5, bb⟩; simp only [NdV.val]; have E := Lib.hid (below_next E.out bb); (try have NX := Lib.hid (NX.out.below bb)); have NY := Lib.hid hv5; clear bb hv5)
              | (go_at_call 16; (with_reducible refine (HS1.out _ _ _ NV.out E.out).mono ?_); rintro e X1 ⟨rfl, bb⟩; have E := Lib.hid (below_next E.out bb); clear bb)
              | (go_at_call 16; (with_reducible refine (HS2.out _ _ _ _ _ NX.out NY.out).mono ?_); rintro e X1 ⟨rfl, bb⟩; have E := Lib.hid (below_next E.out bb); clear bb)
              | (go_at_call 15; (with_reducible refine (handle_any _ _ _).mono ?_); rintro e X1 ⟨rfl, bb⟩; have E := Lib.hid (below_next E.out bb); clear bb)
              | (go_at_call 18; (with_reducible refine (HHp.out _ E.out).mono ?_); rintro e X1 ⟨rfl, bb⟩; have E := Lib.hid (below_next E.out bb); clear bb)
              | (go_at_call 19; (with_reducible refine (HHr.out _ E.out).mono ?_); rintro e X1 ⟨rfl, bb⟩; have E := Lib.hid (below_next E.out bb); clear bb)
              | (go_at_call 20; (first | (with_reducible refine (HSx.out _ E.out).mono ?_) | (with_reducible refine (HSp.out _ E.out).mono ?_)); rintro e X1 ⟨rfl, bb⟩; have E := Lib.hid (below_next E.out bb); (try have NX := Lib.hid (NX.out.below bb)); (try have NY := Lib.hid (NY.out.below bb)); clear bb)
              | (go_at_call 9; (with_reducible refine (HWk.out _ E.out).mono ?_); rintro e X1 ⟨rfl, bb⟩; have E := Lib.hid (below_next E.out bb); clear bb))
            all_goals (
              have HZ := Lib.hid (HEnd.out.trans (E.out.mono HEnd.out.size))
              go_wp2_with fail
              go_ret
              exact ⟨rfl, HZ.out⟩)
end Go.Proofs.YtgpcpjjdneimfaaDoor
