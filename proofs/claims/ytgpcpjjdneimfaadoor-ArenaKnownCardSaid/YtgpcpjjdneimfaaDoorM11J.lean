/- ArenaPlays: a call that puts. -/
import Derived.Test.YtgpcpjjdneimfaaDoorPlO
import Derived.Test.YtgpcpjjdneimfaaDoorPlQ
namespace Go.Proofs.YtgpcpjjdneimfaaDoor
open Go.ChangeShapes Go.WideShapes Go.ChangeAt Go.RowKit

/-- What a call of both has in memory. -/
structure DoAt (w0 X : World) (a q s : Nat) (A : Option Addr) (n c : Nat) (x : Int) (v : NdV) (d : Ar.Nd) (Al : Option Addr) (m cl : Nat) (l : List (Int × Int)) : Prop where
  box : Blk X a 29 #[.slice A n c]
  act : Blk X q 38 #[.int .i64 x, .bool d.leaf, .slice v.A1 v.n1 v.c1, .slice v.A2 v.n2 v.c2, .slice v.A3 v.n3 v.c3, .slice Al m cl]
  res : Blk X s 29 #[.slice none 0 0]
  nd : NdIn X (fun b => b < w0.heap.size) v d
  hl : Cells X (fun b => b < w0.heap.size) Al m 2 (hanL l)
section
variable {w0 X X' : World} {a q s : Nat} {A : Option Addr} {n c : Nat} {x : Int} {v : NdV} {d : Ar.Nd} {Al : Option Addr} {m cl : Nat} {l : List (Int × Int)} {G : Nat → Prop}
theorem DoAt.turn (h : DoAt w0 X a q s A n c x v d Al m cl l) (ht : Turns G X X') (hG : ∀ b, G b → w0.heap.size ≤ b ∧ b ≠ a ∧ b ≠ q ∧ b ≠ s) : DoAt w0 X' a q s A n c x v d Al m cl l where
  box := ht.blk h.box fun e => (hG a e).2.1 rfl
  act := ht.blk h.act fun e => (hG q e).2.2.1 rfl
  res := ht.blk h.res fun e => (hG s e).2.2.2 rfl
  nd := h.nd.turn ht fun b hb hg => by have := (hG b hg).1; omega
  hl := h.hl.turn ht fun b hb hg => by have := (hG b hg).1; omega
theorem DoAt.below (h : DoAt w0 X a q s A n c x v d Al m cl l) (hb : Below X.heap.size X X') : DoAt w0 X' a q s A n c x v d Al m cl l := h.turn (G := fun _ => False) (Turns.of_below hb) fun _ e => e.elim
end
/-- A box that was made while calls were made. -/
def Nb (K : Nat) (X1 X2 : World) (b : Nat) (T : TypeId) (cs : Array Value) : Prop := Blk X2 b T cs ∧ b < X1.heap.size ∧ K ≤ b
section
variable {Z X X0 X1 X2 : World} {T : TypeId} {cs : Array Value} {b K : Nat}
theorem Nb.new0 (bb : Below (Z.alloc (.cells cs T)).drew.heap.size (Z.alloc (.cells cs T)).drew X2) : Nb Z.heap.size (Z.alloc (.cells cs T)).drew X2 Z.heap.size T cs := by
  have h1 : Blk (Z.alloc (.cells cs T)).drew Z.heap.size T cs := Blk.new Z _ _
  exact ⟨h1.below bb h1.lt, h1.lt, Nat.le_refl _⟩
theorem Nb.new (hK : K ≤ X.heap.size) (bb : Below (X.alloc (.cells cs T)).heap.size (X.alloc (.cells cs T)) X2) : Nb K (X.alloc (.cells cs T)) X2 X.heap.size T cs := by
  have h1 : Blk (X.alloc (.cells cs T)) X.heap.size T cs := Blk.new X _ _
  exact ⟨h1.below bb h1.lt, h1.lt, hK⟩
theorem Nb.next (h : Nb K X0 X1 b T cs) (bb : Below X1.heap.size X1 X2) : Nb K X1 X2 b T cs := ⟨h.1.below bb h.1.lt, h.1.lt, h.2.2⟩
theorem Nb.nextA (h : Nb K X0 X1 b T cs) {o : Obj} (bb : Below (X1.alloc o).heap.size (X1.alloc o) X2) : Nb K (X1.alloc o) X2 b T cs :=
  have h1 := h.1.below ((Below.refl _ _).alloc (Nat.le_refl _) o) h.1.lt
  ⟨h1.below bb h1.lt, h1.lt, h.2.2⟩
end
/-- The reference's answer, stored into its box. -/
structure RefP (Z : World) (R : Nat → Prop) (A2 : Option Addr) (n2 c2 : Nat) (M : List Ar.Pl) (b : Nat) (wx : World) : Prop where
  ge : Z.heap.size ≤ b
  box : Blk wx b 29 #[.slice A2 n2 c2]
  bel : Below Z.heap.size Z wx
  pl : PlIn wx (fun x => R x ∨ Z.heap.size ≤ x) A2 n2 M
section
variable {Z X1 X2 : World} {R : Nat → Prop} {A2 : Option Addr} {n2 c2 b : Nat} {M : List Ar.Pl}
theorem RefP.new {b' : Nat} (hs : Z.heap.size ≤ X1.heap.size) (E : Below Z.heap.size Z X2) (hP : PlIn X2 (fun x => (R x ∨ (Z.heap.size ≤ x ∧ x ≠ b')) ∨ X1.heap.size ≤ x) A2 n2 M) : RefP Z R A2 n2 c2 M X2.heap.size (X2.alloc (.cells #[.slice A2 n2 c2] 29)) :=
  ⟨E.size, Blk.new _ _ _, E.alloc E.size _, (hP.mono (G := fun x => R x ∨ Z.heap.size ≤ x) (fun _ _ hx => hx.elim (fun h => h.elim .inl (fun h => .inr h.1)) (fun h => .inr (Nat.le_trans hs h)))).below ((Below.refl _ _).alloc (Nat.le_refl _) _)⟩
theorem RefP.set (hs : Z.heap.size ≤ X1.heap.size) (E : Below Z.heap.size Z X2) (hP : PlIn X2 (fun x => (R x ∨ (Z.heap.size ≤ x ∧ x ≠ b)) ∨ X1.heap.size ≤ x) A2 n2 M) (hR : ∀ x, R x → x < Z.heap.size) (hN : Nb Z.heap.size X1 X2 b 29 #[.slice none 0 0]) : RefP Z R A2 n2 c2 M b (X2.setCell ⟨b, 0, none⟩ (.slice A2 n2 c2)) := by
  have hT : Turns (fun x => x = b) X2 (X2.setCell ⟨b, 0, none⟩ (.slice A2 n2 c2)) := (Turns.refl (fun x => x = b) X2).setCell (g := b) _ _ (fun _ => rfl)
  refine ⟨hN.2.2, by simpa using hN.1.set_ 0 (.slice A2 n2 c2), E.setCell (p := ⟨b, 0, none⟩) hN.2.2 _, (hP.turn hT fun x hx e => ?_).mono (fun x _ hx => hx.elim (fun h => h.elim .inl (fun h => .inr h.1)) (fun h => .inr (by omega)))⟩
  have h1 := hN.2.1
  have h2 := hN.2.2
  subst e
  rcases hx with (h | h) | h
  · have := hR _ h
    omega
  · exact h.2 rfl
  · omega
end
theorem NdIn.skip {X : World} {K : Nat} {v : NdV} {d : Ar.Nd} (h : NdIn X (fun x => K ≤ x) v d) : NdIn X (fun x => K ≤ x ∧ x ≠ X.heap.size) v d := h.mono fun _ hx e => ⟨e, Nat.ne_of_lt hx⟩
theorem NdIn.skipA {X : World} {K : Nat} {v : NdV} {d : Ar.Nd} (h : NdIn X (fun x => K ≤ x) v d) (o : Obj) : NdIn (X.alloc o) (fun x => K ≤ x ∧ x ≠ X.heap.size) v d := h.skip.below ((Below.refl _ _).alloc (Nat.le_refl _) o)
theorem NdIn.miss {X0 X1 : World} {K b : Nat} {v : NdV} {d : Ar.Nd} (h : NdIn X1 (fun x => X0.heap.size ≤ x) v d) (hK : K ≤ X0.heap.size) (hb : b < X0.heap.size) : NdIn X1 (fun x => K ≤ x ∧ x ≠ b) v d := h.mono fun _ _ e => ⟨Nat.le_trans hK e, by omega⟩
theorem rput_one {w w' : World} {F : Nat → Prop} {L : List Ar.Pl} {x : Int × Int} {d : Ar.Nd} {e : Ending} (h : RPutP w F L x d e w') : ∃ (r : Int) (M : List Ar.Pl), ((∃ (i : Nat) (p : Ar.Pl), x = ((i : Int), (p.turn : Int)) ∧ L[i]? = some p ∧ p.used = true ∧ r = 0 ∧ M = L.set i ⟨true, p.turn, d⟩) ∨ (Ar.has L x = false ∧ r = 110 ∧ M = L)) ∧ RArP w F M r e w' := by
  rcases h with ⟨i, p, h1, h2, h3, h4⟩ | ⟨h1, h4⟩
  · exact ⟨0, _, .inl ⟨i, p, h1, h2, h3, rfl, rfl⟩, h4⟩
  · exact ⟨110, L, .inr ⟨h1, rfl, rfl⟩, h4⟩
/-- The boxes of a call, at its start. -/
theorem doAt_start (w0 w : World) (A : Option Addr) (n c : Nat) (x : Int) (v : NdV) (d : Ar.Nd) (Al : Option Addr) (m cl : Nat) (l : List (Int × Int)) (hv : NdIn w (fun b => b < w0.heap.size) v d) (hl : Cells w (fun b => b < w0.heap.size) Al m 2 (hanL l)) : ∃ W a q s, ((w.alloc (.cells #[.slice A n c] 29)).alloc (.cells #[.int .i64 x, .bool d.leaf, .slice v.A1 v.n1 v.c1, .slice v.A2 v.n2 v.c2, .slice v.A3 v.n3 v.c3, .slice Al m cl] 38)).alloc (.cells #[.slice none 0 0] 29) = W ∧ w.heap.size = a ∧ w.heap.size + 1 = q ∧ w.heap.size + 1 + 1 = s ∧ Below w.heap.size w W ∧ DoAt w0 W a q s A n c x v d Al m cl l ∧ W.heap.size = w.heap.size + 3 := by
  obtain ⟨W, a, q, s, h1, h2, h3, h4, h5, h6, h7, h8, h9⟩ := does_made w A n c (.int .i64 x) (.bool d.leaf) (.slice v.A1 v.n1 v.c1) (.slice v.A2 v.n2 v.c2) (.slice v.A3 v.n3 v.c3) (.slice Al m cl)
  exact ⟨W, a, q, s, h1, h2, h3, h4, h5, ⟨h6, h7, h8, hv.below h5, hl.below h5⟩, h9⟩
end Go.Proofs.YtgpcpjjdneimfaaDoor

namespace Go.Proofs.YtgpcpjjdneimfaaDoor
open Go.ChangeShapes Go.WideShapes Go.ChangeAt Go.RowKit

set_option maxRecDepth 100000 in
set_option maxHeartbeats 4000000 in
theorem does_put (w0 w : World) (g : Nat) (L : List Ar.Pl) (A : Option Addr) (n c : Nat) (P R : Nat → Prop) (k : Nat) (h : Two w0 w g L L A n P R) (hf : Few L k) (hk : k ≤ 1000) (x : Int) (v : NdV) (d : Ar.Nd) (Al : Option Addr) (m cl : Nat) (l : List (Int × Int)) (hv : NdIn w (fun b => b < w0.heap.size) v d) (hl : Cells w (fun b => b < w0.heap.size) Al m 2 (hanL l)) (hx : ∀ w, Calls Tryd.prog 22 #[.int .i64 x, .int .i64 4] w fun e w' => e = .returned (.int .i64 2) ∧ w = w') :
    Calls Tryd.prog 11 #[.pointer (some ⟨g, 0, none⟩), .agg #[.slice A n c], .agg #[.int .i64 x, .bool d.leaf, .slice v.A1 v.n1 v.c1, .slice v.A2 v.n2 v.c2, .slice v.A3 v.n3 v.c3, .slice Al m cl]] w (DoesP w0 w g P R k) := by
  obtain ⟨W, a, q, s, hW, ha, hq, hs, hB, hD, hWs⟩ := doAt_start w0 w A n c x v d Al m cl l hv hl
  have HK := Lib.hid (And.intro hW (And.intro ha (And.intro hq (And.intro hs (And.intro hB hWs)))))
  have hT := h.below hB
  have q1 := hD.act.cell 1
  have q2 := hD.act.cell 2
  have q3 := hD.act.cell 3
  have q4 := hD.act.cell 4
  simp only [List.getElem?_toArray, List.getElem?_cons_zero, List.getElem?_cons_succ] at q1 q2 q3 q4
  have HO := Lib.hid (own_any W _ v d hD.nd)
  have HM := Lib.hid (And.intro hD (And.intro hT (And.intro hf h)))
  have HX := Lib.hid hx
  clear hx hW ha hq hs hB hD hT hv hl h hf hWs
  go_enter Tryd.func11, Tryd.ntmps11
  go_upto_region 1 with fail
  rw [HK.out.1, HK.out.2.2.2.1, HK.out.2.2.1, HK.out.2.1]
  go_wp2_with fail
  refine HO.out.mono ?_
  clear q1 q2 q3 q4
  rintro e X ⟨v1, rfl, hN1, bX, hWr⟩
  simp only [NdV.val]
  obtain ⟨nb, hnb⟩ : ∃ nb, X.heap.size = nb := ⟨_, rfl⟩
  obtain ⟨Y, hY⟩ : ∃ Y, X.alloc (.cells #[.bool d.leaf, .slice v1.A1 v1.n1 v1.c1, .slice v1.A2 v1.n2 v1.c2, .slice v1.A3 v1.n3 v1.c3] 36) = Y := ⟨_, rfl⟩
  have bXY : Below X.heap.size X Y := hY ▸ (Below.refl _ _).alloc (Nat.le_refl _) _
  have hbox1 : Blk Y nb 36 #[.bool d.leaf, .slice v1.A1 v1.n1 v1.c1, .slice v1.A2 v1.n2 v1.c2, .slice v1.A3 v1.n3 v1.c3] := by
    rw [← hY, ← hnb]
    exact Blk.new _ _ _
  have bY := below_next bX bXY
  have hD := HM.out.1.below bY
  have q0 := hD.act.cell 0
  simp only [List.getElem?_toArray, List.getElem?_cons_zero] at q0
  have hT := HM.out.2.1.below bY
  have hN := hN1.below bXY
  have hNf : NdIn Y (fun b => W.heap.size ≤ b ∧ b < nb) v1 d := (hN1.mono (fun b hb h => ⟨h, hnb ▸ hb⟩)).below bXY
  have hWrY : Wr Y W.heap.size v1 := ⟨hWr.a1.below bXY, hWr.a2.below bXY, hWr.a3.below bXY⟩
  have hnbW : W.heap.size ≤ nb := hnb ▸ bX.size
  have HY := Lib.hid (And.intro hY (And.intro bY (And.intro hD (And.intro hT (And.intro hNf (And.intro hWrY (And.intro hbox1 (And.intro hnb hnbW))))))))
  clear hbox1 hnbW hY bXY bY hD hT hN1 hWr bX hN hNf hWrY
  have e1 : ((2 : Int) == 2) = true := rfl
  go_upto_region 2 with fail
  change Code.wp _ _ _ _ (X.alloc (.cells #[.bool d.leaf, .slice v1.A1 v1.n1 v1.c1, .slice v1.A2 v1.n2 v1.c2, .slice v1.A3 v1.n3 v1.c3] 36))
  rw [HY.out.1]
  go_wp2_with fail
  refine (HX.out _).mono ?_
  rintro e Y1 ⟨rfl, rfl⟩
  go_upto_region 4 with fail
  clear q0 e1 hnb HO HX
  have PT : Hid (∀ X1 Z, Below Y.heap.size Y X1 → Turns P X1 Z → Z.cell? ⟨q, 5, none⟩ = some (.slice Al m cl) ∧ Z.cell? ⟨nb, 0, none⟩ = some (.bool d.leaf) ∧ Z.cell? ⟨nb, 1, none⟩ = some (.slice v1.A1 v1.n1 v1.c1) ∧ Z.cell? ⟨nb, 2, none⟩ = some (.slice v1.A2 v1.n2 v1.c2) ∧ Z.cell? ⟨nb, 3, none⟩ = some (.slice v1.A3 v1.n3 v1.c3)) := Lib.hid fun X1 Z h1 h2 => by
    have hp := HM.out.2.2.2.plt
    have e1 := HK.out.2.2.1
    have e2 := HY.out.2.2.2.2.2.2.2.2
    have e3 := HK.out.2.2.2.2.2
    have a1 := h2.blk (HY.out.2.2.1.act.below h1 HY.out.2.2.1.act.lt) (fun e => by have := hp _ e; omega)
    have a2 := h2.blk (HY.out.2.2.2.2.2.2.1.below h1 HY.out.2.2.2.2.2.2.1.lt) (fun e => by have := hp _ e; omega)
    exact ⟨a1.cell 5, a2.cell 0, a2.cell 1, a2.cell 2, a2.cell 3⟩
  have PA : Hid (∀ X', Below Y.heap.size Y X' → X'.cell? ⟨q, 5, none⟩ = some (.slice Al m cl) ∧ X'.cell? ⟨nb, 0, none⟩ = some (.bool d.leaf) ∧ X'.cell? ⟨nb, 1, none⟩ = some (.slice v1.A1 v1.n1 v1.c1) ∧ X'.cell? ⟨nb, 2, none⟩ = some (.slice v1.A2 v1.n2 v1.c2) ∧ X'.cell? ⟨nb, 3, none⟩ = some (.slice v1.A3 v1.n3 v1.c3)) := Lib.hid fun X' h1 => PT.out X' X' h1 (Turns.refl _ _)
  have E0 : Hid (Below Y.heap.size Y Y.drew) := Lib.hid (Below.refl _ _).drew
  have HF : Hid (∀ X', Below Y.heap.size Y X' → Calls Tryd.prog 28 #[.slice Al m cl] X' (PairP X' (headOf l))) := Lib.hid fun X' h1 => first_any X' _ Al m cl l (HY.out.2.2.1.hl.below h1)
  have HP : Hid (∀ X', Below Y.heap.size Y X' → Calls Tryd.prog 26 #[.pointer (some ⟨g, 0, none⟩), .agg #[.int .i64 (headOf l).1, .int .i64 (headOf l).2], .agg #[.bool d.leaf, .slice v1.A1 v1.n1 v1.c1, .slice v1.A2 v1.n2 v1.c2, .slice v1.A3 v1.n3 v1.c3]] X' (PutP X' P g L (headOf l) d)) := Lib.hid fun X' h1 => arPut_any X' P _ g L (HY.out.2.2.2.1.ar.below h1) v1 d (HY.out.2.2.2.2.1.below h1) (by have := HM.out.2.2.1.len; omega) _ _
  go_region_held3 (fun X' => X'.cell? ⟨q, 5, none⟩ = some (.slice Al m cl) ∧ X'.cell? ⟨nb, 0, none⟩ = some (.bool d.leaf) ∧ X'.cell? ⟨nb, 1, none⟩ = some (.slice v1.A1 v1.n1 v1.c1) ∧ X'.cell? ⟨nb, 2, none⟩ = some (.slice v1.A2 v1.n2 v1.c2) ∧ X'.cell? ⟨nb, 3, none⟩ = some (.slice v1.A3 v1.n3 v1.c3)) (first | with_reducible exact PA.out _ E0.out | with_reducible exact PA.out _ E1.out | with_reducible exact E2.out) (first
    | (go_at_call 28; (with_reducible refine (HF.out _ E0.out).mono ?_); rintro e X1 ⟨rfl, bb⟩; have E1 := Lib.hid (below_next E0.out bb); clear bb)
    | (go_at_call 26; (with_reducible refine (HP.out _ E1.out).mono ?_); rintro e Z hZ; obtain ⟨r1, L1, P1, rfl, hT1, hf1, hr, hTZ, hPY⟩ := (HY.out.2.2.2.1.below E1.out).putted HM.out.2.2.1 hZ; have E2 := Lib.hid (PT.out _ _ E1.out hTZ); have O2 := Lib.hid (And.intro hT1 (And.intro hf1 (And.intro hr (And.intro hTZ hPY)))); clear hZ hT1 hf1 hr hTZ hPY))
  have hTY : Turns P Y Z := (Turns.of_below E1.out).trans O2.out.2.2.2.1
  have hP1 : ∀ b, P1 b → P b ∨ Y.heap.size ≤ b := fun b hb => (O2.out.2.2.2.2 b hb).elim .inl (fun e => .inr (Nat.le_trans E1.out.size e.1))
  have hPlt := HM.out.2.2.2.plt
  have hPge := HM.out.2.2.2.pge
  have hRlt := HM.out.2.2.2.rlt
  have hw0 := HM.out.2.2.2.bel.size
  have nWnb := HY.out.2.2.2.2.2.2.2.2
  have nY : Y.heap.size = nb + 1 := by
    rw [← HY.out.1, ← HY.out.2.2.2.2.2.2.2.1]
    simp
  have ea := HK.out.2.1
  have eq := HK.out.2.2.1
  have es := HK.out.2.2.2.1
  have eW := HK.out.2.2.2.2.2
  have hDZ := HY.out.2.2.1.turn hTY (fun b hb => by have h1 := hPlt b hb; have h2 := hPge b hb; exact ⟨h2, by omega, by omega, by omega⟩)
  have hNZ := HY.out.2.2.2.2.1.turn hTY (fun b hb hp => by have := hPlt b hp; omega)
  have hWZ : Wr Z W.heap.size v1 := ⟨HY.out.2.2.2.2.2.1.a1.turn hTY (fun b hb hp => by have := hPlt b hp; omega), HY.out.2.2.2.2.2.1.a2.turn hTY (fun b hb hp => by have := hPlt b hp; omega), HY.out.2.2.2.2.2.1.a3.turn hTY (fun b hb hp => by have := hPlt b hp; omega)⟩
  have HS := Lib.hid (spoil_any Z _ W.heap.size v1 d d.leaf hNZ hWZ)
  have HG : Hid (∀ Z2, Turns (fun b => W.heap.size ≤ b ∧ b < nb) Z Z2 → Two w0 Z2 g L1 L A n P1 R ∧ DoAt w0 Z2 a q s A n c x v d Al m cl l) := Lib.hid fun Z2 ht => ⟨O2.out.1.off ht (fun b hb => ⟨fun e => (hP1 b e).elim (fun h1 => by have := hPlt b h1; omega) (fun h1 => by omega), fun e => by have := hRlt b e; omega, by omega⟩), hDZ.turn ht (fun b hb => ⟨by omega, by omega, by omega, by omega⟩)⟩
  have HTw := Lib.hid ((Turns.of_below (below_next HK.out.2.2.2.2.1 HY.out.2.1)).trans hTY : Turns P w Z)
  have HPl := Lib.hid (And.intro hP1 (And.intro hPlt (And.intro hRlt (And.intro hw0 (And.intro nY (And.intro nWnb (And.intro es eW)))))))
  obtain ⟨-, x0, x1, x2, x3⟩ := E2.out
  clear hTY hP1 hPlt hPge hRlt hw0 nWnb nY ea eq es eW hDZ hNZ hWZ HF HP PA PT E0
  go_wp2_with fail
  refine HS.out.mono ?_
  clear x0 x1 x2 x3
  rintro e Z2 ⟨rfl, hSp⟩
  have G2 := Lib.hid (HG.out Z2 hSp)
  have HT2 : Hid (Turns P w Z2) := Lib.hid (HTw.out.then hSp (fun y hy e => by have h1 := HK.out.2.2.2.2.1.size; omega))
  clear hSp
  go_upto_region 6 with fail
  go_cut [10, 11] (fun p e wx => ∃ (b : Nat) (A2 : Option Addr) (n2 c2 : Nat) (r2 : Int) (M : List Ar.Pl), p = .pointer (some ⟨b, 0, none⟩) ∧ e = .int .i64 r2 ∧ RefP Z2 R A2 n2 c2 M b wx ∧ ((∃ (i : Nat) (p : Ar.Pl), headOf l = ((i : Int), (p.turn : Int)) ∧ L[i]? = some p ∧ p.used = true ∧ r2 = 0 ∧ M = L.set i ⟨true, p.turn, d⟩) ∨ (Ar.has L (headOf l) = false ∧ r2 = 110 ∧ M = L)))
  case first =>
    have hRZ : ∀ x, R x → x < Z2.heap.size := fun x hx => G2.out.1.rlt x hx
    have PA : Hid (∀ X', Below Z2.heap.size Z2 X' → Below Z2.heap.size Z2 X' ∧ X'.cell? ⟨a, 0, none⟩ = some (.slice A n c) ∧ X'.cell? ⟨q, 1, none⟩ = some (.bool d.leaf) ∧ X'.cell? ⟨q, 2, none⟩ = some (.slice v.A1 v.n1 v.c1) ∧ X'.cell? ⟨q, 3, none⟩ = some (.slice v.A2 v.n2 v.c2) ∧ X'.cell? ⟨q, 4, none⟩ = some (.slice v.A3 v.n3 v.c3) ∧ X'.cell? ⟨q, 5, none⟩ = some (.slice Al m cl)) := Lib.hid fun X' hX => by
      have h1 := G2.out.2.below hX
      exact ⟨hX, h1.box.cell 0, h1.act.cell 1, h1.act.cell 2, h1.act.cell 3, h1.act.cell 4, h1.act.cell 5⟩
    have PB : Hid (∀ X', (Below Z2.heap.size Z2 X' ∧ X'.cell? ⟨a, 0, none⟩ = some (.slice A n c) ∧ X'.cell? ⟨q, 1, none⟩ = some (.bool d.leaf) ∧ X'.cell? ⟨q, 2, none⟩ = some (.slice v.A1 v.n1 v.c1) ∧ X'.cell? ⟨q, 3, none⟩ = some (.slice v.A2 v.n2 v.c2) ∧ X'.cell? ⟨q, 4, none⟩ = some (.slice v.A3 v.n3 v.c3) ∧ X'.cell? ⟨q, 5, none⟩ = some (.slice Al m cl)) → Below Z2.heap.size Z2 X') := Lib.hid fun X' h => h.1
    have P4 : Hid (∀ (X' : World) (b : Nat), Z2.heap.size ≤ b → (Below Z2.heap.size Z2 X' ∧ X'.cell? ⟨a, 0, none⟩ = some (.slice A n c) ∧ X'.cell? ⟨q, 1, none⟩ = some (.bool d.leaf) ∧ X'.cell? ⟨q, 2, none⟩ = some (.slice v.A1 v.n1 v.c1) ∧ X'.cell? ⟨q, 3, none⟩ = some (.slice v.A2 v.n2 v.c2) ∧ X'.cell? ⟨q, 4, none⟩ = some (.slice v.A3 v.n3 v.c3) ∧ X'.cell? ⟨q, 5, none⟩ = some (.slice Al m cl)) → ∀ u : Value, Below Z2.heap.size Z2 (X'.setCell ⟨b, 0, none⟩ u) ∧ (X'.setCell ⟨b, 0, none⟩ u).cell? ⟨a, 0, none⟩ = some (.slice A n c) ∧ (X'.setCell ⟨b, 0, none⟩ u).cell? ⟨q, 1, none⟩ = some (.bool d.leaf) ∧ (X'.setCell ⟨b, 0, none⟩ u).cell? ⟨q, 2, none⟩ = some (.slice v.A1 v.n1 v.c1) ∧ (X'.setCell ⟨b, 0, none⟩ u).cell? ⟨q, 3, none⟩ = some (.slice v.A2 v.n2 v.c2) ∧ (X'.setCell ⟨b, 0, none⟩ u).cell? ⟨q, 4, none⟩ = some (.slice v.A3 v.n3 v.c3) ∧ (X'.setCell ⟨b, 0, none⟩ u).cell? ⟨q, 5, none⟩ = some (.slice Al m cl)) := Lib.hid fun X' b hb hX u => PA.out _ (hX.1.setCell (p := ⟨b, 0, none⟩) hb u)
    have E0 : Hid (Below Z2.heap.size Z2 Z2.drew) := Lib.hid (Below.refl _ _).drew
    have E0b : Hid (Below Z2.heap.size Z2 (Z2.alloc (.cells #[.slice none 0 0] 29)).drew) := Lib.hid ((Below.refl _ _).alloc (Nat.le_refl _) _).drew
    have HF : Hid (∀ X', (Below Z2.heap.size Z2 X' ∧ X'.cell? ⟨a, 0, none⟩ = some (.slice A n c) ∧ X'.cell? ⟨q, 1, none⟩ = some (.bool d.leaf) ∧ X'.cell? ⟨q, 2, none⟩ = some (.slice v.A1 v.n1 v.c1) ∧ X'.cell? ⟨q, 3, none⟩ = some (.slice v.A2 v.n2 v.c2) ∧ X'.cell? ⟨q, 4, none⟩ = some (.slice v.A3 v.n3 v.c3) ∧ X'.cell? ⟨q, 5, none⟩ = some (.slice Al m cl)) → Calls Tryd.prog 28 #[.slice Al m cl] X' (PairP X' (headOf l))) := Lib.hid fun X' h1 => first_any X' _ Al m cl l (G2.out.2.hl.below h1.1)
    have HH : Hid (∀ X', (Below Z2.heap.size Z2 X' ∧ X'.cell? ⟨a, 0, none⟩ = some (.slice A n c) ∧ X'.cell? ⟨q, 1, none⟩ = some (.bool d.leaf) ∧ X'.cell? ⟨q, 2, none⟩ = some (.slice v.A1 v.n1 v.c1) ∧ X'.cell? ⟨q, 3, none⟩ = some (.slice v.A2 v.n2 v.c2) ∧ X'.cell? ⟨q, 4, none⟩ = some (.slice v.A3 v.n3 v.c3) ∧ X'.cell? ⟨q, 5, none⟩ = some (.slice Al m cl)) → Calls Tryd.prog 15 #[.agg #[.int .i64 (headOf l).1, .int .i64 (headOf l).2]] X' (PairP X' (headOf l))) := Lib.hid fun X' _ => handle_any X' _ _
    have HN : Hid (∀ X', (Below Z2.heap.size Z2 X' ∧ X'.cell? ⟨a, 0, none⟩ = some (.slice A n c) ∧ X'.cell? ⟨q, 1, none⟩ = some (.bool d.leaf) ∧ X'.cell? ⟨q, 2, none⟩ = some (.slice v.A1 v.n1 v.c1) ∧ X'.cell? ⟨q, 3, none⟩ = some (.slice v.A2 v.n2 v.c2) ∧ X'.cell? ⟨q, 4, none⟩ = some (.slice v.A3 v.n3 v.c3) ∧ X'.cell? ⟨q, 5, none⟩ = some (.slice Al m cl)) → Calls Tryd.prog 17 #[.agg #[.bool d.leaf, .slice v.A1 v.n1 v.c1, .slice v.A2 v.n2 v.c2, .slice v.A3 v.n3 v.c3]] X' (NdNew X' d)) := Lib.hid fun X' h1 => node_any X' _ v d (G2.out.2.nd.below h1.1)
    have HP : Hid (∀ X', (Below Z2.heap.size Z2 X' ∧ X'.cell? ⟨a, 0, none⟩ = some (.slice A n c) ∧ X'.cell? ⟨q, 1, none⟩ = some (.bool d.leaf) ∧ X'.cell? ⟨q, 2, none⟩ = some (.slice v.A1 v.n1 v.c1) ∧ X'.cell? ⟨q, 3, none⟩ = some (.slice v.A2 v.n2 v.c2) ∧ X'.cell? ⟨q, 4, none⟩ = some (.slice v.A3 v.n3 v.c3) ∧ X'.cell? ⟨q, 5, none⟩ = some (.slice Al m cl)) → ∀ v2 b', NdIn X' (fun x => Z2.heap.size ≤ x ∧ x ≠ b') v2 d → Calls Tryd.prog 30 #[.agg #[.slice A n c], .agg #[.int .i64 (headOf l).1, .int .i64 (headOf l).2], .agg #[.bool d.leaf, .slice v2.A1 v2.n1 v2.c1, .slice v2.A2 v2.n2 v2.c2, .slice v2.A3 v2.n3 v2.c3]] X' (RPutP X' (fun x => R x ∨ (Z2.heap.size ≤ x ∧ x ≠ b')) L (headOf l) d)) := Lib.hid fun X' h1 v2 _ h2 => refPut_any X' _ A n c L ((G2.out.1.pl.below h1.1).mono (fun _ _ e => .inl e)) (by have h1 := G2.out.1.pl.len; have h2 := HM.out.2.2.1.len; omega) _ _ v2 d (h2.mono (fun _ _ e => .inr e))
    go_region_held3 (fun X' => Below Z2.heap.size Z2 X' ∧ X'.cell? ⟨a, 0, none⟩ = some (.slice A n c) ∧ X'.cell? ⟨q, 1, none⟩ = some (.bool d.leaf) ∧ X'.cell? ⟨q, 2, none⟩ = some (.slice v.A1 v.n1 v.c1) ∧ X'.cell? ⟨q, 3, none⟩ = some (.slice v.A2 v.n2 v.c2) ∧ X'.cell? ⟨q, 4, none⟩ = some (.slice v.A3 v.n3 v.c3) ∧ X'.cell? ⟨q, 5, none⟩ = some (.slice Al m cl)) (first | with_reducible exact PA.out _ E.out | with_reducible exact PA.out _ (Below.alloc E.out (Below.size E.out) _) | with_reducible exact PA.out _ E0.out | with_reducible exact PA.out _ E0b.out | with_reducible exact PA.out _ (Below.alloc (PB.out _ (by assumption)) (Below.size (PB.out _ (by assumption))) _) | with_reducible exact PA.out _ (Below.setCell E.out (p := ⟨_, 0, none⟩) N.out.2.2 _) | exact PA.out _ (Below.setCell E.out (p := ⟨_, 0, none⟩) N.out.2.2 _) | fail) (first
      | (go_at_call 28; (with_reducible refine (HF.out _ (by assumption)).mono ?_); rintro e X1 ⟨rfl, bb⟩; (try first | (have N := Lib.hid (Nb.new0 bb)) | (have N := Lib.hid (Nb.new E.out.size bb)) | (have N := Lib.hid (Nb.next N.out bb))); have E := Lib.hid (below_next (PB.out _ (by assumption)) bb); (try first | (have NV := Lib.hid (NV.out.below bb)) | (have NV := Lib.hid ((NV.out.skipA _).below bb))); clear bb)
      | (go_at_call 15; (with_reducible refine (HH.out _ (by assumption)).mono ?_); rintro e X1 ⟨rfl, bb⟩; (try first | (have N := Lib.hid (Nb.new0 bb)) | (have N := Lib.hid (Nb.new E.out.size bb)) | (have N := Lib.hid (Nb.next N.out bb))); have E := Lib.hid (below_next (PB.out _ (by assumption)) bb); (try first | (have NV := Lib.hid (NV.out.below bb)) | (have NV := Lib.hid ((NV.out.skipA _).below bb))); clear bb)
      | (go_at_call 17; (with_reducible refine (HN.out _ (by assumption)).mono ?_); rintro e X1 ⟨v2, rfl, hv2, bb⟩; simp only [NdV.val]; (try first | (have N := Lib.hid (Nb.new0 bb)) | (have N := Lib.hid (Nb.new E.out.size bb)) | (have N := Lib.hid (Nb.next N.out bb))); have E := Lib.hid (below_next (PB.out _ (by assumption)) bb); (first | (have NV := Lib.hid (NdIn.miss hv2 (Below.size (PB.out _ (by assumption))) N.out.2.1)) | (have NV := Lib.hid (NdIn.mono hv2 (G := fun x => Z2.heap.size ≤ x) (fun _ _ e => Nat.le_trans (Below.size (PB.out _ (by assumption))) e)))); clear bb hv2)
      | (go_at_call 30; (first | (with_reducible refine (HP.out _ (by assumption) _ _ NV.out).mono ?_) | (with_reducible refine (HP.out _ (by assumption) _ _ NV.out.skip).mono ?_) | (with_reducible refine (HP.out _ (by assumption) _ _ (NV.out.skipA _)).mono ?_)); rintro e X2 hX2; obtain ⟨r2, M, hr2, A2, n2, c2, rfl, hP2, bb⟩ := rput_one hX2; clear hX2; have O2 := Lib.hid (And.intro (Below.size (PB.out _ (by assumption))) (And.intro hr2 hP2)); (try first | (have N := Lib.hid (Nb.new0 bb)) | (have N := Lib.hid (Nb.new E.out.size bb)) | (have N := Lib.hid (Nb.next N.out bb))); have E := Lib.hid (below_next (PB.out _ (by assumption)) bb); clear bb hr2 hP2; (try (have z0 := N.out.1.cell 0; have y0 := N.out.1.frozen 0; simp only [List.getElem?_toArray, List.getElem?_cons_zero] at z0))))
    all_goals go_wp2_with fail
    all_goals go_meet
    all_goals (case rel => first
      | exact ⟨_, A2, n2, c2, r2, M, rfl, rfl, RefP.new O2.out.1 E.out O2.out.2.2, O2.out.2.1⟩
      | exact ⟨_, A2, n2, c2, r2, M, rfl, rfl, RefP.set O2.out.1 E.out O2.out.2.2 hRZ N.out, O2.out.2.1⟩)
  case rest =>
    obtain ⟨b, A2, n2, c2, r2, M, rfl, rfl, hRef, hr2⟩ := hcut
    obtain ⟨rfl, rfl⟩ := put_agree O2.out.2.2.1 hr2
    have hT2 := G2.out.1.ref hRef.bel hRef.pl
    have hresW := (G2.out.2.below hRef.bel).res
    have z0 := hRef.box.cell 0
    have y0 := hresW.cell 0
    have f0 := hresW.frozen 0
    have hee : (r2 == r2) = true := by simp
    simp only [List.getElem?_toArray, List.getElem?_cons_zero] at z0 y0
    obtain ⟨V, hV⟩ : ∃ V, wc.setCell ⟨s, 0, none⟩ (.slice A2 n2 c2) = V := ⟨_, rfl⟩
    have tV : Turns (fun x => x = s) wc V := hV ▸ (Turns.refl (fun x => x = s) wc).setCell (g := s) _ _ (fun _ => rfl)
    have bV : Blk V s 29 #[.slice A2 n2 c2] := hV ▸ hresW.set_ 0 _
    have x0 := bV.cell 0
    simp only [List.getElem?_toArray, List.getElem?_cons_zero] at x0
    have hsZ := G2.out.2.res.lt
    have HE := Lib.hid (And.intro hT2 (And.intro tV (And.intro hV O2.out.2.1)))
    have HTV : Hid (Turns P w V) := Lib.hid ((HT2.out.trans (Turns.of_below hRef.bel)).then tV (fun y hy e => by have h1 := HPl.out.2.2.2.2.2.2.1; subst e; omega))
    clear hT2 tV hV bV hresW hRef hr2
    go_wp2_with fail
    change bodyPost _ _ _ _ _ (wc.setCell ⟨s, 0, none⟩ (.slice A2 n2 c2))
    rw [HE.out.2.2.1]
    refine bodyPost_ret (v := .tuple #[.agg #[.slice A2 n2 c2], .bool true]) ?_ rfl ⟨M, A2, n2, c2, _, _, rfl, HE.out.1.off HE.out.2.1 ?_, HE.out.2.2.2, HTV.out, ?_, ?_⟩
    · simp [results, Tryd.results11, go_sem, x0]
    · rintro y rfl
      obtain ⟨hP1, hPlt, hRlt, hw0, nY, nWnb, es, eW⟩ := HPl.out
      refine ⟨fun e => ?_, fun e => ?_, by omega⟩
      · rcases hP1 _ e with h1 | h1
        · have := hPlt _ h1
          omega
        · omega
      · rcases e.1 with h1 | h1
        · have := hRlt _ h1
          omega
        · omega
    · intro b hb
      have hs1 := HK.out.2.2.2.2.1.size
      have hs2 := HY.out.2.1.size
      rcases HPl.out.1 b hb with h1 | h1
      · exact .inl h1
      · exact .inr (by omega)
    · rintro b ⟨h1 | h1, -⟩
      · exact .inl h1
      · have hs3 := HT2.out.size
        exact .inr (by omega)
end Go.Proofs.YtgpcpjjdneimfaaDoor
