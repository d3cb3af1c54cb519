/- Layer 11, the program: Get. -/
import Derived.Test.YtgpcpjjdneimfaaDoorArG
import Derived.Test.YtgpcpjjdneimfaaDoorHeld
import Derived.Laws.ResultCell
namespace Go.Proofs.YtgpcpjjdneimfaaDoor
open Go.ChangeShapes Go.WideShapes Go.ChangeAt Go.RowKit

/-- A node's four cells, stored. -/
def setNode (w : World) (r o : Nat) (u0 u1 u2 u3 : Value) : World := (((w.setCell ⟨r, o, none⟩ u0).setCell ⟨r, o + 1, none⟩ u1).setCell ⟨r, o + 2, none⟩ u2).setCell ⟨r, o + 3, none⟩ u3
theorem setNode_turn {F : Nat → Prop} {w w' : World} {r : Nat} (h : Turns F w w') (o : Nat) (u0 u1 u2 u3 : Value) (hF : r < w.heap.size → F r) : Turns F w (setNode w' r o u0 u1 u2 u3) :=
  (((h.setCell o u0 hF).setCell (o + 1) u1 hF).setCell (o + 2) u2 hF).setCell (o + 3) u3 hF
theorem Blk.node {w : World} {r : Nat} {T : TypeId} {a0 a1 a2 a3 : Value} (h : Blk w r T #[a0, a1, a2, a3]) (u0 u1 u2 u3 : Value) : Blk (setNode w r 0 u0 u1 u2 u3) r T #[u0, u1, u2, u3] :=
  (((h.set_ 0 u0).set_ 1 u1).set_ 2 u2).set_ 3 u3
def NdV.blank : NdV := ⟨none, 0, 0, none, 0, 0, none, 0, 0⟩
def Got (L : List Ar.Pl) (x : Int × Int) (v : NdV) (d : Ar.Nd) (r : Int) : Prop :=
  (Ar.has L x = true ∧ r = 0 ∧ ∃ p, L[x.1.toNat]? = some p ∧ d = p.nd) ∨ (Ar.has L x = false ∧ r = 110 ∧ v = NdV.blank ∧ d = Ar.Nd.blank)
def GetP (w : World) (L : List Ar.Pl) (x : Int × Int) (e : Ending) (w' : World) : Prop :=
  ∃ (v : NdV) (d : Ar.Nd) (r : Int), e = .returned (.tuple #[v.val d.leaf, .int .i64 r]) ∧ NdIn w' (fun b => w.heap.size ≤ b) v d ∧ Below w.heap.size w w' ∧ Got L x v d r
def GetPW (w : World) (L : List Ar.Pl) (x : Int × Int) (e : Ending) (w' : World) : Prop :=
  ∃ (v : NdV) (d : Ar.Nd) (r : Int), e = .returned (.tuple #[v.val d.leaf, .int .i64 r]) ∧ NdIn w' (fun b => w.heap.size ≤ b) v d ∧ Below w.heap.size w w' ∧ Got L x v d r ∧ Wr w' w.heap.size v
set_option maxRecDepth 100000 in
theorem arGetW_any (w : World) (P : Nat → Prop) (g : Nat) (L : List Ar.Pl) (h : ArIn w P g L) (hl : L.length ≤ 1000000) (x1 x2 : Int) : Calls Tryd.prog 13 #[.pointer (some ⟨g, 0, none⟩), .agg #[.int .i64 x1, .int .i64 x2]] w (GetPW w L (x1, x2)) := by
  obtain ⟨A, c, mv, f, V, h⟩ := h
  obtain ⟨W, hW⟩ : ∃ W, (w.alloc (.cells #[.int .i64 x1, .int .i64 x2] 42)).alloc (.cells #[.bool false, .slice none 0 0, .slice none 0 0, .slice none 0 0] 36) = W := ⟨_, rfl⟩
  obtain ⟨r, hr⟩ : ∃ r, w.heap.size + 1 = r := ⟨_, rfl⟩
  obtain ⟨a, ha⟩ : ∃ a, w.heap.size = a := ⟨_, rfl⟩
  have hbox : Blk W a 42 #[.int .i64 x1, .int .i64 x2] := by
    rw [← hW, ← ha]
    exact (Blk.new w _ _).below ((Below.refl _ _).alloc (Nat.le_refl _) _) (by simp)
  have hB : Below w.heap.size w W := hW ▸ ((Below.refl _ _).alloc (Nat.le_refl _) _).alloc (by simp) _
  have hres : Blk W r 36 #[.bool false, .slice none 0 0, .slice none 0 0, .slice none 0 0] := by
    rw [← hW, ← hr]
    have := Blk.new (w.alloc (.cells #[.int .i64 x1, .int .i64 x2] 42)) 36 #[.bool false, .slice none 0 0, .slice none 0 0, .slice none 0 0]
    simpa using this
  have hM := h.below hB
  have HF := Lib.hid (hM.find hl x1 x2)
  have H := Lib.hid (And.intro hW (And.intro hr (And.intro ha (And.intro hB (And.intro hres (And.intro hM hbox))))))
  clear hM hres hB h hr hW ha hbox
  go_enter Tryd.func13, Tryd.ntmps13
  go_upto_region 1 with fail
  rw [H.out.1, H.out.2.1, H.out.2.2.1]
  have d0 := H.out.2.2.2.2.2.2.cell 0
  have d1 := H.out.2.2.2.2.2.2.cell 1
  simp only [List.getElem?_toArray, List.getElem?_cons_zero, List.getElem?_cons_succ] at d0 d1
  go_wp2_with fail
  refine HF.out.mono ?_
  rintro e w1 (⟨hh, b, rfl, rfl, hb⟩ | ⟨hh, rfl, hb⟩)
  · obtain ⟨i, p, e1, hp, ht, hu⟩ := (has_iff L x1 x2).1 hh
    subst e1
    have hM1 := H.out.2.2.2.2.2.1.below hb
    have hres := H.out.2.2.2.2.1.below hb H.out.2.2.2.2.1.lt
    obtain ⟨b', v, hb', hv, hc⟩ := hM1.at_ hp
    obtain rfl : b = b' := by cases hb'; rfl
    obtain ⟨z0, z1, z2, z3, z4, z5⟩ := fits_nodeIn hc
    have hnd := hM1.nd i p v hp hv
    have HC := Lib.hid (nodeCopiedW_any w1 _ v p.nd hnd)
    have y0 := hres.cell 0
    have y1 := hres.cell 1
    have y2 := hres.cell 2
    have y3 := hres.cell 3
    simp only [List.getElem?_toArray, List.getElem?_cons_zero, List.getElem?_cons_succ] at y0 y1 y2 y3
    have HH := Lib.hid (And.intro hh (And.intro hp (And.intro hb hres)))
    clear hh hp hb hres hM1 hc hv hnd hb' ht hu
    have f0 := HH.out.2.2.2.frozen 0
    have f1 := HH.out.2.2.2.frozen 1
    have f2 := HH.out.2.2.2.frozen 2
    have f3 := HH.out.2.2.2.frozen 3
    go_wp2_with fail
    refine HC.out.mono ?_
    rintro e w2 ⟨v2, rfl, hnd, hb2, hwr⟩
    obtain ⟨A1, n1, c1, A2, n2, c2, A3, n3, c3⟩ := v2
    have hr2 := HH.out.2.2.2.below hb2 HH.out.2.2.2.lt
    clear y0 y1 y2 y3 f0 f1 f2 f3 z0 z1 z2 z3 z4 z5
    have y0 := hr2.cell 0
    have y1 := hr2.cell 1
    have y2 := hr2.cell 2
    have y3 := hr2.cell 3
    have f0 := hr2.frozen 0
    have f1 := hr2.frozen 1
    have f2 := hr2.frozen 2
    have f3 := hr2.frozen 3
    simp only [List.getElem?_toArray, List.getElem?_cons_zero, List.getElem?_cons_succ] at y0 y1 y2 y3
    have HN := Lib.hid (And.intro hnd (And.intro hb2 hr2))
    have HWR := Lib.hid hwr
    clear hnd hb2 hr2 hwr
    obtain ⟨lf, hlf⟩ : ∃ lf, p.nd.leaf = lf := ⟨_, rfl⟩
    unfold NdV.val
    rw [hlf]
    have HL := Lib.hid hlf
    clear hlf
    go_wp2_with fail
    have hU := HN.out.2.2.node (.bool lf) (.slice A1 n1 c1) (.slice A2 n2 c2) (.slice A3 n3 c3)
    have hT : Turns (fun b => b = r) w2 (setNode w2 r 0 (.bool lf) (.slice A1 n1 c1) (.slice A2 n2 c2) (.slice A3 n3 c3)) := setNode_turn (Turns.refl _ _) 0 _ _ _ _ (fun _ => rfl)
    obtain ⟨U, hUe⟩ : ∃ U, setNode w2 r 0 (.bool lf) (.slice A1 n1 c1) (.slice A2 n2 c2) (.slice A3 n3 c3) = U := ⟨_, rfl⟩
    rw [hUe] at hU hT
    change bodyPost _ _ _ _ _ (setNode w2 r 0 (.bool lf) (.slice A1 n1 c1) (.slice A2 n2 c2) (.slice A3 n3 c3))
    rw [hUe]
    have hw1 : Below w.heap.size w w1 := H.out.2.2.2.1.trans (HH.out.2.2.1.mono H.out.2.2.2.1.size)
    have hbU : Below w.heap.size w U := ((Turns.of_below (F := fun b => b = r) (hw1.trans (HN.out.2.1.mono hw1.size))).then hT (fun _ _ e => e)).below (Nat.le_refl _) (fun g e => by have := H.out.2.1; omega)
    have hr1 := HH.out.2.2.2.lt
    have hnd : NdIn U (fun b => w.heap.size ≤ b) ⟨A1, n1, c1, A2, n2, c2, A3, n3, c3⟩ p.nd := (HN.out.1.turn hT (fun b hb e => by omega)).mono (fun b _ hb => Nat.le_trans hw1.size hb)
    have e0 := hU.cell 0
    have e1 := hU.cell 1
    have e2 := hU.cell 2
    have e3 := hU.cell 3
    simp only [List.getElem?_toArray, List.getElem?_cons_zero, List.getElem?_cons_succ] at e0 e1 e2 e3
    refine bodyPost_ret (v := .tuple #[.agg #[.bool lf, .slice A1 n1 c1, .slice A2 n2 c2, .slice A3 n3 c3], .int .i64 0]) ?_ rfl ⟨⟨A1, n1, c1, A2, n2, c2, A3, n3, c3⟩, p.nd, 0, by rw [HL.out]; rfl, hnd, hbU, .inl ⟨HH.out.1, rfl, p, HH.out.2.1, rfl⟩, ⟨(HWR.out.a1.turn hT (fun b hb e => by omega)).lower hw1.size, (HWR.out.a2.turn hT (fun b hb e => by omega)).lower hw1.size, (HWR.out.a3.turn hT (fun b hb e => by omega)).lower hw1.size⟩⟩
    simp [results, Tryd.results13, go_sem, e0, e1, e2, e3]
  · have hres := H.out.2.2.2.2.1.below hb H.out.2.2.2.2.1.lt
    have HH := Lib.hid (And.intro hh (And.intro hb hres))
    have y0 := hres.cell 0
    have y1 := hres.cell 1
    have y2 := hres.cell 2
    have y3 := hres.cell 3
    have f0 := hres.frozen 0
    have f1 := hres.frozen 1
    have f2 := hres.frozen 2
    have f3 := hres.frozen 3
    simp only [List.getElem?_toArray, List.getElem?_cons_zero, List.getElem?_cons_succ] at y0 y1 y2 y3
    clear hh hb hres
    go_wp2_with fail
    have hU := HH.out.2.2.node (.bool false) (.slice none 0 0) (.slice none 0 0) (.slice none 0 0)
    have hT : Turns (fun b => b = r) w1 (setNode w1 r 0 (.bool false) (.slice none 0 0) (.slice none 0 0) (.slice none 0 0)) := setNode_turn (Turns.refl _ _) 0 _ _ _ _ (fun _ => rfl)
    obtain ⟨U, hUe⟩ : ∃ U, setNode w1 r 0 (.bool false) (.slice none 0 0) (.slice none 0 0) (.slice none 0 0) = U := ⟨_, rfl⟩
    rw [hUe] at hU hT
    change bodyPost _ _ _ _ _ (setNode w1 r 0 (.bool false) (.slice none 0 0) (.slice none 0 0) (.slice none 0 0))
    rw [hUe]
    have hbU : Below w.heap.size w U := ((Turns.of_below (F := fun b => b = r) (H.out.2.2.2.1.trans (HH.out.2.1.mono H.out.2.2.2.1.size))).then hT (fun _ _ e => e)).below (Nat.le_refl _) (fun g e => by have := H.out.2.1; omega)
    have e0 := hU.cell 0
    have e1 := hU.cell 1
    have e2 := hU.cell 2
    have e3 := hU.cell 3
    simp only [List.getElem?_toArray, List.getElem?_cons_zero, List.getElem?_cons_succ] at e0 e1 e2 e3
    refine bodyPost_ret (v := .tuple #[.agg #[.bool false, .slice none 0 0, .slice none 0 0, .slice none 0 0], .int .i64 110]) ?_ rfl ⟨NdV.blank, Ar.Nd.blank, 110, rfl, NdIn.blank _ _, hbU, .inr ⟨HH.out.1, rfl, rfl, rfl⟩, ⟨WrA.none _ _, WrA.none _ _, WrA.none _ _⟩⟩
    simp [results, Tryd.results13, go_sem, e0, e1, e2, e3]
theorem arGet_any (w : World) (P : Nat → Prop) (g : Nat) (L : List Ar.Pl) (h : ArIn w P g L) (hl : L.length ≤ 1000000) (x1 x2 : Int) : Calls Tryd.prog 13 #[.pointer (some ⟨g, 0, none⟩), .agg #[.int .i64 x1, .int .i64 x2]] w (GetP w L (x1, x2)) :=
  (arGetW_any w P g L h hl x1 x2).mono fun _ _ ⟨v, d, r, h1, h2, h3, h4, _⟩ => ⟨v, d, r, h1, h2, h3, h4⟩
end Go.Proofs.YtgpcpjjdneimfaaDoor
