/- Layer 11, the program: a node in memory; a node copied. -/
import Derived.Test.YtgpcpjjdneimfaaDoorArC
import Derived.Test.YtgpcpjjdneimfaaDoorAr
namespace Go.Proofs.YtgpcpjjdneimfaaDoor
open Go.ChangeShapes Go.WideShapes Go.ChangeAt Go.RowKit

def strL (l : List ByteArray) : List Value := l.map Value.string
def intL (l : List Int) : List Value := l.map (Value.int .i64)
def hanL (l : List (Int × Int)) : List Value := l.flatMap fun h => [.int .i64 h.1, .int .i64 h.2]
theorem strL_one (l : List ByteArray) : ∀ u ∈ strL l, u.oneCell' = true := by
  intro u hu
  obtain ⟨x, _, rfl⟩ := List.mem_map.1 hu
  rfl
theorem intL_one (l : List Int) : ∀ u ∈ intL l, u.oneCell' = true := by
  intro u hu
  obtain ⟨x, _, rfl⟩ := List.mem_map.1 hu
  rfl
theorem hanL_one (l : List (Int × Int)) : ∀ u ∈ hanL l, u.oneCell' = true := by
  intro u hu
  obtain ⟨x, _, hx⟩ := List.mem_flatMap.1 hu
  simp at hx
  rcases hx with rfl | rfl <;> rfl
theorem hanL_len (l : List (Int × Int)) : (hanL l).length = l.length * 2 := by
  induction l with
  | nil => rfl
  | cons h r ih =>
    have : hanL (h :: r) = .int .i64 h.1 :: .int .i64 h.2 :: hanL r := rfl
    rw [this]
    simp only [List.length_cons, ih]
    omega
/-- A node's value, with its lists. -/
structure NdV where
  A1 : Option Addr
  n1 : Nat
  c1 : Nat
  A2 : Option Addr
  n2 : Nat
  c2 : Nat
  A3 : Option Addr
  n3 : Nat
  c3 : Nat
def NdV.cells (v : NdV) (leaf : Bool) : List Value := [.bool leaf, .slice v.A1 v.n1 v.c1, .slice v.A2 v.n2 v.c2, .slice v.A3 v.n3 v.c3]
def NdV.val (v : NdV) (leaf : Bool) : Value := .agg #[.bool leaf, .slice v.A1 v.n1 v.c1, .slice v.A2 v.n2 v.c2, .slice v.A3 v.n3 v.c3]
/-- The lists of v, in blocks of F, are those of the node. -/
structure NdIn (w : World) (F : Nat → Prop) (v : NdV) (d : Ar.Nd) : Prop where
  keys : Cells w F v.A1 v.n1 1 (strL d.keys)
  kids : Cells w F v.A2 v.n2 2 (hanL d.kids)
  vals : Cells w F v.A3 v.n3 1 (intL d.vals)
  few1 : v.n1 ≤ 1000000
  few2 : v.n2 ≤ 1000000
  few3 : v.n3 ≤ 1000000
section
variable {w w' : World} {F G : Nat → Prop} {v : NdV} {d : Ar.Nd}
theorem NdIn.mono (h : NdIn w F v d) (hF : ∀ b, b < w.heap.size → F b → G b) : NdIn w G v d := ⟨h.keys.mono hF, h.kids.mono hF, h.vals.mono hF, h.few1, h.few2, h.few3⟩
theorem NdIn.turn (h : NdIn w F v d) (ht : Turns G w w') (hd : ∀ b, F b → ¬ G b) : NdIn w' F v d := ⟨h.keys.turn ht hd, h.kids.turn ht hd, h.vals.turn ht hd, h.few1, h.few2, h.few3⟩
theorem NdIn.below (h : NdIn w F v d) (hb : Below w.heap.size w w') : NdIn w' F v d := ⟨h.keys.below hb, h.kids.below hb, h.vals.below hb, h.few1, h.few2, h.few3⟩
theorem NdIn.blank (w : World) (F : Nat → Prop) : NdIn w F ⟨none, 0, 0, none, 0, 0, none, 0, 0⟩ Ar.Nd.blank := ⟨Cells.nil _ _ _ _, Cells.nil _ _ _ _, Cells.nil _ _ _ _, by decide, by decide, by decide⟩
theorem NdIn.len1 (h : NdIn w F v d) : d.keys.length = v.n1 := by have := h.keys.1; simp [strL] at this; omega
theorem NdIn.len2 (h : NdIn w F v d) : d.kids.length = v.n2 := by have := h.kids.1; rw [hanL_len] at this; omega
theorem NdIn.len3 (h : NdIn w F v d) : d.vals.length = v.n3 := by have := h.vals.1; simp [intL] at this; omega
end
/-- A node in memory of the call's own. -/
def NdNew (w : World) (d : Ar.Nd) (e : Ending) (w' : World) : Prop := ∃ v : NdV, e = .returned (v.val d.leaf) ∧ NdIn w' (fun b => w.heap.size ≤ b) v d ∧ Below w.heap.size w w'
/-- The block at A, if there is one, is the call's own, and may be written. -/
def WrA (w : World) (base : Nat) (A : Option Addr) : Prop := ∀ b off s, A = some ⟨b, off, s⟩ → base ≤ b ∧ ∃ t cs, Blk w b t cs
theorem WrA.below {w w' : World} {base : Nat} {A : Option Addr} (h : WrA w base A) (hb : Below w.heap.size w w') : WrA w' base A := fun b off s e => by
  obtain ⟨h1, t, cs, h2⟩ := h b off s e
  exact ⟨h1, t, cs, h2.below hb h2.lt⟩
theorem WrA.turn {w w' : World} {base : Nat} {A : Option Addr} {F : Nat → Prop} (h : WrA w base A) (ht : Turns F w w') (hd : ∀ b, base ≤ b → ¬ F b) : WrA w' base A := fun b off s e => by
  obtain ⟨h1, t, cs, h2⟩ := h b off s e
  exact ⟨h1, t, cs, ht.blk h2 (hd b h1)⟩
theorem WrA.lower {w : World} {base base' : Nat} {A : Option Addr} (h : WrA w base A) (hb : base' ≤ base) : WrA w base' A := fun b off s e => by
  obtain ⟨h1, h2⟩ := h b off s e
  exact ⟨by omega, h2⟩
theorem WrA.of_own {w : World} {base n c s : Nat} {E : TypeId} {A : Option Addr} {xs : List Value} (h : w.ownsRow base E s (.slice A n c) n xs) : WrA w base A := fun b off sp e => by
  rcases h.2 with ⟨hv, _⟩ | ⟨g, cap, cur, hv, hb, hh, _⟩
  · injection hv with h1
    rw [h1] at e
    cases e
  · injection hv with h1
    rw [h1] at e
    injection e with e
    injection e with e
    subst e
    exact ⟨hb, _, _, hh⟩
theorem WrA.none (w : World) (base : Nat) : WrA w base none := fun b off s e => by cases e
structure Wr (w : World) (base : Nat) (v : NdV) : Prop where
  a1 : WrA w base v.A1
  a2 : WrA w base v.A2
  a3 : WrA w base v.A3
/-- .. that may be written over. -/
def NdNewW (w : World) (d : Ar.Nd) (e : Ending) (w' : World) : Prop := ∃ v : NdV, e = .returned (v.val d.leaf) ∧ NdIn w' (fun b => w.heap.size ≤ b) v d ∧ Below w.heap.size w w' ∧ Wr w' w.heap.size v
set_option maxRecDepth 100000 in
theorem nodeCopiedW_any (w : World) (F : Nat → Prop) (v : NdV) (d : Ar.Nd) (h : NdIn w F v d) :
    Calls Tryd.prog 36 #[v.val d.leaf] w (NdNewW w d) := by
  obtain ⟨A1, n1, c1, A2, n2, c2, A3, n3, c3⟩ := v
  obtain ⟨lf, hlf⟩ : ∃ lf, d.leaf = lf := ⟨_, rfl⟩
  obtain ⟨a, ha⟩ : ∃ a, w.heap.size = a := ⟨_, rfl⟩
  rw [hlf]
  have H := Lib.hid (And.intro h (And.intro hlf ha))
  clear h hlf ha
  show Calls Tryd.prog _ #[.agg #[.bool lf, .slice A1 n1 c1, .slice A2 n2 c2, .slice A3 n3 c3]] w _
  go_enter Tryd.func36, Tryd.ntmps36
  go_upto_region 1 with fail
  obtain ⟨V0, hV0⟩ : ∃ V0, ((w.alloc (.cells #[.bool lf, .slice A1 n1 c1, .slice A2 n2 c2, .slice A3 n3 c3] 36)).alloc (.cells #[.bool false, .slice none 0 0, .slice none 0 0, .slice none 0 0] 36)) = V0 := ⟨_, rfl⟩
  obtain ⟨r, hr⟩ : ∃ r, w.heap.size + 1 = r := ⟨_, rfl⟩
  have ha := H.out.2.2
  rw [hV0, hr, ha]
  have hw0 : Below w.heap.size w V0 := hV0 ▸ ((Below.refl _ _).alloc (Nat.le_refl _) _).alloc (by simp) _
  have hbox : Blk V0 a 36 #[.bool lf, .slice A1 n1 c1, .slice A2 n2 c2, .slice A3 n3 c3] := by
    rw [← hV0, ← ha]
    exact (Blk.new w _ _).below ((Below.refl _ _).alloc (Nat.le_refl _) _) (by simp)
  have hres : Blk V0 r 36 #[.bool false, .slice none 0 0, .slice none 0 0, .slice none 0 0] := by
    rw [← hV0, ← hr]
    have := Blk.new (w.alloc (.cells #[.bool lf, .slice A1 n1 c1, .slice A2 n2 c2, .slice A3 n3 c3] 36)) 36 #[.bool false, .slice none 0 0, .slice none 0 0, .slice none 0 0]
    simpa using this
  have P : Hid (∀ W, Below V0.heap.size V0 W → (W.cell? ⟨a, 0, none⟩ = some (.bool lf) ∧ W.cell? ⟨a, 1, none⟩ = some (.slice A1 n1 c1) ∧ W.cell? ⟨a, 2, none⟩ = some (.slice A2 n2 c2) ∧ W.cell? ⟨a, 3, none⟩ = some (.slice A3 n3 c3))) := Lib.hid fun W hW =>
    have h1 := hbox.below hW hbox.lt
    ⟨h1.cell 0, h1.cell 1, h1.cell 2, h1.cell 3⟩
  have har : a ≠ r := by omega
  have P4 : Hid (∀ W, Below V0.heap.size V0 W → ∀ u0 u1 u2 u3, (((((W.setCell ⟨r, 0, none⟩ u0).setCell ⟨r, 1, none⟩ u1).setCell ⟨r, 2, none⟩ u2).setCell ⟨r, 3, none⟩ u3).cell? ⟨a, 0, none⟩ = some (.bool lf) ∧ ((((W.setCell ⟨r, 0, none⟩ u0).setCell ⟨r, 1, none⟩ u1).setCell ⟨r, 2, none⟩ u2).setCell ⟨r, 3, none⟩ u3).cell? ⟨a, 1, none⟩ = some (.slice A1 n1 c1) ∧ ((((W.setCell ⟨r, 0, none⟩ u0).setCell ⟨r, 1, none⟩ u1).setCell ⟨r, 2, none⟩ u2).setCell ⟨r, 3, none⟩ u3).cell? ⟨a, 2, none⟩ = some (.slice A2 n2 c2) ∧ ((((W.setCell ⟨r, 0, none⟩ u0).setCell ⟨r, 1, none⟩ u1).setCell ⟨r, 2, none⟩ u2).setCell ⟨r, 3, none⟩ u3).cell? ⟨a, 3, none⟩ = some (.slice A3 n3 c3))) := Lib.hid fun W hW u0 u1 u2 u3 =>
    have h1 := ((((hbox.below hW hbox.lt).far (b := r) (o := 0) har.symm u0).far (b := r) (o := 1) har.symm u1).far (b := r) (o := 2) har.symm u2).far (b := r) (o := 3) har.symm u3
    ⟨h1.cell 0, h1.cell 1, h1.cell 2, h1.cell 3⟩
  have PR : Hid (∀ W, Below V0.heap.size V0 W → (W.cell? ⟨r, 0, none⟩ = some (.bool false) ∧ W.cell? ⟨r, 1, none⟩ = some (.slice none 0 0) ∧ W.cell? ⟨r, 2, none⟩ = some (.slice none 0 0) ∧ W.cell? ⟨r, 3, none⟩ = some (.slice none 0 0)) ∧ (W.frozen? ⟨r, 0, none⟩ = false ∧ W.frozen? ⟨r, 1, none⟩ = false ∧ W.frozen? ⟨r, 2, none⟩ = false ∧ W.frozen? ⟨r, 3, none⟩ = false)) := Lib.hid fun W hW =>
    have h2 := hres.below hW hres.lt
    ⟨⟨h2.cell 0, h2.cell 1, h2.cell 2, h2.cell 3⟩, ⟨h2.frozen 0, h2.frozen 1, h2.frozen 2, h2.frozen 3⟩⟩
  have HC1 : Hid (∀ W, Below V0.heap.size V0 W → Calls Tryd.prog 45 #[.slice A1 n1 c1] W (Copied W 9 1 n1 (strL d.keys))) := Lib.hid fun W hW =>
    copiedS_any W F n1 c1 A1 _ (H.out.1.keys.below (hw0.trans (hW.mono hw0.size))) (strL_one _) H.out.1.few1
  have HC2 : Hid (∀ W, Below V0.heap.size V0 W → Calls Tryd.prog 46 #[.slice A2 n2 c2] W (Copied W 42 2 n2 (hanL d.kids))) := Lib.hid fun W hW =>
    copiedH_any W F n2 c2 A2 _ (H.out.1.kids.below (hw0.trans (hW.mono hw0.size))) (hanL_one _) H.out.1.few2
  have HC3 : Hid (∀ W, Below V0.heap.size V0 W → Calls Tryd.prog 47 #[.slice A3 n3 c3] W (Copied W 3 1 n3 (intL d.vals))) := Lib.hid fun W hW =>
    copiedI_any W F n3 c3 A3 _ (H.out.1.vals.below (hw0.trans (hW.mono hw0.size))) (intL_one _) H.out.1.few3
  have E0 : Hid (Below V0.heap.size V0 V0.drew) := Lib.hid (Below.refl _ _).drew
  have HV := Lib.hid (And.intro hV0 (And.intro hr (And.intro hw0 hres)))
  clear hV0 hr ha hw0 hbox hres har
  go_region_held3 (fun W => (W.cell? ⟨a, 0, none⟩ = some (.bool lf) ∧ W.cell? ⟨a, 1, none⟩ = some (.slice A1 n1 c1) ∧ W.cell? ⟨a, 2, none⟩ = some (.slice A2 n2 c2) ∧ W.cell? ⟨a, 3, none⟩ = some (.slice A3 n3 c3))) (first | with_reducible exact P.out _ E0.out | with_reducible exact P.out _ E1.out | with_reducible exact P.out _ E2.out | with_reducible exact P.out _ E3.out | with_reducible exact P4.out _ E3.out _ _ _ _ | fail) (first
    | (go_at_call 45; (with_reducible refine (HC1.out _ E0.out).mono ?_); rintro e W1 ⟨B1, k1, rfl, o1, bb1⟩; have E1 := Lib.hid (below_next E0.out bb1); have O1 := Lib.hid (And.intro o1 bb1); clear o1 bb1)
    | (go_at_call 46; (with_reducible refine (HC2.out _ E1.out).mono ?_); rintro e W2 ⟨B2, k2, rfl, o2, bb2⟩; have E2 := Lib.hid (below_next E1.out bb2); have O2 := Lib.hid (And.intro o2 bb2); clear o2 bb2)
    | (go_at_call 47; (with_reducible refine (HC3.out _ E2.out).mono ?_); rintro e W3 ⟨B3, k3, rfl, o3, bb3⟩; have E3 := Lib.hid (below_next E2.out bb3); obtain ⟨⟨z0, z1, z2, z3⟩, ⟨y0, y1, y2, y3⟩⟩ := PR.out _ E3.out; have O3 := Lib.hid (And.intro o3 bb3); clear o3 bb3))
  go_wp2_with fail
  clear z0 z1 z2 z3 y0 y1 y2 y3
  obtain ⟨U, hU⟩ : ∃ U, ((((W3.setCell ⟨r, 0, none⟩ (.bool lf)).setCell ⟨r, 1, none⟩ (.slice B1 n1 k1)).setCell ⟨r, 2, none⟩ (.slice B2 n2 k2)).setCell ⟨r, 3, none⟩ (.slice B3 n3 k3)) = U := ⟨_, rfl⟩
  rw [hU]
  have h3 := HV.out.2.2.2.below E3.out HV.out.2.2.2.lt
  have bU : Blk U r 36 #[.bool lf, .slice B1 n1 k1, .slice B2 n2 k2, .slice B3 n3 k3] := hU ▸ (((h3.set_ 0 (.bool lf)).set_ 1 (.slice B1 n1 k1)).set_ 2 (.slice B2 n2 k2)).set_ 3 (.slice B3 n3 k3)
  have hr : w.heap.size ≤ r := by have := HV.out.2.1; omega
  have hb3 : Below w.heap.size w W3 := HV.out.2.2.1.trans (E3.out.mono HV.out.2.2.1.size)
  have hlf := H.out.2.1
  have tU : Turns (fun b => b = r) W3 U := hU ▸ (((((Turns.refl (fun b => b = r) W3).setCell (g := r) 0 _ (fun _ => rfl)).setCell 1 _ (fun _ => rfl)).setCell 2 _ (fun _ => rfl)).setCell 3 _ (fun _ => rfl))
  have hbU : Below w.heap.size w U := ((Turns.of_below (F := fun b => b = r) hb3).then tU (fun _ _ e => e)).below (Nat.le_refl _) (fun g e => e ▸ hr)
  have hrV : r < V0.heap.size := HV.out.2.2.2.lt
  have hne : ∀ b, V0.heap.size ≤ b → ¬ b = r := fun b hb e => by omega
  have hwV := HV.out.2.2.1.size
  have q1 : Cells U (fun b => w.heap.size ≤ b) B1 n1 1 (strL d.keys) := ((((Cells.of_own O1.out.1).mono (G := fun b => V0.heap.size ≤ b) (fun b _ h => h)).below O2.out.2 |>.below O3.out.2).turn tU hne).mono (fun b _ h => Nat.le_trans hwV h)
  have g2 : V0.heap.size ≤ W1.heap.size := E1.out.size
  have g3 : V0.heap.size ≤ W2.heap.size := E2.out.size
  have q2 : Cells U (fun b => w.heap.size ≤ b) B2 n2 2 (hanL d.kids) := (((Cells.of_own O2.out.1).mono (G := fun b => V0.heap.size ≤ b) (fun b _ h => Nat.le_trans g2 h)).below O3.out.2 |>.turn tU hne).mono (fun b _ h => Nat.le_trans hwV h)
  have q3 : Cells U (fun b => w.heap.size ≤ b) B3 n3 1 (intL d.vals) := (((Cells.of_own O3.out.1).mono (G := fun b => V0.heap.size ≤ b) (fun b _ h => Nat.le_trans g3 h)).turn tU hne).mono (fun b _ h => Nat.le_trans hwV h)
  have e0 := bU.cell 0
  have e1 := bU.cell 1
  have e2 := bU.cell 2
  have e3 := bU.cell 3
  simp only [List.getElem?_toArray, List.getElem?_cons_zero, List.getElem?_cons_succ] at e0 e1 e2 e3
  refine bodyPost_ret (v := .agg #[.bool lf, .slice B1 n1 k1, .slice B2 n2 k2, .slice B3 n3 k3]) ?_ rfl ⟨⟨B1, n1, k1, B2, n2, k2, B3, n3, k3⟩, by rw [hlf]; rfl, ?_, hbU, ?_⟩
  · simp [results, Tryd.results36, go_sem, e0, e1, e2, e3]
  · exact ⟨q1, q2, q3, H.out.1.few1, H.out.1.few2, H.out.1.few3⟩
  · have hneV : ∀ b, V0.heap.size ≤ b → ¬ b = r := hne
    exact ⟨((((WrA.of_own O1.out.1).lower (base' := V0.heap.size) (Nat.le_refl _)).below O2.out.2 |>.below O3.out.2).turn tU hneV).lower hwV, (((WrA.of_own O2.out.1).lower g2).below O3.out.2 |>.turn tU hneV).lower hwV, (((WrA.of_own O3.out.1).lower g3).turn tU hneV).lower hwV⟩
theorem nodeCopied_any (w : World) (F : Nat → Prop) (v : NdV) (d : Ar.Nd) (h : NdIn w F v d) :
    Calls Tryd.prog 36 #[v.val d.leaf] w (NdNew w d) :=
  (nodeCopiedW_any w F v d h).mono fun _ _ ⟨v', h1, h2, h3, _⟩ => ⟨v', h1, h2, h3⟩
end Go.Proofs.YtgpcpjjdneimfaaDoor
