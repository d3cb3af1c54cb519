/- ArenaPlays: what a call has been handed, and the reference's answer beside a box that is made meanwhile. -/
import Derived.Test.YtgpcpjjdneimfaaDoorPlO
import Derived.Test.YtgpcpjjdneimfaaDoorPlQ
namespace Go.Proofs.YtgpcpjjdneimfaaDoor
open Go.ChangeShapes Go.WideShapes Go.ChangeAt Go.RowKit

/-- What a call of both has in memory. -/
structure DoAt (w0 X : World) (a q s : Nat) (A : Option Addr) (n c : Nat) (x : Int) (v : NdV) (d : Ar.Nd) (Al : Option Addr) (m cl : Nat) (l : List (Int × Int)) : Prop where
  box : Blk X a 29 #[.slice A n c]
  act : Blk X q 38 #[.int .i64 x, .bool d.leaf, .slice v.A1 v.n1 v.c1, .slice v.A2 v.n2 v.c2, .slice v.A3 v.n3 v.c3, .slice Al m cl]
  res : Blk X s 29 #[.slice none 0 0]
  nd : NdIn X (fun b => b < w0.heap.size) v d
  hl : Cells X (fun b => b < w0.heap.size) Al m 2 (hanL l)
section
variable {w0 X X' : World} {a q s : Nat} {A : Option Addr} {n c : Nat} {x : Int} {v : NdV} {d : Ar.Nd} {Al : Option Addr} {m cl : Nat} {l : List (Int × Int)} {G : Nat → Prop}
theorem DoAt.turn (h : DoAt w0 X a q s A n c x v d Al m cl l) (ht : Turns G X X') (hG : ∀ b, G b → w0.heap.size ≤ b ∧ b ≠ a ∧ b ≠ q ∧ b ≠ s) : DoAt w0 X' a q s A n c x v d Al m cl l where
  box := ht.blk h.box fun e => (hG a e).2.1 rfl
  act := ht.blk h.act fun e => (hG q e).2.2.1 rfl
  res := ht.blk h.res fun e => (hG s e).2.2.2 rfl
  nd := h.nd.turn ht fun b hb hg => by have := (hG b hg).1; omega
  hl := h.hl.turn ht fun b hb hg => by have := (hG b hg).1; omega
theorem DoAt.below (h : DoAt w0 X a q s A n c x v d Al m cl l) (hb : Below X.heap.size X X') : DoAt w0 X' a q s A n c x v d Al m cl l := h.turn (G := fun _ => False) (Turns.of_below hb) fun _ e => e.elim
end
/-- A box that was made while calls were made. -/
def Nb (K : Nat) (X1 X2 : World) (b : Nat) (T : TypeId) (cs : Array Value) : Prop := Blk X2 b T cs ∧ b < X1.heap.size ∧ K ≤ b
section
variable {Z X X0 X1 X2 : World} {T : TypeId} {cs : Array Value} {b K : Nat}
theorem Nb.new0 (bb : Below (Z.alloc (.cells cs T)).drew.heap.size (Z.alloc (.cells cs T)).drew X2) : Nb Z.heap.size (Z.alloc (.cells cs T)).drew X2 Z.heap.size T cs := by
  have h1 : Blk (Z.alloc (.cells cs T)).drew Z.heap.size T cs := Blk.new Z _ _
  exact ⟨h1.below bb h1.lt, h1.lt, Nat.le_refl _⟩
theorem Nb.new (hK : K ≤ X.heap.size) (bb : Below (X.alloc (.cells cs T)).heap.size (X.alloc (.cells cs T)) X2) : Nb K (X.alloc (.cells cs T)) X2 X.heap.size T cs := by
  have h1 : Blk (X.alloc (.cells cs T)) X.heap.size T cs := Blk.new X _ _
  exact ⟨h1.below bb h1.lt, h1.lt, hK⟩
theorem Nb.next (h : Nb K X0 X1 b T cs) (bb : Below X1.heap.size X1 X2) : Nb K X1 X2 b T cs := ⟨h.1.below bb h.1.lt, h.1.lt, h.2.2⟩
theorem Nb.nextA (h : Nb K X0 X1 b T cs) {o : Obj} (bb : Below (X1.alloc o).heap.size (X1.alloc o) X2) : Nb K (X1.alloc o) X2 b T cs :=
  have h1 := h.1.below ((Below.refl _ _).alloc (Nat.le_refl _) o) h.1.lt
  ⟨h1.below bb h1.lt, h1.lt, h.2.2⟩
end
/-- The reference's answer, stored into its box. -/
structure RefP (Z : World) (R : Nat → Prop) (A2 : Option Addr) (n2 c2 : Nat) (M : List Ar.Pl) (b : Nat) (wx : World) : Prop where
  ge : Z.heap.size ≤ b
  box : Blk wx b 29 #[.slice A2 n2 c2]
  bel : Below Z.heap.size Z wx
  pl : PlIn wx (fun x => R x ∨ Z.heap.size ≤ x) A2 n2 M
section
variable {Z X1 X2 : World} {R : Nat → Prop} {A2 : Option Addr} {n2 c2 b : Nat} {M : List Ar.Pl}
theorem RefP.new {b' : Nat} (hs : Z.heap.size ≤ X1.heap.size) (E : Below Z.heap.size Z X2) (hP : PlIn X2 (fun x => (R x ∨ (Z.heap.size ≤ x ∧ x ≠ b')) ∨ X1.heap.size ≤ x) A2 n2 M) : RefP Z R A2 n2 c2 M X2.heap.size (X2.alloc (.cells #[.slice A2 n2 c2] 29)) :=
  ⟨E.size, Blk.new _ _ _, E.alloc E.size _, (hP.mono (G := fun x => R x ∨ Z.heap.size ≤ x) (fun _ _ hx => hx.elim (fun h => h.elim .inl (fun h => .inr h.1)) (fun h => .inr (Nat.le_trans hs h)))).below ((Below.refl _ _).alloc (Nat.le_refl _) _)⟩
theorem RefP.set (hs : Z.heap.size ≤ X1.heap.size) (E : Below Z.heap.size Z X2) (hP : PlIn X2 (fun x => (R x ∨ (Z.heap.size ≤ x ∧ x ≠ b)) ∨ X1.heap.size ≤ x) A2 n2 M) (hR : ∀ x, R x → x < Z.heap.size) (hN : Nb Z.heap.size X1 X2 b 29 #[.slice none 0 0]) : RefP Z R A2 n2 c2 M b (X2.setCell ⟨b, 0, none⟩ (.slice A2 n2 c2)) := by
  have hT : Turns (fun x => x = b) X2 (X2.setCell ⟨b, 0, none⟩ (.slice A2 n2 c2)) := (Turns.refl (fun x => x = b) X2).setCell (g := b) _ _ (fun _ => rfl)
  refine ⟨hN.2.2, by simpa using hN.1.set_ 0 (.slice A2 n2 c2), E.setCell (p := ⟨b, 0, none⟩) hN.2.2 _, (hP.turn hT fun x hx e => ?_).mono (fun x _ hx => hx.elim (fun h => h.elim .inl (fun h => .inr h.1)) (fun h => .inr (by omega)))⟩
  have h1 := hN.2.1
  have h2 := hN.2.2
  subst e
  rcases hx with (h | h) | h
  · have := hR _ h
    omega
  · exact h.2 rfl
  · omega
end
theorem NdIn.skip {X : World} {K : Nat} {v : NdV} {d : Ar.Nd} (h : NdIn X (fun x => K ≤ x) v d) : NdIn X (fun x => K ≤ x ∧ x ≠ X.heap.size) v d := h.mono fun _ hx e => ⟨e, Nat.ne_of_lt hx⟩
theorem NdIn.skipA {X : World} {K : Nat} {v : NdV} {d : Ar.Nd} (h : NdIn X (fun x => K ≤ x) v d) (o : Obj) : NdIn (X.alloc o) (fun x => K ≤ x ∧ x ≠ X.heap.size) v d := h.skip.below ((Below.refl _ _).alloc (Nat.le_refl _) o)
theorem NdIn.miss {X0 X1 : World} {K b : Nat} {v : NdV} {d : Ar.Nd} (h : NdIn X1 (fun x => X0.heap.size ≤ x) v d) (hK : K ≤ X0.heap.size) (hb : b < X0.heap.size) : NdIn X1 (fun x => K ≤ x ∧ x ≠ b) v d := h.mono fun _ _ e => ⟨Nat.le_trans hK e, by omega⟩
theorem rput_one {w w' : World} {F : Nat → Prop} {L : List Ar.Pl} {x : Int × Int} {d : Ar.Nd} {e : Ending} (h : RPutP w F L x d e w') : ∃ (r : Int) (M : List Ar.Pl), ((∃ (i : Nat) (p : Ar.Pl), x = ((i : Int), (p.turn : Int)) ∧ L[i]? = some p ∧ p.used = true ∧ r = 0 ∧ M = L.set i ⟨true, p.turn, d⟩) ∨ (Ar.has L x = false ∧ r = 110 ∧ M = L)) ∧ RArP w F M r e w' := by
  rcases h with ⟨i, p, h1, h2, h3, h4⟩ | ⟨h1, h4⟩
  · exact ⟨0, _, .inl ⟨i, p, h1, h2, h3, rfl, rfl⟩, h4⟩
  · exact ⟨110, L, .inr ⟨h1, rfl, rfl⟩, h4⟩
/-- The boxes of a call, at its start. -/
theorem doAt_start (w0 w : World) (A : Option Addr) (n c : Nat) (x : Int) (v : NdV) (d : Ar.Nd) (Al : Option Addr) (m cl : Nat) (l : List (Int × Int)) (hv : NdIn w (fun b => b < w0.heap.size) v d) (hl : Cells w (fun b => b < w0.heap.size) Al m 2 (hanL l)) : ∃ W a q s, ((w.alloc (.cells #[.slice A n c] 29)).alloc (.cells #[.int .i64 x, .bool d.leaf, .slice v.A1 v.n1 v.c1, .slice v.A2 v.n2 v.c2, .slice v.A3 v.n3 v.c3, .slice Al m cl] 38)).alloc (.cells #[.slice none 0 0] 29) = W ∧ w.heap.size = a ∧ w.heap.size + 1 = q ∧ w.heap.size + 1 + 1 = s ∧ Below w.heap.size w W ∧ DoAt w0 W a q s A n c x v d Al m cl l ∧ W.heap.size = w.heap.size + 3 := by
  obtain ⟨W, a, q, s, h1, h2, h3, h4, h5, h6, h7, h8, h9⟩ := does_made w A n c (.int .i64 x) (.bool d.leaf) (.slice v.A1 v.n1 v.c1) (.slice v.A2 v.n2 v.c2) (.slice v.A3 v.n3 v.c3) (.slice Al m cl)
  exact ⟨W, a, q, s, h1, h2, h3, h4, h5, ⟨h6, h7, h8, hv.below h5, hl.below h5⟩, h9⟩
end Go.Proofs.YtgpcpjjdneimfaaDoor
