/- Layer 9's reference: a request, packed. -/
import Derived.Test.YtgailpljcobabaaDoorRqJ
import Derived.Test.YtgailpljcobabaaDoorRd6
namespace Go.Proofs.YtgailpljcobabaaDoor
open Go.ChangeShapes Go.WideShapes Go.ChangeAt Go.RowKit

theorem own_one9 {w : World} {B g : Nat} {x : Nat} {y : Int} (hg : Blk w g 5 #[.int .u8 y]) (hB : B ≤ g) (hy : y = x) : w.ownsRow B 5 1 (.slice (some ⟨g, 0, none⟩) 1 1) 1 (u8s [x]) := by
  subst hy
  exact ⟨rfl, .inr ⟨g, 1, _, rfl, hB, hg, Nat.le_refl _, by unfold maxLen; omega, rfl, rfl⟩⟩
theorem own_snoc {w : World} {B n m : Nat} {v : Value} {e : TypeId} {a b : List Nat} (h : w.ownsRow B e 1 v (n + m) (u8s a ++ u8s b)) : w.ownsRow B e 1 v (n + m) (u8s (a ++ b)) := by rw [← u8s_append]; exact h
theorem Held.grow {w W W' : World} {l : List (Nat × TypeId × Array Value)} (h : Held w W l) {B e s n : Nat} {v : Value} {xs : List Value} (ho : W.ownsRow B e s v n xs) (hg : W.grownBy W' v.ownBlock) (hB : w.heap.size ≤ B) (hl : ∀ x ∈ l, x.1 < B) : Held w W' l :=
  ⟨h.1.trans ⟨hg.os, hg.tape, hg.output, hg.size, fun k hk => hg.block k (by have := h.1.size; omega) (fun e => by have := (ho.lt k e.symm).1; omega)⟩, fun x hx => by
    have hb := h.2 x hx
    exact (hg.block x.1 hb.lt (fun e => by have := (ho.lt x.1 e.symm).1; have := hl x hx; omega)).trans hb⟩
/-- A row's cells, at g. -/
def Src (W : World) (g : Nat) (l : List Nat) : Prop := g < W.heap.size ∧ ∀ j u, (u8s l)[j]? = some u → W.cell? ((⟨g, 0, none⟩ : Addr).add j) = some u
theorem Src.below {W W' : World} {g : Nat} {l : List Nat} (h : Src W g l) (b : Below W.heap.size W W') : Src W' g l :=
  ⟨Nat.lt_of_lt_of_le h.1 b.size, fun j u hu => (by rw [add_at]; exact b.cell (p := ⟨g, _, none⟩) h.1 : W'.cell? ((⟨g, 0, none⟩ : Addr).add j) = W.cell? ((⟨g, 0, none⟩ : Addr).add j)).trans (h.2 j u hu)⟩
theorem Src.grown {W W' : World} {g k : Nat} {l : List Nat} (h : Src W g l) (hg : W.grownBy W' (some k)) (hne : g ≠ k) : Src W' g l :=
  ⟨Nat.lt_of_lt_of_le h.1 hg.size, fun j u hu => (by rw [add_at]; exact World.cell?_of_block (a := ⟨g, _, none⟩) (hg.block g h.1 (fun e => hne (by injection e))) : W'.cell? ((⟨g, 0, none⟩ : Addr).add j) = W.cell? ((⟨g, 0, none⟩ : Addr).add j)).trans (h.2 j u hu)⟩
theorem Src.of_own {W : World} {base n c : Nat} {A : Option Addr} {l : List Nat} (h : W.ownsRow base 5 1 (.slice A n c) n (u8s l)) (h0 : 0 < n) : ∃ g, A = some ⟨g, 0, none⟩ ∧ base ≤ g ∧ Src W g l := by
  obtain ⟨g, cap, hv, hc, hlt⟩ := h.form h0
  have hl := (h.lt g (by rw [hv]; rfl)).1
  injection hv with hv
  subst hv
  exact ⟨g, rfl, hl, hlt, h.cells (g := g) rfl⟩
/-- A row that grows, beside the request's own block. -/
def Gw (w0 W : World) (cs : Array Value) (g c n : Nat) (l : List Nat) : Prop := Held w0 W [(w0.heap.size, 33, cs)] ∧ W.ownsRow (w0.heap.size + 1) 5 1 (.slice (some ⟨g, 0, none⟩) n c) n (u8s l) ∧ w0.heap.size + 1 ≤ W.heap.size ∧ g < W.heap.size
theorem Gw.below {w0 W W' : World} {cs : Array Value} {g c n : Nat} {l : List Nat} (h : Gw w0 W cs g c n l) (b : Below W.heap.size W W') : Gw w0 W' cs g c n l := ⟨h.1.step b, own_below h.2.1 b, Nat.le_trans h.2.2.1 b.size, Nat.lt_of_lt_of_le h.2.2.2 b.size⟩
theorem Gw.more {w0 W W' : World} {cs : Array Value} {g c n m g' c' : Nat} {l l' : List Nat} (h : Gw w0 W cs g c n l) (ho : W'.ownsRow (w0.heap.size + 1) 5 1 (.slice (some ⟨g', 0, none⟩) (n + m) c') (n + m) (u8s l ++ u8s l')) (hg : W.grownBy W' (Value.slice (some ⟨g, 0, none⟩) n c).ownBlock) (hl : g' < W'.heap.size) : Gw w0 W' cs g' c' (n + m) (l ++ l') :=
  ⟨h.1.grow h.2.1 hg (Nat.le_succ _) (by intro x hx; rw [List.mem_singleton.1 hx]; exact Nat.lt_succ_self _), own_snoc ho, Nat.le_trans h.2.2.1 hg.size, hl⟩
theorem Gw.start {w0 W : World} {cs : Array Value} {y : Int} {x : Nat} (h : Held w0 W [(w0.heap.size, 33, cs)]) (hz : w0.heap.size + 1 ≤ W.heap.size) (hy : y = x) : Gw w0 (W.alloc (.cells #[.int .u8 y] 5)) cs W.heap.size 1 1 [x] :=
  ⟨h.step ((Below.refl _ _).alloc (Nat.le_refl _) _), own_one9 (Blk.new W _ _) hz hy, by simp; omega, by simp⟩
end Go.Proofs.YtgailpljcobabaaDoor
