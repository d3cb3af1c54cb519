/- Blocks that a call made itself, held through further calls. -/
import Derived.Test.YteegnehfagkjcaaMem
namespace Go.Proofs.Yteegnehfagkjcaa
open Go.ChangeShapes Go.WideShapes Go.ChangeAt Go.RowKit

/-- The blocks of the list stand in W, which is w below w's own size. -/
def Held (w W : World) (l : List (Nat × TypeId × Array Value)) : Prop := Below w.heap.size w W ∧ ∀ x ∈ l, Blk W x.1 x.2.1 x.2.2
theorem Held.step {w W W' : World} {l : List (Nat × TypeId × Array Value)} (h : Held w W l) (b : Below W.heap.size W W') : Held w W' l :=
  ⟨h.1.trans (b.mono h.1.size), fun x hx => (h.2 x hx).below b (h.2 x hx).lt⟩
theorem Held.new {w W : World} {l : List (Nat × TypeId × Array Value)} (h : Held w W l) (cs : Array Value) (t : TypeId) : Held w (W.alloc (.cells cs t)) ((W.heap.size, t, cs) :: l) := by
  have h1 := h.step ((Below.refl W.heap.size W).alloc (Nat.le_refl _) (.cells cs t))
  refine ⟨h1.1, fun x hx => ?_⟩
  rcases List.mem_cons.1 hx with rfl | hx
  · exact Blk.new W t cs
  · exact h1.2 x hx
theorem Held.start (w : World) : Held w w [] := ⟨Below.refl _ _, by simp⟩
theorem Held.drop {w W : World} {x : Nat × TypeId × Array Value} {l : List (Nat × TypeId × Array Value)} (h : Held w W (x :: l)) : Held w W l := ⟨h.1, fun y hy => h.2 y (List.mem_cons_of_mem _ hy)⟩
theorem Held.at_ {w W : World} {g : Nat} {t : TypeId} {cs : Array Value} {l : List (Nat × TypeId × Array Value)} (h : Held w W l) (hm : (g, t, cs) ∈ l) : Blk W g t cs := h.2 _ hm
theorem Held.top {w W : World} {g : Nat} {t : TypeId} {cs : Array Value} {l : List (Nat × TypeId × Array Value)} (h : Held w W ((g, t, cs) :: l)) : Blk W g t cs := h.2 _ (List.mem_cons_self ..)
theorem Held.drewN {w W : World} {l : List (Nat × TypeId × Array Value)} (h : Held w W l) (n : Nat) : Held w (W.drewN n) l := ⟨⟨h.1.os, h.1.tape, h.1.output, h.1.size, h.1.block⟩, h.2⟩
end Go.Proofs.Yteegnehfagkjcaa
