/- Worlds that differ in some blocks alone (and in new ones), for structures that are changed in place. No function of the program is named here. -/
import Derived.Test.YteegnehfagkjcaaHeld
namespace Go.Proofs.Yteegnehfagkjcaa
open Go.ChangeShapes Go.WideShapes Go.ChangeAt Go.RowKit

/-- Of the blocks that w has, at most those of F are turned in w'; new ones may have come. -/
structure Turns (F : Nat → Prop) (w w' : World) : Prop where
  os : w'.os = w.os
  tape : w'.tape = w.tape
  output : w'.output = w.output
  size : w.heap.size ≤ w'.heap.size
  block : ∀ g, g < w.heap.size → ¬ F g → w'.heap[g]? = w.heap[g]?
/-- Blocks that are no one's: new in w', or of F. -/
def Fresh (F : Nat → Prop) (w w' : World) (g : Nat) : Prop := g < w'.heap.size ∧ (g < w.heap.size → F g)
section
variable {F G : Nat → Prop} {w w' w'' : World}
theorem Turns.refl (F : Nat → Prop) (w : World) : Turns F w w := ⟨rfl, rfl, rfl, Nat.le_refl _, fun _ _ _ => rfl⟩
theorem Turns.trans (h : Turns F w w') (k : Turns F w' w'') : Turns F w w'' :=
  ⟨k.os.trans h.os, k.tape.trans h.tape, k.output.trans h.output, Nat.le_trans h.size k.size, fun g hg hF => (k.block g (Nat.lt_of_lt_of_le hg h.size) hF).trans (h.block g hg hF)⟩
theorem Turns.mono (h : Turns F w w') (hF : ∀ g, g < w.heap.size → F g → G g) : Turns G w w' :=
  ⟨h.os, h.tape, h.output, h.size, fun g hg hG => h.block g hg fun e => hG (hF g hg e)⟩
/-- A second step may turn what the first one made. -/
theorem Turns.then (h : Turns F w w') (k : Turns G w' w'') (hG : ∀ g, g < w.heap.size → G g → F g) : Turns F w w'' :=
  ⟨k.os.trans h.os, k.tape.trans h.tape, k.output.trans h.output, Nat.le_trans h.size k.size, fun g hg hF => (k.block g (Nat.lt_of_lt_of_le hg h.size) fun e => hF (hG g hg e)).trans (h.block g hg hF)⟩
theorem Turns.of_below (h : Below w.heap.size w w') : Turns F w w' := ⟨h.os, h.tape, h.output, h.size, fun g hg _ => h.block g hg⟩
theorem Turns.below {B : Nat} (h : Turns F w w') (hB : B ≤ w.heap.size) (hF : ∀ g, F g → B ≤ g) : Below B w w' :=
  ⟨h.os, h.tape, h.output, h.size, fun g hg => h.block g (Nat.lt_of_lt_of_le hg hB) fun e => by have := hF g e; omega⟩
theorem Turns.of_grown {r : Option Nat} (h : w.grownBy w' r) : Turns (fun g => r = some g) w w' := ⟨h.os, h.tape, h.output, h.size, fun g hg hF => h.block g hg fun e => hF e.symm⟩
theorem Turns.heap {g : Nat} (h : Turns F w w') (hg : g < w.heap.size) (hF : ¬ F g) : w'.heap[g]? = w.heap[g]? := h.block g hg hF
theorem Turns.blk {g : Nat} {t : TypeId} {cs : Array Value} (h : Turns F w w') (hb : Blk w g t cs) (hF : ¬ F g) : Blk w' g t cs := (h.block g hb.lt hF).trans hb
theorem Turns.cell {b o : Nat} (h : Turns F w w') (hg : b < w.heap.size) (hF : ¬ F b) : w'.cell? ⟨b, o, none⟩ = w.cell? ⟨b, o, none⟩ := by
  have := h.block b hg hF
  simp [World.cell?, this]
theorem Turns.setCell {g : Nat} (h : Turns F w w') (o : Nat) (u : Value) (hF : g < w.heap.size → F g) : Turns F w (w'.setCell ⟨g, o, none⟩ u) :=
  ⟨h.os, h.tape, h.output, by simpa [World.setCell] using h.size, fun i hi hne => (Below.heap_setCell w' _ u i (by
    rintro rfl
    exact hne (hF hi))).trans (h.block i hi hne)⟩
theorem Turns.alloc (h : Turns F w w') (o : Obj) : Turns F w (w'.alloc o) := h.trans (Turns.of_below ((Below.refl _ _).alloc (Nat.le_refl _) o))
theorem Turns.drew (h : Turns F w w') : Turns F w w'.drew := ⟨h.os, h.tape, h.output, h.size, h.block⟩
theorem Fresh.next (hg : ∀ g, G g → Fresh F w w' g) (h : Turns F w w') (k : Turns G w' w'') : Turns F w w'' :=
  h.then k fun g hg' hG => (hg g hG).2 hg'
end
end Go.Proofs.Yteegnehfagkjcaa
