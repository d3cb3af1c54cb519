/- A table of layer 1 in memory: blank or filled; how it is filled, once. -/
import Derived.Test.YtflfmcicidgkmaaWalkA
import Derived.Below
import Derived.Laws.OwnMore
import Derived.Deep.Draws
import Derived.Laws.Rows
import Derived.Deep.RegionWith
import Derived.Outline
namespace Go.Proofs.Ytflfmcicidgkmaa
open Go.ChangeShapes Go.WideShapes Go.ChangeAt Go.RowKit

/-- Block g is just the cells cs, of element type t. -/
def Blk (w : World) (g : Nat) (t : TypeId) (cs : Array Value) : Prop := w.heap[g]? = some (.cells cs t (0, 0))

section
variable {w w' : World} {g : Nat} {t : TypeId} {cs : Array Value}
theorem Blk.lt (h : Blk w g t cs) : g < w.heap.size := by
  rcases Nat.lt_or_ge g w.heap.size with hlt | hge
  · exact hlt
  · unfold Blk at h; rw [Array.getElem?_eq_none hge] at h; cases h
theorem Blk.cell (h : Blk w g t cs) (i : Nat) : w.cell? ⟨g, i, none⟩ = cs[i]? := cell_of_row w g i cs t (0, 0) h
theorem Blk.frozen (h : Blk w g t cs) (i : Nat) : w.frozen? ⟨g, i, none⟩ = false := by
  unfold Blk at h
  simp [World.frozen?, h]
theorem Blk.new (w : World) (t : TypeId) (cs : Array Value) : Blk (w.alloc (.cells cs t)) w.heap.size t cs := heap_alloc_new w _
theorem Blk.set_ (h : Blk w g t cs) (i : Nat) (u : Value) : Blk (w.setCell ⟨g, i, none⟩ u) g t (cs.setIfInBounds i u) := by
  unfold Blk at h ⊢
  simp [World.setCell, Array.getElem?_modify, h]
theorem Blk.far (h : Blk w g t cs) {b o : Nat} (hp : b ≠ g) (u : Value) : Blk (w.setCell ⟨b, o, none⟩ u) g t cs := (Below.heap_setCell w _ u g (fun e => hp e.symm)).trans h
theorem Blk.below {B : Nat} (h : Blk w g t cs) (hb : Below B w w') (hg : g < B) : Blk w' g t cs := (hb.block g hg).trans h
end

section
variable {a w : World} {g : Nat}
theorem only_drew {row : Option Nat} (h : a.grownBy w row) : a.grownBy w.drew row := ⟨h.os, h.tape, h.output, h.size, h.block⟩
theorem only_setCell (h : a.grownBy w (some g)) (o : Nat) (u : Value) : a.grownBy (w.setCell ⟨g, o, none⟩ u) (some g) :=
  ⟨h.os, h.tape, h.output, by simpa [World.setCell] using h.size, fun i hi hne => (Below.heap_setCell w _ u i (by
    rintro rfl
    exact hne rfl)).trans (h.block i hi hne)⟩
end

/-- The first k of a table's row are made; what is ahead of the row is as in cs. -/
def Filled (cs : Array Value) (k : Nat) (w : World) (g : Nat) (w' : World) : Prop :=
  ∃ cs', Blk w' g 44 cs' ∧ cs'.size = 259 ∧ (∀ i, i < 3 → cs'[i]? = cs[i]?) ∧ (∀ i, i < k → cs'[3 + i]? = some (.int .u32 ((Crc.eight i : Nat) : Int))) ∧ w.grownBy w' (some g)

theorem Filled.step {cs : Array Value} {k : Nat} {w wr : World} {g : Nat} (h : Filled cs k w g wr) (hk : k < 256) :
    Filled cs (k + 1) w g (wr.drew.setCell ⟨g, 3 + k, none⟩ (.int .u32 ((Crc.eight k : Nat) : Int))) := by
  obtain ⟨cs', hb, hn, h1, h2, h3⟩ := h
  have hb' : Blk wr.drew g 44 cs' := hb
  refine ⟨_, hb'.set_ (3 + k) _, by simpa using hn, fun i hi => ?_, fun i hi => ?_, only_setCell (only_drew h3) _ _⟩
  · rw [Array.getElem?_setIfInBounds_ne (by omega)]
    exact h1 i hi
  · by_cases e : i = k
    · subst e
      rw [Array.getElem?_setIfInBounds_self_of_lt (by omega)]
    · rw [Array.getElem?_setIfInBounds_ne (by omega)]
      exact h2 i (by omega)

set_option maxRecDepth 100000 in
theorem fill_any (g : Nat) (cs : Array Value) (w : World) (hb : Blk w g 44 cs) (hn : cs.size = 259) :
    Calls Try.prog 26 #[.pointer (some ⟨g, 0, none⟩)] w fun e w' => e = .returned (.tuple #[]) ∧ Filled cs 256 w g w' := by
  go_enter Try.func26, Try.ntmps26
  go_wp2
  go_loopw [3] (fun i wr => ∃ k : Nat, k ≤ 256 ∧ i = .int .i64 k ∧ Filled cs k w g wr) (fun i _ => 256 - (intOf i).toNat)
  case atStart => exact ⟨0, by omega, rfl, cs, hb, hn, fun _ _ => rfl, fun i hi => absurd hi (by omega), World.grownBy.refl w _⟩
  case round =>
    obtain ⟨k, hk, rfl, hf⟩ := hrel
    by_cases hlt : k < 256
    · obtain ⟨cs', hb', hn', -⟩ := id hf
      obtain ⟨x, hc⟩ : ∃ x, wr.cell? ⟨g, 3 + k, none⟩ = some x := ⟨_, by rw [hb'.cell]; exact Array.getElem?_eq_getElem (by omega)⟩
      have hz := hb'.frozen (3 + k)
      have hwk : IntKind.u32.wrap (k : Int) = k := by rw [IntKind.wrap_u32']; omega
      clear hb' hn' hn hb
      go_wp2
      go_region_with (go_at_call 24; refine (halved_any _ _ (by omega) (by omega)).mono ?_; rintro e w' ⟨rfl, rfl⟩)
      go_wp2
      go_roundw
      case rel => exact ⟨k + 1, by omega, by go_num, hf.step hlt⟩
      case measure => simp [intOf]; omega
    · obtain rfl : k = 256 := by omega
      clear hn hb
      go_wp2
      go_end0
      exact ⟨rfl, hf⟩
end Go.Proofs.Ytflfmcicidgkmaa
