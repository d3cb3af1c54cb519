/- sync.Once.Do over a table of layer 1: behind it the table is filled, and nothing else has turned. -/
import Derived.Test.YtflfmcicidgkmaaWalkC
import Derived.Laws.NewBlocks
import Derived.Maps.AppendAt
namespace Go.Proofs.Ytflfmcicidgkmaa
open Go.ChangeShapes Go.WideShapes Go.ChangeAt Go.RowKit

/-- A table that no one has asked yet. -/
def Blank (w : World) (g : Nat) : Prop := ∃ cs, Blk w g 44 cs ∧ cs.size = 259 ∧ cs[0]? = some (.int .u32 0) ∧ cs[1]? = some (.int .i32 0)
/-- A table that was made. -/
def Made (w : World) (g : Nat) : Prop := ∃ cs, Blk w g 44 cs ∧ cs.size = 259 ∧ cs[0]? = some (.int .u32 1) ∧ ∀ i, i < 256 → cs[3 + i]? = some (.int .u32 ((Crc.eight i : Nat) : Int))

theorem Made.keep {w w' : World} {g : Nat} (h : Made w g) (hb : w'.heap[g]? = w.heap[g]?) : Made w' g := by
  obtain ⟨cs, h1, h2⟩ := h
  exact ⟨cs, hb.trans h1, h2⟩
theorem Made.below {w w' : World} {B g : Nat} (h : Made w g) (hb : Below B w w') (hg : g < B) : Made w' g := h.keep (hb.block g hg)
theorem Made.lt {w : World} {g : Nat} (h : Made w g) : g < w.heap.size := by
  obtain ⟨cs, h1, _⟩ := h
  exact h1.lt

theorem set0 {cs : Array Value} {i : Nat} (h : cs.size = 259) (hi : i < 259) (u : Value) : (cs.setIfInBounds i u)[i]? = some u := Array.getElem?_setIfInBounds_self_of_lt (by omega)
theorem setN {cs : Array Value} {i j : Nat} (hi : i ≠ j) (u : Value) : (cs.setIfInBounds i u)[j]? = cs[j]? := Array.getElem?_setIfInBounds_ne hi

/-- What doSlow leaves, of the table that fill leaves. -/
theorem made_of_filled {w w2 : World} {g : Nat} {cs : Array Value} (hn : cs.size = 259)
    (hf : Filled (cs.setIfInBounds 1 (.int .i32 1)) 256 (w.setCell ⟨g, 1, none⟩ (.int .i32 1)) g w2) :
    w2.cell? ⟨g, 0, none⟩ = cs[0]? ∧ w2.frozen? ⟨g, 0, none⟩ = false ∧ (w2.drew.setCell ⟨g, 0, none⟩ (.int .u32 1)).cell? ⟨g, 1, none⟩ = some (.int .i32 1) ∧
    (w2.drew.setCell ⟨g, 0, none⟩ (.int .u32 1)).frozen? ⟨g, 1, none⟩ = false ∧
    Made ((w2.drew.setCell ⟨g, 0, none⟩ (.int .u32 1)).setCell ⟨g, 1, none⟩ (.int .i32 0)) g ∧
    w.grownBy ((w2.drew.setCell ⟨g, 0, none⟩ (.int .u32 1)).setCell ⟨g, 1, none⟩ (.int .i32 0)) (some g) := by
  obtain ⟨cs', hb', hn', h1, h2, h3⟩ := hf
  have hbd : Blk w2.drew g 44 cs' := hb'
  have hb0 := hbd.set_ 0 (.int .u32 1)
  have hb1 := hb0.set_ 1 (.int .i32 0)
  have h31 : w.grownBy (w.setCell ⟨g, 1, none⟩ (.int .i32 1)) (some g) := only_setCell (World.grownBy.refl w _) _ _
  refine ⟨?_, hb'.frozen 0, ?_, hb0.frozen 1, ⟨_, hb1, by simp [hn'], ?_, fun i hi => ?_⟩, ?_⟩
  · rw [hb'.cell, h1 0 (by omega), setN (by omega)]
  · rw [hb0.cell, setN (by omega), h1 1 (by omega), set0 hn (by omega)]
  · rw [setN (by omega), set0 hn' (by omega)]
  · rw [setN (by omega), setN (by omega)]
    exact h2 i hi
  · exact only_setCell (only_setCell (only_drew (h31.trans h3)) _ _) _ _

set_option maxRecDepth 100000 in
set_option maxHeartbeats 1600000 in
theorem slow_any (g : Nat) (w : World) (h : Blank w g) :
    Calls Try.prog 29 #[.pointer (some ⟨g, 0, none⟩), .func (.func 26) #[.pointer (some ⟨g, 0, none⟩)] #[]] w fun e w' => e = .returned (.tuple #[]) ∧ (Made w' g ∧ w.grownBy w' (some g)) := by
  obtain ⟨cs, hb, hn, c0, c1⟩ := h
  have d0 : w.cell? ⟨g, 0, none⟩ = some (.int .u32 0) := by rw [hb.cell, c0]
  have d1 : w.cell? ⟨g, 1, none⟩ = some (.int .i32 0) := by rw [hb.cell, c1]
  have f1 := hb.frozen 1
  have hl := run_call_load (P := Try.prog) Try.func30 (by kernel_rfl) (by kernel_rfl) (by kernel_rfl) .u32 (by kernel_rfl) (w := w.setCell ⟨g, 1, none⟩ (.int .i32 1)) (a := ⟨g, 0, none⟩) (x := 0) ((World.cell?_setCell_other _ ⟨g, 1, none⟩ ⟨g, 0, none⟩ _ (by simp)).trans d0)
  have hnot : ∀ (x : Bool) (w : World), (Op.unary .not (.bool x)).run Try.prog w = .ok (.bool (!x)) w := fun _ _ => rfl
  have HB := Lib.hid hb
  have HN := Lib.hid hn
  have C0 := Lib.hid c0
  clear hb hn c0 c1
  go_enter_defers Try.func29, Try.ntmps29
  go_wp2_with (first | (go_at_call 31; refine (lock_free ⟨g, 1, none⟩ _ (by go_simp) (by go_simp)).mono ?_; rintro e w' ⟨rfl, rfl⟩) | (go_at_call 28; go_in))
  refine (fill_any g _ _ (HB.out.set_ 1 _) (by simp [HN.out])).mono ?_
  rintro e w2 ⟨rfl, hf⟩
  obtain ⟨e0, z0, e1, z1, hm, hg⟩ := made_of_filled HN.out hf
  rw [C0.out] at e0
  have E0 := Lib.hid e0
  have E1 := Lib.hid e1
  clear e0 e1 hl d0 d1 hf
  go_wp2
  refine leaves_cons (f := 33) (args := #[.pointer (some ⟨g, 0, none⟩), .bool true]) (by simp) (by simp [go_sem]) ?_
  refine (store_deferred ⟨g, 0, none⟩ (.int .u32 0) .returning _ E0.out z0).mono ?_
  rintro e u' w'' ⟨rfl, rfl, rfl⟩
  refine leaves_cons (f := 32) (args := #[.pointer (some ⟨g, 1, none⟩)]) (by simp [settle]) (by simp [go_sem]) ?_
  refine (unlock_deferred ⟨g, 1, none⟩ _ _ E1.out z1).mono ?_
  rintro e u' w'' ⟨rfl, rfl, rfl⟩
  simp [Leaves, settle, results, Try.results29]
  exact ⟨hm, hg⟩

set_option maxRecDepth 100000 in
set_option maxHeartbeats 1600000 in
theorem do_blank (g : Nat) (w : World) (h : Blank w g) :
    Calls Try.prog 25 #[.pointer (some ⟨g, 0, none⟩), .func (.func 26) #[.pointer (some ⟨g, 0, none⟩)] #[]] w fun e w' => e = .returned (.tuple #[]) ∧ (Made w' g ∧ w.grownBy w' (some g)) := by
  obtain ⟨cs, hb, hn, c0, c1⟩ := id h
  have d0 : w.cell? ⟨g, 0, none⟩ = some (.int .u32 0) := by rw [hb.cell, c0]
  have hl := run_call_load (P := Try.prog) Try.func30 (by kernel_rfl) (by kernel_rfl) (by kernel_rfl) .u32 (by kernel_rfl) d0
  have hnot : ∀ (x : Bool) (w : World), (Op.unary .not (.bool x)).run Try.prog w = .ok (.bool (!x)) w := fun _ _ => rfl
  clear hb hn c0 c1
  go_enter Try.func25, Try.ntmps25
  go_wp2_with (first | (go_at_call 29; refine (slow_any g _ h).mono ?_; rintro e w' ⟨rfl, hm⟩) | (go_at_call 28; go_in))
  go_end0
  exact ⟨rfl, hm⟩

theorem do_made (g : Nat) (fv : Value) (w : World) (h : Made w g) :
    Calls Try.prog 25 #[.pointer (some ⟨g, 0, none⟩), fv] w fun e w' => e = .returned (.tuple #[]) ∧ w = w' := by
  obtain ⟨cs, hb, hn, c0, _⟩ := h
  have d0 : w.cell? ⟨g, 0, none⟩ = some (.int .u32 1) := by rw [hb.cell, c0]
  have hl := run_call_load (P := Try.prog) Try.func30 (by kernel_rfl) (by kernel_rfl) (by kernel_rfl) .u32 (by kernel_rfl) d0
  have hnot : ∀ (x : Bool) (w : World), (Op.unary .not (.bool x)).run Try.prog w = .ok (.bool (!x)) w := fun _ _ => rfl
  clear hb hn c0
  go_enter Try.func25, Try.ntmps25
  go_wp2
  go_end0
  exact ⟨rfl, rfl⟩

/-- Whether it was asked before or not. -/
theorem do_any (g : Nat) (w : World) (h : Blank w g ∨ Made w g) :
    Calls Try.prog 25 #[.pointer (some ⟨g, 0, none⟩), .func (.func 26) #[.pointer (some ⟨g, 0, none⟩)] #[]] w fun e w' => e = .returned (.tuple #[]) ∧ (Made w' g ∧ w.grownBy w' (some g)) := by
  rcases h with h | h
  · exact do_blank g w h
  · refine (do_made g _ w h).mono ?_
    rintro e w' ⟨rfl, rfl⟩
    exact ⟨rfl, h, World.grownBy.refl _ _⟩
end Go.Proofs.Ytflfmcicidgkmaa
