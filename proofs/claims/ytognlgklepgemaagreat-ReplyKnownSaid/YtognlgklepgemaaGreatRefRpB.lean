/- Layer 8's reference: a reply without one of its parts. -/
import Derived.Test.YtognlgklepgemaaGreatRp
import Derived.Test.YtognlgklepgemaaGreatHeld
namespace Go.Proofs.YtognlgklepgemaaGreat
open Go.ChangeShapes Go.WideShapes Go.ChangeAt Go.RowKit

set_option maxRecDepth 100000 in
set_option maxHeartbeats 4000000 in
theorem refBlank8_any (x : Rp.V) (c : Nat) (w : World) (hc : Rp.letter c) : Calls Tryz.prog 49 #[x.val, .int .u8 (c : Int)] w fun e w' => e = .returned (x.blank c).val ∧ Below w.heap.size w w' := by
  have hb : ∀ (o o' : Obj), Below w.heap.size w ((w.alloc o).alloc o') := fun o o' => ((Below.refl _ _).alloc (Nat.le_refl _) _).alloc (by simp) _
  have HB := Lib.hid hb
  clear hb
  unfold Rp.V.val Rp.V.cells
  rcases hc with rfl | rfl | rfl | rfl | rfl | rfl | rfl | rfl | rfl | rfl
  · go_enter Tryz.func49, Tryz.ntmps49
    go_wp2_with fail
    refine bodyPost_ret (v := (x.blank 101).val) ?_ rfl ⟨rfl, HB.out _ _⟩
    simp [results, Tryz.results49, go_sem, Rp.V.val, Rp.V.cells, Rp.V.blank]
  · go_enter Tryz.func49, Tryz.ntmps49
    go_wp2_with fail
    refine bodyPost_ret (v := (x.blank 102).val) ?_ rfl ⟨rfl, HB.out _ _⟩
    simp [results, Tryz.results49, go_sem, Rp.V.val, Rp.V.cells, Rp.V.blank]
  · go_enter Tryz.func49, Tryz.ntmps49
    go_wp2_with fail
    refine bodyPost_ret (v := (x.blank 117).val) ?_ rfl ⟨rfl, HB.out _ _⟩
    simp [results, Tryz.results49, go_sem, Rp.V.val, Rp.V.cells, Rp.V.blank]
  · go_enter Tryz.func49, Tryz.ntmps49
    go_wp2_with fail
    refine bodyPost_ret (v := (x.blank 76).val) ?_ rfl ⟨rfl, HB.out _ _⟩
    simp [results, Tryz.results49, go_sem, Rp.V.val, Rp.V.cells, Rp.V.blank]
  · go_enter Tryz.func49, Tryz.ntmps49
    go_wp2_with fail
    refine bodyPost_ret (v := (x.blank 115).val) ?_ rfl ⟨rfl, HB.out _ _⟩
    simp [results, Tryz.results49, go_sem, Rp.V.val, Rp.V.cells, Rp.V.blank]
  · go_enter Tryz.func49, Tryz.ntmps49
    go_wp2_with fail
    refine bodyPost_ret (v := (x.blank 116).val) ?_ rfl ⟨rfl, HB.out _ _⟩
    simp [results, Tryz.results49, go_sem, Rp.V.val, Rp.V.cells, Rp.V.blank]
  · go_enter Tryz.func49, Tryz.ntmps49
    go_wp2_with fail
    refine bodyPost_ret (v := (x.blank 99).val) ?_ rfl ⟨rfl, HB.out _ _⟩
    simp [results, Tryz.results49, go_sem, Rp.V.val, Rp.V.cells, Rp.V.blank]
  · go_enter Tryz.func49, Tryz.ntmps49
    go_wp2_with fail
    refine bodyPost_ret (v := (x.blank 108).val) ?_ rfl ⟨rfl, HB.out _ _⟩
    simp [results, Tryz.results49, go_sem, Rp.V.val, Rp.V.cells, Rp.V.blank]
  · go_enter Tryz.func49, Tryz.ntmps49
    go_wp2_with fail
    refine bodyPost_ret (v := (x.blank 114).val) ?_ rfl ⟨rfl, HB.out _ _⟩
    simp [results, Tryz.results49, go_sem, Rp.V.val, Rp.V.cells, Rp.V.blank]
  · go_enter Tryz.func49, Tryz.ntmps49
    go_wp2_with fail
    refine bodyPost_ret (v := (x.blank 103).val) ?_ rfl ⟨rfl, HB.out _ _⟩
    simp [results, Tryz.results49, go_sem, Rp.V.val, Rp.V.cells, Rp.V.blank]
end Go.Proofs.YtognlgklepgemaaGreat
