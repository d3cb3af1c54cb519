/- Layer 8's reference: which parts a kind has; a reply without one; a pane's name. -/
import Derived.Test.YtognlgklepgemaaGreatRp
import Derived.Test.YtognlgklepgemaaGreatHeld
namespace Go.Proofs.YtognlgklepgemaaGreat
open Go.ChangeShapes Go.WideShapes Go.ChangeAt Go.RowKit

set_option maxRecDepth 100000 in
set_option maxHeartbeats 1000000 in
theorem refParts8_any (k : Nat) (w : World) : Calls Tryz.prog 25 #[.int .u8 (k : Int)] w fun e w' => e = .returned (.string (textOf (Rp.parts k))) ∧ Below w.heap.size w w' := by
  have hb : ∀ (o : Obj), Below w.heap.size w (w.alloc o) := fun o => (Below.refl _ _).alloc (Nat.le_refl _) _
  have HB := Lib.hid hb
  clear hb
  by_cases h7 : 7 < k
  · have e : Rp.parts k = [] := by
      unfold Rp.parts
      rw [if_neg (by omega), if_neg (by omega), if_neg (by omega), if_neg (by omega), if_neg (by omega)]
    have i1 : (7 : Int) < k := by omega
    rw [e]
    clear e
    go_enter Tryz.func25, Tryz.ntmps25
    go_wp2_with fail
    go_ret
    exact ⟨rfl, Below.refl _ _⟩
  · have hk : k = 0 ∨ k = 1 ∨ k = 2 ∨ k = 3 ∨ k = 4 ∨ k = 5 ∨ k = 6 ∨ k = 7 := by omega
    rcases hk with rfl | rfl | rfl | rfl | rfl | rfl | rfl | rfl
    all_goals
      go_enter Tryz.func25, Tryz.ntmps25
      go_wp2_with fail
      go_ret
      exact ⟨rfl, HB.out _⟩
theorem refName8_any (p : Pn) (w : World) : Calls Tryz.prog 47 #[p.val] w fun e w' => e = .returned (.bool (Rp.name p)) ∧ Below w.heap.size w w' := by
  have hb : ∀ (o : Obj), Below w.heap.size w (w.alloc o) := fun o => (Below.refl _ _).alloc (Nat.le_refl _) _
  have HB := Lib.hid hb
  clear hb
  obtain ⟨k, s, e⟩ := p
  unfold Pn.val
  by_cases h1 : 1 ≤ k.size
  · by_cases h2 : k.size ≤ 32
    · have e1 : Rp.name ⟨k, s, e⟩ = true := decide_eq_true ⟨h1, h2⟩
      rw [e1]
      have i1 : (1 : Int) ≤ k.size := by omega
      have d2 : decide ((k.size : Int) ≤ 32) = true := decide_eq_true (by omega)
      clear e1
      go_enter Tryz.func47, Tryz.ntmps47
      go_wp2_with fail
      go_ret
      exact ⟨rfl, HB.out _⟩
    · have e1 : Rp.name ⟨k, s, e⟩ = false := decide_eq_false (fun h => h2 h.2)
      rw [e1]
      have i1 : (1 : Int) ≤ k.size := by omega
      have d2 : decide ((k.size : Int) ≤ 32) = false := decide_eq_false (by omega)
      clear e1
      go_enter Tryz.func47, Tryz.ntmps47
      go_wp2_with fail
      go_ret
      exact ⟨rfl, HB.out _⟩
  · have e1 : Rp.name ⟨k, s, e⟩ = false := decide_eq_false (fun h => h1 h.1)
    rw [e1]
    have i1 : ¬ (1 : Int) ≤ k.size := by omega
    clear e1
    go_enter Tryz.func47, Tryz.ntmps47
    go_wp2_with fail
    go_ret
    exact ⟨rfl, HB.out _⟩
end Go.Proofs.YtognlgklepgemaaGreat
