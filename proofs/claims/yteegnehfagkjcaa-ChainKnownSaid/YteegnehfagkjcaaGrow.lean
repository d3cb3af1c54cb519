/- A drawn region's condition may grow behind a call. No function and no type of the program is named here. -/
import Derived.Test.YteegnehfagkjcaaMem
namespace Go.Proofs.Yteegnehfagkjcaa
open Go.ChangeShapes Go.WideShapes Go.ChangeAt Go.RowKit

section
variable {P : Program} {ops : Array Oper} {Q : Exit → Act → World → Prop} {md : Region.Mode} {S S' : World → Prop}
theorem wpAnyH_grow (hs : ∀ w, S' w → S w) : ∀ (fuel : Nat) (listed : Array Bool) (a : Act) (w : World), wpAnyH P md ops Q S' fuel listed a w → wpAnyH P md ops Q S fuel listed a w
  | 0, _, _, _, h => h
  | fuel + 1, _, _, _, h => ⟨h.1, fun i hi => wpOp_mono (fun a' w' h' => ⟨hs w' h'.1, wpAnyH_grow hs fuel _ a' w' h'.2⟩) (h.2 i hi)⟩
/-- The way back into the region, under a condition that says more: 'simp only [grow (S' := ..) hs ‹Shut _›] at *' in an arm behind its contract. -/
theorem grow {K : Act → World → Prop} {fuel : Nat} {listed : Array Bool} (hs : ∀ w, S' w → S w) (hK : Shut (∀ a w, S w → (S w → wpAnyH P md ops Q S fuel listed a w) → K a w)) :
    Shut (∀ a w, S w → (S w → wpAnyH P md ops Q S fuel listed a w) → K a w) = Shut (∀ a w, S' w → (S' w → wpAnyH P md ops Q S' fuel listed a w) → K a w) :=
  propext ⟨fun _ a w hS h => hK.out a w (hs w hS) (fun _ => wpAnyH_grow hs _ _ _ _ (h hS)), fun _ => hK⟩
end
end Go.Proofs.Yteegnehfagkjcaa
