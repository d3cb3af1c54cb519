/-
  DERIVED. GIVEN WITH THE SEED: THE CARDS: each row of YtgailpljcobabaaDoorRows.lean that lists a variable, with what it lists TIED to the program's text (the seventh form; the later family's looks); each row that meets fmt, with fmt's text TOLD by the authors' own Lean function (tested against real Go, not proved from fmt's source: count such statements apart). THE CARD IS WHAT COUNTS. Prove the row's statement (the work); the ties are given (YtgailpljcobabaaDoorTie.lean); close each card by the builder's one call (the guide's Derived/Test/ToyasCard.lean, 'card_holds'). Laid BY PROGRAM, IN A SANDBOX (cutbox-door.mjs). By AI agents, Wed Nov 11 2026. No macro, syntax, notation, axiom, sorry.
-/
import Derived.Test.YtgailpljcobabaaDoorRows
import GoSem.ClaimSeven
namespace Go.Proofs.YtgailpljcobabaaDoor
namespace Rows

/-- THE TIED CARD OF 'tidepoollaw09.RequestPuts'. -/
def requestPutsCard : Claim7 := { stood := { row := requestPutsRow, standIns := [], harness := (true, "f13c6b789e1857a0d2a096caa2bf01c5813e630cb8ba18fddb0e2fef335a991b"), looks := false }, kinds := [], alts := [], laidByText := true, laidKinds := [.data, .data], laidTests := true, laidLooks := .later }
def RequestPutsCardSaid : Prop := Claim7.holds Tryd.pinned (.plain (OpenSpec.ofChange requestPutsSpec)) requestPutsCard

/-- THE TIED CARD OF 'tidepoollaw09.RequestReads'. -/
def requestReadsCard : Claim7 := { stood := { row := requestReadsRow, standIns := [], harness := (true, "f13c6b789e1857a0d2a096caa2bf01c5813e630cb8ba18fddb0e2fef335a991b"), looks := false }, kinds := [], alts := [], laidByText := true, laidKinds := [.data, .data], laidTests := true, laidLooks := .later }
def RequestReadsCardSaid : Prop := Claim7.holds Tryd.pinned (.plain (OpenSpec.ofChange requestReadsSpec)) requestReadsCard

/-- THE TIED CARD OF 'tidepoollaw09.RequestBack'. -/
def requestBackCard : Claim7 := { stood := { row := requestBackRow, standIns := [], harness := (true, "f13c6b789e1857a0d2a096caa2bf01c5813e630cb8ba18fddb0e2fef335a991b"), looks := false }, kinds := [], alts := [], laidByText := true, laidKinds := [.data, .data], laidTests := true, laidLooks := .later }
def RequestBackCardSaid : Prop := Claim7.holds Tryd.pinned (.plain (OpenSpec.ofChange requestBackSpec)) requestBackCard

/-- THE TIED CARD OF 'tidepoollaw09.RequestKnown'. -/
def requestKnownCard : Claim7 := { stood := { row := requestKnownRow, standIns := [], harness := (true, "f13c6b789e1857a0d2a096caa2bf01c5813e630cb8ba18fddb0e2fef335a991b"), looks := false }, kinds := [], alts := [], laidByText := true, laidKinds := [.data, .data], laidTests := true, laidLooks := .later }
def RequestKnownCardSaid : Prop := Claim7.holds Tryd.pinned (.plain (OpenSpec.ofChange requestKnownSpec)) requestKnownCard

/-- THE SECOND FORM's CARD OF 'tidepoollaw09.RequestPuts'. -/
def requestPutsUptoCard : Claim7 := { stood := { row := requestPutsUptoRow, standIns := [], harness := (true, "f13c6b789e1857a0d2a096caa2bf01c5813e630cb8ba18fddb0e2fef335a991b"), looks := false }, kinds := [], alts := [], laidByText := true, laidKinds := [.data, .data], laidTests := true, laidLooks := .later }
def RequestPutsUptoCardSaid : Prop := Claim7.holds Tryd.pinned (.plain (OpenSpec.upto requestPutsSpec)) requestPutsUptoCard

/-- THE SECOND FORM's CARD OF 'tidepoollaw09.RequestReads'. -/
def requestReadsUptoCard : Claim7 := { stood := { row := requestReadsUptoRow, standIns := [], harness := (true, "f13c6b789e1857a0d2a096caa2bf01c5813e630cb8ba18fddb0e2fef335a991b"), looks := false }, kinds := [], alts := [], laidByText := true, laidKinds := [.data, .data], laidTests := true, laidLooks := .later }
def RequestReadsUptoCardSaid : Prop := Claim7.holds Tryd.pinned (.plain (OpenSpec.upto requestReadsSpec)) requestReadsUptoCard

/-- THE SECOND FORM's CARD OF 'tidepoollaw09.RequestBack'. -/
def requestBackUptoCard : Claim7 := { stood := { row := requestBackUptoRow, standIns := [], harness := (true, "f13c6b789e1857a0d2a096caa2bf01c5813e630cb8ba18fddb0e2fef335a991b"), looks := false }, kinds := [], alts := [], laidByText := true, laidKinds := [.data, .data], laidTests := true, laidLooks := .later }
def RequestBackUptoCardSaid : Prop := Claim7.holds Tryd.pinned (.plain (OpenSpec.upto requestBackSpec)) requestBackUptoCard

/-- THE SECOND FORM's CARD OF 'tidepoollaw09.RequestKnown'. -/
def requestKnownUptoCard : Claim7 := { stood := { row := requestKnownUptoRow, standIns := [], harness := (true, "f13c6b789e1857a0d2a096caa2bf01c5813e630cb8ba18fddb0e2fef335a991b"), looks := false }, kinds := [], alts := [], laidByText := true, laidKinds := [.data, .data], laidTests := true, laidLooks := .later }
def RequestKnownUptoCardSaid : Prop := Claim7.holds Tryd.pinned (.plain (OpenSpec.upto requestKnownSpec)) requestKnownUptoCard
end Rows
end Go.Proofs.YtgailpljcobabaaDoor
