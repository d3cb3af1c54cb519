/-
  NARROWER THAN 'FOR EVERY INPUT', by the rows' own cells (each row's printed sentence says how): RequestPuts: laid · RequestReads: laid · RequestBack: laid · RequestKnown: laid.
  DERIVED. THE GIVEN ROWS OF THIS SEAT. 4 by the template 'for every input the law returns true; each argument reads behind the call as it read before'; 0 by the template 'total and deterministic' (their statements: YtgailpljcobabaaDoorTotals.lean).
  GIVEN WITH THE SEED: the statements are not yours to turn. If you find one false, say at which input.
  Laid BY PROGRAM, IN A SANDBOX (cutbox-rows.mjs): the forced cells as the released guide's own fill.sh prints them over the translation 7b3365c42e88b925… (all of the seat's roots in one cut). By AI agents, Wed Nov 11 2026. No macro, syntax, notation, axiom, sorry.
-/
import Derived.Test.YtgailpljcobabaaDoorChecked
import GoSem.Claim
import GoSem.ClaimJoined
import GoSem.ClaimMapViews
import Derived.JoinedTies
import Derived.KernelRfl
namespace Go.Proofs.YtgailpljcobabaaDoor
/- THE CELL 'sum', in the pinned program and in every row, IS THE sha256 OF THE DUMP (.gsa) THAT YtgailpljcobabaaDoorProg.lean LOADS. Nothing in Lean hashes anything: it is a label: what it is worth is what the hold of that sum in a sandbox is worth. -/
noncomputable def Tryd.pinned : Pinned := { name := "ytgailpljcobabaadoor", sum := "7b3365c42e88b925ea875056f47d868583154084a9b4c3f34dafbf736534b6c7", checked := Tryd.checked }
namespace Rows
def none {H : Type} : Left H := { results := [], args := [] }

/- WHAT THE LISTED PACKAGE-LEVEL VARIABLES READ AS WHEN THE CALL BEGINS. Each datum BY PROGRAM (the guide's laid-datum.mjs) off the statement by which the dump's own 'gosem.cut.vars' lays the variable. In a bare row this is a premise. The card (YtgailpljcobabaaDoorCards.lean) ties it to the program's text. -/
def laid_tidepool_request_parts {H : Type} : DataW H := .agg [.lit (.string []), .lit (.string [65, 80, 87]), .lit (.string [65, 68]), .lit (.string [76, 68]), .lit (.string [76]), .lit (.string [68, 87]), .lit (.string [76, 80, 68]), .lit (.string [76]), .lit (.string [])]
def laid_tidepool_request_words {H : Type} : DataW H := .agg [.lit (.string []), .lit (.string [97, 115, 107]), .lit (.string [103, 114, 97, 110, 116]), .lit (.string [114, 101, 110, 101, 119]), .lit (.string [114, 101, 108, 101, 97, 115, 101]), .lit (.string [111, 112, 101, 110]), .lit (.string [112, 111, 108, 108]), .lit (.string [99, 108, 111, 115, 101]), .lit (.string [115, 116, 97, 116, 117, 115])]

/-- 'tidepoollaw09.RequestPuts': WHATEVER THE INPUT: true; the input reads as it did. -/
def requestPutsSpec : ChangeSpec := { name := "requestPuts", fn := fun _ => fun
  | [d1, d2] => { results := [.lit (.bool true)], args := [d1, d2] }
  | _ => none }
def requestPutsRow : OpenClaim := { program := "ytgailpljcobabaadoor", sum := "7b3365c42e88b925ea875056f47d868583154084a9b4c3f34dafbf736534b6c7", func := "tidepool/tidepoollaw09.RequestPuts", spec := "requestPuts", inPlace := ["internal/bytealg.IndexByteString", "internal/bytealg.IndexString"], unfollowed := true, recurses := true, named := ["tidepool/request.parts", "tidepool/request.words", "internal/bytealg.MaxLen"], apart := false, laid := [("tidepool/request.parts", laid_tidepool_request_parts), ("tidepool/request.words", laid_tidepool_request_words)] }
def RequestPutsSaid : Prop := requestPutsRow.holds Tryd.pinned (OpenSpec.ofChange requestPutsSpec)

/-- ITS FALSE NEIGHBOUR: 'it returns false'. Refute it at one input. -/
def requestPutsWrong : ChangeSpec := { name := "requestPuts", fn := fun _ => fun
  | [d1, d2] => { results := [.lit (.bool false)], args := [d1, d2] }
  | _ => none }
def RequestPutsWrongFalsely : Prop := requestPutsRow.holds Tryd.pinned (OpenSpec.ofChange requestPutsWrong)

/-- 'tidepoollaw09.RequestReads': WHATEVER THE INPUT: true; the input reads as it did. -/
def requestReadsSpec : ChangeSpec := { name := "requestReads", fn := fun _ => fun
  | [d] => { results := [.lit (.bool true)], args := [d] }
  | _ => none }
def requestReadsRow : OpenClaim := { program := "ytgailpljcobabaadoor", sum := "7b3365c42e88b925ea875056f47d868583154084a9b4c3f34dafbf736534b6c7", func := "tidepool/tidepoollaw09.RequestReads", spec := "requestReads", inPlace := ["internal/bytealg.IndexByteString", "internal/bytealg.IndexString"], unfollowed := true, recurses := true, named := ["tidepool/request.parts", "tidepool/request.words", "internal/bytealg.MaxLen"], apart := false, laid := [("tidepool/request.parts", laid_tidepool_request_parts), ("tidepool/request.words", laid_tidepool_request_words)] }
def RequestReadsSaid : Prop := requestReadsRow.holds Tryd.pinned (OpenSpec.ofChange requestReadsSpec)

/-- ITS FALSE NEIGHBOUR: 'it returns false'. Refute it at one input. -/
def requestReadsWrong : ChangeSpec := { name := "requestReads", fn := fun _ => fun
  | [d] => { results := [.lit (.bool false)], args := [d] }
  | _ => none }
def RequestReadsWrongFalsely : Prop := requestReadsRow.holds Tryd.pinned (OpenSpec.ofChange requestReadsWrong)

/-- 'tidepoollaw09.RequestBack': WHATEVER THE INPUT: true; the input reads as it did. -/
def requestBackSpec : ChangeSpec := { name := "requestBack", fn := fun _ => fun
  | [d1, d2, d3] => { results := [.lit (.bool true)], args := [d1, d2, d3] }
  | _ => none }
def requestBackRow : OpenClaim := { program := "ytgailpljcobabaadoor", sum := "7b3365c42e88b925ea875056f47d868583154084a9b4c3f34dafbf736534b6c7", func := "tidepool/tidepoollaw09.RequestBack", spec := "requestBack", inPlace := ["internal/bytealg.IndexByteString", "internal/bytealg.IndexString"], unfollowed := true, recurses := true, named := ["tidepool/request.parts", "tidepool/request.words", "internal/bytealg.MaxLen"], apart := false, laid := [("tidepool/request.parts", laid_tidepool_request_parts), ("tidepool/request.words", laid_tidepool_request_words)] }
def RequestBackSaid : Prop := requestBackRow.holds Tryd.pinned (OpenSpec.ofChange requestBackSpec)

/-- ITS FALSE NEIGHBOUR: 'it returns false'. Refute it at one input. -/
def requestBackWrong : ChangeSpec := { name := "requestBack", fn := fun _ => fun
  | [d1, d2, d3] => { results := [.lit (.bool false)], args := [d1, d2, d3] }
  | _ => none }
def RequestBackWrongFalsely : Prop := requestBackRow.holds Tryd.pinned (OpenSpec.ofChange requestBackWrong)

/-- 'tidepoollaw09.RequestKnown': WHATEVER THE INPUT: true; the input reads as it did. -/
def requestKnownSpec : ChangeSpec := { name := "requestKnown", fn := fun _ => fun
  | [] => { results := [.lit (.bool true)], args := [] }
  | _ => none }
def requestKnownRow : OpenClaim := { program := "ytgailpljcobabaadoor", sum := "7b3365c42e88b925ea875056f47d868583154084a9b4c3f34dafbf736534b6c7", func := "tidepool/tidepoollaw09.RequestKnown", spec := "requestKnown", inPlace := ["internal/bytealg.IndexByteString", "internal/bytealg.IndexString"], unfollowed := true, recurses := true, named := ["tidepool/request.parts", "tidepool/request.words", "internal/bytealg.MaxLen"], apart := false, laid := [("tidepool/request.parts", laid_tidepool_request_parts), ("tidepool/request.words", laid_tidepool_request_words)] }
def RequestKnownSaid : Prop := requestKnownRow.holds Tryd.pinned (OpenSpec.ofChange requestKnownSpec)

/-- ITS FALSE NEIGHBOUR: 'it returns false'. Refute it at one input. -/
def requestKnownWrong : ChangeSpec := { name := "requestKnown", fn := fun _ => fun
  | [] => { results := [.lit (.bool false)], args := [] }
  | _ => none }
def RequestKnownWrongFalsely : Prop := requestKnownRow.holds Tryd.pinned (OpenSpec.ofChange requestKnownWrong)

/- THE SECOND FORM. 'bulk': how many values and letters a reading holds, each counted each time it is reached (what is shared counts as often as it is met; a slice's spare places count too). A statement '..UptoSaid' is the law's where the arguments, and the package variables that the reading takes, are together of bulk at most 1048576: NARROWER than '..Said'. Prove '..Said' where nothing that the law and all that it calls make is longer than what came in: it says more and counts as full. Else prove '..UptoSaid'. A law counts once. -/
mutual
def uptoBulk {H : Type} : DataW H → Nat
  | .lit (.string bytes) => bytes.length + 1
  | .lit _ => 1
  | .nil => 1
  | .ptr d => uptoBulk d + 1
  | .slice elems spare => uptoBulkAll elems + uptoBulkAll spare + 1
  | .agg parts => uptoBulkAll parts + 1
  | .iface _ d => uptoBulk d + 1
  | .map entries => uptoBulkEntries entries + 1
  | .held _ => 1
def uptoBulkAll {H : Type} : List (DataW H) → Nat
  | [] => 0
  | d :: r => uptoBulk d + uptoBulkAll r
def uptoBulkEntries {H : Type} : List (Lit × DataW H) → Nat
  | [] => 0
  | x :: r => uptoBulkEntry x + uptoBulkEntries r
def uptoBulkEntry {H : Type} : Lit × DataW H → Nat
  | (.string bytes, d) => bytes.length + uptoBulk d + 1
  | (_, d) => uptoBulk d + 1
 end
def uptoSmall : (H : Type) → List (DataW H) → Bool := fun _ ds => decide (uptoBulkAll ds ≤ 1048576)
def OpenSpec.upto (s : _root_.Go.ChangeSpec) : _root_.Go.OpenSpec := { _root_.Go.OpenSpec.ofChange s with cond := some uptoSmall }

/-- 'tidepoollaw09.RequestPuts', WHERE WHAT IT READS IS OF BULK AT MOST 1048576: true; the input reads as it did. -/
def requestPutsUptoRow : OpenClaim := { program := "ytgailpljcobabaadoor", sum := "7b3365c42e88b925ea875056f47d868583154084a9b4c3f34dafbf736534b6c7", func := "tidepool/tidepoollaw09.RequestPuts", spec := "requestPuts", inPlace := ["internal/bytealg.IndexByteString", "internal/bytealg.IndexString"], unfollowed := true, recurses := true, named := ["tidepool/request.parts", "tidepool/request.words", "internal/bytealg.MaxLen"], apart := false, laid := [("tidepool/request.parts", laid_tidepool_request_parts), ("tidepool/request.words", laid_tidepool_request_words)], narrowed := true }
def RequestPutsUptoSaid : Prop := requestPutsUptoRow.holds Tryd.pinned (OpenSpec.upto requestPutsSpec)

/-- 'tidepoollaw09.RequestReads', WHERE WHAT IT READS IS OF BULK AT MOST 1048576: true; the input reads as it did. -/
def requestReadsUptoRow : OpenClaim := { program := "ytgailpljcobabaadoor", sum := "7b3365c42e88b925ea875056f47d868583154084a9b4c3f34dafbf736534b6c7", func := "tidepool/tidepoollaw09.RequestReads", spec := "requestReads", inPlace := ["internal/bytealg.IndexByteString", "internal/bytealg.IndexString"], unfollowed := true, recurses := true, named := ["tidepool/request.parts", "tidepool/request.words", "internal/bytealg.MaxLen"], apart := false, laid := [("tidepool/request.parts", laid_tidepool_request_parts), ("tidepool/request.words", laid_tidepool_request_words)], narrowed := true }
def RequestReadsUptoSaid : Prop := requestReadsUptoRow.holds Tryd.pinned (OpenSpec.upto requestReadsSpec)

/-- 'tidepoollaw09.RequestBack', WHERE WHAT IT READS IS OF BULK AT MOST 1048576: true; the input reads as it did. -/
def requestBackUptoRow : OpenClaim := { program := "ytgailpljcobabaadoor", sum := "7b3365c42e88b925ea875056f47d868583154084a9b4c3f34dafbf736534b6c7", func := "tidepool/tidepoollaw09.RequestBack", spec := "requestBack", inPlace := ["internal/bytealg.IndexByteString", "internal/bytealg.IndexString"], unfollowed := true, recurses := true, named := ["tidepool/request.parts", "tidepool/request.words", "internal/bytealg.MaxLen"], apart := false, laid := [("tidepool/request.parts", laid_tidepool_request_parts), ("tidepool/request.words", laid_tidepool_request_words)], narrowed := true }
def RequestBackUptoSaid : Prop := requestBackUptoRow.holds Tryd.pinned (OpenSpec.upto requestBackSpec)

/-- 'tidepoollaw09.RequestKnown', WHERE WHAT IT READS IS OF BULK AT MOST 1048576: true; the input reads as it did. -/
def requestKnownUptoRow : OpenClaim := { program := "ytgailpljcobabaadoor", sum := "7b3365c42e88b925ea875056f47d868583154084a9b4c3f34dafbf736534b6c7", func := "tidepool/tidepoollaw09.RequestKnown", spec := "requestKnown", inPlace := ["internal/bytealg.IndexByteString", "internal/bytealg.IndexString"], unfollowed := true, recurses := true, named := ["tidepool/request.parts", "tidepool/request.words", "internal/bytealg.MaxLen"], apart := false, laid := [("tidepool/request.parts", laid_tidepool_request_parts), ("tidepool/request.words", laid_tidepool_request_words)], narrowed := true }
def RequestKnownUptoSaid : Prop := requestKnownUptoRow.holds Tryd.pinned (OpenSpec.upto requestKnownSpec)

end Rows
end Go.Proofs.YtgailpljcobabaaDoor
