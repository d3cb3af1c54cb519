/-
  No cell of these rows narrows 'for every input' (looked for: loops, veiled, ifaces, maps, wideKeys, modest, calm, conditions, laid).
  DERIVED. THE GIVEN ROWS OF THIS SEAT. 3 by the template 'for every input the law returns true; each argument reads behind the call as it read before'; 0 by the template 'total and deterministic' (their statements: YtaahlepgmcgcfaaTotals.lean).
  GIVEN WITH THE SEED: the statements are not yours to turn. If you find one false, say at which input.
  Laid BY PROGRAM, IN A SANDBOX (cutbox-rows.mjs): the forced cells as the released guide's own fill.sh prints them over the translation bd7e9b44a2fbaa7c… (all of the seat's roots in one cut). By AI agents, Wed Nov 11 2026. No macro, syntax, notation, axiom, sorry.
-/
import Derived.Test.YtaahlepgmcgcfaaChecked
import GoSem.Claim
import GoSem.ClaimJoined
import GoSem.ClaimMapViews
import Derived.JoinedTies
import Derived.KernelRfl
namespace Go.Proofs.Ytaahlepgmcgcfaa
/- THE CELL 'sum', in the pinned program and in every row, IS THE sha256 OF THE DUMP (.gsa) THAT YtaahlepgmcgcfaaProg.lean LOADS. Nothing in Lean hashes anything: it is a label: what it is worth is what the hold of that sum in a sandbox is worth. -/
noncomputable def Try.pinned : Pinned := { name := "ytaahlepgmcgcfaa", sum := "bd7e9b44a2fbaa7c97374bf1369c80a9a0839c786b673f32e3d17897de53b014", checked := Try.checked }
namespace Rows
def none {H : Type} : Left H := { results := [], args := [] }

/-- 'tidepoollaw05.AggSorts': WHATEVER THE INPUT: true; the input reads as it did. -/
def aggSortsSpec : ChangeSpec := { name := "aggSorts", fn := fun _ => fun
  | [d1, d2] => { results := [.lit (.bool true)], args := [d1, d2] }
  | _ => none }
def aggSortsRow : OpenClaim := { program := "ytaahlepgmcgcfaa", sum := "bd7e9b44a2fbaa7c97374bf1369c80a9a0839c786b673f32e3d17897de53b014", func := "tidepool/tidepoollaw05.AggSorts", spec := "aggSorts", unfollowed := true, recurses := true, apart := false }
def AggSortsSaid : Prop := aggSortsRow.holds Try.pinned (OpenSpec.ofChange aggSortsSpec)

/-- ITS FALSE NEIGHBOUR: 'it returns false'. Refute it at one input. -/
def aggSortsWrong : ChangeSpec := { name := "aggSorts", fn := fun _ => fun
  | [d1, d2] => { results := [.lit (.bool false)], args := [d1, d2] }
  | _ => none }
def AggSortsWrongFalsely : Prop := aggSortsRow.holds Try.pinned (OpenSpec.ofChange aggSortsWrong)

/-- 'tidepoollaw05.AggParts': WHATEVER THE INPUT: true; the input reads as it did. -/
def aggPartsSpec : ChangeSpec := { name := "aggParts", fn := fun _ => fun
  | [d1, d2, d3] => { results := [.lit (.bool true)], args := [d1, d2, d3] }
  | _ => none }
def aggPartsRow : OpenClaim := { program := "ytaahlepgmcgcfaa", sum := "bd7e9b44a2fbaa7c97374bf1369c80a9a0839c786b673f32e3d17897de53b014", func := "tidepool/tidepoollaw05.AggParts", spec := "aggParts", unfollowed := true, recurses := true, apart := false }
def AggPartsSaid : Prop := aggPartsRow.holds Try.pinned (OpenSpec.ofChange aggPartsSpec)

/-- ITS FALSE NEIGHBOUR: 'it returns false'. Refute it at one input. -/
def aggPartsWrong : ChangeSpec := { name := "aggParts", fn := fun _ => fun
  | [d1, d2, d3] => { results := [.lit (.bool false)], args := [d1, d2, d3] }
  | _ => none }
def AggPartsWrongFalsely : Prop := aggPartsRow.holds Try.pinned (OpenSpec.ofChange aggPartsWrong)

/-- 'tidepoollaw05.AggKnown': WHATEVER THE INPUT: true; the input reads as it did. -/
def aggKnownSpec : ChangeSpec := { name := "aggKnown", fn := fun _ => fun
  | [] => { results := [.lit (.bool true)], args := [] }
  | _ => none }
def aggKnownRow : OpenClaim := { program := "ytaahlepgmcgcfaa", sum := "bd7e9b44a2fbaa7c97374bf1369c80a9a0839c786b673f32e3d17897de53b014", func := "tidepool/tidepoollaw05.AggKnown", spec := "aggKnown", unfollowed := true, recurses := true, apart := false }
def AggKnownSaid : Prop := aggKnownRow.holds Try.pinned (OpenSpec.ofChange aggKnownSpec)

/-- ITS FALSE NEIGHBOUR: 'it returns false'. Refute it at one input. -/
def aggKnownWrong : ChangeSpec := { name := "aggKnown", fn := fun _ => fun
  | [] => { results := [.lit (.bool false)], args := [] }
  | _ => none }
def AggKnownWrongFalsely : Prop := aggKnownRow.holds Try.pinned (OpenSpec.ofChange aggKnownWrong)

/- THE SECOND FORM. 'bulk': how many values and letters a reading holds, each counted each time it is reached (what is shared counts as often as it is met; a slice's spare places count too). A statement '..UptoSaid' is the law's where the arguments, and the package variables that the reading takes, are together of bulk at most 1048576: NARROWER than '..Said'. Prove '..Said' where nothing that the law and all that it calls make is longer than what came in: it says more and counts as full. Else prove '..UptoSaid'. A law counts once. -/
mutual
def uptoBulk {H : Type} : DataW H → Nat
  | .lit (.string bytes) => bytes.length + 1
  | .lit _ => 1
  | .nil => 1
  | .ptr d => uptoBulk d + 1
  | .slice elems spare => uptoBulkAll elems + uptoBulkAll spare + 1
  | .agg parts => uptoBulkAll parts + 1
  | .iface _ d => uptoBulk d + 1
  | .map entries => uptoBulkEntries entries + 1
  | .held _ => 1
def uptoBulkAll {H : Type} : List (DataW H) → Nat
  | [] => 0
  | d :: r => uptoBulk d + uptoBulkAll r
def uptoBulkEntries {H : Type} : List (Lit × DataW H) → Nat
  | [] => 0
  | x :: r => uptoBulkEntry x + uptoBulkEntries r
def uptoBulkEntry {H : Type} : Lit × DataW H → Nat
  | (.string bytes, d) => bytes.length + uptoBulk d + 1
  | (_, d) => uptoBulk d + 1
 end
def uptoSmall : (H : Type) → List (DataW H) → Bool := fun _ ds => decide (uptoBulkAll ds ≤ 1048576)
def OpenSpec.upto (s : _root_.Go.ChangeSpec) : _root_.Go.OpenSpec := { _root_.Go.OpenSpec.ofChange s with cond := some uptoSmall }

/-- 'tidepoollaw05.AggSorts', WHERE WHAT IT READS IS OF BULK AT MOST 1048576: true; the input reads as it did. -/
def aggSortsUptoRow : OpenClaim := { program := "ytaahlepgmcgcfaa", sum := "bd7e9b44a2fbaa7c97374bf1369c80a9a0839c786b673f32e3d17897de53b014", func := "tidepool/tidepoollaw05.AggSorts", spec := "aggSorts", unfollowed := true, recurses := true, apart := false, narrowed := true }
def AggSortsUptoSaid : Prop := aggSortsUptoRow.holds Try.pinned (OpenSpec.upto aggSortsSpec)

/-- 'tidepoollaw05.AggParts', WHERE WHAT IT READS IS OF BULK AT MOST 1048576: true; the input reads as it did. -/
def aggPartsUptoRow : OpenClaim := { program := "ytaahlepgmcgcfaa", sum := "bd7e9b44a2fbaa7c97374bf1369c80a9a0839c786b673f32e3d17897de53b014", func := "tidepool/tidepoollaw05.AggParts", spec := "aggParts", unfollowed := true, recurses := true, apart := false, narrowed := true }
def AggPartsUptoSaid : Prop := aggPartsUptoRow.holds Try.pinned (OpenSpec.upto aggPartsSpec)

/-- 'tidepoollaw05.AggKnown', WHERE WHAT IT READS IS OF BULK AT MOST 1048576: true; the input reads as it did. -/
def aggKnownUptoRow : OpenClaim := { program := "ytaahlepgmcgcfaa", sum := "bd7e9b44a2fbaa7c97374bf1369c80a9a0839c786b673f32e3d17897de53b014", func := "tidepool/tidepoollaw05.AggKnown", spec := "aggKnown", unfollowed := true, recurses := true, apart := false, narrowed := true }
def AggKnownUptoSaid : Prop := aggKnownUptoRow.holds Try.pinned (OpenSpec.upto aggKnownSpec)

end Rows
end Go.Proofs.Ytaahlepgmcgcfaa
