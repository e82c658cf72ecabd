/-
  No cell of these rows narrows 'for every input' (looked for: loops, veiled, ifaces, maps, wideKeys, modest, calm, conditions, laid).
  DERIVED. THE GIVEN ROWS OF THIS SEAT. 8 by the template 'for every input the law returns true; each argument reads behind the call as it read before'; 0 by the template 'total and deterministic' (their statements: YtjggheoonjajpaaTotals.lean).
  GIVEN WITH THE SEED: the statements are not yours to turn. If you find one false, say at which input.
  Laid BY PROGRAM, IN A SANDBOX (cutbox-rows.mjs): the forced cells as the released guide's own fill.sh prints them over the translation 5b70d624736dc33b… (all of the seat's roots in one cut). By AI agents, Wed Nov 11 2026. No macro, syntax, notation, axiom, sorry.
-/
import Derived.Test.YtjggheoonjajpaaChecked
import GoSem.Claim
import GoSem.ClaimJoined
import GoSem.ClaimMapViews
import Derived.JoinedTies
import Derived.KernelRfl
namespace Go.Proofs.Ytjggheoonjajpaa
/- THE CELL 'sum', in the pinned program and in every row, IS THE sha256 OF THE DUMP (.gsa) THAT YtjggheoonjajpaaProg.lean LOADS. Nothing in Lean hashes anything: it is a label: what it is worth is what the hold of that sum in a sandbox is worth. -/
noncomputable def Try.pinned : Pinned := { name := "ytjggheoonjajpaa", sum := "5b70d624736dc33b6ac3f9aeb0e40bcb545df5ea486ea630f4876360ac487e8d", checked := Try.checked }
namespace Rows
def none {H : Type} : Left H := { results := [], args := [] }

/-- 'laws.FnSense': WHATEVER THE INPUT: true; the input reads as it did. -/
def fnSenseSpec : ChangeSpec := { name := "fnSense", fn := fun _ => fun
  | [d] => { results := [.lit (.bool true)], args := [d] }
  | _ => none }
def fnSenseRow : OpenClaim := { program := "ytjggheoonjajpaa", sum := "5b70d624736dc33b6ac3f9aeb0e40bcb545df5ea486ea630f4876360ac487e8d", func := "loop.example/g00746/laws.FnSense", spec := "fnSense", unfollowed := true, recurses := true, apart := false }
def FnSenseSaid : Prop := fnSenseRow.holds Try.pinned (OpenSpec.ofChange fnSenseSpec)

/-- ITS FALSE NEIGHBOUR: 'it returns false'. Refute it at one input. -/
def fnSenseWrong : ChangeSpec := { name := "fnSense", fn := fun _ => fun
  | [d] => { results := [.lit (.bool false)], args := [d] }
  | _ => none }
def FnSenseWrongFalsely : Prop := fnSenseRow.holds Try.pinned (OpenSpec.ofChange fnSenseWrong)

/-- 'laws.FnHear': WHATEVER THE INPUT: true; the input reads as it did. -/
def fnHearSpec : ChangeSpec := { name := "fnHear", fn := fun _ => fun
  | [d] => { results := [.lit (.bool true)], args := [d] }
  | _ => none }
def fnHearRow : OpenClaim := { program := "ytjggheoonjajpaa", sum := "5b70d624736dc33b6ac3f9aeb0e40bcb545df5ea486ea630f4876360ac487e8d", func := "loop.example/g00746/laws.FnHear", spec := "fnHear", inPlace := ["slices.overlaps[int]"], unfollowed := true, recurses := true, apart := false }
def FnHearSaid : Prop := fnHearRow.holds Try.pinned (OpenSpec.ofChange fnHearSpec)

/-- ITS FALSE NEIGHBOUR: 'it returns false'. Refute it at one input. -/
def fnHearWrong : ChangeSpec := { name := "fnHear", fn := fun _ => fun
  | [d] => { results := [.lit (.bool false)], args := [d] }
  | _ => none }
def FnHearWrongFalsely : Prop := fnHearRow.holds Try.pinned (OpenSpec.ofChange fnHearWrong)

/-- 'laws.FnNewStation': WHATEVER THE INPUT: true; the input reads as it did. -/
def fnNewStationSpec : ChangeSpec := { name := "fnNewStation", fn := fun _ => fun
  | [d] => { results := [.lit (.bool true)], args := [d] }
  | _ => none }
def fnNewStationRow : OpenClaim := { program := "ytjggheoonjajpaa", sum := "5b70d624736dc33b6ac3f9aeb0e40bcb545df5ea486ea630f4876360ac487e8d", func := "loop.example/g00746/laws.FnNewStation", spec := "fnNewStation", unfollowed := true, recurses := true, apart := false }
def FnNewStationSaid : Prop := fnNewStationRow.holds Try.pinned (OpenSpec.ofChange fnNewStationSpec)

/-- ITS FALSE NEIGHBOUR: 'it returns false'. Refute it at one input. -/
def fnNewStationWrong : ChangeSpec := { name := "fnNewStation", fn := fun _ => fun
  | [d] => { results := [.lit (.bool false)], args := [d] }
  | _ => none }
def FnNewStationWrongFalsely : Prop := fnNewStationRow.holds Try.pinned (OpenSpec.ofChange fnNewStationWrong)

/-- 'laws.FnFresh': WHATEVER THE INPUT: true; the input reads as it did. -/
def fnFreshSpec : ChangeSpec := { name := "fnFresh", fn := fun _ => fun
  | [d] => { results := [.lit (.bool true)], args := [d] }
  | _ => none }
def fnFreshRow : OpenClaim := { program := "ytjggheoonjajpaa", sum := "5b70d624736dc33b6ac3f9aeb0e40bcb545df5ea486ea630f4876360ac487e8d", func := "loop.example/g00746/laws.FnFresh", spec := "fnFresh", inPlace := ["slices.overlaps[int]"], unfollowed := true, recurses := true, apart := false }
def FnFreshSaid : Prop := fnFreshRow.holds Try.pinned (OpenSpec.ofChange fnFreshSpec)

/-- ITS FALSE NEIGHBOUR: 'it returns false'. Refute it at one input. -/
def fnFreshWrong : ChangeSpec := { name := "fnFresh", fn := fun _ => fun
  | [d] => { results := [.lit (.bool false)], args := [d] }
  | _ => none }
def FnFreshWrongFalsely : Prop := fnFreshRow.holds Try.pinned (OpenSpec.ofChange fnFreshWrong)

/-- 'laws.FnExactStationOk': WHATEVER THE INPUT: true; the input reads as it did. -/
def fnExactStationOkSpec : ChangeSpec := { name := "fnExactStationOk", fn := fun _ => fun
  | [d] => { results := [.lit (.bool true)], args := [d] }
  | _ => none }
def fnExactStationOkRow : OpenClaim := { program := "ytjggheoonjajpaa", sum := "5b70d624736dc33b6ac3f9aeb0e40bcb545df5ea486ea630f4876360ac487e8d", func := "loop.example/g00746/laws.FnExactStationOk", spec := "fnExactStationOk", unfollowed := true, recurses := true, apart := false }
def FnExactStationOkSaid : Prop := fnExactStationOkRow.holds Try.pinned (OpenSpec.ofChange fnExactStationOkSpec)

/-- ITS FALSE NEIGHBOUR: 'it returns false'. Refute it at one input. -/
def fnExactStationOkWrong : ChangeSpec := { name := "fnExactStationOk", fn := fun _ => fun
  | [d] => { results := [.lit (.bool false)], args := [d] }
  | _ => none }
def FnExactStationOkWrongFalsely : Prop := fnExactStationOkRow.holds Try.pinned (OpenSpec.ofChange fnExactStationOkWrong)

/-- 'laws.FnExactNewStation': WHATEVER THE INPUT: true; the input reads as it did. -/
def fnExactNewStationSpec : ChangeSpec := { name := "fnExactNewStation", fn := fun _ => fun
  | [d1, d2] => { results := [.lit (.bool true)], args := [d1, d2] }
  | _ => none }
def fnExactNewStationRow : OpenClaim := { program := "ytjggheoonjajpaa", sum := "5b70d624736dc33b6ac3f9aeb0e40bcb545df5ea486ea630f4876360ac487e8d", func := "loop.example/g00746/laws.FnExactNewStation", spec := "fnExactNewStation", unfollowed := true, recurses := true, apart := false }
def FnExactNewStationSaid : Prop := fnExactNewStationRow.holds Try.pinned (OpenSpec.ofChange fnExactNewStationSpec)

/-- ITS FALSE NEIGHBOUR: 'it returns false'. Refute it at one input. -/
def fnExactNewStationWrong : ChangeSpec := { name := "fnExactNewStation", fn := fun _ => fun
  | [d1, d2] => { results := [.lit (.bool false)], args := [d1, d2] }
  | _ => none }
def FnExactNewStationWrongFalsely : Prop := fnExactNewStationRow.holds Try.pinned (OpenSpec.ofChange fnExactNewStationWrong)

/-- 'laws.FnExactSense': WHATEVER THE INPUT: true; the input reads as it did. -/
def fnExactSenseSpec : ChangeSpec := { name := "fnExactSense", fn := fun _ => fun
  | [d1, d2] => { results := [.lit (.bool true)], args := [d1, d2] }
  | _ => none }
def fnExactSenseRow : OpenClaim := { program := "ytjggheoonjajpaa", sum := "5b70d624736dc33b6ac3f9aeb0e40bcb545df5ea486ea630f4876360ac487e8d", func := "loop.example/g00746/laws.FnExactSense", spec := "fnExactSense", unfollowed := true, recurses := true, apart := false }
def FnExactSenseSaid : Prop := fnExactSenseRow.holds Try.pinned (OpenSpec.ofChange fnExactSenseSpec)

/-- ITS FALSE NEIGHBOUR: 'it returns false'. Refute it at one input. -/
def fnExactSenseWrong : ChangeSpec := { name := "fnExactSense", fn := fun _ => fun
  | [d1, d2] => { results := [.lit (.bool false)], args := [d1, d2] }
  | _ => none }
def FnExactSenseWrongFalsely : Prop := fnExactSenseRow.holds Try.pinned (OpenSpec.ofChange fnExactSenseWrong)

/-- 'laws.FnExactHear': WHATEVER THE INPUT: true; the input reads as it did. -/
def fnExactHearSpec : ChangeSpec := { name := "fnExactHear", fn := fun _ => fun
  | [d1, d2, d3, d4] => { results := [.lit (.bool true)], args := [d1, d2, d3, d4] }
  | _ => none }
def fnExactHearRow : OpenClaim := { program := "ytjggheoonjajpaa", sum := "5b70d624736dc33b6ac3f9aeb0e40bcb545df5ea486ea630f4876360ac487e8d", func := "loop.example/g00746/laws.FnExactHear", spec := "fnExactHear", inPlace := ["slices.overlaps[int]"], unfollowed := true, recurses := true, apart := false }
def FnExactHearSaid : Prop := fnExactHearRow.holds Try.pinned (OpenSpec.ofChange fnExactHearSpec)

/-- ITS FALSE NEIGHBOUR: 'it returns false'. Refute it at one input. -/
def fnExactHearWrong : ChangeSpec := { name := "fnExactHear", fn := fun _ => fun
  | [d1, d2, d3, d4] => { results := [.lit (.bool false)], args := [d1, d2, d3, d4] }
  | _ => none }
def FnExactHearWrongFalsely : Prop := fnExactHearRow.holds Try.pinned (OpenSpec.ofChange fnExactHearWrong)

/- THE SECOND FORM. 'bulk': how many values and letters a reading holds, each counted each time it is reached (what is shared counts as often as it is met; a slice's spare places count too). A statement '..UptoSaid' is the law's where the arguments, and the package variables that the reading takes, are together of bulk at most 1048576: NARROWER than '..Said'. Prove '..Said' where nothing that the law and all that it calls make is longer than what came in: it says more and counts as full. Else prove '..UptoSaid'. A law counts once. -/
mutual
def uptoBulk {H : Type} : DataW H → Nat
  | .lit (.string bytes) => bytes.length + 1
  | .lit _ => 1
  | .nil => 1
  | .ptr d => uptoBulk d + 1
  | .slice elems spare => uptoBulkAll elems + uptoBulkAll spare + 1
  | .agg parts => uptoBulkAll parts + 1
  | .iface _ d => uptoBulk d + 1
  | .map entries => uptoBulkEntries entries + 1
  | .held _ => 1
def uptoBulkAll {H : Type} : List (DataW H) → Nat
  | [] => 0
  | d :: r => uptoBulk d + uptoBulkAll r
def uptoBulkEntries {H : Type} : List (Lit × DataW H) → Nat
  | [] => 0
  | x :: r => uptoBulkEntry x + uptoBulkEntries r
def uptoBulkEntry {H : Type} : Lit × DataW H → Nat
  | (.string bytes, d) => bytes.length + uptoBulk d + 1
  | (_, d) => uptoBulk d + 1
 end
def uptoSmall : (H : Type) → List (DataW H) → Bool := fun _ ds => decide (uptoBulkAll ds ≤ 1048576)
def OpenSpec.upto (s : _root_.Go.ChangeSpec) : _root_.Go.OpenSpec := { _root_.Go.OpenSpec.ofChange s with cond := some uptoSmall }

/-- 'laws.FnSense', WHERE WHAT IT READS IS OF BULK AT MOST 1048576: true; the input reads as it did. -/
def fnSenseUptoRow : OpenClaim := { program := "ytjggheoonjajpaa", sum := "5b70d624736dc33b6ac3f9aeb0e40bcb545df5ea486ea630f4876360ac487e8d", func := "loop.example/g00746/laws.FnSense", spec := "fnSense", unfollowed := true, recurses := true, apart := false, narrowed := true }
def FnSenseUptoSaid : Prop := fnSenseUptoRow.holds Try.pinned (OpenSpec.upto fnSenseSpec)

/-- 'laws.FnHear', WHERE WHAT IT READS IS OF BULK AT MOST 1048576: true; the input reads as it did. -/
def fnHearUptoRow : OpenClaim := { program := "ytjggheoonjajpaa", sum := "5b70d624736dc33b6ac3f9aeb0e40bcb545df5ea486ea630f4876360ac487e8d", func := "loop.example/g00746/laws.FnHear", spec := "fnHear", inPlace := ["slices.overlaps[int]"], unfollowed := true, recurses := true, apart := false, narrowed := true }
def FnHearUptoSaid : Prop := fnHearUptoRow.holds Try.pinned (OpenSpec.upto fnHearSpec)

/-- 'laws.FnNewStation', WHERE WHAT IT READS IS OF BULK AT MOST 1048576: true; the input reads as it did. -/
def fnNewStationUptoRow : OpenClaim := { program := "ytjggheoonjajpaa", sum := "5b70d624736dc33b6ac3f9aeb0e40bcb545df5ea486ea630f4876360ac487e8d", func := "loop.example/g00746/laws.FnNewStation", spec := "fnNewStation", unfollowed := true, recurses := true, apart := false, narrowed := true }
def FnNewStationUptoSaid : Prop := fnNewStationUptoRow.holds Try.pinned (OpenSpec.upto fnNewStationSpec)

/-- 'laws.FnFresh', WHERE WHAT IT READS IS OF BULK AT MOST 1048576: true; the input reads as it did. -/
def fnFreshUptoRow : OpenClaim := { program := "ytjggheoonjajpaa", sum := "5b70d624736dc33b6ac3f9aeb0e40bcb545df5ea486ea630f4876360ac487e8d", func := "loop.example/g00746/laws.FnFresh", spec := "fnFresh", inPlace := ["slices.overlaps[int]"], unfollowed := true, recurses := true, apart := false, narrowed := true }
def FnFreshUptoSaid : Prop := fnFreshUptoRow.holds Try.pinned (OpenSpec.upto fnFreshSpec)

/-- 'laws.FnExactStationOk', WHERE WHAT IT READS IS OF BULK AT MOST 1048576: true; the input reads as it did. -/
def fnExactStationOkUptoRow : OpenClaim := { program := "ytjggheoonjajpaa", sum := "5b70d624736dc33b6ac3f9aeb0e40bcb545df5ea486ea630f4876360ac487e8d", func := "loop.example/g00746/laws.FnExactStationOk", spec := "fnExactStationOk", unfollowed := true, recurses := true, apart := false, narrowed := true }
def FnExactStationOkUptoSaid : Prop := fnExactStationOkUptoRow.holds Try.pinned (OpenSpec.upto fnExactStationOkSpec)

/-- 'laws.FnExactNewStation', WHERE WHAT IT READS IS OF BULK AT MOST 1048576: true; the input reads as it did. -/
def fnExactNewStationUptoRow : OpenClaim := { program := "ytjggheoonjajpaa", sum := "5b70d624736dc33b6ac3f9aeb0e40bcb545df5ea486ea630f4876360ac487e8d", func := "loop.example/g00746/laws.FnExactNewStation", spec := "fnExactNewStation", unfollowed := true, recurses := true, apart := false, narrowed := true }
def FnExactNewStationUptoSaid : Prop := fnExactNewStationUptoRow.holds Try.pinned (OpenSpec.upto fnExactNewStationSpec)

/-- 'laws.FnExactSense', WHERE WHAT IT READS IS OF BULK AT MOST 1048576: true; the input reads as it did. -/
def fnExactSenseUptoRow : OpenClaim := { program := "ytjggheoonjajpaa", sum := "5b70d624736dc33b6ac3f9aeb0e40bcb545df5ea486ea630f4876360ac487e8d", func := "loop.example/g00746/laws.FnExactSense", spec := "fnExactSense", unfollowed := true, recurses := true, apart := false, narrowed := true }
def FnExactSenseUptoSaid : Prop := fnExactSenseUptoRow.holds Try.pinned (OpenSpec.upto fnExactSenseSpec)

/-- 'laws.FnExactHear', WHERE WHAT IT READS IS OF BULK AT MOST 1048576: true; the input reads as it did. -/
def fnExactHearUptoRow : OpenClaim := { program := "ytjggheoonjajpaa", sum := "5b70d624736dc33b6ac3f9aeb0e40bcb545df5ea486ea630f4876360ac487e8d", func := "loop.example/g00746/laws.FnExactHear", spec := "fnExactHear", inPlace := ["slices.overlaps[int]"], unfollowed := true, recurses := true, apart := false, narrowed := true }
def FnExactHearUptoSaid : Prop := fnExactHearUptoRow.holds Try.pinned (OpenSpec.upto fnExactHearSpec)

end Rows
end Go.Proofs.Ytjggheoonjajpaa
