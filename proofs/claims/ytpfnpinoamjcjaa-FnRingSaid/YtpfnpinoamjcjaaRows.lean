/-
  No cell of these rows narrows 'for every input' (looked for: loops, veiled, ifaces, maps, wideKeys, modest, calm, conditions, laid).
  DERIVED. THE GIVEN ROWS OF THIS SEAT. 9 by the template 'for every input the law returns true; each argument reads behind the call as it read before'; 0 by the template 'total and deterministic' (their statements: YtpfnpinoamjcjaaTotals.lean).
  GIVEN WITH THE SEED: the statements are not yours to turn. If you find one false, say at which input.
  Laid BY PROGRAM, IN A SANDBOX (cutbox-rows.mjs): the forced cells as the released guide's own fill.sh prints them over the translation f66e15ce055451d2… (all of the seat's roots in one cut). By AI agents, Wed Nov 11 2026. No macro, syntax, notation, axiom, sorry.
-/
import Derived.Test.YtpfnpinoamjcjaaChecked
import GoSem.Claim
import GoSem.ClaimJoined
import GoSem.ClaimMapViews
import Derived.JoinedTies
import Derived.KernelRfl
namespace Go.Proofs.Ytpfnpinoamjcjaa
/- THE CELL 'sum', in the pinned program and in every row, IS THE sha256 OF THE DUMP (.gsa) THAT YtpfnpinoamjcjaaProg.lean LOADS. Nothing in Lean hashes anything: it is a label: what it is worth is what the hold of that sum in a sandbox is worth. -/
noncomputable def Try.pinned : Pinned := { name := "ytpfnpinoamjcjaa", sum := "f66e15ce055451d22ff66e2e37c2bd3e85232f6648dc0a6c5c0c1b659d3611f4", checked := Try.checked }
namespace Rows
def none {H : Type} : Left H := { results := [], args := [] }

/-- 'laws.FnLinks': WHATEVER THE INPUT: true; the input reads as it did. -/
def fnLinksSpec : ChangeSpec := { name := "fnLinks", fn := fun _ => fun
  | [d] => { results := [.lit (.bool true)], args := [d] }
  | _ => none }
def fnLinksRow : OpenClaim := { program := "ytpfnpinoamjcjaa", sum := "f66e15ce055451d22ff66e2e37c2bd3e85232f6648dc0a6c5c0c1b659d3611f4", func := "loop.example/g00746/laws.FnLinks", spec := "fnLinks", inPlace := ["slices.overlaps[loop.example/g00746/impl.Link]"], unfollowed := true, recurses := true, apart := false }
def FnLinksSaid : Prop := fnLinksRow.holds Try.pinned (OpenSpec.ofChange fnLinksSpec)

/-- ITS FALSE NEIGHBOUR: 'it returns false'. Refute it at one input. -/
def fnLinksWrong : ChangeSpec := { name := "fnLinks", fn := fun _ => fun
  | [d] => { results := [.lit (.bool false)], args := [d] }
  | _ => none }
def FnLinksWrongFalsely : Prop := fnLinksRow.holds Try.pinned (OpenSpec.ofChange fnLinksWrong)

/-- 'laws.FnNear': WHATEVER THE INPUT: true; the input reads as it did. -/
def fnNearSpec : ChangeSpec := { name := "fnNear", fn := fun _ => fun
  | [d] => { results := [.lit (.bool true)], args := [d] }
  | _ => none }
def fnNearRow : OpenClaim := { program := "ytpfnpinoamjcjaa", sum := "f66e15ce055451d22ff66e2e37c2bd3e85232f6648dc0a6c5c0c1b659d3611f4", func := "loop.example/g00746/laws.FnNear", spec := "fnNear", unfollowed := true, recurses := true, apart := false }
def FnNearSaid : Prop := fnNearRow.holds Try.pinned (OpenSpec.ofChange fnNearSpec)

/-- ITS FALSE NEIGHBOUR: 'it returns false'. Refute it at one input. -/
def fnNearWrong : ChangeSpec := { name := "fnNear", fn := fun _ => fun
  | [d] => { results := [.lit (.bool false)], args := [d] }
  | _ => none }
def FnNearWrongFalsely : Prop := fnNearRow.holds Try.pinned (OpenSpec.ofChange fnNearWrong)

/-- 'laws.FnReach': WHATEVER THE INPUT: true; the input reads as it did. -/
def fnReachSpec : ChangeSpec := { name := "fnReach", fn := fun _ => fun
  | [d] => { results := [.lit (.bool true)], args := [d] }
  | _ => none }
def fnReachRow : OpenClaim := { program := "ytpfnpinoamjcjaa", sum := "f66e15ce055451d22ff66e2e37c2bd3e85232f6648dc0a6c5c0c1b659d3611f4", func := "loop.example/g00746/laws.FnReach", spec := "fnReach", inPlace := ["slices.overlaps[int]"], unfollowed := true, recurses := true, apart := false }
def FnReachSaid : Prop := fnReachRow.holds Try.pinned (OpenSpec.ofChange fnReachSpec)

/-- ITS FALSE NEIGHBOUR: 'it returns false'. Refute it at one input. -/
def fnReachWrong : ChangeSpec := { name := "fnReach", fn := fun _ => fun
  | [d] => { results := [.lit (.bool false)], args := [d] }
  | _ => none }
def FnReachWrongFalsely : Prop := fnReachRow.holds Try.pinned (OpenSpec.ofChange fnReachWrong)

/-- 'laws.FnRing': WHATEVER THE INPUT: true; the input reads as it did. -/
def fnRingSpec : ChangeSpec := { name := "fnRing", fn := fun _ => fun
  | [d] => { results := [.lit (.bool true)], args := [d] }
  | _ => none }
def fnRingRow : OpenClaim := { program := "ytpfnpinoamjcjaa", sum := "f66e15ce055451d22ff66e2e37c2bd3e85232f6648dc0a6c5c0c1b659d3611f4", func := "loop.example/g00746/laws.FnRing", spec := "fnRing", inPlace := ["slices.overlaps[loop.example/g00746/impl.Link]", "slices.overlaps[int]"], unfollowed := true, recurses := true, apart := false }
def FnRingSaid : Prop := fnRingRow.holds Try.pinned (OpenSpec.ofChange fnRingSpec)

/-- ITS FALSE NEIGHBOUR: 'it returns false'. Refute it at one input. -/
def fnRingWrong : ChangeSpec := { name := "fnRing", fn := fun _ => fun
  | [d] => { results := [.lit (.bool false)], args := [d] }
  | _ => none }
def FnRingWrongFalsely : Prop := fnRingRow.holds Try.pinned (OpenSpec.ofChange fnRingWrong)

/-- 'laws.FnExactLinksOk': WHATEVER THE INPUT: true; the input reads as it did. -/
def fnExactLinksOkSpec : ChangeSpec := { name := "fnExactLinksOk", fn := fun _ => fun
  | [d] => { results := [.lit (.bool true)], args := [d] }
  | _ => none }
def fnExactLinksOkRow : OpenClaim := { program := "ytpfnpinoamjcjaa", sum := "f66e15ce055451d22ff66e2e37c2bd3e85232f6648dc0a6c5c0c1b659d3611f4", func := "loop.example/g00746/laws.FnExactLinksOk", spec := "fnExactLinksOk", apart := false }
def FnExactLinksOkSaid : Prop := fnExactLinksOkRow.holds Try.pinned (OpenSpec.ofChange fnExactLinksOkSpec)

/-- ITS FALSE NEIGHBOUR: 'it returns false'. Refute it at one input. -/
def fnExactLinksOkWrong : ChangeSpec := { name := "fnExactLinksOk", fn := fun _ => fun
  | [d] => { results := [.lit (.bool false)], args := [d] }
  | _ => none }
def FnExactLinksOkWrongFalsely : Prop := fnExactLinksOkRow.holds Try.pinned (OpenSpec.ofChange fnExactLinksOkWrong)

/-- 'laws.FnExactLinkUp': WHATEVER THE INPUT: true; the input reads as it did. -/
def fnExactLinkUpSpec : ChangeSpec := { name := "fnExactLinkUp", fn := fun _ => fun
  | [d1, d2, d3] => { results := [.lit (.bool true)], args := [d1, d2, d3] }
  | _ => none }
def fnExactLinkUpRow : OpenClaim := { program := "ytpfnpinoamjcjaa", sum := "f66e15ce055451d22ff66e2e37c2bd3e85232f6648dc0a6c5c0c1b659d3611f4", func := "loop.example/g00746/laws.FnExactLinkUp", spec := "fnExactLinkUp", inPlace := ["slices.overlaps[loop.example/g00746/impl.Link]"], unfollowed := true, recurses := true, apart := false }
def FnExactLinkUpSaid : Prop := fnExactLinkUpRow.holds Try.pinned (OpenSpec.ofChange fnExactLinkUpSpec)

/-- ITS FALSE NEIGHBOUR: 'it returns false'. Refute it at one input. -/
def fnExactLinkUpWrong : ChangeSpec := { name := "fnExactLinkUp", fn := fun _ => fun
  | [d1, d2, d3] => { results := [.lit (.bool false)], args := [d1, d2, d3] }
  | _ => none }
def FnExactLinkUpWrongFalsely : Prop := fnExactLinkUpRow.holds Try.pinned (OpenSpec.ofChange fnExactLinkUpWrong)

/-- 'laws.FnExactLinkDown': WHATEVER THE INPUT: true; the input reads as it did. -/
def fnExactLinkDownSpec : ChangeSpec := { name := "fnExactLinkDown", fn := fun _ => fun
  | [d1, d2, d3] => { results := [.lit (.bool true)], args := [d1, d2, d3] }
  | _ => none }
def fnExactLinkDownRow : OpenClaim := { program := "ytpfnpinoamjcjaa", sum := "f66e15ce055451d22ff66e2e37c2bd3e85232f6648dc0a6c5c0c1b659d3611f4", func := "loop.example/g00746/laws.FnExactLinkDown", spec := "fnExactLinkDown", unfollowed := true, recurses := true, apart := false }
def FnExactLinkDownSaid : Prop := fnExactLinkDownRow.holds Try.pinned (OpenSpec.ofChange fnExactLinkDownSpec)

/-- ITS FALSE NEIGHBOUR: 'it returns false'. Refute it at one input. -/
def fnExactLinkDownWrong : ChangeSpec := { name := "fnExactLinkDown", fn := fun _ => fun
  | [d1, d2, d3] => { results := [.lit (.bool false)], args := [d1, d2, d3] }
  | _ => none }
def FnExactLinkDownWrongFalsely : Prop := fnExactLinkDownRow.holds Try.pinned (OpenSpec.ofChange fnExactLinkDownWrong)

/-- 'laws.FnExactNear': WHATEVER THE INPUT: true; the input reads as it did. -/
def fnExactNearSpec : ChangeSpec := { name := "fnExactNear", fn := fun _ => fun
  | [d1, d2] => { results := [.lit (.bool true)], args := [d1, d2] }
  | _ => none }
def fnExactNearRow : OpenClaim := { program := "ytpfnpinoamjcjaa", sum := "f66e15ce055451d22ff66e2e37c2bd3e85232f6648dc0a6c5c0c1b659d3611f4", func := "loop.example/g00746/laws.FnExactNear", spec := "fnExactNear", unfollowed := true, recurses := true, apart := false }
def FnExactNearSaid : Prop := fnExactNearRow.holds Try.pinned (OpenSpec.ofChange fnExactNearSpec)

/-- ITS FALSE NEIGHBOUR: 'it returns false'. Refute it at one input. -/
def fnExactNearWrong : ChangeSpec := { name := "fnExactNear", fn := fun _ => fun
  | [d1, d2] => { results := [.lit (.bool false)], args := [d1, d2] }
  | _ => none }
def FnExactNearWrongFalsely : Prop := fnExactNearRow.holds Try.pinned (OpenSpec.ofChange fnExactNearWrong)

/-- 'laws.FnExactReach': WHATEVER THE INPUT: true; the input reads as it did. -/
def fnExactReachSpec : ChangeSpec := { name := "fnExactReach", fn := fun _ => fun
  | [d1, d2] => { results := [.lit (.bool true)], args := [d1, d2] }
  | _ => none }
def fnExactReachRow : OpenClaim := { program := "ytpfnpinoamjcjaa", sum := "f66e15ce055451d22ff66e2e37c2bd3e85232f6648dc0a6c5c0c1b659d3611f4", func := "loop.example/g00746/laws.FnExactReach", spec := "fnExactReach", inPlace := ["slices.overlaps[int]"], unfollowed := true, recurses := true, apart := false }
def FnExactReachSaid : Prop := fnExactReachRow.holds Try.pinned (OpenSpec.ofChange fnExactReachSpec)

/-- ITS FALSE NEIGHBOUR: 'it returns false'. Refute it at one input. -/
def fnExactReachWrong : ChangeSpec := { name := "fnExactReach", fn := fun _ => fun
  | [d1, d2] => { results := [.lit (.bool false)], args := [d1, d2] }
  | _ => none }
def FnExactReachWrongFalsely : Prop := fnExactReachRow.holds Try.pinned (OpenSpec.ofChange fnExactReachWrong)

/- THE SECOND FORM. 'bulk': how many values and letters a reading holds, each counted each time it is reached (what is shared counts as often as it is met; a slice's spare places count too). A statement '..UptoSaid' is the law's where the arguments, and the package variables that the reading takes, are together of bulk at most 1048576: NARROWER than '..Said'. Prove '..Said' where nothing that the law and all that it calls make is longer than what came in: it says more and counts as full. Else prove '..UptoSaid'. A law counts once. -/
mutual
def uptoBulk {H : Type} : DataW H → Nat
  | .lit (.string bytes) => bytes.length + 1
  | .lit _ => 1
  | .nil => 1
  | .ptr d => uptoBulk d + 1
  | .slice elems spare => uptoBulkAll elems + uptoBulkAll spare + 1
  | .agg parts => uptoBulkAll parts + 1
  | .iface _ d => uptoBulk d + 1
  | .map entries => uptoBulkEntries entries + 1
  | .held _ => 1
def uptoBulkAll {H : Type} : List (DataW H) → Nat
  | [] => 0
  | d :: r => uptoBulk d + uptoBulkAll r
def uptoBulkEntries {H : Type} : List (Lit × DataW H) → Nat
  | [] => 0
  | x :: r => uptoBulkEntry x + uptoBulkEntries r
def uptoBulkEntry {H : Type} : Lit × DataW H → Nat
  | (.string bytes, d) => bytes.length + uptoBulk d + 1
  | (_, d) => uptoBulk d + 1
 end
def uptoSmall : (H : Type) → List (DataW H) → Bool := fun _ ds => decide (uptoBulkAll ds ≤ 1048576)
def OpenSpec.upto (s : _root_.Go.ChangeSpec) : _root_.Go.OpenSpec := { _root_.Go.OpenSpec.ofChange s with cond := some uptoSmall }

/-- 'laws.FnLinks', WHERE WHAT IT READS IS OF BULK AT MOST 1048576: true; the input reads as it did. -/
def fnLinksUptoRow : OpenClaim := { program := "ytpfnpinoamjcjaa", sum := "f66e15ce055451d22ff66e2e37c2bd3e85232f6648dc0a6c5c0c1b659d3611f4", func := "loop.example/g00746/laws.FnLinks", spec := "fnLinks", inPlace := ["slices.overlaps[loop.example/g00746/impl.Link]"], unfollowed := true, recurses := true, apart := false, narrowed := true }
def FnLinksUptoSaid : Prop := fnLinksUptoRow.holds Try.pinned (OpenSpec.upto fnLinksSpec)

/-- 'laws.FnNear', WHERE WHAT IT READS IS OF BULK AT MOST 1048576: true; the input reads as it did. -/
def fnNearUptoRow : OpenClaim := { program := "ytpfnpinoamjcjaa", sum := "f66e15ce055451d22ff66e2e37c2bd3e85232f6648dc0a6c5c0c1b659d3611f4", func := "loop.example/g00746/laws.FnNear", spec := "fnNear", unfollowed := true, recurses := true, apart := false, narrowed := true }
def FnNearUptoSaid : Prop := fnNearUptoRow.holds Try.pinned (OpenSpec.upto fnNearSpec)

/-- 'laws.FnReach', WHERE WHAT IT READS IS OF BULK AT MOST 1048576: true; the input reads as it did. -/
def fnReachUptoRow : OpenClaim := { program := "ytpfnpinoamjcjaa", sum := "f66e15ce055451d22ff66e2e37c2bd3e85232f6648dc0a6c5c0c1b659d3611f4", func := "loop.example/g00746/laws.FnReach", spec := "fnReach", inPlace := ["slices.overlaps[int]"], unfollowed := true, recurses := true, apart := false, narrowed := true }
def FnReachUptoSaid : Prop := fnReachUptoRow.holds Try.pinned (OpenSpec.upto fnReachSpec)

/-- 'laws.FnRing', WHERE WHAT IT READS IS OF BULK AT MOST 1048576: true; the input reads as it did. -/
def fnRingUptoRow : OpenClaim := { program := "ytpfnpinoamjcjaa", sum := "f66e15ce055451d22ff66e2e37c2bd3e85232f6648dc0a6c5c0c1b659d3611f4", func := "loop.example/g00746/laws.FnRing", spec := "fnRing", inPlace := ["slices.overlaps[loop.example/g00746/impl.Link]", "slices.overlaps[int]"], unfollowed := true, recurses := true, apart := false, narrowed := true }
def FnRingUptoSaid : Prop := fnRingUptoRow.holds Try.pinned (OpenSpec.upto fnRingSpec)

/-- 'laws.FnExactLinksOk', WHERE WHAT IT READS IS OF BULK AT MOST 1048576: true; the input reads as it did. -/
def fnExactLinksOkUptoRow : OpenClaim := { program := "ytpfnpinoamjcjaa", sum := "f66e15ce055451d22ff66e2e37c2bd3e85232f6648dc0a6c5c0c1b659d3611f4", func := "loop.example/g00746/laws.FnExactLinksOk", spec := "fnExactLinksOk", apart := false, narrowed := true }
def FnExactLinksOkUptoSaid : Prop := fnExactLinksOkUptoRow.holds Try.pinned (OpenSpec.upto fnExactLinksOkSpec)

/-- 'laws.FnExactLinkUp', WHERE WHAT IT READS IS OF BULK AT MOST 1048576: true; the input reads as it did. -/
def fnExactLinkUpUptoRow : OpenClaim := { program := "ytpfnpinoamjcjaa", sum := "f66e15ce055451d22ff66e2e37c2bd3e85232f6648dc0a6c5c0c1b659d3611f4", func := "loop.example/g00746/laws.FnExactLinkUp", spec := "fnExactLinkUp", inPlace := ["slices.overlaps[loop.example/g00746/impl.Link]"], unfollowed := true, recurses := true, apart := false, narrowed := true }
def FnExactLinkUpUptoSaid : Prop := fnExactLinkUpUptoRow.holds Try.pinned (OpenSpec.upto fnExactLinkUpSpec)

/-- 'laws.FnExactLinkDown', WHERE WHAT IT READS IS OF BULK AT MOST 1048576: true; the input reads as it did. -/
def fnExactLinkDownUptoRow : OpenClaim := { program := "ytpfnpinoamjcjaa", sum := "f66e15ce055451d22ff66e2e37c2bd3e85232f6648dc0a6c5c0c1b659d3611f4", func := "loop.example/g00746/laws.FnExactLinkDown", spec := "fnExactLinkDown", unfollowed := true, recurses := true, apart := false, narrowed := true }
def FnExactLinkDownUptoSaid : Prop := fnExactLinkDownUptoRow.holds Try.pinned (OpenSpec.upto fnExactLinkDownSpec)

/-- 'laws.FnExactNear', WHERE WHAT IT READS IS OF BULK AT MOST 1048576: true; the input reads as it did. -/
def fnExactNearUptoRow : OpenClaim := { program := "ytpfnpinoamjcjaa", sum := "f66e15ce055451d22ff66e2e37c2bd3e85232f6648dc0a6c5c0c1b659d3611f4", func := "loop.example/g00746/laws.FnExactNear", spec := "fnExactNear", unfollowed := true, recurses := true, apart := false, narrowed := true }
def FnExactNearUptoSaid : Prop := fnExactNearUptoRow.holds Try.pinned (OpenSpec.upto fnExactNearSpec)

/-- 'laws.FnExactReach', WHERE WHAT IT READS IS OF BULK AT MOST 1048576: true; the input reads as it did. -/
def fnExactReachUptoRow : OpenClaim := { program := "ytpfnpinoamjcjaa", sum := "f66e15ce055451d22ff66e2e37c2bd3e85232f6648dc0a6c5c0c1b659d3611f4", func := "loop.example/g00746/laws.FnExactReach", spec := "fnExactReach", inPlace := ["slices.overlaps[int]"], unfollowed := true, recurses := true, apart := false, narrowed := true }
def FnExactReachUptoSaid : Prop := fnExactReachUptoRow.holds Try.pinned (OpenSpec.upto fnExactReachSpec)

end Rows
end Go.Proofs.Ytpfnpinoamjcjaa
