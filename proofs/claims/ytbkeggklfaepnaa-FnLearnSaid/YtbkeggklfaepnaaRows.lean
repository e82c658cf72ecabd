/-
  No cell of these rows narrows 'for every input' (looked for: loops, veiled, ifaces, maps, wideKeys, modest, calm, conditions, laid).
  DERIVED. THE GIVEN ROWS OF THIS SEAT. 6 by the template 'for every input the law returns true; each argument reads behind the call as it read before'; 0 by the template 'total and deterministic' (their statements: YtbkeggklfaepnaaTotals.lean).
  GIVEN WITH THE SEED: the statements are not yours to turn. If you find one false, say at which input.
  Laid BY PROGRAM, IN A SANDBOX (cutbox-rows.mjs): the forced cells as the released guide's own fill.sh prints them over the translation c031b3ecb9e227f1… (all of the seat's roots in one cut). By AI agents, Wed Nov 11 2026. No macro, syntax, notation, axiom, sorry.
-/
import Derived.Test.YtbkeggklfaepnaaChecked
import GoSem.Claim
import GoSem.ClaimJoined
import GoSem.ClaimMapViews
import Derived.JoinedTies
import Derived.KernelRfl
namespace Go.Proofs.Ytbkeggklfaepnaa
/- THE CELL 'sum', in the pinned program and in every row, IS THE sha256 OF THE DUMP (.gsa) THAT YtbkeggklfaepnaaProg.lean LOADS. Nothing in Lean hashes anything: it is a label: what it is worth is what the hold of that sum in a sandbox is worth. -/
noncomputable def Try.pinned : Pinned := { name := "ytbkeggklfaepnaa", sum := "c031b3ecb9e227f1ad01ae87f20d20ca783bcc77c0e320d8ce05be944b2b94bb", checked := Try.checked }
namespace Rows
def none {H : Type} : Left H := { results := [], args := [] }

/-- 'laws.FnLearn': WHATEVER THE INPUT: true; the input reads as it did. -/
def fnLearnSpec : ChangeSpec := { name := "fnLearn", fn := fun _ => fun
  | [d] => { results := [.lit (.bool true)], args := [d] }
  | _ => none }
def fnLearnRow : OpenClaim := { program := "ytbkeggklfaepnaa", sum := "c031b3ecb9e227f1ad01ae87f20d20ca783bcc77c0e320d8ce05be944b2b94bb", func := "loop.example/g00746/laws.FnLearn", spec := "fnLearn", plainKeys := false, apart := false }
def FnLearnSaid : Prop := fnLearnRow.holds Try.pinned (OpenSpec.ofChange fnLearnSpec)

/-- ITS FALSE NEIGHBOUR: 'it returns false'. Refute it at one input. -/
def fnLearnWrong : ChangeSpec := { name := "fnLearn", fn := fun _ => fun
  | [d] => { results := [.lit (.bool false)], args := [d] }
  | _ => none }
def FnLearnWrongFalsely : Prop := fnLearnRow.holds Try.pinned (OpenSpec.ofChange fnLearnWrong)

/-- 'laws.FnLoad': WHATEVER THE INPUT: true; the input reads as it did. -/
def fnLoadSpec : ChangeSpec := { name := "fnLoad", fn := fun _ => fun
  | [d] => { results := [.lit (.bool true)], args := [d] }
  | _ => none }
def fnLoadRow : OpenClaim := { program := "ytbkeggklfaepnaa", sum := "c031b3ecb9e227f1ad01ae87f20d20ca783bcc77c0e320d8ce05be944b2b94bb", func := "loop.example/g00746/laws.FnLoad", spec := "fnLoad", plainKeys := false, apart := false }
def FnLoadSaid : Prop := fnLoadRow.holds Try.pinned (OpenSpec.ofChange fnLoadSpec)

/-- ITS FALSE NEIGHBOUR: 'it returns false'. Refute it at one input. -/
def fnLoadWrong : ChangeSpec := { name := "fnLoad", fn := fun _ => fun
  | [d] => { results := [.lit (.bool false)], args := [d] }
  | _ => none }
def FnLoadWrongFalsely : Prop := fnLoadRow.holds Try.pinned (OpenSpec.ofChange fnLoadWrong)

/-- 'laws.FnExactReadingOk': WHATEVER THE INPUT: true; the input reads as it did. -/
def fnExactReadingOkSpec : ChangeSpec := { name := "fnExactReadingOk", fn := fun _ => fun
  | [d] => { results := [.lit (.bool true)], args := [d] }
  | _ => none }
def fnExactReadingOkRow : OpenClaim := { program := "ytbkeggklfaepnaa", sum := "c031b3ecb9e227f1ad01ae87f20d20ca783bcc77c0e320d8ce05be944b2b94bb", func := "loop.example/g00746/laws.FnExactReadingOk", spec := "fnExactReadingOk", plainKeys := false, apart := false }
def FnExactReadingOkSaid : Prop := fnExactReadingOkRow.holds Try.pinned (OpenSpec.ofChange fnExactReadingOkSpec)

/-- ITS FALSE NEIGHBOUR: 'it returns false'. Refute it at one input. -/
def fnExactReadingOkWrong : ChangeSpec := { name := "fnExactReadingOk", fn := fun _ => fun
  | [d] => { results := [.lit (.bool false)], args := [d] }
  | _ => none }
def FnExactReadingOkWrongFalsely : Prop := fnExactReadingOkRow.holds Try.pinned (OpenSpec.ofChange fnExactReadingOkWrong)

/-- 'laws.FnExactReadingsOk': WHATEVER THE INPUT: true; the input reads as it did. -/
def fnExactReadingsOkSpec : ChangeSpec := { name := "fnExactReadingsOk", fn := fun _ => fun
  | [d] => { results := [.lit (.bool true)], args := [d] }
  | _ => none }
def fnExactReadingsOkRow : OpenClaim := { program := "ytbkeggklfaepnaa", sum := "c031b3ecb9e227f1ad01ae87f20d20ca783bcc77c0e320d8ce05be944b2b94bb", func := "loop.example/g00746/laws.FnExactReadingsOk", spec := "fnExactReadingsOk", plainKeys := false, apart := false }
def FnExactReadingsOkSaid : Prop := fnExactReadingsOkRow.holds Try.pinned (OpenSpec.ofChange fnExactReadingsOkSpec)

/-- ITS FALSE NEIGHBOUR: 'it returns false'. Refute it at one input. -/
def fnExactReadingsOkWrong : ChangeSpec := { name := "fnExactReadingsOk", fn := fun _ => fun
  | [d] => { results := [.lit (.bool false)], args := [d] }
  | _ => none }
def FnExactReadingsOkWrongFalsely : Prop := fnExactReadingsOkRow.holds Try.pinned (OpenSpec.ofChange fnExactReadingsOkWrong)

/-- 'laws.FnExactLoadOf': WHATEVER THE INPUT: true; the input reads as it did. -/
def fnExactLoadOfSpec : ChangeSpec := { name := "fnExactLoadOf", fn := fun _ => fun
  | [d1, d2] => { results := [.lit (.bool true)], args := [d1, d2] }
  | _ => none }
def fnExactLoadOfRow : OpenClaim := { program := "ytbkeggklfaepnaa", sum := "c031b3ecb9e227f1ad01ae87f20d20ca783bcc77c0e320d8ce05be944b2b94bb", func := "loop.example/g00746/laws.FnExactLoadOf", spec := "fnExactLoadOf", plainKeys := false, apart := false }
def FnExactLoadOfSaid : Prop := fnExactLoadOfRow.holds Try.pinned (OpenSpec.ofChange fnExactLoadOfSpec)

/-- ITS FALSE NEIGHBOUR: 'it returns false'. Refute it at one input. -/
def fnExactLoadOfWrong : ChangeSpec := { name := "fnExactLoadOf", fn := fun _ => fun
  | [d1, d2] => { results := [.lit (.bool false)], args := [d1, d2] }
  | _ => none }
def FnExactLoadOfWrongFalsely : Prop := fnExactLoadOfRow.holds Try.pinned (OpenSpec.ofChange fnExactLoadOfWrong)

/-- 'laws.FnExactLearn': WHATEVER THE INPUT: true; the input reads as it did. -/
def fnExactLearnSpec : ChangeSpec := { name := "fnExactLearn", fn := fun _ => fun
  | [d1, d2] => { results := [.lit (.bool true)], args := [d1, d2] }
  | _ => none }
def fnExactLearnRow : OpenClaim := { program := "ytbkeggklfaepnaa", sum := "c031b3ecb9e227f1ad01ae87f20d20ca783bcc77c0e320d8ce05be944b2b94bb", func := "loop.example/g00746/laws.FnExactLearn", spec := "fnExactLearn", plainKeys := false, apart := false }
def FnExactLearnSaid : Prop := fnExactLearnRow.holds Try.pinned (OpenSpec.ofChange fnExactLearnSpec)

/-- ITS FALSE NEIGHBOUR: 'it returns false'. Refute it at one input. -/
def fnExactLearnWrong : ChangeSpec := { name := "fnExactLearn", fn := fun _ => fun
  | [d1, d2] => { results := [.lit (.bool false)], args := [d1, d2] }
  | _ => none }
def FnExactLearnWrongFalsely : Prop := fnExactLearnRow.holds Try.pinned (OpenSpec.ofChange fnExactLearnWrong)

/- THE SECOND FORM. 'bulk': how many values and letters a reading holds, each counted each time it is reached (what is shared counts as often as it is met; a slice's spare places count too). A statement '..UptoSaid' is the law's where the arguments, and the package variables that the reading takes, are together of bulk at most 1048576: NARROWER than '..Said'. Prove '..Said' where nothing that the law and all that it calls make is longer than what came in: it says more and counts as full. Else prove '..UptoSaid'. A law counts once. -/
mutual
def uptoBulk {H : Type} : DataW H → Nat
  | .lit (.string bytes) => bytes.length + 1
  | .lit _ => 1
  | .nil => 1
  | .ptr d => uptoBulk d + 1
  | .slice elems spare => uptoBulkAll elems + uptoBulkAll spare + 1
  | .agg parts => uptoBulkAll parts + 1
  | .iface _ d => uptoBulk d + 1
  | .map entries => uptoBulkEntries entries + 1
  | .held _ => 1
def uptoBulkAll {H : Type} : List (DataW H) → Nat
  | [] => 0
  | d :: r => uptoBulk d + uptoBulkAll r
def uptoBulkEntries {H : Type} : List (Lit × DataW H) → Nat
  | [] => 0
  | x :: r => uptoBulkEntry x + uptoBulkEntries r
def uptoBulkEntry {H : Type} : Lit × DataW H → Nat
  | (.string bytes, d) => bytes.length + uptoBulk d + 1
  | (_, d) => uptoBulk d + 1
 end
def uptoSmall : (H : Type) → List (DataW H) → Bool := fun _ ds => decide (uptoBulkAll ds ≤ 1048576)
def OpenSpec.upto (s : _root_.Go.ChangeSpec) : _root_.Go.OpenSpec := { _root_.Go.OpenSpec.ofChange s with cond := some uptoSmall }

/-- 'laws.FnLearn', WHERE WHAT IT READS IS OF BULK AT MOST 1048576: true; the input reads as it did. -/
def fnLearnUptoRow : OpenClaim := { program := "ytbkeggklfaepnaa", sum := "c031b3ecb9e227f1ad01ae87f20d20ca783bcc77c0e320d8ce05be944b2b94bb", func := "loop.example/g00746/laws.FnLearn", spec := "fnLearn", plainKeys := false, apart := false, narrowed := true }
def FnLearnUptoSaid : Prop := fnLearnUptoRow.holds Try.pinned (OpenSpec.upto fnLearnSpec)

/-- 'laws.FnLoad', WHERE WHAT IT READS IS OF BULK AT MOST 1048576: true; the input reads as it did. -/
def fnLoadUptoRow : OpenClaim := { program := "ytbkeggklfaepnaa", sum := "c031b3ecb9e227f1ad01ae87f20d20ca783bcc77c0e320d8ce05be944b2b94bb", func := "loop.example/g00746/laws.FnLoad", spec := "fnLoad", plainKeys := false, apart := false, narrowed := true }
def FnLoadUptoSaid : Prop := fnLoadUptoRow.holds Try.pinned (OpenSpec.upto fnLoadSpec)

/-- 'laws.FnExactReadingOk', WHERE WHAT IT READS IS OF BULK AT MOST 1048576: true; the input reads as it did. -/
def fnExactReadingOkUptoRow : OpenClaim := { program := "ytbkeggklfaepnaa", sum := "c031b3ecb9e227f1ad01ae87f20d20ca783bcc77c0e320d8ce05be944b2b94bb", func := "loop.example/g00746/laws.FnExactReadingOk", spec := "fnExactReadingOk", plainKeys := false, apart := false, narrowed := true }
def FnExactReadingOkUptoSaid : Prop := fnExactReadingOkUptoRow.holds Try.pinned (OpenSpec.upto fnExactReadingOkSpec)

/-- 'laws.FnExactReadingsOk', WHERE WHAT IT READS IS OF BULK AT MOST 1048576: true; the input reads as it did. -/
def fnExactReadingsOkUptoRow : OpenClaim := { program := "ytbkeggklfaepnaa", sum := "c031b3ecb9e227f1ad01ae87f20d20ca783bcc77c0e320d8ce05be944b2b94bb", func := "loop.example/g00746/laws.FnExactReadingsOk", spec := "fnExactReadingsOk", plainKeys := false, apart := false, narrowed := true }
def FnExactReadingsOkUptoSaid : Prop := fnExactReadingsOkUptoRow.holds Try.pinned (OpenSpec.upto fnExactReadingsOkSpec)

/-- 'laws.FnExactLoadOf', WHERE WHAT IT READS IS OF BULK AT MOST 1048576: true; the input reads as it did. -/
def fnExactLoadOfUptoRow : OpenClaim := { program := "ytbkeggklfaepnaa", sum := "c031b3ecb9e227f1ad01ae87f20d20ca783bcc77c0e320d8ce05be944b2b94bb", func := "loop.example/g00746/laws.FnExactLoadOf", spec := "fnExactLoadOf", plainKeys := false, apart := false, narrowed := true }
def FnExactLoadOfUptoSaid : Prop := fnExactLoadOfUptoRow.holds Try.pinned (OpenSpec.upto fnExactLoadOfSpec)

/-- 'laws.FnExactLearn', WHERE WHAT IT READS IS OF BULK AT MOST 1048576: true; the input reads as it did. -/
def fnExactLearnUptoRow : OpenClaim := { program := "ytbkeggklfaepnaa", sum := "c031b3ecb9e227f1ad01ae87f20d20ca783bcc77c0e320d8ce05be944b2b94bb", func := "loop.example/g00746/laws.FnExactLearn", spec := "fnExactLearn", plainKeys := false, apart := false, narrowed := true }
def FnExactLearnUptoSaid : Prop := fnExactLearnUptoRow.holds Try.pinned (OpenSpec.upto fnExactLearnSpec)

end Rows
end Go.Proofs.Ytbkeggklfaepnaa
