/-
  No cell of these rows narrows 'for every input' (looked for: loops, veiled, ifaces, maps, wideKeys, modest, calm, conditions, laid).
  DERIVED. THE GIVEN ROWS OF THIS SEAT. 5 by the template 'for every input the law returns true; each argument reads behind the call as it read before'; 0 by the template 'total and deterministic' (their statements: YtagabgblcmoblaaTotals.lean).
  GIVEN WITH THE SEED: the statements are not yours to turn. If you find one false, say at which input.
  Laid BY PROGRAM, IN A SANDBOX (cutbox-rows.mjs): the forced cells as the released guide's own fill.sh prints them over the translation a84a71adaaa6137a… (all of the seat's roots in one cut). By AI agents, Wed Nov 11 2026. No macro, syntax, notation, axiom, sorry.
-/
import Derived.Test.YtagabgblcmoblaaChecked
import GoSem.Claim
import GoSem.ClaimJoined
import GoSem.ClaimMapViews
import Derived.JoinedTies
import Derived.KernelRfl
namespace Go.Proofs.Ytagabgblcmoblaa
/- THE CELL 'sum', in the pinned program and in every row, IS THE sha256 OF THE DUMP (.gsa) THAT YtagabgblcmoblaaProg.lean LOADS. Nothing in Lean hashes anything: it is a label: what it is worth is what the hold of that sum in a sandbox is worth. -/
noncomputable def Try.pinned : Pinned := { name := "ytagabgblcmoblaa", sum := "a84a71adaaa6137ae58538be03979e9cb606c8d4242cfb4c0bf61672f02ae89b", checked := Try.checked }
namespace Rows
def none {H : Type} : Left H := { results := [], args := [] }

/-- 'laws.FnLuck': WHATEVER THE INPUT: true; the input reads as it did. -/
def fnLuckSpec : ChangeSpec := { name := "fnLuck", fn := fun _ => fun
  | [d] => { results := [.lit (.bool true)], args := [d] }
  | _ => none }
def fnLuckRow : OpenClaim := { program := "ytagabgblcmoblaa", sum := "a84a71adaaa6137ae58538be03979e9cb606c8d4242cfb4c0bf61672f02ae89b", func := "loop.example/g00746/laws.FnLuck", spec := "fnLuck", apart := false }
def FnLuckSaid : Prop := fnLuckRow.holds Try.pinned (OpenSpec.ofChange fnLuckSpec)

/-- ITS FALSE NEIGHBOUR: 'it returns false'. Refute it at one input. -/
def fnLuckWrong : ChangeSpec := { name := "fnLuck", fn := fun _ => fun
  | [d] => { results := [.lit (.bool false)], args := [d] }
  | _ => none }
def FnLuckWrongFalsely : Prop := fnLuckRow.holds Try.pinned (OpenSpec.ofChange fnLuckWrong)

/-- 'laws.FnMixed': WHATEVER THE INPUT: true; the input reads as it did. -/
def fnMixedSpec : ChangeSpec := { name := "fnMixed", fn := fun _ => fun
  | [d] => { results := [.lit (.bool true)], args := [d] }
  | _ => none }
def fnMixedRow : OpenClaim := { program := "ytagabgblcmoblaa", sum := "a84a71adaaa6137ae58538be03979e9cb606c8d4242cfb4c0bf61672f02ae89b", func := "loop.example/g00746/laws.FnMixed", spec := "fnMixed", unfollowed := true, recurses := true, apart := false }
def FnMixedSaid : Prop := fnMixedRow.holds Try.pinned (OpenSpec.ofChange fnMixedSpec)

/-- ITS FALSE NEIGHBOUR: 'it returns false'. Refute it at one input. -/
def fnMixedWrong : ChangeSpec := { name := "fnMixed", fn := fun _ => fun
  | [d] => { results := [.lit (.bool false)], args := [d] }
  | _ => none }
def FnMixedWrongFalsely : Prop := fnMixedRow.holds Try.pinned (OpenSpec.ofChange fnMixedWrong)

/-- 'laws.FnExactNextLuck': WHATEVER THE INPUT: true; the input reads as it did. -/
def fnExactNextLuckSpec : ChangeSpec := { name := "fnExactNextLuck", fn := fun _ => fun
  | [d] => { results := [.lit (.bool true)], args := [d] }
  | _ => none }
def fnExactNextLuckRow : OpenClaim := { program := "ytagabgblcmoblaa", sum := "a84a71adaaa6137ae58538be03979e9cb606c8d4242cfb4c0bf61672f02ae89b", func := "loop.example/g00746/laws.FnExactNextLuck", spec := "fnExactNextLuck", apart := false }
def FnExactNextLuckSaid : Prop := fnExactNextLuckRow.holds Try.pinned (OpenSpec.ofChange fnExactNextLuckSpec)

/-- ITS FALSE NEIGHBOUR: 'it returns false'. Refute it at one input. -/
def fnExactNextLuckWrong : ChangeSpec := { name := "fnExactNextLuck", fn := fun _ => fun
  | [d] => { results := [.lit (.bool false)], args := [d] }
  | _ => none }
def FnExactNextLuckWrongFalsely : Prop := fnExactNextLuckRow.holds Try.pinned (OpenSpec.ofChange fnExactNextLuckWrong)

/-- 'laws.FnExactBelow': WHATEVER THE INPUT: true; the input reads as it did. -/
def fnExactBelowSpec : ChangeSpec := { name := "fnExactBelow", fn := fun _ => fun
  | [d1, d2] => { results := [.lit (.bool true)], args := [d1, d2] }
  | _ => none }
def fnExactBelowRow : OpenClaim := { program := "ytagabgblcmoblaa", sum := "a84a71adaaa6137ae58538be03979e9cb606c8d4242cfb4c0bf61672f02ae89b", func := "loop.example/g00746/laws.FnExactBelow", spec := "fnExactBelow", apart := false }
def FnExactBelowSaid : Prop := fnExactBelowRow.holds Try.pinned (OpenSpec.ofChange fnExactBelowSpec)

/-- ITS FALSE NEIGHBOUR: 'it returns false'. Refute it at one input. -/
def fnExactBelowWrong : ChangeSpec := { name := "fnExactBelow", fn := fun _ => fun
  | [d1, d2] => { results := [.lit (.bool false)], args := [d1, d2] }
  | _ => none }
def FnExactBelowWrongFalsely : Prop := fnExactBelowRow.holds Try.pinned (OpenSpec.ofChange fnExactBelowWrong)

/-- 'laws.FnExactMixed': WHATEVER THE INPUT: true; the input reads as it did. -/
def fnExactMixedSpec : ChangeSpec := { name := "fnExactMixed", fn := fun _ => fun
  | [d1, d2] => { results := [.lit (.bool true)], args := [d1, d2] }
  | _ => none }
def fnExactMixedRow : OpenClaim := { program := "ytagabgblcmoblaa", sum := "a84a71adaaa6137ae58538be03979e9cb606c8d4242cfb4c0bf61672f02ae89b", func := "loop.example/g00746/laws.FnExactMixed", spec := "fnExactMixed", unfollowed := true, recurses := true, apart := false }
def FnExactMixedSaid : Prop := fnExactMixedRow.holds Try.pinned (OpenSpec.ofChange fnExactMixedSpec)

/-- ITS FALSE NEIGHBOUR: 'it returns false'. Refute it at one input. -/
def fnExactMixedWrong : ChangeSpec := { name := "fnExactMixed", fn := fun _ => fun
  | [d1, d2] => { results := [.lit (.bool false)], args := [d1, d2] }
  | _ => none }
def FnExactMixedWrongFalsely : Prop := fnExactMixedRow.holds Try.pinned (OpenSpec.ofChange fnExactMixedWrong)

/- THE SECOND FORM. 'bulk': how many values and letters a reading holds, each counted each time it is reached (what is shared counts as often as it is met; a slice's spare places count too). A statement '..UptoSaid' is the law's where the arguments, and the package variables that the reading takes, are together of bulk at most 1048576: NARROWER than '..Said'. Prove '..Said' where nothing that the law and all that it calls make is longer than what came in: it says more and counts as full. Else prove '..UptoSaid'. A law counts once. -/
mutual
def uptoBulk {H : Type} : DataW H → Nat
  | .lit (.string bytes) => bytes.length + 1
  | .lit _ => 1
  | .nil => 1
  | .ptr d => uptoBulk d + 1
  | .slice elems spare => uptoBulkAll elems + uptoBulkAll spare + 1
  | .agg parts => uptoBulkAll parts + 1
  | .iface _ d => uptoBulk d + 1
  | .map entries => uptoBulkEntries entries + 1
  | .held _ => 1
def uptoBulkAll {H : Type} : List (DataW H) → Nat
  | [] => 0
  | d :: r => uptoBulk d + uptoBulkAll r
def uptoBulkEntries {H : Type} : List (Lit × DataW H) → Nat
  | [] => 0
  | x :: r => uptoBulkEntry x + uptoBulkEntries r
def uptoBulkEntry {H : Type} : Lit × DataW H → Nat
  | (.string bytes, d) => bytes.length + uptoBulk d + 1
  | (_, d) => uptoBulk d + 1
 end
def uptoSmall : (H : Type) → List (DataW H) → Bool := fun _ ds => decide (uptoBulkAll ds ≤ 1048576)
def OpenSpec.upto (s : _root_.Go.ChangeSpec) : _root_.Go.OpenSpec := { _root_.Go.OpenSpec.ofChange s with cond := some uptoSmall }

/-- 'laws.FnLuck', WHERE WHAT IT READS IS OF BULK AT MOST 1048576: true; the input reads as it did. -/
def fnLuckUptoRow : OpenClaim := { program := "ytagabgblcmoblaa", sum := "a84a71adaaa6137ae58538be03979e9cb606c8d4242cfb4c0bf61672f02ae89b", func := "loop.example/g00746/laws.FnLuck", spec := "fnLuck", apart := false, narrowed := true }
def FnLuckUptoSaid : Prop := fnLuckUptoRow.holds Try.pinned (OpenSpec.upto fnLuckSpec)

/-- 'laws.FnMixed', WHERE WHAT IT READS IS OF BULK AT MOST 1048576: true; the input reads as it did. -/
def fnMixedUptoRow : OpenClaim := { program := "ytagabgblcmoblaa", sum := "a84a71adaaa6137ae58538be03979e9cb606c8d4242cfb4c0bf61672f02ae89b", func := "loop.example/g00746/laws.FnMixed", spec := "fnMixed", unfollowed := true, recurses := true, apart := false, narrowed := true }
def FnMixedUptoSaid : Prop := fnMixedUptoRow.holds Try.pinned (OpenSpec.upto fnMixedSpec)

/-- 'laws.FnExactNextLuck', WHERE WHAT IT READS IS OF BULK AT MOST 1048576: true; the input reads as it did. -/
def fnExactNextLuckUptoRow : OpenClaim := { program := "ytagabgblcmoblaa", sum := "a84a71adaaa6137ae58538be03979e9cb606c8d4242cfb4c0bf61672f02ae89b", func := "loop.example/g00746/laws.FnExactNextLuck", spec := "fnExactNextLuck", apart := false, narrowed := true }
def FnExactNextLuckUptoSaid : Prop := fnExactNextLuckUptoRow.holds Try.pinned (OpenSpec.upto fnExactNextLuckSpec)

/-- 'laws.FnExactBelow', WHERE WHAT IT READS IS OF BULK AT MOST 1048576: true; the input reads as it did. -/
def fnExactBelowUptoRow : OpenClaim := { program := "ytagabgblcmoblaa", sum := "a84a71adaaa6137ae58538be03979e9cb606c8d4242cfb4c0bf61672f02ae89b", func := "loop.example/g00746/laws.FnExactBelow", spec := "fnExactBelow", apart := false, narrowed := true }
def FnExactBelowUptoSaid : Prop := fnExactBelowUptoRow.holds Try.pinned (OpenSpec.upto fnExactBelowSpec)

/-- 'laws.FnExactMixed', WHERE WHAT IT READS IS OF BULK AT MOST 1048576: true; the input reads as it did. -/
def fnExactMixedUptoRow : OpenClaim := { program := "ytagabgblcmoblaa", sum := "a84a71adaaa6137ae58538be03979e9cb606c8d4242cfb4c0bf61672f02ae89b", func := "loop.example/g00746/laws.FnExactMixed", spec := "fnExactMixed", unfollowed := true, recurses := true, apart := false, narrowed := true }
def FnExactMixedUptoSaid : Prop := fnExactMixedUptoRow.holds Try.pinned (OpenSpec.upto fnExactMixedSpec)

end Rows
end Go.Proofs.Ytagabgblcmoblaa
