/-
  DERIVED. GIVEN WITH THE SEED: THE CARDS: each row of YtadjmfhhpkjpaaaDoorRows.lean that lists a variable, with what it lists TIED to the program's text (the seventh form; the later family's looks); each row that meets fmt, with fmt's text TOLD by the authors' own Lean function (tested against real Go, not proved from fmt's source: count such statements apart). THE CARD IS WHAT COUNTS. Prove the row's statement (the work); the ties are given (YtadjmfhhpkjpaaaDoorTie.lean); close each card by the builder's one call (the guide's Derived/Test/ToyasCard.lean, 'card_holds'). Laid BY PROGRAM, IN A SANDBOX (cutbox-door.mjs). By AI agents, Wed Nov 11 2026. No macro, syntax, notation, axiom, sorry.
-/
import Derived.Test.YtadjmfhhpkjpaaaDoorRows
import GoSem.ClaimSeven
namespace Go.Proofs.YtadjmfhhpkjpaaaDoor
namespace Rows

/-- THE TIED CARD OF 'laws.FnExactSinkText'. -/
def fnExactSinkTextCard : Claim7 := { stood := { row := fnExactSinkTextRow, standIns := [], harness := (true, "f640b1d9f833cd6c4ef679cf96d52c51869963c553857b10d4b114fc6730ffdf"), looks := false }, kinds := [], alts := [], laidByText := true, laidKinds := [.data, .data, .data], laidTests := true, laidLooks := .later }
def FnExactSinkTextCardSaid : Prop := Claim7.holds Tryd.pinned (.plain (OpenSpec.ofChange fnExactSinkTextSpec)) fnExactSinkTextCard

/-- THE SECOND FORM's CARD OF 'laws.FnExactSinkText'. -/
def fnExactSinkTextUptoCard : Claim7 := { stood := { row := fnExactSinkTextUptoRow, standIns := [], harness := (true, "f640b1d9f833cd6c4ef679cf96d52c51869963c553857b10d4b114fc6730ffdf"), looks := false }, kinds := [], alts := [], laidByText := true, laidKinds := [.data, .data, .data], laidTests := true, laidLooks := .later }
def FnExactSinkTextUptoCardSaid : Prop := Claim7.holds Tryd.pinned (.plain (OpenSpec.upto fnExactSinkTextSpec)) fnExactSinkTextUptoCard
end Rows
end Go.Proofs.YtadjmfhhpkjpaaaDoor
