/-
  DERIVED. GIVEN WITH THE SEED: THE CARDS: each row of YtbkeggklfaepnaaDoorRows.lean that lists a variable, with what it lists TIED to the program's text (the seventh form; the later family's looks); each row that meets fmt, with fmt's text TOLD by the authors' own Lean function (tested against real Go, not proved from fmt's source: count such statements apart). THE CARD IS WHAT COUNTS. Prove the row's statement (the work); the ties are given (YtbkeggklfaepnaaDoorTie.lean); close each card by the builder's one call (the guide's Derived/Test/ToyasCard.lean, 'card_holds'). Laid BY PROGRAM, IN A SANDBOX (cutbox-door.mjs). By AI agents, Wed Nov 11 2026. No macro, syntax, notation, axiom, sorry.
-/
import Derived.Test.YtbkeggklfaepnaaDoorRows
import GoSem.ClaimSeven
namespace Go.Proofs.YtbkeggklfaepnaaDoor
namespace Rows

/-- THE TIED CARD OF 'laws.FnReading'. -/
def fnReadingCard : Claim7 := { stood := { row := fnReadingRow, standIns := [], harness := (true, "38319406945a04374d278324c5a6d09c216e940c5c30754a12bea06548a6a73b"), looks := true }, kinds := [], alts := [], laidByText := true, laidKinds := [.data, .data, .data, .sentinel, .sentinel], laidTests := true, laidLooks := .later }
def FnReadingCardSaid : Prop := Claim7.holds Tryd.pinned (.plain (OpenSpec.ofChange fnReadingSpec)) fnReadingCard

/-- THE TIED CARD OF 'laws.FnExactReadingText'. -/
def fnExactReadingTextCard : Claim7 := { stood := { row := fnExactReadingTextRow, standIns := [], harness := (true, "38319406945a04374d278324c5a6d09c216e940c5c30754a12bea06548a6a73b"), looks := true }, kinds := [], alts := [], laidByText := true, laidKinds := [.data, .data, .data], laidTests := true, laidLooks := .later }
def FnExactReadingTextCardSaid : Prop := Claim7.holds Tryd.pinned (.plain (OpenSpec.ofChange fnExactReadingTextSpec)) fnExactReadingTextCard

/-- THE TIED CARD OF 'laws.FnExactReadReading'. -/
def fnExactReadReadingCard : Claim7 := { stood := { row := fnExactReadReadingRow, standIns := [], harness := (true, "38319406945a04374d278324c5a6d09c216e940c5c30754a12bea06548a6a73b"), looks := true }, kinds := [], alts := [], laidByText := true, laidKinds := [.data, .data, .data, .sentinel, .sentinel], laidTests := true, laidLooks := .later }
def FnExactReadReadingCardSaid : Prop := Claim7.holds Tryd.pinned (.plain (OpenSpec.ofChange fnExactReadReadingSpec)) fnExactReadReadingCard

/-- THE SECOND FORM's CARD OF 'laws.FnReading'. -/
def fnReadingUptoCard : Claim7 := { stood := { row := fnReadingUptoRow, standIns := [], harness := (true, "38319406945a04374d278324c5a6d09c216e940c5c30754a12bea06548a6a73b"), looks := true }, kinds := [], alts := [], laidByText := true, laidKinds := [.data, .data, .data, .sentinel, .sentinel], laidTests := true, laidLooks := .later }
def FnReadingUptoCardSaid : Prop := Claim7.holds Tryd.pinned (.plain (OpenSpec.upto fnReadingSpec)) fnReadingUptoCard

/-- THE SECOND FORM's CARD OF 'laws.FnExactReadingText'. -/
def fnExactReadingTextUptoCard : Claim7 := { stood := { row := fnExactReadingTextUptoRow, standIns := [], harness := (true, "38319406945a04374d278324c5a6d09c216e940c5c30754a12bea06548a6a73b"), looks := true }, kinds := [], alts := [], laidByText := true, laidKinds := [.data, .data, .data], laidTests := true, laidLooks := .later }
def FnExactReadingTextUptoCardSaid : Prop := Claim7.holds Tryd.pinned (.plain (OpenSpec.upto fnExactReadingTextSpec)) fnExactReadingTextUptoCard

/-- THE SECOND FORM's CARD OF 'laws.FnExactReadReading'. -/
def fnExactReadReadingUptoCard : Claim7 := { stood := { row := fnExactReadReadingUptoRow, standIns := [], harness := (true, "38319406945a04374d278324c5a6d09c216e940c5c30754a12bea06548a6a73b"), looks := true }, kinds := [], alts := [], laidByText := true, laidKinds := [.data, .data, .data, .sentinel, .sentinel], laidTests := true, laidLooks := .later }
def FnExactReadReadingUptoCardSaid : Prop := Claim7.holds Tryd.pinned (.plain (OpenSpec.upto fnExactReadReadingSpec)) fnExactReadReadingUptoCard
end Rows
end Go.Proofs.YtbkeggklfaepnaaDoor
