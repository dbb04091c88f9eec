/-
  DERIVED. GIVEN WITH THE SEED: THE CARDS: each row of YtelckldddflmmaaGreatDoorRows.lean that lists a variable, with what it lists TIED to the program's text (the seventh form; the later family's looks); each row that meets fmt, with fmt's text TOLD by the authors' own Lean function (tested against real Go, not proved from fmt's source: count such statements apart). THE CARD IS WHAT COUNTS. Prove the row's statement (the work); the ties are given (YtelckldddflmmaaGreatDoorTie.lean); close each card by the builder's one call (the guide's Derived/Test/ToyasCard.lean, 'card_holds'). Laid BY PROGRAM, IN A SANDBOX (cutbox-door.mjs). By AI agents, Wed Nov 11 2026. No macro, syntax, notation, axiom, sorry.
-/
import Derived.Test.YtelckldddflmmaaGreatDoorRows
import GoSem.ClaimSeven
namespace Go.Proofs.YtelckldddflmmaaGreatDoor
namespace Rows

/-- THE TIED CARD OF 'putloglaw04.RationalMatchesReference'. -/
def rationalMatchesReferenceCard : Claim7 := { stood := { row := rationalMatchesReferenceRow, standIns := [], harness := (true, "ce4577318488faf1518e4edf73d01ab423b8810729efe3e211536f5625df125b"), looks := false }, kinds := [], alts := [], laidByText := true, laidKinds := [.data, .data, .data, .data, .pinned], laidTests := true, laidLooks := .later }
def RationalMatchesReferenceCardSaid : Prop := Claim7.holds Tryz.pinned (.plain (OpenSpec.ofChange rationalMatchesReferenceSpec)) rationalMatchesReferenceCard

/-- THE TIED CARD OF 'putloglaw04.RationalTextMatchesReference'. -/
def rationalTextMatchesReferenceCard : Claim7 := { stood := { row := rationalTextMatchesReferenceRow, standIns := [], harness := (true, "ce4577318488faf1518e4edf73d01ab423b8810729efe3e211536f5625df125b"), looks := false }, kinds := [], alts := [], laidByText := true, laidKinds := [.data, .data, .data, .data, .pinned], laidTests := true, laidLooks := .later }
def RationalTextMatchesReferenceCardSaid : Prop := Claim7.holds Tryz.pinned (.plain (OpenSpec.ofChange rationalTextMatchesReferenceSpec)) rationalTextMatchesReferenceCard

/-- THE TIED CARD OF 'putloglaw04.RationalField'. -/
def rationalFieldCard : Claim7 := { stood := { row := rationalFieldRow, standIns := [], harness := (true, "ce4577318488faf1518e4edf73d01ab423b8810729efe3e211536f5625df125b"), looks := false }, kinds := [], alts := [], laidByText := true, laidKinds := [.data, .data, .data, .data, .pinned], laidTests := true, laidLooks := .later }
def RationalFieldCardSaid : Prop := Claim7.holds Tryz.pinned (.plain (OpenSpec.ofChange rationalFieldSpec)) rationalFieldCard

/-- THE SECOND FORM's CARD OF 'putloglaw04.RationalMatchesReference'. -/
def rationalMatchesReferenceUptoCard : Claim7 := { stood := { row := rationalMatchesReferenceUptoRow, standIns := [], harness := (true, "ce4577318488faf1518e4edf73d01ab423b8810729efe3e211536f5625df125b"), looks := false }, kinds := [], alts := [], laidByText := true, laidKinds := [.data, .data, .data, .data, .pinned], laidTests := true, laidLooks := .later }
def RationalMatchesReferenceUptoCardSaid : Prop := Claim7.holds Tryz.pinned (.plain (OpenSpec.upto rationalMatchesReferenceSpec)) rationalMatchesReferenceUptoCard

/-- THE SECOND FORM's CARD OF 'putloglaw04.RationalTextMatchesReference'. -/
def rationalTextMatchesReferenceUptoCard : Claim7 := { stood := { row := rationalTextMatchesReferenceUptoRow, standIns := [], harness := (true, "ce4577318488faf1518e4edf73d01ab423b8810729efe3e211536f5625df125b"), looks := false }, kinds := [], alts := [], laidByText := true, laidKinds := [.data, .data, .data, .data, .pinned], laidTests := true, laidLooks := .later }
def RationalTextMatchesReferenceUptoCardSaid : Prop := Claim7.holds Tryz.pinned (.plain (OpenSpec.upto rationalTextMatchesReferenceSpec)) rationalTextMatchesReferenceUptoCard

/-- THE SECOND FORM's CARD OF 'putloglaw04.RationalField'. -/
def rationalFieldUptoCard : Claim7 := { stood := { row := rationalFieldUptoRow, standIns := [], harness := (true, "ce4577318488faf1518e4edf73d01ab423b8810729efe3e211536f5625df125b"), looks := false }, kinds := [], alts := [], laidByText := true, laidKinds := [.data, .data, .data, .data, .pinned], laidTests := true, laidLooks := .later }
def RationalFieldUptoCardSaid : Prop := Claim7.holds Tryz.pinned (.plain (OpenSpec.upto rationalFieldSpec)) rationalFieldUptoCard
end Rows
end Go.Proofs.YtelckldddflmmaaGreatDoor
