/-
  DERIVED. GIVEN WITH THE SEED: THE CARDS: each row of YtpajcdofelmaaaaGreatDoorRows.lean that lists a variable, with what it lists TIED to the program's text (the seventh form; the later family's looks); each row that meets fmt, with fmt's text TOLD by the authors' own Lean function (tested against real Go, not proved from fmt's source: count such statements apart). THE CARD IS WHAT COUNTS. Prove the row's statement (the work); the ties are given (YtpajcdofelmaaaaGreatDoorTie.lean); close each card by the builder's one call (the guide's Derived/Test/ToyasCard.lean, 'card_holds'). Laid BY PROGRAM, IN A SANDBOX (cutbox-door.mjs). By AI agents, Wed Nov 11 2026. No macro, syntax, notation, axiom, sorry.
-/
import Derived.Test.YtpajcdofelmaaaaGreatDoorRows
import GoSem.ClaimSeven
namespace Go.Proofs.YtpajcdofelmaaaaGreatDoor
namespace Rows

/-- THE TIED CARD OF 'telamonlaw10.DataWrong'. -/
def dataWrongCard : Claim7 := { stood := { row := dataWrongRow, standIns := [], harness := (true, "420152e8f288ebd554f4ebb41d83f738df473f1b3c1cef1afb6f511e4d587c9b"), looks := true }, kinds := [], alts := [], laidByText := true, laidKinds := [.handle], laidTests := true, laidLooks := .later }
def DataWrongCardSaid : Prop := Claim7.holds Tryz.pinned (.plain (OpenSpec.ofChange dataWrongSpec)) dataWrongCard

/-- THE SECOND FORM's CARD OF 'telamonlaw10.DataWrong'. -/
def dataWrongUptoCard : Claim7 := { stood := { row := dataWrongUptoRow, standIns := [], harness := (true, "420152e8f288ebd554f4ebb41d83f738df473f1b3c1cef1afb6f511e4d587c9b"), looks := true }, kinds := [], alts := [], laidByText := true, laidKinds := [.handle], laidTests := true, laidLooks := .later }
def DataWrongUptoCardSaid : Prop := Claim7.holds Tryz.pinned (.plain (OpenSpec.upto dataWrongSpec)) dataWrongUptoCard
end Rows
end Go.Proofs.YtpajcdofelmaaaaGreatDoor
