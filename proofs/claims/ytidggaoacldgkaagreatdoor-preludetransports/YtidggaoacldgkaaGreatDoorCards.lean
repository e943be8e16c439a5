/-
  DERIVED. GIVEN WITH THE SEED: THE CARDS: each row of YtidggaoacldgkaaGreatDoorRows.lean that lists a variable, with what it lists TIED to the program's text (the seventh form; the later family's looks); each row that meets fmt, with fmt's text TOLD by the authors' own Lean function (tested against real Go, not proved from fmt's source: count such statements apart). THE CARD IS WHAT COUNTS. Prove the row's statement (the work); the ties are given (YtidggaoacldgkaaGreatDoorTie.lean); close each card by the builder's one call (the guide's Derived/Test/ToyasCard.lean, 'card_holds'). Laid BY PROGRAM, IN A SANDBOX (cutbox-door.mjs). By AI agents, Wed Nov 11 2026. No macro, syntax, notation, axiom, sorry.
-/
import Derived.Test.YtidggaoacldgkaaGreatDoorRows
import GoSem.ClaimSeven
namespace Go.Proofs.YtidggaoacldgkaaGreatDoor
namespace Rows

/-- THE TIED CARD OF 'telamonlaw11.PreludeTransports'. -/
def preludeTransportsCard : Claim7 := { stood := { row := preludeTransportsRow, standIns := [], harness := (true, "a148a6a42368f0d1d75cfb2effd5e6a3a0c111204469228c15d93c5f7a352fb2"), looks := true }, kinds := [], alts := [], laidByText := true, laidKinds := [.handle], laidTests := true, laidLooks := .later }
def PreludeTransportsCardSaid : Prop := Claim7.holds Tryz.pinned (.plain (OpenSpec.ofChange preludeTransportsSpec)) preludeTransportsCard

/-- THE SECOND FORM's CARD OF 'telamonlaw11.PreludeTransports'. -/
def preludeTransportsUptoCard : Claim7 := { stood := { row := preludeTransportsUptoRow, standIns := [], harness := (true, "a148a6a42368f0d1d75cfb2effd5e6a3a0c111204469228c15d93c5f7a352fb2"), looks := true }, kinds := [], alts := [], laidByText := true, laidKinds := [.handle], laidTests := true, laidLooks := .later }
def PreludeTransportsUptoCardSaid : Prop := Claim7.holds Tryz.pinned (.plain (OpenSpec.upto preludeTransportsSpec)) preludeTransportsUptoCard
end Rows
end Go.Proofs.YtidggaoacldgkaaGreatDoor
