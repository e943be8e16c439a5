/-
  DERIVED. GIVEN WITH THE SEED: THE CARDS: each row of YtkcpnbfhoamlfaaGreatDoorRows.lean that lists a variable, with what it lists TIED to the program's text (the seventh form; the later family's looks); each row that meets fmt, with fmt's text TOLD by the authors' own Lean function (tested against real Go, not proved from fmt's source: count such statements apart). THE CARD IS WHAT COUNTS. Prove the row's statement (the work); the ties are given (YtkcpnbfhoamlfaaGreatDoorTie.lean); close each card by the builder's one call (the guide's Derived/Test/ToyasCard.lean, 'card_holds'). Laid BY PROGRAM, IN A SANDBOX (cutbox-door.mjs). By AI agents, Wed Nov 11 2026. No macro, syntax, notation, axiom, sorry.
-/
import Derived.Test.YtkcpnbfhoamlfaaGreatDoorRows
import GoSem.ClaimSeven
namespace Go.Proofs.YtkcpnbfhoamlfaaGreatDoor
namespace Rows

/-- THE TIED CARD OF 'telamonlaw10.DataPlaces'. -/
def dataPlacesCard : Claim7 := { stood := { row := dataPlacesRow, standIns := [], harness := (true, "a3d2433bb9d98833aa110093883afb1bbe3b9442d1ca63d81b99cd1624c9b3a7"), looks := true }, kinds := [], alts := [], laidByText := true, laidKinds := [.handle], laidTests := true, laidLooks := .later }
def DataPlacesCardSaid : Prop := Claim7.holds Tryz.pinned (.plain (OpenSpec.ofChange dataPlacesSpec)) dataPlacesCard

/-- THE TIED CARD OF 'telamonlaw10.DataWrong'. -/
def dataWrongCard : Claim7 := { stood := { row := dataWrongRow, standIns := [], harness := (true, "a3d2433bb9d98833aa110093883afb1bbe3b9442d1ca63d81b99cd1624c9b3a7"), looks := true }, kinds := [], alts := [], laidByText := true, laidKinds := [.handle], laidTests := true, laidLooks := .later }
def DataWrongCardSaid : Prop := Claim7.holds Tryz.pinned (.plain (OpenSpec.ofChange dataWrongSpec)) dataWrongCard

/-- THE SECOND FORM's CARD OF 'telamonlaw10.DataPlaces'. -/
def dataPlacesUptoCard : Claim7 := { stood := { row := dataPlacesUptoRow, standIns := [], harness := (true, "a3d2433bb9d98833aa110093883afb1bbe3b9442d1ca63d81b99cd1624c9b3a7"), looks := true }, kinds := [], alts := [], laidByText := true, laidKinds := [.handle], laidTests := true, laidLooks := .later }
def DataPlacesUptoCardSaid : Prop := Claim7.holds Tryz.pinned (.plain (OpenSpec.upto dataPlacesSpec)) dataPlacesUptoCard

/-- THE SECOND FORM's CARD OF 'telamonlaw10.DataWrong'. -/
def dataWrongUptoCard : Claim7 := { stood := { row := dataWrongUptoRow, standIns := [], harness := (true, "a3d2433bb9d98833aa110093883afb1bbe3b9442d1ca63d81b99cd1624c9b3a7"), looks := true }, kinds := [], alts := [], laidByText := true, laidKinds := [.handle], laidTests := true, laidLooks := .later }
def DataWrongUptoCardSaid : Prop := Claim7.holds Tryz.pinned (.plain (OpenSpec.upto dataWrongSpec)) dataWrongUptoCard
end Rows
end Go.Proofs.YtkcpnbfhoamlfaaGreatDoor
