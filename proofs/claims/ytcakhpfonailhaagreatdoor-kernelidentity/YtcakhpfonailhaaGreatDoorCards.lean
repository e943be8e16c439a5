/-
  DERIVED. GIVEN WITH THE SEED: THE CARDS: each row of YtcakhpfonailhaaGreatDoorRows.lean that lists a variable, with what it lists TIED to the program's text (the seventh form; the later family's looks); each row that meets fmt, with fmt's text TOLD by the authors' own Lean function (tested against real Go, not proved from fmt's source: count such statements apart). THE CARD IS WHAT COUNTS. Prove the row's statement (the work); the ties are given (YtcakhpfonailhaaGreatDoorTie.lean); close each card by the builder's one call (the guide's Derived/Test/ToyasCard.lean, 'card_holds'). Laid BY PROGRAM, IN A SANDBOX (cutbox-door.mjs). By AI agents, Wed Nov 11 2026. No macro, syntax, notation, axiom, sorry.
-/
import Derived.Test.YtcakhpfonailhaaGreatDoorRows
import GoSem.ClaimSeven
namespace Go.Proofs.YtcakhpfonailhaaGreatDoor
namespace Rows

/-- THE TIED CARD OF 'telamonlaw9.KernelRows'. -/
def kernelRowsCard : Claim7 := { stood := { row := kernelRowsRow, standIns := [], harness := (true, "07b2e3508f83e27509a7396125844379acab815d5090ba3063c78e6deb8eb57a"), looks := true }, kinds := [], alts := [], laidByText := true, laidKinds := [.handle], laidTests := true, laidLooks := .later }
def KernelRowsCardSaid : Prop := Claim7.holds Tryz.pinned (.plain (OpenSpec.ofChange kernelRowsSpec)) kernelRowsCard

/-- THE TIED CARD OF 'telamonlaw9.KernelVars'. -/
def kernelVarsCard : Claim7 := { stood := { row := kernelVarsRow, standIns := [], harness := (true, "07b2e3508f83e27509a7396125844379acab815d5090ba3063c78e6deb8eb57a"), looks := true }, kinds := [], alts := [], laidByText := true, laidKinds := [.handle], laidTests := true, laidLooks := .later }
def KernelVarsCardSaid : Prop := Claim7.holds Tryz.pinned (.plain (OpenSpec.ofChange kernelVarsSpec)) kernelVarsCard

/-- THE TIED CARD OF 'telamonlaw9.KernelIdentity'. -/
def kernelIdentityCard : Claim7 := { stood := { row := kernelIdentityRow, standIns := [], harness := (true, "07b2e3508f83e27509a7396125844379acab815d5090ba3063c78e6deb8eb57a"), looks := true }, kinds := [], alts := [], laidByText := true, laidKinds := [.handle], laidTests := true, laidLooks := .later }
def KernelIdentityCardSaid : Prop := Claim7.holds Tryz.pinned (.plain (OpenSpec.ofChange kernelIdentitySpec)) kernelIdentityCard

/-- THE SECOND FORM's CARD OF 'telamonlaw9.KernelRows'. -/
def kernelRowsUptoCard : Claim7 := { stood := { row := kernelRowsUptoRow, standIns := [], harness := (true, "07b2e3508f83e27509a7396125844379acab815d5090ba3063c78e6deb8eb57a"), looks := true }, kinds := [], alts := [], laidByText := true, laidKinds := [.handle], laidTests := true, laidLooks := .later }
def KernelRowsUptoCardSaid : Prop := Claim7.holds Tryz.pinned (.plain (OpenSpec.upto kernelRowsSpec)) kernelRowsUptoCard

/-- THE SECOND FORM's CARD OF 'telamonlaw9.KernelVars'. -/
def kernelVarsUptoCard : Claim7 := { stood := { row := kernelVarsUptoRow, standIns := [], harness := (true, "07b2e3508f83e27509a7396125844379acab815d5090ba3063c78e6deb8eb57a"), looks := true }, kinds := [], alts := [], laidByText := true, laidKinds := [.handle], laidTests := true, laidLooks := .later }
def KernelVarsUptoCardSaid : Prop := Claim7.holds Tryz.pinned (.plain (OpenSpec.upto kernelVarsSpec)) kernelVarsUptoCard

/-- THE SECOND FORM's CARD OF 'telamonlaw9.KernelIdentity'. -/
def kernelIdentityUptoCard : Claim7 := { stood := { row := kernelIdentityUptoRow, standIns := [], harness := (true, "07b2e3508f83e27509a7396125844379acab815d5090ba3063c78e6deb8eb57a"), looks := true }, kinds := [], alts := [], laidByText := true, laidKinds := [.handle], laidTests := true, laidLooks := .later }
def KernelIdentityUptoCardSaid : Prop := Claim7.holds Tryz.pinned (.plain (OpenSpec.upto kernelIdentitySpec)) kernelIdentityUptoCard
end Rows
end Go.Proofs.YtcakhpfonailhaaGreatDoor
