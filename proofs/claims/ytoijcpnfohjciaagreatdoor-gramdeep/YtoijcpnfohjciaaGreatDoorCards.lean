/-
  DERIVED. GIVEN WITH THE SEED: THE CARDS: each row of YtoijcpnfohjciaaGreatDoorRows.lean that lists a variable, with what it lists TIED to the program's text (the seventh form; the later family's looks); each row that meets fmt, with fmt's text TOLD by the authors' own Lean function (tested against real Go, not proved from fmt's source: count such statements apart). THE CARD IS WHAT COUNTS. Prove the row's statement (the work); the ties are given (YtoijcpnfohjciaaGreatDoorTie.lean); close each card by the builder's one call (the guide's Derived/Test/ToyasCard.lean, 'card_holds'). Laid BY PROGRAM, IN A SANDBOX (cutbox-door.mjs). By AI agents, Wed Nov 11 2026. No macro, syntax, notation, axiom, sorry.
-/
import Derived.Test.YtoijcpnfohjciaaGreatDoorRows
import GoSem.ClaimSeven
namespace Go.Proofs.YtoijcpnfohjciaaGreatDoor
namespace Rows

/-- THE TIED CARD OF 'telamonlaw14.GramWrong'. -/
def gramWrongCard : Claim7 := { stood := { row := gramWrongRow, standIns := [], harness := (true, "f3814e9d4c5a19824a7bf156a3e263c9fdb64b34585fe0127fbb704a26cf3449"), looks := true }, kinds := [], alts := [], laidByText := true, laidKinds := [.data, .data, .data, .data, .handle, .sentinel, .sentinel, .listed, .data, .pinned], laidTests := true, laidLooks := .later }
def GramWrongCardSaid : Prop := Claim7.holds Tryz.pinned (.plain (OpenSpec.ofChange gramWrongSpec)) gramWrongCard

/-- THE TIED CARD OF 'telamonlaw14.GramDeep'. -/
def gramDeepCard : Claim7 := { stood := { row := gramDeepRow, standIns := [], harness := (true, "f3814e9d4c5a19824a7bf156a3e263c9fdb64b34585fe0127fbb704a26cf3449"), looks := true }, kinds := [], alts := [], laidByText := true, laidKinds := [.data, .data, .data, .data, .handle, .sentinel, .sentinel, .listed, .data, .pinned], laidTests := true, laidLooks := .later }
def GramDeepCardSaid : Prop := Claim7.holds Tryz.pinned (.plain (OpenSpec.ofChange gramDeepSpec)) gramDeepCard

/-- THE TIED CARD OF 'telamonlaw14.GramBinds'. -/
def gramBindsCard : Claim7 := { stood := { row := gramBindsRow, standIns := [], harness := (true, "f3814e9d4c5a19824a7bf156a3e263c9fdb64b34585fe0127fbb704a26cf3449"), looks := true }, kinds := [], alts := [], laidByText := true, laidKinds := [.data, .data, .data, .data, .handle, .sentinel, .sentinel, .listed, .data, .pinned], laidTests := true, laidLooks := .later }
def GramBindsCardSaid : Prop := Claim7.holds Tryz.pinned (.plain (OpenSpec.ofChange gramBindsSpec)) gramBindsCard

/-- THE SECOND FORM's CARD OF 'telamonlaw14.GramWrong'. -/
def gramWrongUptoCard : Claim7 := { stood := { row := gramWrongUptoRow, standIns := [], harness := (true, "f3814e9d4c5a19824a7bf156a3e263c9fdb64b34585fe0127fbb704a26cf3449"), looks := true }, kinds := [], alts := [], laidByText := true, laidKinds := [.data, .data, .data, .data, .handle, .sentinel, .sentinel, .listed, .data, .pinned], laidTests := true, laidLooks := .later }
def GramWrongUptoCardSaid : Prop := Claim7.holds Tryz.pinned (.plain (OpenSpec.upto gramWrongSpec)) gramWrongUptoCard

/-- THE SECOND FORM's CARD OF 'telamonlaw14.GramDeep'. -/
def gramDeepUptoCard : Claim7 := { stood := { row := gramDeepUptoRow, standIns := [], harness := (true, "f3814e9d4c5a19824a7bf156a3e263c9fdb64b34585fe0127fbb704a26cf3449"), looks := true }, kinds := [], alts := [], laidByText := true, laidKinds := [.data, .data, .data, .data, .handle, .sentinel, .sentinel, .listed, .data, .pinned], laidTests := true, laidLooks := .later }
def GramDeepUptoCardSaid : Prop := Claim7.holds Tryz.pinned (.plain (OpenSpec.upto gramDeepSpec)) gramDeepUptoCard

/-- THE SECOND FORM's CARD OF 'telamonlaw14.GramBinds'. -/
def gramBindsUptoCard : Claim7 := { stood := { row := gramBindsUptoRow, standIns := [], harness := (true, "f3814e9d4c5a19824a7bf156a3e263c9fdb64b34585fe0127fbb704a26cf3449"), looks := true }, kinds := [], alts := [], laidByText := true, laidKinds := [.data, .data, .data, .data, .handle, .sentinel, .sentinel, .listed, .data, .pinned], laidTests := true, laidLooks := .later }
def GramBindsUptoCardSaid : Prop := Claim7.holds Tryz.pinned (.plain (OpenSpec.upto gramBindsSpec)) gramBindsUptoCard
end Rows
end Go.Proofs.YtoijcpnfohjciaaGreatDoor
