/-
  No cell of these rows narrows 'for every input' (looked for: loops, veiled, ifaces, maps, wideKeys, modest, calm, conditions, laid).
  DERIVED. THE GIVEN ROWS OF THIS SEAT. 3 by the template 'for every input the law returns true; each argument reads behind the call as it read before'; 0 by the template 'total and deterministic' (their statements: YtlejihhbliodoaaGreatTotals.lean).
  GIVEN WITH THE SEED: the statements are not yours to turn. If you find one false, say at which input.
  Laid BY PROGRAM, IN A SANDBOX (cutbox-rows.mjs): the forced cells as the released guide's own fill.sh prints them over the translation 5c653d01222c62da… (all of the seat's roots in one cut). By AI agents, Wed Nov 11 2026. No macro, syntax, notation, axiom, sorry.
-/
import Derived.Test.YtlejihhbliodoaaGreatChecked
import GoSem.Claim
import GoSem.ClaimJoined
import GoSem.ClaimMapViews
import Derived.JoinedTies
import Derived.KernelRfl
namespace Go.Proofs.YtlejihhbliodoaaGreat
/- THE CELL 'sum', in the pinned program and in every row, IS THE sha256 OF THE DUMP (.gsa) THAT YtlejihhbliodoaaGreatProg.lean LOADS. Nothing in Lean hashes anything: it is a label: what it is worth is what the hold of that sum in a sandbox is worth. -/
noncomputable def Tryz.pinned : Pinned := { name := "ytlejihhbliodoaagreat", sum := "5c653d01222c62da83c14b3048807162d418e4f580d5c68c0f0232d68bf05879", checked := Tryz.checked }
namespace Rows
def none {H : Type} : Left H := { results := [], args := [] }

/-- 'telamonlaw8.ConvEta': WHATEVER THE INPUT: true; the input reads as it did. -/
def convEtaSpec : ChangeSpec := { name := "convEta", fn := fun _ => fun
  | [d1, d2, d3] => { results := [.lit (.bool true)], args := [d1, d2, d3] }
  | _ => none }
def convEtaRow : OpenClaim := { program := "ytlejihhbliodoaagreat", sum := "5c653d01222c62da83c14b3048807162d418e4f580d5c68c0f0232d68bf05879", func := "telamon/telamonlaw8.ConvEta", spec := "convEta", unfollowed := true, recurses := true, plainKeys := false, apart := false }
def ConvEtaSaid : Prop := convEtaRow.holds Tryz.pinned (OpenSpec.ofChange convEtaSpec)

/-- ITS FALSE NEIGHBOUR: 'it returns false'. Refute it at one input. -/
def convEtaWrong : ChangeSpec := { name := "convEta", fn := fun _ => fun
  | [d1, d2, d3] => { results := [.lit (.bool false)], args := [d1, d2, d3] }
  | _ => none }
def ConvEtaWrongFalsely : Prop := convEtaRow.holds Tryz.pinned (OpenSpec.ofChange convEtaWrong)

/-- 'telamonlaw8.ConvNames': WHATEVER THE INPUT: true; the input reads as it did. -/
def convNamesSpec : ChangeSpec := { name := "convNames", fn := fun _ => fun
  | [d1, d2, d3, d4] => { results := [.lit (.bool true)], args := [d1, d2, d3, d4] }
  | _ => none }
def convNamesRow : OpenClaim := { program := "ytlejihhbliodoaagreat", sum := "5c653d01222c62da83c14b3048807162d418e4f580d5c68c0f0232d68bf05879", func := "telamon/telamonlaw8.ConvNames", spec := "convNames", unfollowed := true, recurses := true, plainKeys := false, apart := false }
def ConvNamesSaid : Prop := convNamesRow.holds Tryz.pinned (OpenSpec.ofChange convNamesSpec)

/-- ITS FALSE NEIGHBOUR: 'it returns false'. Refute it at one input. -/
def convNamesWrong : ChangeSpec := { name := "convNames", fn := fun _ => fun
  | [d1, d2, d3, d4] => { results := [.lit (.bool false)], args := [d1, d2, d3, d4] }
  | _ => none }
def ConvNamesWrongFalsely : Prop := convNamesRow.holds Tryz.pinned (OpenSpec.ofChange convNamesWrong)

/-- 'telamonlaw8.ConvHids': WHATEVER THE INPUT: true; the input reads as it did. -/
def convHidsSpec : ChangeSpec := { name := "convHids", fn := fun _ => fun
  | [d1, d2, d3] => { results := [.lit (.bool true)], args := [d1, d2, d3] }
  | _ => none }
def convHidsRow : OpenClaim := { program := "ytlejihhbliodoaagreat", sum := "5c653d01222c62da83c14b3048807162d418e4f580d5c68c0f0232d68bf05879", func := "telamon/telamonlaw8.ConvHids", spec := "convHids", unfollowed := true, recurses := true, plainKeys := false, apart := false }
def ConvHidsSaid : Prop := convHidsRow.holds Tryz.pinned (OpenSpec.ofChange convHidsSpec)

/-- ITS FALSE NEIGHBOUR: 'it returns false'. Refute it at one input. -/
def convHidsWrong : ChangeSpec := { name := "convHids", fn := fun _ => fun
  | [d1, d2, d3] => { results := [.lit (.bool false)], args := [d1, d2, d3] }
  | _ => none }
def ConvHidsWrongFalsely : Prop := convHidsRow.holds Tryz.pinned (OpenSpec.ofChange convHidsWrong)

/- THE SECOND FORM. 'bulk': how many values and letters a reading holds, each counted each time it is reached (what is shared counts as often as it is met; a slice's spare places count too). A statement '..UptoSaid' is the law's where the arguments, and the package variables that the reading takes, are together of bulk at most 1048576: NARROWER than '..Said'. Prove '..Said' where nothing that the law and all that it calls make is longer than what came in: it says more and counts as full. Else prove '..UptoSaid'. A law counts once. -/
mutual
def uptoBulk {H : Type} : DataW H → Nat
  | .lit (.string bytes) => bytes.length + 1
  | .lit _ => 1
  | .nil => 1
  | .ptr d => uptoBulk d + 1
  | .slice elems spare => uptoBulkAll elems + uptoBulkAll spare + 1
  | .agg parts => uptoBulkAll parts + 1
  | .iface _ d => uptoBulk d + 1
  | .map entries => uptoBulkEntries entries + 1
  | .held _ => 1
def uptoBulkAll {H : Type} : List (DataW H) → Nat
  | [] => 0
  | d :: r => uptoBulk d + uptoBulkAll r
def uptoBulkEntries {H : Type} : List (Lit × DataW H) → Nat
  | [] => 0
  | x :: r => uptoBulkEntry x + uptoBulkEntries r
def uptoBulkEntry {H : Type} : Lit × DataW H → Nat
  | (.string bytes, d) => bytes.length + uptoBulk d + 1
  | (_, d) => uptoBulk d + 1
 end
def uptoSmall : (H : Type) → List (DataW H) → Bool := fun _ ds => decide (uptoBulkAll ds ≤ 1048576)
def OpenSpec.upto (s : _root_.Go.ChangeSpec) : _root_.Go.OpenSpec := { _root_.Go.OpenSpec.ofChange s with cond := some uptoSmall }

/-- 'telamonlaw8.ConvEta', WHERE WHAT IT READS IS OF BULK AT MOST 1048576: true; the input reads as it did. -/
def convEtaUptoRow : OpenClaim := { program := "ytlejihhbliodoaagreat", sum := "5c653d01222c62da83c14b3048807162d418e4f580d5c68c0f0232d68bf05879", func := "telamon/telamonlaw8.ConvEta", spec := "convEta", unfollowed := true, recurses := true, plainKeys := false, apart := false, narrowed := true }
def ConvEtaUptoSaid : Prop := convEtaUptoRow.holds Tryz.pinned (OpenSpec.upto convEtaSpec)

/-- 'telamonlaw8.ConvNames', WHERE WHAT IT READS IS OF BULK AT MOST 1048576: true; the input reads as it did. -/
def convNamesUptoRow : OpenClaim := { program := "ytlejihhbliodoaagreat", sum := "5c653d01222c62da83c14b3048807162d418e4f580d5c68c0f0232d68bf05879", func := "telamon/telamonlaw8.ConvNames", spec := "convNames", unfollowed := true, recurses := true, plainKeys := false, apart := false, narrowed := true }
def ConvNamesUptoSaid : Prop := convNamesUptoRow.holds Tryz.pinned (OpenSpec.upto convNamesSpec)

/-- 'telamonlaw8.ConvHids', WHERE WHAT IT READS IS OF BULK AT MOST 1048576: true; the input reads as it did. -/
def convHidsUptoRow : OpenClaim := { program := "ytlejihhbliodoaagreat", sum := "5c653d01222c62da83c14b3048807162d418e4f580d5c68c0f0232d68bf05879", func := "telamon/telamonlaw8.ConvHids", spec := "convHids", unfollowed := true, recurses := true, plainKeys := false, apart := false, narrowed := true }
def ConvHidsUptoSaid : Prop := convHidsUptoRow.holds Tryz.pinned (OpenSpec.upto convHidsSpec)

end Rows
end Go.Proofs.YtlejihhbliodoaaGreat
