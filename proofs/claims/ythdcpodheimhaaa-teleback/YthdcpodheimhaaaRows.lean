/-
  NARROWER THAN 'FOR EVERY INPUT', by the rows' own cells (each row's printed sentence says how): TeleSplit: loops · TeleSpine: loops · TeleBack: loops.
  DERIVED. THE GIVEN ROWS OF THIS SEAT. 3 by the template 'for every input the law returns true; each argument reads behind the call as it read before'; 0 by the template 'total and deterministic' (their statements: YthdcpodheimhaaaTotals.lean).
  GIVEN WITH THE SEED: the statements are not yours to turn. If you find one false, say at which input.
  Laid BY PROGRAM, IN A SANDBOX (cutbox-rows.mjs): the forced cells as the released guide's own fill.sh prints them over the translation 341bee52a990f092… (all of the seat's roots in one cut). By AI agents, Wed Nov 11 2026. No macro, syntax, notation, axiom, sorry.
-/
import Derived.Test.YthdcpodheimhaaaChecked
import GoSem.Claim
import GoSem.ClaimJoined
import GoSem.ClaimMapViews
import Derived.JoinedTies
import Derived.KernelRfl
namespace Go.Proofs.Ythdcpodheimhaaa
/- THE CELL 'sum', in the pinned program and in every row, IS THE sha256 OF THE DUMP (.gsa) THAT YthdcpodheimhaaaProg.lean LOADS. Nothing in Lean hashes anything: it is a label: what it is worth is what the hold of that sum in a sandbox is worth. -/
noncomputable def Try.pinned : Pinned := { name := "ythdcpodheimhaaa", sum := "341bee52a990f092d0cce9180d1ddb50386c5636c6a30a44f2b3129fd2916895", checked := Try.checked }
namespace Rows
def none {H : Type} : Left H := { results := [], args := [] }

/-- 'telamonlaw4.TeleSplit': WHATEVER THE INPUT: true; the input reads as it did. -/
def teleSplitSpec : ChangeSpec := { name := "teleSplit", fn := fun _ => fun
  | [d1, d2] => { results := [.lit (.bool true)], args := [d1, d2] }
  | _ => none }
def teleSplitRow : OpenClaim := { program := "ythdcpodheimhaaa", sum := "341bee52a990f092d0cce9180d1ddb50386c5636c6a30a44f2b3129fd2916895", func := "telamon/telamonlaw4.TeleSplit", spec := "teleSplit", unfollowed := true, recurses := true, loops := true, apart := false }
def TeleSplitSaid : Prop := teleSplitRow.holds Try.pinned (OpenSpec.ofChange teleSplitSpec)

/-- ITS FALSE NEIGHBOUR: 'it returns false'. Refute it at one input. -/
def teleSplitWrong : ChangeSpec := { name := "teleSplit", fn := fun _ => fun
  | [d1, d2] => { results := [.lit (.bool false)], args := [d1, d2] }
  | _ => none }
def TeleSplitWrongFalsely : Prop := teleSplitRow.holds Try.pinned (OpenSpec.ofChange teleSplitWrong)

/-- 'telamonlaw4.TeleSpine': WHATEVER THE INPUT: true; the input reads as it did. -/
def teleSpineSpec : ChangeSpec := { name := "teleSpine", fn := fun _ => fun
  | [d] => { results := [.lit (.bool true)], args := [d] }
  | _ => none }
def teleSpineRow : OpenClaim := { program := "ythdcpodheimhaaa", sum := "341bee52a990f092d0cce9180d1ddb50386c5636c6a30a44f2b3129fd2916895", func := "telamon/telamonlaw4.TeleSpine", spec := "teleSpine", unfollowed := true, recurses := true, loops := true, apart := false }
def TeleSpineSaid : Prop := teleSpineRow.holds Try.pinned (OpenSpec.ofChange teleSpineSpec)

/-- ITS FALSE NEIGHBOUR: 'it returns false'. Refute it at one input. -/
def teleSpineWrong : ChangeSpec := { name := "teleSpine", fn := fun _ => fun
  | [d] => { results := [.lit (.bool false)], args := [d] }
  | _ => none }
def TeleSpineWrongFalsely : Prop := teleSpineRow.holds Try.pinned (OpenSpec.ofChange teleSpineWrong)

/-- 'telamonlaw4.TeleBack': WHATEVER THE INPUT: true; the input reads as it did. -/
def teleBackSpec : ChangeSpec := { name := "teleBack", fn := fun _ => fun
  | [d1, d2, d3] => { results := [.lit (.bool true)], args := [d1, d2, d3] }
  | _ => none }
def teleBackRow : OpenClaim := { program := "ythdcpodheimhaaa", sum := "341bee52a990f092d0cce9180d1ddb50386c5636c6a30a44f2b3129fd2916895", func := "telamon/telamonlaw4.TeleBack", spec := "teleBack", unfollowed := true, recurses := true, loops := true, apart := false }
def TeleBackSaid : Prop := teleBackRow.holds Try.pinned (OpenSpec.ofChange teleBackSpec)

/-- ITS FALSE NEIGHBOUR: 'it returns false'. Refute it at one input. -/
def teleBackWrong : ChangeSpec := { name := "teleBack", fn := fun _ => fun
  | [d1, d2, d3] => { results := [.lit (.bool false)], args := [d1, d2, d3] }
  | _ => none }
def TeleBackWrongFalsely : Prop := teleBackRow.holds Try.pinned (OpenSpec.ofChange teleBackWrong)

/- THE SECOND FORM. 'bulk': how many values and letters a reading holds, each counted each time it is reached (what is shared counts as often as it is met; a slice's spare places count too). A statement '..UptoSaid' is the law's where the arguments, and the package variables that the reading takes, are together of bulk at most 1048576: NARROWER than '..Said'. Prove '..Said' where nothing that the law and all that it calls make is longer than what came in: it says more and counts as full. Else prove '..UptoSaid'. A law counts once. -/
mutual
def uptoBulk {H : Type} : DataW H → Nat
  | .lit (.string bytes) => bytes.length + 1
  | .lit _ => 1
  | .nil => 1
  | .ptr d => uptoBulk d + 1
  | .slice elems spare => uptoBulkAll elems + uptoBulkAll spare + 1
  | .agg parts => uptoBulkAll parts + 1
  | .iface _ d => uptoBulk d + 1
  | .map entries => uptoBulkEntries entries + 1
  | .held _ => 1
def uptoBulkAll {H : Type} : List (DataW H) → Nat
  | [] => 0
  | d :: r => uptoBulk d + uptoBulkAll r
def uptoBulkEntries {H : Type} : List (Lit × DataW H) → Nat
  | [] => 0
  | x :: r => uptoBulkEntry x + uptoBulkEntries r
def uptoBulkEntry {H : Type} : Lit × DataW H → Nat
  | (.string bytes, d) => bytes.length + uptoBulk d + 1
  | (_, d) => uptoBulk d + 1
 end
def uptoSmall : (H : Type) → List (DataW H) → Bool := fun _ ds => decide (uptoBulkAll ds ≤ 1048576)
def OpenSpec.upto (s : _root_.Go.ChangeSpec) : _root_.Go.OpenSpec := { _root_.Go.OpenSpec.ofChange s with cond := some uptoSmall }

/-- 'telamonlaw4.TeleSplit', WHERE WHAT IT READS IS OF BULK AT MOST 1048576: true; the input reads as it did. -/
def teleSplitUptoRow : OpenClaim := { program := "ythdcpodheimhaaa", sum := "341bee52a990f092d0cce9180d1ddb50386c5636c6a30a44f2b3129fd2916895", func := "telamon/telamonlaw4.TeleSplit", spec := "teleSplit", unfollowed := true, recurses := true, loops := true, apart := false, narrowed := true }
def TeleSplitUptoSaid : Prop := teleSplitUptoRow.holds Try.pinned (OpenSpec.upto teleSplitSpec)

/-- 'telamonlaw4.TeleSpine', WHERE WHAT IT READS IS OF BULK AT MOST 1048576: true; the input reads as it did. -/
def teleSpineUptoRow : OpenClaim := { program := "ythdcpodheimhaaa", sum := "341bee52a990f092d0cce9180d1ddb50386c5636c6a30a44f2b3129fd2916895", func := "telamon/telamonlaw4.TeleSpine", spec := "teleSpine", unfollowed := true, recurses := true, loops := true, apart := false, narrowed := true }
def TeleSpineUptoSaid : Prop := teleSpineUptoRow.holds Try.pinned (OpenSpec.upto teleSpineSpec)

/-- 'telamonlaw4.TeleBack', WHERE WHAT IT READS IS OF BULK AT MOST 1048576: true; the input reads as it did. -/
def teleBackUptoRow : OpenClaim := { program := "ythdcpodheimhaaa", sum := "341bee52a990f092d0cce9180d1ddb50386c5636c6a30a44f2b3129fd2916895", func := "telamon/telamonlaw4.TeleBack", spec := "teleBack", unfollowed := true, recurses := true, loops := true, apart := false, narrowed := true }
def TeleBackUptoSaid : Prop := teleBackUptoRow.holds Try.pinned (OpenSpec.upto teleBackSpec)

end Rows
end Go.Proofs.Ythdcpodheimhaaa
