/-
  NARROWER THAN 'FOR EVERY INPUT', by the rows' own cells (each row's printed sentence says how): KernelRows: laid · KernelVars: laid · KernelIdentity: laid.
  DERIVED. THE GIVEN ROWS OF THIS SEAT. 3 by the template 'for every input the law returns true; each argument reads behind the call as it read before'; 0 by the template 'total and deterministic' (their statements: YtcakhpfonailhaaGreatDoorTotals.lean).
  GIVEN WITH THE SEED: the statements are not yours to turn. If you find one false, say at which input.
  Laid BY PROGRAM, IN A SANDBOX (cutbox-rows.mjs): the forced cells as the released guide's own fill.sh prints them over the translation edf861fc7ce32c48… (all of the seat's roots in one cut). By AI agents, Wed Nov 11 2026. No macro, syntax, notation, axiom, sorry.
-/
import Derived.Test.YtcakhpfonailhaaGreatDoorChecked
import GoSem.Claim
import GoSem.ClaimJoined
import GoSem.ClaimMapViews
import Derived.JoinedTies
import Derived.KernelRfl
namespace Go.Proofs.YtcakhpfonailhaaGreatDoor
/- THE CELL 'sum', in the pinned program and in every row, IS THE sha256 OF THE DUMP (.gsa) THAT YtcakhpfonailhaaGreatDoorProg.lean LOADS. Nothing in Lean hashes anything: it is a label: what it is worth is what the hold of that sum in a sandbox is worth. -/
noncomputable def Tryz.pinned : Pinned := { name := "ytcakhpfonailhaagreatdoor", sum := "edf861fc7ce32c4858707b8ce373959a55deec5ab6de99c5924116f2f3bceee7", checked := Tryz.checked }
namespace Rows
def none {H : Type} : Left H := { results := [], args := [] }

/- WHAT THE LISTED PACKAGE-LEVEL VARIABLES READ AS WHEN THE CALL BEGINS. Each datum BY PROGRAM (the guide's laid-datum.mjs) off the statement by which the dump's own 'gosem.cut.vars' lays the variable. In a bare row this is a premise. The card (YtcakhpfonailhaaGreatDoorCards.lean) ties it to the program's text. -/
def laid_errors_errorType {H : Type} : DataW H := .iface "internal/reflectlite.rtype" (.agg [.ptr (.lit (.string [101, 114, 114, 111, 114]))])

/-- 'telamonlaw9.KernelRows': WHATEVER THE INPUT: true; the input reads as it did. -/
def kernelRowsSpec : ChangeSpec := { name := "kernelRows", fn := fun _ => fun
  | [d1, d2, d3] => { results := [.lit (.bool true)], args := [d1, d2, d3] }
  | _ => none }
def kernelRowsRow : OpenClaim := { program := "ytcakhpfonailhaagreatdoor", sum := "edf861fc7ce32c4858707b8ce373959a55deec5ab6de99c5924116f2f3bceee7", func := "telamon/telamonlaw9.KernelRows", spec := "kernelRows", inPlace := ["internal/reflectlite.ValueOf", "(internal/reflectlite.Value).Type", "(internal/reflectlite.Value).IsNil", "internal/reflectlite.TypeOf", "(internal/reflectlite.Value).Elem", "(internal/reflectlite.Value).Set"], unfollowed := true, recurses := true, named := ["errors.errorType"], plainKeys := false, apart := false, laid := [("errors.errorType", laid_errors_errorType)] }
def KernelRowsSaid : Prop := kernelRowsRow.holds Tryz.pinned (OpenSpec.ofChange kernelRowsSpec)

/-- ITS FALSE NEIGHBOUR: 'it returns false'. Refute it at one input. -/
def kernelRowsWrong : ChangeSpec := { name := "kernelRows", fn := fun _ => fun
  | [d1, d2, d3] => { results := [.lit (.bool false)], args := [d1, d2, d3] }
  | _ => none }
def KernelRowsWrongFalsely : Prop := kernelRowsRow.holds Tryz.pinned (OpenSpec.ofChange kernelRowsWrong)

/-- 'telamonlaw9.KernelVars': WHATEVER THE INPUT: true; the input reads as it did. -/
def kernelVarsSpec : ChangeSpec := { name := "kernelVars", fn := fun _ => fun
  | [d1, d2] => { results := [.lit (.bool true)], args := [d1, d2] }
  | _ => none }
def kernelVarsRow : OpenClaim := { program := "ytcakhpfonailhaagreatdoor", sum := "edf861fc7ce32c4858707b8ce373959a55deec5ab6de99c5924116f2f3bceee7", func := "telamon/telamonlaw9.KernelVars", spec := "kernelVars", inPlace := ["internal/reflectlite.ValueOf", "(internal/reflectlite.Value).Type", "(internal/reflectlite.Value).IsNil", "internal/reflectlite.TypeOf", "(internal/reflectlite.Value).Elem", "(internal/reflectlite.Value).Set"], unfollowed := true, recurses := true, named := ["errors.errorType"], plainKeys := false, apart := false, laid := [("errors.errorType", laid_errors_errorType)] }
def KernelVarsSaid : Prop := kernelVarsRow.holds Tryz.pinned (OpenSpec.ofChange kernelVarsSpec)

/-- ITS FALSE NEIGHBOUR: 'it returns false'. Refute it at one input. -/
def kernelVarsWrong : ChangeSpec := { name := "kernelVars", fn := fun _ => fun
  | [d1, d2] => { results := [.lit (.bool false)], args := [d1, d2] }
  | _ => none }
def KernelVarsWrongFalsely : Prop := kernelVarsRow.holds Tryz.pinned (OpenSpec.ofChange kernelVarsWrong)

/-- 'telamonlaw9.KernelIdentity': WHATEVER THE INPUT: true; the input reads as it did. -/
def kernelIdentitySpec : ChangeSpec := { name := "kernelIdentity", fn := fun _ => fun
  | [d1, d2] => { results := [.lit (.bool true)], args := [d1, d2] }
  | _ => none }
def kernelIdentityRow : OpenClaim := { program := "ytcakhpfonailhaagreatdoor", sum := "edf861fc7ce32c4858707b8ce373959a55deec5ab6de99c5924116f2f3bceee7", func := "telamon/telamonlaw9.KernelIdentity", spec := "kernelIdentity", inPlace := ["internal/reflectlite.ValueOf", "(internal/reflectlite.Value).Type", "(internal/reflectlite.Value).IsNil", "internal/reflectlite.TypeOf", "(internal/reflectlite.Value).Elem", "(internal/reflectlite.Value).Set"], unfollowed := true, recurses := true, named := ["errors.errorType"], plainKeys := false, apart := false, laid := [("errors.errorType", laid_errors_errorType)] }
def KernelIdentitySaid : Prop := kernelIdentityRow.holds Tryz.pinned (OpenSpec.ofChange kernelIdentitySpec)

/-- ITS FALSE NEIGHBOUR: 'it returns false'. Refute it at one input. -/
def kernelIdentityWrong : ChangeSpec := { name := "kernelIdentity", fn := fun _ => fun
  | [d1, d2] => { results := [.lit (.bool false)], args := [d1, d2] }
  | _ => none }
def KernelIdentityWrongFalsely : Prop := kernelIdentityRow.holds Tryz.pinned (OpenSpec.ofChange kernelIdentityWrong)

/- THE SECOND FORM. 'bulk': how many values and letters a reading holds, each counted each time it is reached (what is shared counts as often as it is met; a slice's spare places count too). A statement '..UptoSaid' is the law's where the arguments, and the package variables that the reading takes, are together of bulk at most 1048576: NARROWER than '..Said'. Prove '..Said' where nothing that the law and all that it calls make is longer than what came in: it says more and counts as full. Else prove '..UptoSaid'. A law counts once. -/
mutual
def uptoBulk {H : Type} : DataW H → Nat
  | .lit (.string bytes) => bytes.length + 1
  | .lit _ => 1
  | .nil => 1
  | .ptr d => uptoBulk d + 1
  | .slice elems spare => uptoBulkAll elems + uptoBulkAll spare + 1
  | .agg parts => uptoBulkAll parts + 1
  | .iface _ d => uptoBulk d + 1
  | .map entries => uptoBulkEntries entries + 1
  | .held _ => 1
def uptoBulkAll {H : Type} : List (DataW H) → Nat
  | [] => 0
  | d :: r => uptoBulk d + uptoBulkAll r
def uptoBulkEntries {H : Type} : List (Lit × DataW H) → Nat
  | [] => 0
  | x :: r => uptoBulkEntry x + uptoBulkEntries r
def uptoBulkEntry {H : Type} : Lit × DataW H → Nat
  | (.string bytes, d) => bytes.length + uptoBulk d + 1
  | (_, d) => uptoBulk d + 1
 end
def uptoSmall : (H : Type) → List (DataW H) → Bool := fun _ ds => decide (uptoBulkAll ds ≤ 1048576)
def OpenSpec.upto (s : _root_.Go.ChangeSpec) : _root_.Go.OpenSpec := { _root_.Go.OpenSpec.ofChange s with cond := some uptoSmall }

/-- 'telamonlaw9.KernelRows', WHERE WHAT IT READS IS OF BULK AT MOST 1048576: true; the input reads as it did. -/
def kernelRowsUptoRow : OpenClaim := { program := "ytcakhpfonailhaagreatdoor", sum := "edf861fc7ce32c4858707b8ce373959a55deec5ab6de99c5924116f2f3bceee7", func := "telamon/telamonlaw9.KernelRows", spec := "kernelRows", inPlace := ["internal/reflectlite.ValueOf", "(internal/reflectlite.Value).Type", "(internal/reflectlite.Value).IsNil", "internal/reflectlite.TypeOf", "(internal/reflectlite.Value).Elem", "(internal/reflectlite.Value).Set"], unfollowed := true, recurses := true, named := ["errors.errorType"], plainKeys := false, apart := false, laid := [("errors.errorType", laid_errors_errorType)], narrowed := true }
def KernelRowsUptoSaid : Prop := kernelRowsUptoRow.holds Tryz.pinned (OpenSpec.upto kernelRowsSpec)

/-- 'telamonlaw9.KernelVars', WHERE WHAT IT READS IS OF BULK AT MOST 1048576: true; the input reads as it did. -/
def kernelVarsUptoRow : OpenClaim := { program := "ytcakhpfonailhaagreatdoor", sum := "edf861fc7ce32c4858707b8ce373959a55deec5ab6de99c5924116f2f3bceee7", func := "telamon/telamonlaw9.KernelVars", spec := "kernelVars", inPlace := ["internal/reflectlite.ValueOf", "(internal/reflectlite.Value).Type", "(internal/reflectlite.Value).IsNil", "internal/reflectlite.TypeOf", "(internal/reflectlite.Value).Elem", "(internal/reflectlite.Value).Set"], unfollowed := true, recurses := true, named := ["errors.errorType"], plainKeys := false, apart := false, laid := [("errors.errorType", laid_errors_errorType)], narrowed := true }
def KernelVarsUptoSaid : Prop := kernelVarsUptoRow.holds Tryz.pinned (OpenSpec.upto kernelVarsSpec)

/-- 'telamonlaw9.KernelIdentity', WHERE WHAT IT READS IS OF BULK AT MOST 1048576: true; the input reads as it did. -/
def kernelIdentityUptoRow : OpenClaim := { program := "ytcakhpfonailhaagreatdoor", sum := "edf861fc7ce32c4858707b8ce373959a55deec5ab6de99c5924116f2f3bceee7", func := "telamon/telamonlaw9.KernelIdentity", spec := "kernelIdentity", inPlace := ["internal/reflectlite.ValueOf", "(internal/reflectlite.Value).Type", "(internal/reflectlite.Value).IsNil", "internal/reflectlite.TypeOf", "(internal/reflectlite.Value).Elem", "(internal/reflectlite.Value).Set"], unfollowed := true, recurses := true, named := ["errors.errorType"], plainKeys := false, apart := false, laid := [("errors.errorType", laid_errors_errorType)], narrowed := true }
def KernelIdentityUptoSaid : Prop := kernelIdentityUptoRow.holds Tryz.pinned (OpenSpec.upto kernelIdentitySpec)

end Rows
end Go.Proofs.YtcakhpfonailhaaGreatDoor
