/-
  NARROWER THAN 'FOR EVERY INPUT', by the rows' own cells (each row's printed sentence says how): BytesTerms: loops · TeleSplit: loops · TeleSpine: loops.
  DERIVED. THE GIVEN ROWS OF THIS SEAT. 4 by the template 'for every input the law returns true; each argument reads behind the call as it read before'; 0 by the template 'total and deterministic' (their statements: YtahacpbmoijicaaTotals.lean).
  GIVEN WITH THE SEED: the statements are not yours to turn. If you find one false, say at which input.
  Laid BY PROGRAM, IN A SANDBOX (cutbox-rows.mjs): the forced cells as the released guide's own fill.sh prints them over the translation 491b6c9b81c5f528… (all of the seat's roots in one cut). By AI agents, Wed Nov 11 2026. No macro, syntax, notation, axiom, sorry.
-/
import Derived.Test.YtahacpbmoijicaaChecked
import GoSem.Claim
import GoSem.ClaimJoined
import GoSem.ClaimMapViews
import Derived.JoinedTies
import Derived.KernelRfl
namespace Go.Proofs.Ytahacpbmoijicaa
/- THE CELL 'sum', in the pinned program and in every row, IS THE sha256 OF THE DUMP (.gsa) THAT YtahacpbmoijicaaProg.lean LOADS. Nothing in Lean hashes anything: it is a label: what it is worth is what the hold of that sum in a sandbox is worth. -/
noncomputable def Try.pinned : Pinned := { name := "ytahacpbmoijicaa", sum := "491b6c9b81c5f528b3289ed5efede1f5fe83e111f79e4fc544bdf788f052a2be", checked := Try.checked }
namespace Rows
def none {H : Type} : Left H := { results := [], args := [] }

/-- 'telamonlaw3.BytesTerms': WHATEVER THE INPUT: true; the input reads as it did. -/
def bytesTermsSpec : ChangeSpec := { name := "bytesTerms", fn := fun _ => fun
  | [d1, d2] => { results := [.lit (.bool true)], args := [d1, d2] }
  | _ => none }
def bytesTermsRow : OpenClaim := { program := "ytahacpbmoijicaa", sum := "491b6c9b81c5f528b3289ed5efede1f5fe83e111f79e4fc544bdf788f052a2be", func := "telamon/telamonlaw3.BytesTerms", spec := "bytesTerms", unfollowed := true, recurses := true, loops := true, apart := false }
def BytesTermsSaid : Prop := bytesTermsRow.holds Try.pinned (OpenSpec.ofChange bytesTermsSpec)

/-- ITS FALSE NEIGHBOUR: 'it returns false'. Refute it at one input. -/
def bytesTermsWrong : ChangeSpec := { name := "bytesTerms", fn := fun _ => fun
  | [d1, d2] => { results := [.lit (.bool false)], args := [d1, d2] }
  | _ => none }
def BytesTermsWrongFalsely : Prop := bytesTermsRow.holds Try.pinned (OpenSpec.ofChange bytesTermsWrong)

/-- 'telamonlaw3.BytesReads': WHATEVER THE INPUT: true; the input reads as it did. -/
def bytesReadsSpec : ChangeSpec := { name := "bytesReads", fn := fun _ => fun
  | [d1, d2] => { results := [.lit (.bool true)], args := [d1, d2] }
  | _ => none }
def bytesReadsRow : OpenClaim := { program := "ytahacpbmoijicaa", sum := "491b6c9b81c5f528b3289ed5efede1f5fe83e111f79e4fc544bdf788f052a2be", func := "telamon/telamonlaw3.BytesReads", spec := "bytesReads", unfollowed := true, recurses := true, apart := false }
def BytesReadsSaid : Prop := bytesReadsRow.holds Try.pinned (OpenSpec.ofChange bytesReadsSpec)

/-- ITS FALSE NEIGHBOUR: 'it returns false'. Refute it at one input. -/
def bytesReadsWrong : ChangeSpec := { name := "bytesReads", fn := fun _ => fun
  | [d1, d2] => { results := [.lit (.bool false)], args := [d1, d2] }
  | _ => none }
def BytesReadsWrongFalsely : Prop := bytesReadsRow.holds Try.pinned (OpenSpec.ofChange bytesReadsWrong)

/-- 'telamonlaw4.TeleSplit': WHATEVER THE INPUT: true; the input reads as it did. -/
def teleSplitSpec : ChangeSpec := { name := "teleSplit", fn := fun _ => fun
  | [d1, d2] => { results := [.lit (.bool true)], args := [d1, d2] }
  | _ => none }
def teleSplitRow : OpenClaim := { program := "ytahacpbmoijicaa", sum := "491b6c9b81c5f528b3289ed5efede1f5fe83e111f79e4fc544bdf788f052a2be", func := "telamon/telamonlaw4.TeleSplit", spec := "teleSplit", unfollowed := true, recurses := true, loops := true, apart := false }
def TeleSplitSaid : Prop := teleSplitRow.holds Try.pinned (OpenSpec.ofChange teleSplitSpec)

/-- ITS FALSE NEIGHBOUR: 'it returns false'. Refute it at one input. -/
def teleSplitWrong : ChangeSpec := { name := "teleSplit", fn := fun _ => fun
  | [d1, d2] => { results := [.lit (.bool false)], args := [d1, d2] }
  | _ => none }
def TeleSplitWrongFalsely : Prop := teleSplitRow.holds Try.pinned (OpenSpec.ofChange teleSplitWrong)

/-- 'telamonlaw4.TeleSpine': WHATEVER THE INPUT: true; the input reads as it did. -/
def teleSpineSpec : ChangeSpec := { name := "teleSpine", fn := fun _ => fun
  | [d] => { results := [.lit (.bool true)], args := [d] }
  | _ => none }
def teleSpineRow : OpenClaim := { program := "ytahacpbmoijicaa", sum := "491b6c9b81c5f528b3289ed5efede1f5fe83e111f79e4fc544bdf788f052a2be", func := "telamon/telamonlaw4.TeleSpine", spec := "teleSpine", unfollowed := true, recurses := true, loops := true, apart := false }
def TeleSpineSaid : Prop := teleSpineRow.holds Try.pinned (OpenSpec.ofChange teleSpineSpec)

/-- ITS FALSE NEIGHBOUR: 'it returns false'. Refute it at one input. -/
def teleSpineWrong : ChangeSpec := { name := "teleSpine", fn := fun _ => fun
  | [d] => { results := [.lit (.bool false)], args := [d] }
  | _ => none }
def TeleSpineWrongFalsely : Prop := teleSpineRow.holds Try.pinned (OpenSpec.ofChange teleSpineWrong)

/- THE SECOND FORM. 'bulk': how many values and letters a reading holds, each counted each time it is reached (what is shared counts as often as it is met; a slice's spare places count too). A statement '..UptoSaid' is the law's where the arguments, and the package variables that the reading takes, are together of bulk at most 1048576: NARROWER than '..Said'. Prove '..Said' where nothing that the law and all that it calls make is longer than what came in: it says more and counts as full. Else prove '..UptoSaid'. A law counts once. -/
mutual
def uptoBulk {H : Type} : DataW H → Nat
  | .lit (.string bytes) => bytes.length + 1
  | .lit _ => 1
  | .nil => 1
  | .ptr d => uptoBulk d + 1
  | .slice elems spare => uptoBulkAll elems + uptoBulkAll spare + 1
  | .agg parts => uptoBulkAll parts + 1
  | .iface _ d => uptoBulk d + 1
  | .map entries => uptoBulkEntries entries + 1
  | .held _ => 1
def uptoBulkAll {H : Type} : List (DataW H) → Nat
  | [] => 0
  | d :: r => uptoBulk d + uptoBulkAll r
def uptoBulkEntries {H : Type} : List (Lit × DataW H) → Nat
  | [] => 0
  | x :: r => uptoBulkEntry x + uptoBulkEntries r
def uptoBulkEntry {H : Type} : Lit × DataW H → Nat
  | (.string bytes, d) => bytes.length + uptoBulk d + 1
  | (_, d) => uptoBulk d + 1
 end
def uptoSmall : (H : Type) → List (DataW H) → Bool := fun _ ds => decide (uptoBulkAll ds ≤ 1048576)
def OpenSpec.upto (s : _root_.Go.ChangeSpec) : _root_.Go.OpenSpec := { _root_.Go.OpenSpec.ofChange s with cond := some uptoSmall }

/-- 'telamonlaw3.BytesTerms', WHERE WHAT IT READS IS OF BULK AT MOST 1048576: true; the input reads as it did. -/
def bytesTermsUptoRow : OpenClaim := { program := "ytahacpbmoijicaa", sum := "491b6c9b81c5f528b3289ed5efede1f5fe83e111f79e4fc544bdf788f052a2be", func := "telamon/telamonlaw3.BytesTerms", spec := "bytesTerms", unfollowed := true, recurses := true, loops := true, apart := false, narrowed := true }
def BytesTermsUptoSaid : Prop := bytesTermsUptoRow.holds Try.pinned (OpenSpec.upto bytesTermsSpec)

/-- 'telamonlaw3.BytesReads', WHERE WHAT IT READS IS OF BULK AT MOST 1048576: true; the input reads as it did. -/
def bytesReadsUptoRow : OpenClaim := { program := "ytahacpbmoijicaa", sum := "491b6c9b81c5f528b3289ed5efede1f5fe83e111f79e4fc544bdf788f052a2be", func := "telamon/telamonlaw3.BytesReads", spec := "bytesReads", unfollowed := true, recurses := true, apart := false, narrowed := true }
def BytesReadsUptoSaid : Prop := bytesReadsUptoRow.holds Try.pinned (OpenSpec.upto bytesReadsSpec)

/-- 'telamonlaw4.TeleSplit', WHERE WHAT IT READS IS OF BULK AT MOST 1048576: true; the input reads as it did. -/
def teleSplitUptoRow : OpenClaim := { program := "ytahacpbmoijicaa", sum := "491b6c9b81c5f528b3289ed5efede1f5fe83e111f79e4fc544bdf788f052a2be", func := "telamon/telamonlaw4.TeleSplit", spec := "teleSplit", unfollowed := true, recurses := true, loops := true, apart := false, narrowed := true }
def TeleSplitUptoSaid : Prop := teleSplitUptoRow.holds Try.pinned (OpenSpec.upto teleSplitSpec)

/-- 'telamonlaw4.TeleSpine', WHERE WHAT IT READS IS OF BULK AT MOST 1048576: true; the input reads as it did. -/
def teleSpineUptoRow : OpenClaim := { program := "ytahacpbmoijicaa", sum := "491b6c9b81c5f528b3289ed5efede1f5fe83e111f79e4fc544bdf788f052a2be", func := "telamon/telamonlaw4.TeleSpine", spec := "teleSpine", unfollowed := true, recurses := true, loops := true, apart := false, narrowed := true }
def TeleSpineUptoSaid : Prop := teleSpineUptoRow.holds Try.pinned (OpenSpec.upto teleSpineSpec)

end Rows
end Go.Proofs.Ytahacpbmoijicaa
