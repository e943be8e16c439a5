/-
  NARROWER THAN 'FOR EVERY INPUT', by the rows' own cells (each row's printed sentence says how): TermChecks: loops · TermLifts: loops · TermLevels: loops · TermSame: loops · TermLaws: loops.
  DERIVED. THE GIVEN ROWS OF THIS SEAT. 6 by the template 'for every input the law returns true; each argument reads behind the call as it read before'; 0 by the template 'total and deterministic' (their statements: YtbgkeomlfdmkeaaTotals.lean).
  GIVEN WITH THE SEED: the statements are not yours to turn. If you find one false, say at which input.
  Laid BY PROGRAM, IN A SANDBOX (cutbox-rows.mjs): the forced cells as the released guide's own fill.sh prints them over the translation 2f93bc0687463748… (all of the seat's roots in one cut). By AI agents, Wed Nov 11 2026. No macro, syntax, notation, axiom, sorry.
-/
import Derived.Test.YtbgkeomlfdmkeaaChecked
import GoSem.Claim
import GoSem.ClaimJoined
import GoSem.ClaimMapViews
import Derived.JoinedTies
import Derived.KernelRfl
namespace Go.Proofs.Ytbgkeomlfdmkeaa
/- THE CELL 'sum', in the pinned program and in every row, IS THE sha256 OF THE DUMP (.gsa) THAT YtbgkeomlfdmkeaaProg.lean LOADS. Nothing in Lean hashes anything: it is a label: what it is worth is what the hold of that sum in a sandbox is worth. -/
noncomputable def Try.pinned : Pinned := { name := "ytbgkeomlfdmkeaa", sum := "2f93bc068746374859459bb16946aeaf521b064c13fc0c428803ae78aa856b73", checked := Try.checked }
namespace Rows
def none {H : Type} : Left H := { results := [], args := [] }

/-- 'telamonlaw2.TermChecks': WHATEVER THE INPUT: true; the input reads as it did. -/
def termChecksSpec : ChangeSpec := { name := "termChecks", fn := fun _ => fun
  | [d1, d2] => { results := [.lit (.bool true)], args := [d1, d2] }
  | _ => none }
def termChecksRow : OpenClaim := { program := "ytbgkeomlfdmkeaa", sum := "2f93bc068746374859459bb16946aeaf521b064c13fc0c428803ae78aa856b73", func := "telamon/telamonlaw2.TermChecks", spec := "termChecks", unfollowed := true, recurses := true, loops := true, apart := false }
def TermChecksSaid : Prop := termChecksRow.holds Try.pinned (OpenSpec.ofChange termChecksSpec)

/-- ITS FALSE NEIGHBOUR: 'it returns false'. Refute it at one input. -/
def termChecksWrong : ChangeSpec := { name := "termChecks", fn := fun _ => fun
  | [d1, d2] => { results := [.lit (.bool false)], args := [d1, d2] }
  | _ => none }
def TermChecksWrongFalsely : Prop := termChecksRow.holds Try.pinned (OpenSpec.ofChange termChecksWrong)

/-- 'telamonlaw2.TermLifts': WHATEVER THE INPUT: true; the input reads as it did. -/
def termLiftsSpec : ChangeSpec := { name := "termLifts", fn := fun _ => fun
  | [d1, d2, d3] => { results := [.lit (.bool true)], args := [d1, d2, d3] }
  | _ => none }
def termLiftsRow : OpenClaim := { program := "ytbgkeomlfdmkeaa", sum := "2f93bc068746374859459bb16946aeaf521b064c13fc0c428803ae78aa856b73", func := "telamon/telamonlaw2.TermLifts", spec := "termLifts", unfollowed := true, recurses := true, loops := true, apart := false }
def TermLiftsSaid : Prop := termLiftsRow.holds Try.pinned (OpenSpec.ofChange termLiftsSpec)

/-- ITS FALSE NEIGHBOUR: 'it returns false'. Refute it at one input. -/
def termLiftsWrong : ChangeSpec := { name := "termLifts", fn := fun _ => fun
  | [d1, d2, d3] => { results := [.lit (.bool false)], args := [d1, d2, d3] }
  | _ => none }
def TermLiftsWrongFalsely : Prop := termLiftsRow.holds Try.pinned (OpenSpec.ofChange termLiftsWrong)

/-- 'telamonlaw2.TermLevels': WHATEVER THE INPUT: true; the input reads as it did. -/
def termLevelsSpec : ChangeSpec := { name := "termLevels", fn := fun _ => fun
  | [d1, d2] => { results := [.lit (.bool true)], args := [d1, d2] }
  | _ => none }
def termLevelsRow : OpenClaim := { program := "ytbgkeomlfdmkeaa", sum := "2f93bc068746374859459bb16946aeaf521b064c13fc0c428803ae78aa856b73", func := "telamon/telamonlaw2.TermLevels", spec := "termLevels", unfollowed := true, recurses := true, loops := true, apart := false }
def TermLevelsSaid : Prop := termLevelsRow.holds Try.pinned (OpenSpec.ofChange termLevelsSpec)

/-- ITS FALSE NEIGHBOUR: 'it returns false'. Refute it at one input. -/
def termLevelsWrong : ChangeSpec := { name := "termLevels", fn := fun _ => fun
  | [d1, d2] => { results := [.lit (.bool false)], args := [d1, d2] }
  | _ => none }
def TermLevelsWrongFalsely : Prop := termLevelsRow.holds Try.pinned (OpenSpec.ofChange termLevelsWrong)

/-- 'telamonlaw2.TermSame': WHATEVER THE INPUT: true; the input reads as it did. -/
def termSameSpec : ChangeSpec := { name := "termSame", fn := fun _ => fun
  | [d1, d2] => { results := [.lit (.bool true)], args := [d1, d2] }
  | _ => none }
def termSameRow : OpenClaim := { program := "ytbgkeomlfdmkeaa", sum := "2f93bc068746374859459bb16946aeaf521b064c13fc0c428803ae78aa856b73", func := "telamon/telamonlaw2.TermSame", spec := "termSame", unfollowed := true, recurses := true, loops := true, apart := false }
def TermSameSaid : Prop := termSameRow.holds Try.pinned (OpenSpec.ofChange termSameSpec)

/-- ITS FALSE NEIGHBOUR: 'it returns false'. Refute it at one input. -/
def termSameWrong : ChangeSpec := { name := "termSame", fn := fun _ => fun
  | [d1, d2] => { results := [.lit (.bool false)], args := [d1, d2] }
  | _ => none }
def TermSameWrongFalsely : Prop := termSameRow.holds Try.pinned (OpenSpec.ofChange termSameWrong)

/-- 'telamonlaw2.TermLaws': WHATEVER THE INPUT: true; the input reads as it did. -/
def termLawsSpec : ChangeSpec := { name := "termLaws", fn := fun _ => fun
  | [d1, d2, d3] => { results := [.lit (.bool true)], args := [d1, d2, d3] }
  | _ => none }
def termLawsRow : OpenClaim := { program := "ytbgkeomlfdmkeaa", sum := "2f93bc068746374859459bb16946aeaf521b064c13fc0c428803ae78aa856b73", func := "telamon/telamonlaw2.TermLaws", spec := "termLaws", unfollowed := true, recurses := true, loops := true, apart := false }
def TermLawsSaid : Prop := termLawsRow.holds Try.pinned (OpenSpec.ofChange termLawsSpec)

/-- ITS FALSE NEIGHBOUR: 'it returns false'. Refute it at one input. -/
def termLawsWrong : ChangeSpec := { name := "termLaws", fn := fun _ => fun
  | [d1, d2, d3] => { results := [.lit (.bool false)], args := [d1, d2, d3] }
  | _ => none }
def TermLawsWrongFalsely : Prop := termLawsRow.holds Try.pinned (OpenSpec.ofChange termLawsWrong)

/-- 'telamonlaw2.TermLong': WHATEVER THE INPUT: true; the input reads as it did. -/
def termLongSpec : ChangeSpec := { name := "termLong", fn := fun _ => fun
  | [d1, d2] => { results := [.lit (.bool true)], args := [d1, d2] }
  | _ => none }
def termLongRow : OpenClaim := { program := "ytbgkeomlfdmkeaa", sum := "2f93bc068746374859459bb16946aeaf521b064c13fc0c428803ae78aa856b73", func := "telamon/telamonlaw2.TermLong", spec := "termLong", unfollowed := true, recurses := true, apart := false }
def TermLongSaid : Prop := termLongRow.holds Try.pinned (OpenSpec.ofChange termLongSpec)

/-- ITS FALSE NEIGHBOUR: 'it returns false'. Refute it at one input. -/
def termLongWrong : ChangeSpec := { name := "termLong", fn := fun _ => fun
  | [d1, d2] => { results := [.lit (.bool false)], args := [d1, d2] }
  | _ => none }
def TermLongWrongFalsely : Prop := termLongRow.holds Try.pinned (OpenSpec.ofChange termLongWrong)

/- THE SECOND FORM. 'bulk': how many values and letters a reading holds, each counted each time it is reached (what is shared counts as often as it is met; a slice's spare places count too). A statement '..UptoSaid' is the law's where the arguments, and the package variables that the reading takes, are together of bulk at most 1048576: NARROWER than '..Said'. Prove '..Said' where nothing that the law and all that it calls make is longer than what came in: it says more and counts as full. Else prove '..UptoSaid'. A law counts once. -/
mutual
def uptoBulk {H : Type} : DataW H → Nat
  | .lit (.string bytes) => bytes.length + 1
  | .lit _ => 1
  | .nil => 1
  | .ptr d => uptoBulk d + 1
  | .slice elems spare => uptoBulkAll elems + uptoBulkAll spare + 1
  | .agg parts => uptoBulkAll parts + 1
  | .iface _ d => uptoBulk d + 1
  | .map entries => uptoBulkEntries entries + 1
  | .held _ => 1
def uptoBulkAll {H : Type} : List (DataW H) → Nat
  | [] => 0
  | d :: r => uptoBulk d + uptoBulkAll r
def uptoBulkEntries {H : Type} : List (Lit × DataW H) → Nat
  | [] => 0
  | x :: r => uptoBulkEntry x + uptoBulkEntries r
def uptoBulkEntry {H : Type} : Lit × DataW H → Nat
  | (.string bytes, d) => bytes.length + uptoBulk d + 1
  | (_, d) => uptoBulk d + 1
 end
def uptoSmall : (H : Type) → List (DataW H) → Bool := fun _ ds => decide (uptoBulkAll ds ≤ 1048576)
def OpenSpec.upto (s : _root_.Go.ChangeSpec) : _root_.Go.OpenSpec := { _root_.Go.OpenSpec.ofChange s with cond := some uptoSmall }

/-- 'telamonlaw2.TermChecks', WHERE WHAT IT READS IS OF BULK AT MOST 1048576: true; the input reads as it did. -/
def termChecksUptoRow : OpenClaim := { program := "ytbgkeomlfdmkeaa", sum := "2f93bc068746374859459bb16946aeaf521b064c13fc0c428803ae78aa856b73", func := "telamon/telamonlaw2.TermChecks", spec := "termChecks", unfollowed := true, recurses := true, loops := true, apart := false, narrowed := true }
def TermChecksUptoSaid : Prop := termChecksUptoRow.holds Try.pinned (OpenSpec.upto termChecksSpec)

/-- 'telamonlaw2.TermLifts', WHERE WHAT IT READS IS OF BULK AT MOST 1048576: true; the input reads as it did. -/
def termLiftsUptoRow : OpenClaim := { program := "ytbgkeomlfdmkeaa", sum := "2f93bc068746374859459bb16946aeaf521b064c13fc0c428803ae78aa856b73", func := "telamon/telamonlaw2.TermLifts", spec := "termLifts", unfollowed := true, recurses := true, loops := true, apart := false, narrowed := true }
def TermLiftsUptoSaid : Prop := termLiftsUptoRow.holds Try.pinned (OpenSpec.upto termLiftsSpec)

/-- 'telamonlaw2.TermLevels', WHERE WHAT IT READS IS OF BULK AT MOST 1048576: true; the input reads as it did. -/
def termLevelsUptoRow : OpenClaim := { program := "ytbgkeomlfdmkeaa", sum := "2f93bc068746374859459bb16946aeaf521b064c13fc0c428803ae78aa856b73", func := "telamon/telamonlaw2.TermLevels", spec := "termLevels", unfollowed := true, recurses := true, loops := true, apart := false, narrowed := true }
def TermLevelsUptoSaid : Prop := termLevelsUptoRow.holds Try.pinned (OpenSpec.upto termLevelsSpec)

/-- 'telamonlaw2.TermSame', WHERE WHAT IT READS IS OF BULK AT MOST 1048576: true; the input reads as it did. -/
def termSameUptoRow : OpenClaim := { program := "ytbgkeomlfdmkeaa", sum := "2f93bc068746374859459bb16946aeaf521b064c13fc0c428803ae78aa856b73", func := "telamon/telamonlaw2.TermSame", spec := "termSame", unfollowed := true, recurses := true, loops := true, apart := false, narrowed := true }
def TermSameUptoSaid : Prop := termSameUptoRow.holds Try.pinned (OpenSpec.upto termSameSpec)

/-- 'telamonlaw2.TermLaws', WHERE WHAT IT READS IS OF BULK AT MOST 1048576: true; the input reads as it did. -/
def termLawsUptoRow : OpenClaim := { program := "ytbgkeomlfdmkeaa", sum := "2f93bc068746374859459bb16946aeaf521b064c13fc0c428803ae78aa856b73", func := "telamon/telamonlaw2.TermLaws", spec := "termLaws", unfollowed := true, recurses := true, loops := true, apart := false, narrowed := true }
def TermLawsUptoSaid : Prop := termLawsUptoRow.holds Try.pinned (OpenSpec.upto termLawsSpec)

/-- 'telamonlaw2.TermLong', WHERE WHAT IT READS IS OF BULK AT MOST 1048576: true; the input reads as it did. -/
def termLongUptoRow : OpenClaim := { program := "ytbgkeomlfdmkeaa", sum := "2f93bc068746374859459bb16946aeaf521b064c13fc0c428803ae78aa856b73", func := "telamon/telamonlaw2.TermLong", spec := "termLong", unfollowed := true, recurses := true, apart := false, narrowed := true }
def TermLongUptoSaid : Prop := termLongUptoRow.holds Try.pinned (OpenSpec.upto termLongSpec)

end Rows
end Go.Proofs.Ytbgkeomlfdmkeaa
