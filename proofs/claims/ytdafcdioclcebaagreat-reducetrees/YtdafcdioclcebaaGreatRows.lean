/-
  No cell of these rows narrows 'for every input' (looked for: loops, veiled, ifaces, maps, wideKeys, modest, calm, conditions, laid).
  DERIVED. THE GIVEN ROWS OF THIS SEAT. 3 by the template 'for every input the law returns true; each argument reads behind the call as it read before'; 0 by the template 'total and deterministic' (their statements: YtdafcdioclcebaaGreatTotals.lean).
  GIVEN WITH THE SEED: the statements are not yours to turn. If you find one false, say at which input.
  Laid BY PROGRAM, IN A SANDBOX (cutbox-rows.mjs): the forced cells as the released guide's own fill.sh prints them over the translation 6f11ab0e63594053… (all of the seat's roots in one cut). By AI agents, Wed Nov 11 2026. No macro, syntax, notation, axiom, sorry.
-/
import Derived.Test.YtdafcdioclcebaaGreatChecked
import GoSem.Claim
import GoSem.ClaimJoined
import GoSem.ClaimMapViews
import Derived.JoinedTies
import Derived.KernelRfl
namespace Go.Proofs.YtdafcdioclcebaaGreat
/- THE CELL 'sum', in the pinned program and in every row, IS THE sha256 OF THE DUMP (.gsa) THAT YtdafcdioclcebaaGreatProg.lean LOADS. Nothing in Lean hashes anything: it is a label: what it is worth is what the hold of that sum in a sandbox is worth. -/
noncomputable def Tryz.pinned : Pinned := { name := "ytdafcdioclcebaagreat", sum := "6f11ab0e63594053c97143a3cf6f6bb53f3451bcb2682dc56e126a4a07d12510", checked := Tryz.checked }
namespace Rows
def none {H : Type} : Left H := { results := [], args := [] }

/-- 'telamonlaw6.ElimCounts': WHATEVER THE INPUT: true; the input reads as it did. -/
def elimCountsSpec : ChangeSpec := { name := "elimCounts", fn := fun _ => fun
  | [d1, d2, d3, d4, d5] => { results := [.lit (.bool true)], args := [d1, d2, d3, d4, d5] }
  | _ => none }
def elimCountsRow : OpenClaim := { program := "ytdafcdioclcebaagreat", sum := "6f11ab0e63594053c97143a3cf6f6bb53f3451bcb2682dc56e126a4a07d12510", func := "telamon/telamonlaw6.ElimCounts", spec := "elimCounts", unfollowed := true, recurses := true, apart := false }
def ElimCountsSaid : Prop := elimCountsRow.holds Tryz.pinned (OpenSpec.ofChange elimCountsSpec)

/-- ITS FALSE NEIGHBOUR: 'it returns false'. Refute it at one input. -/
def elimCountsWrong : ChangeSpec := { name := "elimCounts", fn := fun _ => fun
  | [d1, d2, d3, d4, d5] => { results := [.lit (.bool false)], args := [d1, d2, d3, d4, d5] }
  | _ => none }
def ElimCountsWrongFalsely : Prop := elimCountsRow.holds Tryz.pinned (OpenSpec.ofChange elimCountsWrong)

/-- 'telamonlaw7.ReduceStuck': WHATEVER THE INPUT: true; the input reads as it did. -/
def reduceStuckSpec : ChangeSpec := { name := "reduceStuck", fn := fun _ => fun
  | [d] => { results := [.lit (.bool true)], args := [d] }
  | _ => none }
def reduceStuckRow : OpenClaim := { program := "ytdafcdioclcebaagreat", sum := "6f11ab0e63594053c97143a3cf6f6bb53f3451bcb2682dc56e126a4a07d12510", func := "telamon/telamonlaw7.ReduceStuck", spec := "reduceStuck", unfollowed := true, recurses := true, apart := false }
def ReduceStuckSaid : Prop := reduceStuckRow.holds Tryz.pinned (OpenSpec.ofChange reduceStuckSpec)

/-- ITS FALSE NEIGHBOUR: 'it returns false'. Refute it at one input. -/
def reduceStuckWrong : ChangeSpec := { name := "reduceStuck", fn := fun _ => fun
  | [d] => { results := [.lit (.bool false)], args := [d] }
  | _ => none }
def ReduceStuckWrongFalsely : Prop := reduceStuckRow.holds Tryz.pinned (OpenSpec.ofChange reduceStuckWrong)

/-- 'telamonlaw7.ReduceTrees': WHATEVER THE INPUT: true; the input reads as it did. -/
def reduceTreesSpec : ChangeSpec := { name := "reduceTrees", fn := fun _ => fun
  | [d] => { results := [.lit (.bool true)], args := [d] }
  | _ => none }
def reduceTreesRow : OpenClaim := { program := "ytdafcdioclcebaagreat", sum := "6f11ab0e63594053c97143a3cf6f6bb53f3451bcb2682dc56e126a4a07d12510", func := "telamon/telamonlaw7.ReduceTrees", spec := "reduceTrees", unfollowed := true, recurses := true, apart := false }
def ReduceTreesSaid : Prop := reduceTreesRow.holds Tryz.pinned (OpenSpec.ofChange reduceTreesSpec)

/-- ITS FALSE NEIGHBOUR: 'it returns false'. Refute it at one input. -/
def reduceTreesWrong : ChangeSpec := { name := "reduceTrees", fn := fun _ => fun
  | [d] => { results := [.lit (.bool false)], args := [d] }
  | _ => none }
def ReduceTreesWrongFalsely : Prop := reduceTreesRow.holds Tryz.pinned (OpenSpec.ofChange reduceTreesWrong)

/- THE SECOND FORM. 'bulk': how many values and letters a reading holds, each counted each time it is reached (what is shared counts as often as it is met; a slice's spare places count too). A statement '..UptoSaid' is the law's where the arguments, and the package variables that the reading takes, are together of bulk at most 1048576: NARROWER than '..Said'. Prove '..Said' where nothing that the law and all that it calls make is longer than what came in: it says more and counts as full. Else prove '..UptoSaid'. A law counts once. -/
mutual
def uptoBulk {H : Type} : DataW H → Nat
  | .lit (.string bytes) => bytes.length + 1
  | .lit _ => 1
  | .nil => 1
  | .ptr d => uptoBulk d + 1
  | .slice elems spare => uptoBulkAll elems + uptoBulkAll spare + 1
  | .agg parts => uptoBulkAll parts + 1
  | .iface _ d => uptoBulk d + 1
  | .map entries => uptoBulkEntries entries + 1
  | .held _ => 1
def uptoBulkAll {H : Type} : List (DataW H) → Nat
  | [] => 0
  | d :: r => uptoBulk d + uptoBulkAll r
def uptoBulkEntries {H : Type} : List (Lit × DataW H) → Nat
  | [] => 0
  | x :: r => uptoBulkEntry x + uptoBulkEntries r
def uptoBulkEntry {H : Type} : Lit × DataW H → Nat
  | (.string bytes, d) => bytes.length + uptoBulk d + 1
  | (_, d) => uptoBulk d + 1
 end
def uptoSmall : (H : Type) → List (DataW H) → Bool := fun _ ds => decide (uptoBulkAll ds ≤ 1048576)
def OpenSpec.upto (s : _root_.Go.ChangeSpec) : _root_.Go.OpenSpec := { _root_.Go.OpenSpec.ofChange s with cond := some uptoSmall }

/-- 'telamonlaw6.ElimCounts', WHERE WHAT IT READS IS OF BULK AT MOST 1048576: true; the input reads as it did. -/
def elimCountsUptoRow : OpenClaim := { program := "ytdafcdioclcebaagreat", sum := "6f11ab0e63594053c97143a3cf6f6bb53f3451bcb2682dc56e126a4a07d12510", func := "telamon/telamonlaw6.ElimCounts", spec := "elimCounts", unfollowed := true, recurses := true, apart := false, narrowed := true }
def ElimCountsUptoSaid : Prop := elimCountsUptoRow.holds Tryz.pinned (OpenSpec.upto elimCountsSpec)

/-- 'telamonlaw7.ReduceStuck', WHERE WHAT IT READS IS OF BULK AT MOST 1048576: true; the input reads as it did. -/
def reduceStuckUptoRow : OpenClaim := { program := "ytdafcdioclcebaagreat", sum := "6f11ab0e63594053c97143a3cf6f6bb53f3451bcb2682dc56e126a4a07d12510", func := "telamon/telamonlaw7.ReduceStuck", spec := "reduceStuck", unfollowed := true, recurses := true, apart := false, narrowed := true }
def ReduceStuckUptoSaid : Prop := reduceStuckUptoRow.holds Tryz.pinned (OpenSpec.upto reduceStuckSpec)

/-- 'telamonlaw7.ReduceTrees', WHERE WHAT IT READS IS OF BULK AT MOST 1048576: true; the input reads as it did. -/
def reduceTreesUptoRow : OpenClaim := { program := "ytdafcdioclcebaagreat", sum := "6f11ab0e63594053c97143a3cf6f6bb53f3451bcb2682dc56e126a4a07d12510", func := "telamon/telamonlaw7.ReduceTrees", spec := "reduceTrees", unfollowed := true, recurses := true, apart := false, narrowed := true }
def ReduceTreesUptoSaid : Prop := reduceTreesUptoRow.holds Tryz.pinned (OpenSpec.upto reduceTreesSpec)

end Rows
end Go.Proofs.YtdafcdioclcebaaGreat
