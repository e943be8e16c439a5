/- The document's example of chapter 13 comes out as it says. -/
import Derived.Test.YtfnehpgefcnjgaaTab
import Derived.Test.YtfnehpgefcnjgaaXRB
namespace Go.Proofs.Ytfnehpgefcnjgaa.X
open Go.RowKit
set_option maxRecDepth 1000000 in
theorem alive_run : callN funs 100000 .l p6 [] .l .e isT = True := by kernel_rfl
theorem alive13_any (w : World) : Calls Try.prog 6 #[] w fun e w' => e = .returned (.bool true) ∧ Below w.heap.size w w' := true_of_run (p := p6) funs_ok w #[] ⟨fun _ => by simp [concL], fun _ => by simp [okL]⟩ alive_run
theorem live13 : FunSem Try.prog 6 liveAF := live_sem ⟨_, _, Try.func6, by kernel_rfl, rfl⟩ alive13_any
end Go.Proofs.Ytfnehpgefcnjgaa.X
