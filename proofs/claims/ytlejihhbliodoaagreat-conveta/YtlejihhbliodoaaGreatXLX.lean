/- The document's example of chapter 8 comes out as it says. -/
import Derived.Test.YtlejihhbliodoaaGreatTab
import Derived.Test.YtlejihhbliodoaaGreatXRB
namespace Go.Proofs.YtlejihhbliodoaaGreat.X
open Go.RowKit
set_option maxRecDepth 1000000 in
theorem alive_run : callN funs 100000 .l p6 [] .l .e isT = True := by kernel_rfl
theorem alive8_any (w : World) : Calls Tryz.prog 6 #[] w fun e w' => e = .returned (.bool true) ∧ Below w.heap.size w w' := true_of_run (p := p6) funs_ok w #[] ⟨fun _ => by simp [concL], fun _ => by simp [okL]⟩ alive_run
theorem live8 : FunSem Tryz.prog 6 liveAF := live_sem ⟨_, _, Tryz.func6, by kernel_rfl, rfl⟩ alive8_any
end Go.Proofs.YtlejihhbliodoaaGreat.X
