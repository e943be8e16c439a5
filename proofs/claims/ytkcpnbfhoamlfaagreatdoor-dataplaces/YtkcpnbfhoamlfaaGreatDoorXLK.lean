/- The document's example of chapter 10 comes out as it says. -/
import Derived.Test.YtkcpnbfhoamlfaaGreatDoorTab
import Derived.Test.YtkcpnbfhoamlfaaGreatDoorXRA
namespace Go.Proofs.YtkcpnbfhoamlfaaGreatDoor.X
open Go.RowKit
set_option maxRecDepth 1000000 in
theorem alive_run : callN funs 100000 .l p5 [] .l .e isT = True := by kernel_rfl
theorem alive10_any (w : World) (hG : GW w) : Calls Tryz.prog 5 #[] w fun e w' => e = .returned (.bool true) ∧ Below w.heap.size w w' := true_of_run (p := p5) funs_ok w #[] ⟨fun _ => by simp [concL], fun _ => by simp [okL]⟩ alive_run hG
theorem live10 : FunSem Tryz.prog 5 liveAF := live_sem ⟨_, _, Tryz.func5, by kernel_rfl, rfl⟩ alive10_any
end Go.Proofs.YtkcpnbfhoamlfaaGreatDoor.X
