/- DataPlaces, computed. -/
import Derived.Test.YtkcpnbfhoamlfaaGreatDoorTab2
namespace Go.Proofs.YtkcpnbfhoamlfaaGreatDoor.X
set_option maxRecDepth 1000000
theorem places4 : callN funs2 100000 .l p3 [.int .i64 (.ofNat 4)] .l .e isT = True := by kernel_rfl
theorem places5 : callN funs2 100000 .l p3 [.int .i64 (.ofNat 5)] .l .e isT = True := by kernel_rfl
theorem places6 : callN funs2 100000 .l p3 [.int .i64 (.ofNat 6)] .l .e isT = True := by kernel_rfl
theorem placesfar (k : Nat) : callN funs2 100000 .l p3 [.int .i64 (.ofNat (k + 10))] .l .e isT = True := by kernel_rfl
end Go.Proofs.YtkcpnbfhoamlfaaGreatDoor.X
