/- DataPlaces, computed. -/
import Derived.Test.YtkcpnbfhoamlfaaGreatDoorTab2
namespace Go.Proofs.YtkcpnbfhoamlfaaGreatDoor.X
set_option maxRecDepth 1000000
theorem places7 : callN funs2 100000 .l p3 [.int .i64 (.ofNat 7)] .l .e isT = True := by kernel_rfl
theorem places8 : callN funs2 100000 .l p3 [.int .i64 (.ofNat 8)] .l .e isT = True := by kernel_rfl
theorem places9 : callN funs2 100000 .l p3 [.int .i64 (.ofNat 9)] .l .e isT = True := by kernel_rfl
end Go.Proofs.YtkcpnbfhoamlfaaGreatDoor.X
