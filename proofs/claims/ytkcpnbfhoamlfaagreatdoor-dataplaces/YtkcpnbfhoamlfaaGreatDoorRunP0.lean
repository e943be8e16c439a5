/- DataPlaces, computed. -/
import Derived.Test.YtkcpnbfhoamlfaaGreatDoorTab2
namespace Go.Proofs.YtkcpnbfhoamlfaaGreatDoor.X
set_option maxRecDepth 1000000
theorem places0 : callN funs2 100000 .l p3 [.int .i64 (.ofNat 0)] .l .e isT = True := by kernel_rfl
theorem places1 : callN funs2 100000 .l p3 [.int .i64 (.ofNat 1)] .l .e isT = True := by kernel_rfl
theorem places2 : callN funs2 100000 .l p3 [.int .i64 (.ofNat 2)] .l .e isT = True := by kernel_rfl
theorem places3 : callN funs2 100000 .l p3 [.int .i64 (.ofNat 3)] .l .e isT = True := by kernel_rfl
theorem placesneg (k : Nat) : callN funs2 100000 .l p3 [.int .i64 (.negSucc k)] .l .e isT = True := by kernel_rfl
end Go.Proofs.YtkcpnbfhoamlfaaGreatDoor.X
