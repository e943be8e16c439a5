/- ReducePairs, computed. -/
import Derived.Test.YteaokkkikfjhdaaGreatTab2
namespace Go.Proofs.YteaokkkikfjhdaaGreat.X
set_option maxRecDepth 1000000
theorem pairs20x15 : callN funs2 100000 .l p3 [.int .i64 (.ofNat 20), .int .i64 (.ofNat 15)] .l .e isT = True := by kernel_rfl
theorem pairs20x16 : callN funs2 100000 .l p3 [.int .i64 (.ofNat 20), .int .i64 (.ofNat 16)] .l .e isT = True := by kernel_rfl
theorem pairs20x17 : callN funs2 100000 .l p3 [.int .i64 (.ofNat 20), .int .i64 (.ofNat 17)] .l .e isT = True := by kernel_rfl
theorem pairs20x18 : callN funs2 100000 .l p3 [.int .i64 (.ofNat 20), .int .i64 (.ofNat 18)] .l .e isT = True := by kernel_rfl
theorem pairs20x19 : callN funs2 100000 .l p3 [.int .i64 (.ofNat 20), .int .i64 (.ofNat 19)] .l .e isT = True := by kernel_rfl
theorem pairs20x20 : callN funs2 100000 .l p3 [.int .i64 (.ofNat 20), .int .i64 (.ofNat 20)] .l .e isT = True := by kernel_rfl
end Go.Proofs.YteaokkkikfjhdaaGreat.X
