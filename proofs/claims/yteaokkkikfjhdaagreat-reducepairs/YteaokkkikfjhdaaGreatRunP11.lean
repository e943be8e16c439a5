/- ReducePairs, computed. -/
import Derived.Test.YteaokkkikfjhdaaGreatTab2
namespace Go.Proofs.YteaokkkikfjhdaaGreat.X
set_option maxRecDepth 1000000
theorem pairs19x10 : callN funs2 100000 .l p3 [.int .i64 (.ofNat 19), .int .i64 (.ofNat 10)] .l .e isT = True := by kernel_rfl
theorem pairs19x11 : callN funs2 100000 .l p3 [.int .i64 (.ofNat 19), .int .i64 (.ofNat 11)] .l .e isT = True := by kernel_rfl
theorem pairs19x12 : callN funs2 100000 .l p3 [.int .i64 (.ofNat 19), .int .i64 (.ofNat 12)] .l .e isT = True := by kernel_rfl
theorem pairs19x13 : callN funs2 100000 .l p3 [.int .i64 (.ofNat 19), .int .i64 (.ofNat 13)] .l .e isT = True := by kernel_rfl
theorem pairs19x14 : callN funs2 100000 .l p3 [.int .i64 (.ofNat 19), .int .i64 (.ofNat 14)] .l .e isT = True := by kernel_rfl
theorem pairs19x15 : callN funs2 100000 .l p3 [.int .i64 (.ofNat 19), .int .i64 (.ofNat 15)] .l .e isT = True := by kernel_rfl
theorem pairs19x16 : callN funs2 100000 .l p3 [.int .i64 (.ofNat 19), .int .i64 (.ofNat 16)] .l .e isT = True := by kernel_rfl
theorem pairs19x17 : callN funs2 100000 .l p3 [.int .i64 (.ofNat 19), .int .i64 (.ofNat 17)] .l .e isT = True := by kernel_rfl
theorem pairs19x18 : callN funs2 100000 .l p3 [.int .i64 (.ofNat 19), .int .i64 (.ofNat 18)] .l .e isT = True := by kernel_rfl
theorem pairs19x19 : callN funs2 100000 .l p3 [.int .i64 (.ofNat 19), .int .i64 (.ofNat 19)] .l .e isT = True := by kernel_rfl
theorem pairs20x0 : callN funs2 100000 .l p3 [.int .i64 (.ofNat 20), .int .i64 (.ofNat 0)] .l .e isT = True := by kernel_rfl
end Go.Proofs.YteaokkkikfjhdaaGreat.X
