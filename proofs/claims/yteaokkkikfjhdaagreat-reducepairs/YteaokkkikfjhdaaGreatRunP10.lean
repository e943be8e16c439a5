/- ReducePairs, computed. -/
import Derived.Test.YteaokkkikfjhdaaGreatTab2
namespace Go.Proofs.YteaokkkikfjhdaaGreat.X
set_option maxRecDepth 1000000
theorem pairs18x15 : callN funs2 100000 .l p3 [.int .i64 (.ofNat 18), .int .i64 (.ofNat 15)] .l .e isT = True := by kernel_rfl
theorem pairs18x16 : callN funs2 100000 .l p3 [.int .i64 (.ofNat 18), .int .i64 (.ofNat 16)] .l .e isT = True := by kernel_rfl
theorem pairs18x17 : callN funs2 100000 .l p3 [.int .i64 (.ofNat 18), .int .i64 (.ofNat 17)] .l .e isT = True := by kernel_rfl
theorem pairs18x18 : callN funs2 100000 .l p3 [.int .i64 (.ofNat 18), .int .i64 (.ofNat 18)] .l .e isT = True := by kernel_rfl
theorem pairs19x0 : callN funs2 100000 .l p3 [.int .i64 (.ofNat 19), .int .i64 (.ofNat 0)] .l .e isT = True := by kernel_rfl
theorem pairs19x1 : callN funs2 100000 .l p3 [.int .i64 (.ofNat 19), .int .i64 (.ofNat 1)] .l .e isT = True := by kernel_rfl
theorem pairs19x2 : callN funs2 100000 .l p3 [.int .i64 (.ofNat 19), .int .i64 (.ofNat 2)] .l .e isT = True := by kernel_rfl
theorem pairs19x3 : callN funs2 100000 .l p3 [.int .i64 (.ofNat 19), .int .i64 (.ofNat 3)] .l .e isT = True := by kernel_rfl
theorem pairs19x4 : callN funs2 100000 .l p3 [.int .i64 (.ofNat 19), .int .i64 (.ofNat 4)] .l .e isT = True := by kernel_rfl
theorem pairs19x5 : callN funs2 100000 .l p3 [.int .i64 (.ofNat 19), .int .i64 (.ofNat 5)] .l .e isT = True := by kernel_rfl
theorem pairs19x6 : callN funs2 100000 .l p3 [.int .i64 (.ofNat 19), .int .i64 (.ofNat 6)] .l .e isT = True := by kernel_rfl
theorem pairs19x7 : callN funs2 100000 .l p3 [.int .i64 (.ofNat 19), .int .i64 (.ofNat 7)] .l .e isT = True := by kernel_rfl
theorem pairs19x8 : callN funs2 100000 .l p3 [.int .i64 (.ofNat 19), .int .i64 (.ofNat 8)] .l .e isT = True := by kernel_rfl
theorem pairs19x9 : callN funs2 100000 .l p3 [.int .i64 (.ofNat 19), .int .i64 (.ofNat 9)] .l .e isT = True := by kernel_rfl
end Go.Proofs.YteaokkkikfjhdaaGreat.X
