/- ReducePairs, computed. -/
import Derived.Test.YteaokkkikfjhdaaGreatTab2
namespace Go.Proofs.YteaokkkikfjhdaaGreat.X
set_option maxRecDepth 1000000
theorem pairs1x0 : callN funs2 100000 .l p3 [.int .i64 (.ofNat 1), .int .i64 (.ofNat 0)] .l .e isT = True := by kernel_rfl
theorem pairs1x1 : callN funs2 100000 .l p3 [.int .i64 (.ofNat 1), .int .i64 (.ofNat 1)] .l .e isT = True := by kernel_rfl
theorem pairs2x0 : callN funs2 100000 .l p3 [.int .i64 (.ofNat 2), .int .i64 (.ofNat 0)] .l .e isT = True := by kernel_rfl
theorem pairs2x1 : callN funs2 100000 .l p3 [.int .i64 (.ofNat 2), .int .i64 (.ofNat 1)] .l .e isT = True := by kernel_rfl
theorem pairs2x2 : callN funs2 100000 .l p3 [.int .i64 (.ofNat 2), .int .i64 (.ofNat 2)] .l .e isT = True := by kernel_rfl
theorem pairs3x0 : callN funs2 100000 .l p3 [.int .i64 (.ofNat 3), .int .i64 (.ofNat 0)] .l .e isT = True := by kernel_rfl
theorem pairs3x1 : callN funs2 100000 .l p3 [.int .i64 (.ofNat 3), .int .i64 (.ofNat 1)] .l .e isT = True := by kernel_rfl
theorem pairs3x2 : callN funs2 100000 .l p3 [.int .i64 (.ofNat 3), .int .i64 (.ofNat 2)] .l .e isT = True := by kernel_rfl
theorem pairs3x3 : callN funs2 100000 .l p3 [.int .i64 (.ofNat 3), .int .i64 (.ofNat 3)] .l .e isT = True := by kernel_rfl
theorem pairs4x0 : callN funs2 100000 .l p3 [.int .i64 (.ofNat 4), .int .i64 (.ofNat 0)] .l .e isT = True := by kernel_rfl
theorem pairs4x1 : callN funs2 100000 .l p3 [.int .i64 (.ofNat 4), .int .i64 (.ofNat 1)] .l .e isT = True := by kernel_rfl
theorem pairs4x2 : callN funs2 100000 .l p3 [.int .i64 (.ofNat 4), .int .i64 (.ofNat 2)] .l .e isT = True := by kernel_rfl
theorem pairs4x3 : callN funs2 100000 .l p3 [.int .i64 (.ofNat 4), .int .i64 (.ofNat 3)] .l .e isT = True := by kernel_rfl
theorem pairs4x4 : callN funs2 100000 .l p3 [.int .i64 (.ofNat 4), .int .i64 (.ofNat 4)] .l .e isT = True := by kernel_rfl
theorem pairs5x0 : callN funs2 100000 .l p3 [.int .i64 (.ofNat 5), .int .i64 (.ofNat 0)] .l .e isT = True := by kernel_rfl
theorem pairs5x1 : callN funs2 100000 .l p3 [.int .i64 (.ofNat 5), .int .i64 (.ofNat 1)] .l .e isT = True := by kernel_rfl
theorem pairs5x2 : callN funs2 100000 .l p3 [.int .i64 (.ofNat 5), .int .i64 (.ofNat 2)] .l .e isT = True := by kernel_rfl
theorem pairs5x3 : callN funs2 100000 .l p3 [.int .i64 (.ofNat 5), .int .i64 (.ofNat 3)] .l .e isT = True := by kernel_rfl
theorem pairs5x4 : callN funs2 100000 .l p3 [.int .i64 (.ofNat 5), .int .i64 (.ofNat 4)] .l .e isT = True := by kernel_rfl
theorem pairs5x5 : callN funs2 100000 .l p3 [.int .i64 (.ofNat 5), .int .i64 (.ofNat 5)] .l .e isT = True := by kernel_rfl
theorem pairs6x0 : callN funs2 100000 .l p3 [.int .i64 (.ofNat 6), .int .i64 (.ofNat 0)] .l .e isT = True := by kernel_rfl
theorem pairs6x1 : callN funs2 100000 .l p3 [.int .i64 (.ofNat 6), .int .i64 (.ofNat 1)] .l .e isT = True := by kernel_rfl
theorem pairs6x2 : callN funs2 100000 .l p3 [.int .i64 (.ofNat 6), .int .i64 (.ofNat 2)] .l .e isT = True := by kernel_rfl
theorem pairs6x3 : callN funs2 100000 .l p3 [.int .i64 (.ofNat 6), .int .i64 (.ofNat 3)] .l .e isT = True := by kernel_rfl
theorem pairs6x4 : callN funs2 100000 .l p3 [.int .i64 (.ofNat 6), .int .i64 (.ofNat 4)] .l .e isT = True := by kernel_rfl
theorem pairs6x5 : callN funs2 100000 .l p3 [.int .i64 (.ofNat 6), .int .i64 (.ofNat 5)] .l .e isT = True := by kernel_rfl
theorem pairs6x6 : callN funs2 100000 .l p3 [.int .i64 (.ofNat 6), .int .i64 (.ofNat 6)] .l .e isT = True := by kernel_rfl
theorem pairs7x0 : callN funs2 100000 .l p3 [.int .i64 (.ofNat 7), .int .i64 (.ofNat 0)] .l .e isT = True := by kernel_rfl
theorem pairs7x1 : callN funs2 100000 .l p3 [.int .i64 (.ofNat 7), .int .i64 (.ofNat 1)] .l .e isT = True := by kernel_rfl
theorem pairs7x2 : callN funs2 100000 .l p3 [.int .i64 (.ofNat 7), .int .i64 (.ofNat 2)] .l .e isT = True := by kernel_rfl
theorem pairs7x3 : callN funs2 100000 .l p3 [.int .i64 (.ofNat 7), .int .i64 (.ofNat 3)] .l .e isT = True := by kernel_rfl
theorem pairs7x4 : callN funs2 100000 .l p3 [.int .i64 (.ofNat 7), .int .i64 (.ofNat 4)] .l .e isT = True := by kernel_rfl
theorem pairs7x5 : callN funs2 100000 .l p3 [.int .i64 (.ofNat 7), .int .i64 (.ofNat 5)] .l .e isT = True := by kernel_rfl
theorem pairs7x6 : callN funs2 100000 .l p3 [.int .i64 (.ofNat 7), .int .i64 (.ofNat 6)] .l .e isT = True := by kernel_rfl
end Go.Proofs.YteaokkkikfjhdaaGreat.X
