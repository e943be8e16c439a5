/- ReducePairs, computed. -/
import Derived.Test.YteaokkkikfjhdaaGreatTab2
namespace Go.Proofs.YteaokkkikfjhdaaGreat.X
set_option maxRecDepth 1000000
theorem pairs7x7 : callN funs2 100000 .l p3 [.int .i64 (.ofNat 7), .int .i64 (.ofNat 7)] .l .e isT = True := by kernel_rfl
theorem pairs8x0 : callN funs2 100000 .l p3 [.int .i64 (.ofNat 8), .int .i64 (.ofNat 0)] .l .e isT = True := by kernel_rfl
theorem pairs8x1 : callN funs2 100000 .l p3 [.int .i64 (.ofNat 8), .int .i64 (.ofNat 1)] .l .e isT = True := by kernel_rfl
theorem pairs8x2 : callN funs2 100000 .l p3 [.int .i64 (.ofNat 8), .int .i64 (.ofNat 2)] .l .e isT = True := by kernel_rfl
theorem pairs8x3 : callN funs2 100000 .l p3 [.int .i64 (.ofNat 8), .int .i64 (.ofNat 3)] .l .e isT = True := by kernel_rfl
theorem pairs8x4 : callN funs2 100000 .l p3 [.int .i64 (.ofNat 8), .int .i64 (.ofNat 4)] .l .e isT = True := by kernel_rfl
theorem pairs8x5 : callN funs2 100000 .l p3 [.int .i64 (.ofNat 8), .int .i64 (.ofNat 5)] .l .e isT = True := by kernel_rfl
theorem pairs8x6 : callN funs2 100000 .l p3 [.int .i64 (.ofNat 8), .int .i64 (.ofNat 6)] .l .e isT = True := by kernel_rfl
theorem pairs8x7 : callN funs2 100000 .l p3 [.int .i64 (.ofNat 8), .int .i64 (.ofNat 7)] .l .e isT = True := by kernel_rfl
theorem pairs8x8 : callN funs2 100000 .l p3 [.int .i64 (.ofNat 8), .int .i64 (.ofNat 8)] .l .e isT = True := by kernel_rfl
theorem pairs9x0 : callN funs2 100000 .l p3 [.int .i64 (.ofNat 9), .int .i64 (.ofNat 0)] .l .e isT = True := by kernel_rfl
theorem pairs9x1 : callN funs2 100000 .l p3 [.int .i64 (.ofNat 9), .int .i64 (.ofNat 1)] .l .e isT = True := by kernel_rfl
theorem pairs9x2 : callN funs2 100000 .l p3 [.int .i64 (.ofNat 9), .int .i64 (.ofNat 2)] .l .e isT = True := by kernel_rfl
theorem pairs9x3 : callN funs2 100000 .l p3 [.int .i64 (.ofNat 9), .int .i64 (.ofNat 3)] .l .e isT = True := by kernel_rfl
theorem pairs9x4 : callN funs2 100000 .l p3 [.int .i64 (.ofNat 9), .int .i64 (.ofNat 4)] .l .e isT = True := by kernel_rfl
theorem pairs9x5 : callN funs2 100000 .l p3 [.int .i64 (.ofNat 9), .int .i64 (.ofNat 5)] .l .e isT = True := by kernel_rfl
theorem pairs9x6 : callN funs2 100000 .l p3 [.int .i64 (.ofNat 9), .int .i64 (.ofNat 6)] .l .e isT = True := by kernel_rfl
theorem pairs9x7 : callN funs2 100000 .l p3 [.int .i64 (.ofNat 9), .int .i64 (.ofNat 7)] .l .e isT = True := by kernel_rfl
theorem pairs9x8 : callN funs2 100000 .l p3 [.int .i64 (.ofNat 9), .int .i64 (.ofNat 8)] .l .e isT = True := by kernel_rfl
theorem pairs9x9 : callN funs2 100000 .l p3 [.int .i64 (.ofNat 9), .int .i64 (.ofNat 9)] .l .e isT = True := by kernel_rfl
theorem pairs10x0 : callN funs2 100000 .l p3 [.int .i64 (.ofNat 10), .int .i64 (.ofNat 0)] .l .e isT = True := by kernel_rfl
theorem pairs10x1 : callN funs2 100000 .l p3 [.int .i64 (.ofNat 10), .int .i64 (.ofNat 1)] .l .e isT = True := by kernel_rfl
theorem pairs10x2 : callN funs2 100000 .l p3 [.int .i64 (.ofNat 10), .int .i64 (.ofNat 2)] .l .e isT = True := by kernel_rfl
theorem pairs10x3 : callN funs2 100000 .l p3 [.int .i64 (.ofNat 10), .int .i64 (.ofNat 3)] .l .e isT = True := by kernel_rfl
end Go.Proofs.YteaokkkikfjhdaaGreat.X
