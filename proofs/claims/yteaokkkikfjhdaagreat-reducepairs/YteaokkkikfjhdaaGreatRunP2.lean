/- ReducePairs, computed. -/
import Derived.Test.YteaokkkikfjhdaaGreatTab2
namespace Go.Proofs.YteaokkkikfjhdaaGreat.X
set_option maxRecDepth 1000000
theorem pairs10x4 : callN funs2 100000 .l p3 [.int .i64 (.ofNat 10), .int .i64 (.ofNat 4)] .l .e isT = True := by kernel_rfl
theorem pairs10x5 : callN funs2 100000 .l p3 [.int .i64 (.ofNat 10), .int .i64 (.ofNat 5)] .l .e isT = True := by kernel_rfl
theorem pairs10x6 : callN funs2 100000 .l p3 [.int .i64 (.ofNat 10), .int .i64 (.ofNat 6)] .l .e isT = True := by kernel_rfl
theorem pairs10x7 : callN funs2 100000 .l p3 [.int .i64 (.ofNat 10), .int .i64 (.ofNat 7)] .l .e isT = True := by kernel_rfl
theorem pairs10x8 : callN funs2 100000 .l p3 [.int .i64 (.ofNat 10), .int .i64 (.ofNat 8)] .l .e isT = True := by kernel_rfl
theorem pairs10x9 : callN funs2 100000 .l p3 [.int .i64 (.ofNat 10), .int .i64 (.ofNat 9)] .l .e isT = True := by kernel_rfl
theorem pairs10x10 : callN funs2 100000 .l p3 [.int .i64 (.ofNat 10), .int .i64 (.ofNat 10)] .l .e isT = True := by kernel_rfl
theorem pairs11x0 : callN funs2 100000 .l p3 [.int .i64 (.ofNat 11), .int .i64 (.ofNat 0)] .l .e isT = True := by kernel_rfl
theorem pairs11x1 : callN funs2 100000 .l p3 [.int .i64 (.ofNat 11), .int .i64 (.ofNat 1)] .l .e isT = True := by kernel_rfl
theorem pairs11x2 : callN funs2 100000 .l p3 [.int .i64 (.ofNat 11), .int .i64 (.ofNat 2)] .l .e isT = True := by kernel_rfl
theorem pairs11x3 : callN funs2 100000 .l p3 [.int .i64 (.ofNat 11), .int .i64 (.ofNat 3)] .l .e isT = True := by kernel_rfl
theorem pairs11x4 : callN funs2 100000 .l p3 [.int .i64 (.ofNat 11), .int .i64 (.ofNat 4)] .l .e isT = True := by kernel_rfl
theorem pairs11x5 : callN funs2 100000 .l p3 [.int .i64 (.ofNat 11), .int .i64 (.ofNat 5)] .l .e isT = True := by kernel_rfl
theorem pairs11x6 : callN funs2 100000 .l p3 [.int .i64 (.ofNat 11), .int .i64 (.ofNat 6)] .l .e isT = True := by kernel_rfl
theorem pairs11x7 : callN funs2 100000 .l p3 [.int .i64 (.ofNat 11), .int .i64 (.ofNat 7)] .l .e isT = True := by kernel_rfl
theorem pairs11x8 : callN funs2 100000 .l p3 [.int .i64 (.ofNat 11), .int .i64 (.ofNat 8)] .l .e isT = True := by kernel_rfl
theorem pairs11x9 : callN funs2 100000 .l p3 [.int .i64 (.ofNat 11), .int .i64 (.ofNat 9)] .l .e isT = True := by kernel_rfl
theorem pairs11x10 : callN funs2 100000 .l p3 [.int .i64 (.ofNat 11), .int .i64 (.ofNat 10)] .l .e isT = True := by kernel_rfl
theorem pairs11x11 : callN funs2 100000 .l p3 [.int .i64 (.ofNat 11), .int .i64 (.ofNat 11)] .l .e isT = True := by kernel_rfl
end Go.Proofs.YteaokkkikfjhdaaGreat.X
