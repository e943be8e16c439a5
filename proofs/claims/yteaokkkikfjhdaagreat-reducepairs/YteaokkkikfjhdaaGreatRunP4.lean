/- ReducePairs, computed. -/
import Derived.Test.YteaokkkikfjhdaaGreatTab2
namespace Go.Proofs.YteaokkkikfjhdaaGreat.X
set_option maxRecDepth 1000000
theorem pairs13x6 : callN funs2 100000 .l p3 [.int .i64 (.ofNat 13), .int .i64 (.ofNat 6)] .l .e isT = True := by kernel_rfl
theorem pairs13x7 : callN funs2 100000 .l p3 [.int .i64 (.ofNat 13), .int .i64 (.ofNat 7)] .l .e isT = True := by kernel_rfl
theorem pairs13x8 : callN funs2 100000 .l p3 [.int .i64 (.ofNat 13), .int .i64 (.ofNat 8)] .l .e isT = True := by kernel_rfl
theorem pairs13x9 : callN funs2 100000 .l p3 [.int .i64 (.ofNat 13), .int .i64 (.ofNat 9)] .l .e isT = True := by kernel_rfl
theorem pairs13x10 : callN funs2 100000 .l p3 [.int .i64 (.ofNat 13), .int .i64 (.ofNat 10)] .l .e isT = True := by kernel_rfl
theorem pairs13x11 : callN funs2 100000 .l p3 [.int .i64 (.ofNat 13), .int .i64 (.ofNat 11)] .l .e isT = True := by kernel_rfl
theorem pairs13x12 : callN funs2 100000 .l p3 [.int .i64 (.ofNat 13), .int .i64 (.ofNat 12)] .l .e isT = True := by kernel_rfl
theorem pairs13x13 : callN funs2 100000 .l p3 [.int .i64 (.ofNat 13), .int .i64 (.ofNat 13)] .l .e isT = True := by kernel_rfl
theorem pairs14x0 : callN funs2 100000 .l p3 [.int .i64 (.ofNat 14), .int .i64 (.ofNat 0)] .l .e isT = True := by kernel_rfl
theorem pairs14x1 : callN funs2 100000 .l p3 [.int .i64 (.ofNat 14), .int .i64 (.ofNat 1)] .l .e isT = True := by kernel_rfl
theorem pairs14x2 : callN funs2 100000 .l p3 [.int .i64 (.ofNat 14), .int .i64 (.ofNat 2)] .l .e isT = True := by kernel_rfl
theorem pairs14x3 : callN funs2 100000 .l p3 [.int .i64 (.ofNat 14), .int .i64 (.ofNat 3)] .l .e isT = True := by kernel_rfl
theorem pairs14x4 : callN funs2 100000 .l p3 [.int .i64 (.ofNat 14), .int .i64 (.ofNat 4)] .l .e isT = True := by kernel_rfl
theorem pairs14x5 : callN funs2 100000 .l p3 [.int .i64 (.ofNat 14), .int .i64 (.ofNat 5)] .l .e isT = True := by kernel_rfl
theorem pairs14x6 : callN funs2 100000 .l p3 [.int .i64 (.ofNat 14), .int .i64 (.ofNat 6)] .l .e isT = True := by kernel_rfl
theorem pairs14x7 : callN funs2 100000 .l p3 [.int .i64 (.ofNat 14), .int .i64 (.ofNat 7)] .l .e isT = True := by kernel_rfl
theorem pairs14x8 : callN funs2 100000 .l p3 [.int .i64 (.ofNat 14), .int .i64 (.ofNat 8)] .l .e isT = True := by kernel_rfl
end Go.Proofs.YteaokkkikfjhdaaGreat.X
