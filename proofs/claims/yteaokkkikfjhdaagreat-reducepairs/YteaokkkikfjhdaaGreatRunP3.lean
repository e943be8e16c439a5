/- ReducePairs, computed. -/
import Derived.Test.YteaokkkikfjhdaaGreatTab2
namespace Go.Proofs.YteaokkkikfjhdaaGreat.X
set_option maxRecDepth 1000000
theorem pairs12x0 : callN funs2 100000 .l p3 [.int .i64 (.ofNat 12), .int .i64 (.ofNat 0)] .l .e isT = True := by kernel_rfl
theorem pairs12x1 : callN funs2 100000 .l p3 [.int .i64 (.ofNat 12), .int .i64 (.ofNat 1)] .l .e isT = True := by kernel_rfl
theorem pairs12x2 : callN funs2 100000 .l p3 [.int .i64 (.ofNat 12), .int .i64 (.ofNat 2)] .l .e isT = True := by kernel_rfl
theorem pairs12x3 : callN funs2 100000 .l p3 [.int .i64 (.ofNat 12), .int .i64 (.ofNat 3)] .l .e isT = True := by kernel_rfl
theorem pairs12x4 : callN funs2 100000 .l p3 [.int .i64 (.ofNat 12), .int .i64 (.ofNat 4)] .l .e isT = True := by kernel_rfl
theorem pairs12x5 : callN funs2 100000 .l p3 [.int .i64 (.ofNat 12), .int .i64 (.ofNat 5)] .l .e isT = True := by kernel_rfl
theorem pairs12x6 : callN funs2 100000 .l p3 [.int .i64 (.ofNat 12), .int .i64 (.ofNat 6)] .l .e isT = True := by kernel_rfl
theorem pairs12x7 : callN funs2 100000 .l p3 [.int .i64 (.ofNat 12), .int .i64 (.ofNat 7)] .l .e isT = True := by kernel_rfl
theorem pairs12x8 : callN funs2 100000 .l p3 [.int .i64 (.ofNat 12), .int .i64 (.ofNat 8)] .l .e isT = True := by kernel_rfl
theorem pairs12x9 : callN funs2 100000 .l p3 [.int .i64 (.ofNat 12), .int .i64 (.ofNat 9)] .l .e isT = True := by kernel_rfl
theorem pairs12x10 : callN funs2 100000 .l p3 [.int .i64 (.ofNat 12), .int .i64 (.ofNat 10)] .l .e isT = True := by kernel_rfl
theorem pairs12x11 : callN funs2 100000 .l p3 [.int .i64 (.ofNat 12), .int .i64 (.ofNat 11)] .l .e isT = True := by kernel_rfl
theorem pairs12x12 : callN funs2 100000 .l p3 [.int .i64 (.ofNat 12), .int .i64 (.ofNat 12)] .l .e isT = True := by kernel_rfl
theorem pairs13x0 : callN funs2 100000 .l p3 [.int .i64 (.ofNat 13), .int .i64 (.ofNat 0)] .l .e isT = True := by kernel_rfl
theorem pairs13x1 : callN funs2 100000 .l p3 [.int .i64 (.ofNat 13), .int .i64 (.ofNat 1)] .l .e isT = True := by kernel_rfl
theorem pairs13x2 : callN funs2 100000 .l p3 [.int .i64 (.ofNat 13), .int .i64 (.ofNat 2)] .l .e isT = True := by kernel_rfl
theorem pairs13x3 : callN funs2 100000 .l p3 [.int .i64 (.ofNat 13), .int .i64 (.ofNat 3)] .l .e isT = True := by kernel_rfl
theorem pairs13x4 : callN funs2 100000 .l p3 [.int .i64 (.ofNat 13), .int .i64 (.ofNat 4)] .l .e isT = True := by kernel_rfl
theorem pairs13x5 : callN funs2 100000 .l p3 [.int .i64 (.ofNat 13), .int .i64 (.ofNat 5)] .l .e isT = True := by kernel_rfl
end Go.Proofs.YteaokkkikfjhdaaGreat.X
