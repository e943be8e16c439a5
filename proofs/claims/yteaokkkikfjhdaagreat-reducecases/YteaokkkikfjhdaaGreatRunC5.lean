/- ReduceCases, computed. -/
import Derived.Test.YteaokkkikfjhdaaGreatTab2
namespace Go.Proofs.YteaokkkikfjhdaaGreat.X
set_option maxRecDepth 1000000
theorem cases14x13 : callN funs2 100000 .l p4 [.int .i64 (.ofNat 14), .int .i64 (.ofNat 13)] .l .e isT = True := by kernel_rfl
theorem cases15x0 : callN funs2 100000 .l p4 [.int .i64 (.ofNat 15), .int .i64 (.ofNat 0)] .l .e isT = True := by kernel_rfl
theorem cases15x1 : callN funs2 100000 .l p4 [.int .i64 (.ofNat 15), .int .i64 (.ofNat 1)] .l .e isT = True := by kernel_rfl
theorem cases15x2 : callN funs2 100000 .l p4 [.int .i64 (.ofNat 15), .int .i64 (.ofNat 2)] .l .e isT = True := by kernel_rfl
theorem cases15x3 : callN funs2 100000 .l p4 [.int .i64 (.ofNat 15), .int .i64 (.ofNat 3)] .l .e isT = True := by kernel_rfl
theorem cases15x4 : callN funs2 100000 .l p4 [.int .i64 (.ofNat 15), .int .i64 (.ofNat 4)] .l .e isT = True := by kernel_rfl
theorem cases15x5 : callN funs2 100000 .l p4 [.int .i64 (.ofNat 15), .int .i64 (.ofNat 5)] .l .e isT = True := by kernel_rfl
theorem cases15x6 : callN funs2 100000 .l p4 [.int .i64 (.ofNat 15), .int .i64 (.ofNat 6)] .l .e isT = True := by kernel_rfl
theorem cases15x7 : callN funs2 100000 .l p4 [.int .i64 (.ofNat 15), .int .i64 (.ofNat 7)] .l .e isT = True := by kernel_rfl
theorem cases15x8 : callN funs2 100000 .l p4 [.int .i64 (.ofNat 15), .int .i64 (.ofNat 8)] .l .e isT = True := by kernel_rfl
theorem cases15x9 : callN funs2 100000 .l p4 [.int .i64 (.ofNat 15), .int .i64 (.ofNat 9)] .l .e isT = True := by kernel_rfl
theorem cases15x10 : callN funs2 100000 .l p4 [.int .i64 (.ofNat 15), .int .i64 (.ofNat 10)] .l .e isT = True := by kernel_rfl
theorem cases15x11 : callN funs2 100000 .l p4 [.int .i64 (.ofNat 15), .int .i64 (.ofNat 11)] .l .e isT = True := by kernel_rfl
theorem cases15x12 : callN funs2 100000 .l p4 [.int .i64 (.ofNat 15), .int .i64 (.ofNat 12)] .l .e isT = True := by kernel_rfl
end Go.Proofs.YteaokkkikfjhdaaGreat.X
