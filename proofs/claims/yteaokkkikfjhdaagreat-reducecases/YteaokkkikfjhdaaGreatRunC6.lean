/- ReduceCases, computed. -/
import Derived.Test.YteaokkkikfjhdaaGreatTab2
namespace Go.Proofs.YteaokkkikfjhdaaGreat.X
set_option maxRecDepth 1000000
theorem cases15x13 : callN funs2 100000 .l p4 [.int .i64 (.ofNat 15), .int .i64 (.ofNat 13)] .l .e isT = True := by kernel_rfl
theorem cases15x14 : callN funs2 100000 .l p4 [.int .i64 (.ofNat 15), .int .i64 (.ofNat 14)] .l .e isT = True := by kernel_rfl
theorem cases16x0 : callN funs2 100000 .l p4 [.int .i64 (.ofNat 16), .int .i64 (.ofNat 0)] .l .e isT = True := by kernel_rfl
theorem cases16x1 : callN funs2 100000 .l p4 [.int .i64 (.ofNat 16), .int .i64 (.ofNat 1)] .l .e isT = True := by kernel_rfl
theorem cases16x2 : callN funs2 100000 .l p4 [.int .i64 (.ofNat 16), .int .i64 (.ofNat 2)] .l .e isT = True := by kernel_rfl
theorem cases16x3 : callN funs2 100000 .l p4 [.int .i64 (.ofNat 16), .int .i64 (.ofNat 3)] .l .e isT = True := by kernel_rfl
theorem cases16x4 : callN funs2 100000 .l p4 [.int .i64 (.ofNat 16), .int .i64 (.ofNat 4)] .l .e isT = True := by kernel_rfl
theorem cases16x5 : callN funs2 100000 .l p4 [.int .i64 (.ofNat 16), .int .i64 (.ofNat 5)] .l .e isT = True := by kernel_rfl
theorem cases16x6 : callN funs2 100000 .l p4 [.int .i64 (.ofNat 16), .int .i64 (.ofNat 6)] .l .e isT = True := by kernel_rfl
theorem cases16x7 : callN funs2 100000 .l p4 [.int .i64 (.ofNat 16), .int .i64 (.ofNat 7)] .l .e isT = True := by kernel_rfl
theorem cases16x8 : callN funs2 100000 .l p4 [.int .i64 (.ofNat 16), .int .i64 (.ofNat 8)] .l .e isT = True := by kernel_rfl
theorem cases16x9 : callN funs2 100000 .l p4 [.int .i64 (.ofNat 16), .int .i64 (.ofNat 9)] .l .e isT = True := by kernel_rfl
theorem cases16x10 : callN funs2 100000 .l p4 [.int .i64 (.ofNat 16), .int .i64 (.ofNat 10)] .l .e isT = True := by kernel_rfl
theorem cases16x11 : callN funs2 100000 .l p4 [.int .i64 (.ofNat 16), .int .i64 (.ofNat 11)] .l .e isT = True := by kernel_rfl
end Go.Proofs.YteaokkkikfjhdaaGreat.X
