/- ReduceCases, computed. -/
import Derived.Test.YteaokkkikfjhdaaGreatTab2
namespace Go.Proofs.YteaokkkikfjhdaaGreat.X
set_option maxRecDepth 1000000
theorem cases12x6 : callN funs2 100000 .l p4 [.int .i64 (.ofNat 12), .int .i64 (.ofNat 6)] .l .e isT = True := by kernel_rfl
theorem cases12x7 : callN funs2 100000 .l p4 [.int .i64 (.ofNat 12), .int .i64 (.ofNat 7)] .l .e isT = True := by kernel_rfl
theorem cases12x8 : callN funs2 100000 .l p4 [.int .i64 (.ofNat 12), .int .i64 (.ofNat 8)] .l .e isT = True := by kernel_rfl
theorem cases12x9 : callN funs2 100000 .l p4 [.int .i64 (.ofNat 12), .int .i64 (.ofNat 9)] .l .e isT = True := by kernel_rfl
theorem cases12x10 : callN funs2 100000 .l p4 [.int .i64 (.ofNat 12), .int .i64 (.ofNat 10)] .l .e isT = True := by kernel_rfl
theorem cases12x11 : callN funs2 100000 .l p4 [.int .i64 (.ofNat 12), .int .i64 (.ofNat 11)] .l .e isT = True := by kernel_rfl
theorem cases13x0 : callN funs2 100000 .l p4 [.int .i64 (.ofNat 13), .int .i64 (.ofNat 0)] .l .e isT = True := by kernel_rfl
theorem cases13x1 : callN funs2 100000 .l p4 [.int .i64 (.ofNat 13), .int .i64 (.ofNat 1)] .l .e isT = True := by kernel_rfl
theorem cases13x2 : callN funs2 100000 .l p4 [.int .i64 (.ofNat 13), .int .i64 (.ofNat 2)] .l .e isT = True := by kernel_rfl
theorem cases13x3 : callN funs2 100000 .l p4 [.int .i64 (.ofNat 13), .int .i64 (.ofNat 3)] .l .e isT = True := by kernel_rfl
theorem cases13x4 : callN funs2 100000 .l p4 [.int .i64 (.ofNat 13), .int .i64 (.ofNat 4)] .l .e isT = True := by kernel_rfl
theorem cases13x5 : callN funs2 100000 .l p4 [.int .i64 (.ofNat 13), .int .i64 (.ofNat 5)] .l .e isT = True := by kernel_rfl
theorem cases13x6 : callN funs2 100000 .l p4 [.int .i64 (.ofNat 13), .int .i64 (.ofNat 6)] .l .e isT = True := by kernel_rfl
theorem cases13x7 : callN funs2 100000 .l p4 [.int .i64 (.ofNat 13), .int .i64 (.ofNat 7)] .l .e isT = True := by kernel_rfl
theorem cases13x8 : callN funs2 100000 .l p4 [.int .i64 (.ofNat 13), .int .i64 (.ofNat 8)] .l .e isT = True := by kernel_rfl
theorem cases13x9 : callN funs2 100000 .l p4 [.int .i64 (.ofNat 13), .int .i64 (.ofNat 9)] .l .e isT = True := by kernel_rfl
theorem cases13x10 : callN funs2 100000 .l p4 [.int .i64 (.ofNat 13), .int .i64 (.ofNat 10)] .l .e isT = True := by kernel_rfl
end Go.Proofs.YteaokkkikfjhdaaGreat.X
