/- ReduceCases, computed. -/
import Derived.Test.YteaokkkikfjhdaaGreatTab2
namespace Go.Proofs.YteaokkkikfjhdaaGreat.X
set_option maxRecDepth 1000000
theorem cases10x9 : callN funs2 100000 .l p4 [.int .i64 (.ofNat 10), .int .i64 (.ofNat 9)] .l .e isT = True := by kernel_rfl
theorem cases11x0 : callN funs2 100000 .l p4 [.int .i64 (.ofNat 11), .int .i64 (.ofNat 0)] .l .e isT = True := by kernel_rfl
theorem cases11x1 : callN funs2 100000 .l p4 [.int .i64 (.ofNat 11), .int .i64 (.ofNat 1)] .l .e isT = True := by kernel_rfl
theorem cases11x2 : callN funs2 100000 .l p4 [.int .i64 (.ofNat 11), .int .i64 (.ofNat 2)] .l .e isT = True := by kernel_rfl
theorem cases11x3 : callN funs2 100000 .l p4 [.int .i64 (.ofNat 11), .int .i64 (.ofNat 3)] .l .e isT = True := by kernel_rfl
theorem cases11x4 : callN funs2 100000 .l p4 [.int .i64 (.ofNat 11), .int .i64 (.ofNat 4)] .l .e isT = True := by kernel_rfl
theorem cases11x5 : callN funs2 100000 .l p4 [.int .i64 (.ofNat 11), .int .i64 (.ofNat 5)] .l .e isT = True := by kernel_rfl
theorem cases11x6 : callN funs2 100000 .l p4 [.int .i64 (.ofNat 11), .int .i64 (.ofNat 6)] .l .e isT = True := by kernel_rfl
theorem cases11x7 : callN funs2 100000 .l p4 [.int .i64 (.ofNat 11), .int .i64 (.ofNat 7)] .l .e isT = True := by kernel_rfl
theorem cases11x8 : callN funs2 100000 .l p4 [.int .i64 (.ofNat 11), .int .i64 (.ofNat 8)] .l .e isT = True := by kernel_rfl
theorem cases11x9 : callN funs2 100000 .l p4 [.int .i64 (.ofNat 11), .int .i64 (.ofNat 9)] .l .e isT = True := by kernel_rfl
theorem cases11x10 : callN funs2 100000 .l p4 [.int .i64 (.ofNat 11), .int .i64 (.ofNat 10)] .l .e isT = True := by kernel_rfl
theorem cases12x0 : callN funs2 100000 .l p4 [.int .i64 (.ofNat 12), .int .i64 (.ofNat 0)] .l .e isT = True := by kernel_rfl
theorem cases12x1 : callN funs2 100000 .l p4 [.int .i64 (.ofNat 12), .int .i64 (.ofNat 1)] .l .e isT = True := by kernel_rfl
theorem cases12x2 : callN funs2 100000 .l p4 [.int .i64 (.ofNat 12), .int .i64 (.ofNat 2)] .l .e isT = True := by kernel_rfl
theorem cases12x3 : callN funs2 100000 .l p4 [.int .i64 (.ofNat 12), .int .i64 (.ofNat 3)] .l .e isT = True := by kernel_rfl
theorem cases12x4 : callN funs2 100000 .l p4 [.int .i64 (.ofNat 12), .int .i64 (.ofNat 4)] .l .e isT = True := by kernel_rfl
theorem cases12x5 : callN funs2 100000 .l p4 [.int .i64 (.ofNat 12), .int .i64 (.ofNat 5)] .l .e isT = True := by kernel_rfl
end Go.Proofs.YteaokkkikfjhdaaGreat.X
