/- ReduceCases, computed. -/
import Derived.Test.YteaokkkikfjhdaaGreatTab2
namespace Go.Proofs.YteaokkkikfjhdaaGreat.X
set_option maxRecDepth 1000000
theorem cases18x17 : callN funs2 100000 .l p4 [.int .i64 (.ofNat 18), .int .i64 (.ofNat 17)] .l .e isT = True := by kernel_rfl
theorem cases19x0 : callN funs2 100000 .l p4 [.int .i64 (.ofNat 19), .int .i64 (.ofNat 0)] .l .e isT = True := by kernel_rfl
theorem cases19x1 : callN funs2 100000 .l p4 [.int .i64 (.ofNat 19), .int .i64 (.ofNat 1)] .l .e isT = True := by kernel_rfl
theorem cases19x2 : callN funs2 100000 .l p4 [.int .i64 (.ofNat 19), .int .i64 (.ofNat 2)] .l .e isT = True := by kernel_rfl
theorem cases19x3 : callN funs2 100000 .l p4 [.int .i64 (.ofNat 19), .int .i64 (.ofNat 3)] .l .e isT = True := by kernel_rfl
theorem cases19x4 : callN funs2 100000 .l p4 [.int .i64 (.ofNat 19), .int .i64 (.ofNat 4)] .l .e isT = True := by kernel_rfl
theorem cases19x5 : callN funs2 100000 .l p4 [.int .i64 (.ofNat 19), .int .i64 (.ofNat 5)] .l .e isT = True := by kernel_rfl
theorem cases19x6 : callN funs2 100000 .l p4 [.int .i64 (.ofNat 19), .int .i64 (.ofNat 6)] .l .e isT = True := by kernel_rfl
theorem cases19x7 : callN funs2 100000 .l p4 [.int .i64 (.ofNat 19), .int .i64 (.ofNat 7)] .l .e isT = True := by kernel_rfl
theorem cases19x8 : callN funs2 100000 .l p4 [.int .i64 (.ofNat 19), .int .i64 (.ofNat 8)] .l .e isT = True := by kernel_rfl
theorem cases19x9 : callN funs2 100000 .l p4 [.int .i64 (.ofNat 19), .int .i64 (.ofNat 9)] .l .e isT = True := by kernel_rfl
theorem cases19x10 : callN funs2 100000 .l p4 [.int .i64 (.ofNat 19), .int .i64 (.ofNat 10)] .l .e isT = True := by kernel_rfl
end Go.Proofs.YteaokkkikfjhdaaGreat.X
