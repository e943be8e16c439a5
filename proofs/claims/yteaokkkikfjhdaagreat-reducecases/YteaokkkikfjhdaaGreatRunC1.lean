/- ReduceCases, computed. -/
import Derived.Test.YteaokkkikfjhdaaGreatTab2
namespace Go.Proofs.YteaokkkikfjhdaaGreat.X
set_option maxRecDepth 1000000
theorem cases8x5 : callN funs2 100000 .l p4 [.int .i64 (.ofNat 8), .int .i64 (.ofNat 5)] .l .e isT = True := by kernel_rfl
theorem cases8x6 : callN funs2 100000 .l p4 [.int .i64 (.ofNat 8), .int .i64 (.ofNat 6)] .l .e isT = True := by kernel_rfl
theorem cases8x7 : callN funs2 100000 .l p4 [.int .i64 (.ofNat 8), .int .i64 (.ofNat 7)] .l .e isT = True := by kernel_rfl
theorem cases9x0 : callN funs2 100000 .l p4 [.int .i64 (.ofNat 9), .int .i64 (.ofNat 0)] .l .e isT = True := by kernel_rfl
theorem cases9x1 : callN funs2 100000 .l p4 [.int .i64 (.ofNat 9), .int .i64 (.ofNat 1)] .l .e isT = True := by kernel_rfl
theorem cases9x2 : callN funs2 100000 .l p4 [.int .i64 (.ofNat 9), .int .i64 (.ofNat 2)] .l .e isT = True := by kernel_rfl
theorem cases9x3 : callN funs2 100000 .l p4 [.int .i64 (.ofNat 9), .int .i64 (.ofNat 3)] .l .e isT = True := by kernel_rfl
theorem cases9x4 : callN funs2 100000 .l p4 [.int .i64 (.ofNat 9), .int .i64 (.ofNat 4)] .l .e isT = True := by kernel_rfl
theorem cases9x5 : callN funs2 100000 .l p4 [.int .i64 (.ofNat 9), .int .i64 (.ofNat 5)] .l .e isT = True := by kernel_rfl
theorem cases9x6 : callN funs2 100000 .l p4 [.int .i64 (.ofNat 9), .int .i64 (.ofNat 6)] .l .e isT = True := by kernel_rfl
theorem cases9x7 : callN funs2 100000 .l p4 [.int .i64 (.ofNat 9), .int .i64 (.ofNat 7)] .l .e isT = True := by kernel_rfl
theorem cases9x8 : callN funs2 100000 .l p4 [.int .i64 (.ofNat 9), .int .i64 (.ofNat 8)] .l .e isT = True := by kernel_rfl
theorem cases10x0 : callN funs2 100000 .l p4 [.int .i64 (.ofNat 10), .int .i64 (.ofNat 0)] .l .e isT = True := by kernel_rfl
theorem cases10x1 : callN funs2 100000 .l p4 [.int .i64 (.ofNat 10), .int .i64 (.ofNat 1)] .l .e isT = True := by kernel_rfl
theorem cases10x2 : callN funs2 100000 .l p4 [.int .i64 (.ofNat 10), .int .i64 (.ofNat 2)] .l .e isT = True := by kernel_rfl
theorem cases10x3 : callN funs2 100000 .l p4 [.int .i64 (.ofNat 10), .int .i64 (.ofNat 3)] .l .e isT = True := by kernel_rfl
theorem cases10x4 : callN funs2 100000 .l p4 [.int .i64 (.ofNat 10), .int .i64 (.ofNat 4)] .l .e isT = True := by kernel_rfl
theorem cases10x5 : callN funs2 100000 .l p4 [.int .i64 (.ofNat 10), .int .i64 (.ofNat 5)] .l .e isT = True := by kernel_rfl
theorem cases10x6 : callN funs2 100000 .l p4 [.int .i64 (.ofNat 10), .int .i64 (.ofNat 6)] .l .e isT = True := by kernel_rfl
theorem cases10x7 : callN funs2 100000 .l p4 [.int .i64 (.ofNat 10), .int .i64 (.ofNat 7)] .l .e isT = True := by kernel_rfl
theorem cases10x8 : callN funs2 100000 .l p4 [.int .i64 (.ofNat 10), .int .i64 (.ofNat 8)] .l .e isT = True := by kernel_rfl
end Go.Proofs.YteaokkkikfjhdaaGreat.X
