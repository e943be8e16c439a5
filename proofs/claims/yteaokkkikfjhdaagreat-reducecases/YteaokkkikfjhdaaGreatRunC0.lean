/- ReduceCases, computed. -/
import Derived.Test.YteaokkkikfjhdaaGreatTab2
namespace Go.Proofs.YteaokkkikfjhdaaGreat.X
set_option maxRecDepth 1000000
theorem cases1x0 : callN funs2 100000 .l p4 [.int .i64 (.ofNat 1), .int .i64 (.ofNat 0)] .l .e isT = True := by kernel_rfl
theorem cases2x0 : callN funs2 100000 .l p4 [.int .i64 (.ofNat 2), .int .i64 (.ofNat 0)] .l .e isT = True := by kernel_rfl
theorem cases2x1 : callN funs2 100000 .l p4 [.int .i64 (.ofNat 2), .int .i64 (.ofNat 1)] .l .e isT = True := by kernel_rfl
theorem cases3x0 : callN funs2 100000 .l p4 [.int .i64 (.ofNat 3), .int .i64 (.ofNat 0)] .l .e isT = True := by kernel_rfl
theorem cases3x1 : callN funs2 100000 .l p4 [.int .i64 (.ofNat 3), .int .i64 (.ofNat 1)] .l .e isT = True := by kernel_rfl
theorem cases3x2 : callN funs2 100000 .l p4 [.int .i64 (.ofNat 3), .int .i64 (.ofNat 2)] .l .e isT = True := by kernel_rfl
theorem cases4x0 : callN funs2 100000 .l p4 [.int .i64 (.ofNat 4), .int .i64 (.ofNat 0)] .l .e isT = True := by kernel_rfl
theorem cases4x1 : callN funs2 100000 .l p4 [.int .i64 (.ofNat 4), .int .i64 (.ofNat 1)] .l .e isT = True := by kernel_rfl
theorem cases4x2 : callN funs2 100000 .l p4 [.int .i64 (.ofNat 4), .int .i64 (.ofNat 2)] .l .e isT = True := by kernel_rfl
theorem cases4x3 : callN funs2 100000 .l p4 [.int .i64 (.ofNat 4), .int .i64 (.ofNat 3)] .l .e isT = True := by kernel_rfl
theorem cases5x0 : callN funs2 100000 .l p4 [.int .i64 (.ofNat 5), .int .i64 (.ofNat 0)] .l .e isT = True := by kernel_rfl
theorem cases5x1 : callN funs2 100000 .l p4 [.int .i64 (.ofNat 5), .int .i64 (.ofNat 1)] .l .e isT = True := by kernel_rfl
theorem cases5x2 : callN funs2 100000 .l p4 [.int .i64 (.ofNat 5), .int .i64 (.ofNat 2)] .l .e isT = True := by kernel_rfl
theorem cases5x3 : callN funs2 100000 .l p4 [.int .i64 (.ofNat 5), .int .i64 (.ofNat 3)] .l .e isT = True := by kernel_rfl
theorem cases5x4 : callN funs2 100000 .l p4 [.int .i64 (.ofNat 5), .int .i64 (.ofNat 4)] .l .e isT = True := by kernel_rfl
theorem cases6x0 : callN funs2 100000 .l p4 [.int .i64 (.ofNat 6), .int .i64 (.ofNat 0)] .l .e isT = True := by kernel_rfl
theorem cases6x1 : callN funs2 100000 .l p4 [.int .i64 (.ofNat 6), .int .i64 (.ofNat 1)] .l .e isT = True := by kernel_rfl
theorem cases6x2 : callN funs2 100000 .l p4 [.int .i64 (.ofNat 6), .int .i64 (.ofNat 2)] .l .e isT = True := by kernel_rfl
theorem cases6x3 : callN funs2 100000 .l p4 [.int .i64 (.ofNat 6), .int .i64 (.ofNat 3)] .l .e isT = True := by kernel_rfl
theorem cases6x4 : callN funs2 100000 .l p4 [.int .i64 (.ofNat 6), .int .i64 (.ofNat 4)] .l .e isT = True := by kernel_rfl
theorem cases6x5 : callN funs2 100000 .l p4 [.int .i64 (.ofNat 6), .int .i64 (.ofNat 5)] .l .e isT = True := by kernel_rfl
theorem cases7x0 : callN funs2 100000 .l p4 [.int .i64 (.ofNat 7), .int .i64 (.ofNat 0)] .l .e isT = True := by kernel_rfl
theorem cases7x1 : callN funs2 100000 .l p4 [.int .i64 (.ofNat 7), .int .i64 (.ofNat 1)] .l .e isT = True := by kernel_rfl
theorem cases7x2 : callN funs2 100000 .l p4 [.int .i64 (.ofNat 7), .int .i64 (.ofNat 2)] .l .e isT = True := by kernel_rfl
theorem cases7x3 : callN funs2 100000 .l p4 [.int .i64 (.ofNat 7), .int .i64 (.ofNat 3)] .l .e isT = True := by kernel_rfl
theorem cases7x4 : callN funs2 100000 .l p4 [.int .i64 (.ofNat 7), .int .i64 (.ofNat 4)] .l .e isT = True := by kernel_rfl
theorem cases7x5 : callN funs2 100000 .l p4 [.int .i64 (.ofNat 7), .int .i64 (.ofNat 5)] .l .e isT = True := by kernel_rfl
theorem cases7x6 : callN funs2 100000 .l p4 [.int .i64 (.ofNat 7), .int .i64 (.ofNat 6)] .l .e isT = True := by kernel_rfl
theorem cases8x0 : callN funs2 100000 .l p4 [.int .i64 (.ofNat 8), .int .i64 (.ofNat 0)] .l .e isT = True := by kernel_rfl
theorem cases8x1 : callN funs2 100000 .l p4 [.int .i64 (.ofNat 8), .int .i64 (.ofNat 1)] .l .e isT = True := by kernel_rfl
theorem cases8x2 : callN funs2 100000 .l p4 [.int .i64 (.ofNat 8), .int .i64 (.ofNat 2)] .l .e isT = True := by kernel_rfl
theorem cases8x3 : callN funs2 100000 .l p4 [.int .i64 (.ofNat 8), .int .i64 (.ofNat 3)] .l .e isT = True := by kernel_rfl
theorem cases8x4 : callN funs2 100000 .l p4 [.int .i64 (.ofNat 8), .int .i64 (.ofNat 4)] .l .e isT = True := by kernel_rfl
end Go.Proofs.YteaokkkikfjhdaaGreat.X
