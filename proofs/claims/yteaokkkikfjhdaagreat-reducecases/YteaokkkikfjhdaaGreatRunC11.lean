/- ReduceCases, computed. -/
import Derived.Test.YteaokkkikfjhdaaGreatTab2
namespace Go.Proofs.YteaokkkikfjhdaaGreat.X
set_option maxRecDepth 1000000
theorem cases19x11 : callN funs2 100000 .l p4 [.int .i64 (.ofNat 19), .int .i64 (.ofNat 11)] .l .e isT = True := by kernel_rfl
theorem cases19x12 : callN funs2 100000 .l p4 [.int .i64 (.ofNat 19), .int .i64 (.ofNat 12)] .l .e isT = True := by kernel_rfl
theorem cases19x13 : callN funs2 100000 .l p4 [.int .i64 (.ofNat 19), .int .i64 (.ofNat 13)] .l .e isT = True := by kernel_rfl
theorem cases19x14 : callN funs2 100000 .l p4 [.int .i64 (.ofNat 19), .int .i64 (.ofNat 14)] .l .e isT = True := by kernel_rfl
theorem cases19x15 : callN funs2 100000 .l p4 [.int .i64 (.ofNat 19), .int .i64 (.ofNat 15)] .l .e isT = True := by kernel_rfl
theorem cases19x16 : callN funs2 100000 .l p4 [.int .i64 (.ofNat 19), .int .i64 (.ofNat 16)] .l .e isT = True := by kernel_rfl
theorem cases19x17 : callN funs2 100000 .l p4 [.int .i64 (.ofNat 19), .int .i64 (.ofNat 17)] .l .e isT = True := by kernel_rfl
theorem cases19x18 : callN funs2 100000 .l p4 [.int .i64 (.ofNat 19), .int .i64 (.ofNat 18)] .l .e isT = True := by kernel_rfl
theorem cases20x0 : callN funs2 100000 .l p4 [.int .i64 (.ofNat 20), .int .i64 (.ofNat 0)] .l .e isT = True := by kernel_rfl
theorem cases20x1 : callN funs2 100000 .l p4 [.int .i64 (.ofNat 20), .int .i64 (.ofNat 1)] .l .e isT = True := by kernel_rfl
theorem cases20x2 : callN funs2 100000 .l p4 [.int .i64 (.ofNat 20), .int .i64 (.ofNat 2)] .l .e isT = True := by kernel_rfl
end Go.Proofs.YteaokkkikfjhdaaGreat.X
