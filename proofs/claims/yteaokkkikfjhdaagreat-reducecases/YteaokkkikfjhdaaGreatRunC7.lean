/- ReduceCases, computed. -/
import Derived.Test.YteaokkkikfjhdaaGreatTab2
namespace Go.Proofs.YteaokkkikfjhdaaGreat.X
set_option maxRecDepth 1000000
theorem cases16x12 : callN funs2 100000 .l p4 [.int .i64 (.ofNat 16), .int .i64 (.ofNat 12)] .l .e isT = True := by kernel_rfl
theorem cases16x13 : callN funs2 100000 .l p4 [.int .i64 (.ofNat 16), .int .i64 (.ofNat 13)] .l .e isT = True := by kernel_rfl
theorem cases16x14 : callN funs2 100000 .l p4 [.int .i64 (.ofNat 16), .int .i64 (.ofNat 14)] .l .e isT = True := by kernel_rfl
theorem cases16x15 : callN funs2 100000 .l p4 [.int .i64 (.ofNat 16), .int .i64 (.ofNat 15)] .l .e isT = True := by kernel_rfl
theorem cases17x0 : callN funs2 100000 .l p4 [.int .i64 (.ofNat 17), .int .i64 (.ofNat 0)] .l .e isT = True := by kernel_rfl
theorem cases17x1 : callN funs2 100000 .l p4 [.int .i64 (.ofNat 17), .int .i64 (.ofNat 1)] .l .e isT = True := by kernel_rfl
theorem cases17x2 : callN funs2 100000 .l p4 [.int .i64 (.ofNat 17), .int .i64 (.ofNat 2)] .l .e isT = True := by kernel_rfl
theorem cases17x3 : callN funs2 100000 .l p4 [.int .i64 (.ofNat 17), .int .i64 (.ofNat 3)] .l .e isT = True := by kernel_rfl
theorem cases17x4 : callN funs2 100000 .l p4 [.int .i64 (.ofNat 17), .int .i64 (.ofNat 4)] .l .e isT = True := by kernel_rfl
theorem cases17x5 : callN funs2 100000 .l p4 [.int .i64 (.ofNat 17), .int .i64 (.ofNat 5)] .l .e isT = True := by kernel_rfl
theorem cases17x6 : callN funs2 100000 .l p4 [.int .i64 (.ofNat 17), .int .i64 (.ofNat 6)] .l .e isT = True := by kernel_rfl
theorem cases17x7 : callN funs2 100000 .l p4 [.int .i64 (.ofNat 17), .int .i64 (.ofNat 7)] .l .e isT = True := by kernel_rfl
theorem cases17x8 : callN funs2 100000 .l p4 [.int .i64 (.ofNat 17), .int .i64 (.ofNat 8)] .l .e isT = True := by kernel_rfl
end Go.Proofs.YteaokkkikfjhdaaGreat.X
