/- ReducePairs, computed. -/
import Derived.Test.YteaokkkikfjhdaaGreatTab2
namespace Go.Proofs.YteaokkkikfjhdaaGreat.X
set_option maxRecDepth 1000000
theorem pairs17x6 : callN funs2 100000 .l p3 [.int .i64 (.ofNat 17), .int .i64 (.ofNat 6)] .l .e isT = True := by kernel_rfl
theorem pairs17x7 : callN funs2 100000 .l p3 [.int .i64 (.ofNat 17), .int .i64 (.ofNat 7)] .l .e isT = True := by kernel_rfl
theorem pairs17x8 : callN funs2 100000 .l p3 [.int .i64 (.ofNat 17), .int .i64 (.ofNat 8)] .l .e isT = True := by kernel_rfl
theorem pairs17x9 : callN funs2 100000 .l p3 [.int .i64 (.ofNat 17), .int .i64 (.ofNat 9)] .l .e isT = True := by kernel_rfl
theorem pairs17x10 : callN funs2 100000 .l p3 [.int .i64 (.ofNat 17), .int .i64 (.ofNat 10)] .l .e isT = True := by kernel_rfl
theorem pairs17x11 : callN funs2 100000 .l p3 [.int .i64 (.ofNat 17), .int .i64 (.ofNat 11)] .l .e isT = True := by kernel_rfl
theorem pairs17x12 : callN funs2 100000 .l p3 [.int .i64 (.ofNat 17), .int .i64 (.ofNat 12)] .l .e isT = True := by kernel_rfl
theorem pairs17x13 : callN funs2 100000 .l p3 [.int .i64 (.ofNat 17), .int .i64 (.ofNat 13)] .l .e isT = True := by kernel_rfl
theorem pairs17x14 : callN funs2 100000 .l p3 [.int .i64 (.ofNat 17), .int .i64 (.ofNat 14)] .l .e isT = True := by kernel_rfl
theorem pairs17x15 : callN funs2 100000 .l p3 [.int .i64 (.ofNat 17), .int .i64 (.ofNat 15)] .l .e isT = True := by kernel_rfl
theorem pairs17x16 : callN funs2 100000 .l p3 [.int .i64 (.ofNat 17), .int .i64 (.ofNat 16)] .l .e isT = True := by kernel_rfl
theorem pairs17x17 : callN funs2 100000 .l p3 [.int .i64 (.ofNat 17), .int .i64 (.ofNat 17)] .l .e isT = True := by kernel_rfl
end Go.Proofs.YteaokkkikfjhdaaGreat.X
