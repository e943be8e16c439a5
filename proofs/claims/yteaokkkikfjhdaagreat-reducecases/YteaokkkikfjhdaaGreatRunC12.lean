/- ReduceCases, computed. -/
import Derived.Test.YteaokkkikfjhdaaGreatTab2
namespace Go.Proofs.YteaokkkikfjhdaaGreat.X
set_option maxRecDepth 1000000
theorem cases20x3 : callN funs2 100000 .l p4 [.int .i64 (.ofNat 20), .int .i64 (.ofNat 3)] .l .e isT = True := by kernel_rfl
theorem cases20x4 : callN funs2 100000 .l p4 [.int .i64 (.ofNat 20), .int .i64 (.ofNat 4)] .l .e isT = True := by kernel_rfl
theorem cases20x5 : callN funs2 100000 .l p4 [.int .i64 (.ofNat 20), .int .i64 (.ofNat 5)] .l .e isT = True := by kernel_rfl
theorem cases20x6 : callN funs2 100000 .l p4 [.int .i64 (.ofNat 20), .int .i64 (.ofNat 6)] .l .e isT = True := by kernel_rfl
theorem cases20x7 : callN funs2 100000 .l p4 [.int .i64 (.ofNat 20), .int .i64 (.ofNat 7)] .l .e isT = True := by kernel_rfl
theorem cases20x8 : callN funs2 100000 .l p4 [.int .i64 (.ofNat 20), .int .i64 (.ofNat 8)] .l .e isT = True := by kernel_rfl
theorem cases20x9 : callN funs2 100000 .l p4 [.int .i64 (.ofNat 20), .int .i64 (.ofNat 9)] .l .e isT = True := by kernel_rfl
theorem cases20x10 : callN funs2 100000 .l p4 [.int .i64 (.ofNat 20), .int .i64 (.ofNat 10)] .l .e isT = True := by kernel_rfl
theorem cases20x11 : callN funs2 100000 .l p4 [.int .i64 (.ofNat 20), .int .i64 (.ofNat 11)] .l .e isT = True := by kernel_rfl
theorem cases20x12 : callN funs2 100000 .l p4 [.int .i64 (.ofNat 20), .int .i64 (.ofNat 12)] .l .e isT = True := by kernel_rfl
theorem cases20x13 : callN funs2 100000 .l p4 [.int .i64 (.ofNat 20), .int .i64 (.ofNat 13)] .l .e isT = True := by kernel_rfl
end Go.Proofs.YteaokkkikfjhdaaGreat.X
