/- ReduceCases, computed. -/
import Derived.Test.YteaokkkikfjhdaaGreatTab2
namespace Go.Proofs.YteaokkkikfjhdaaGreat.X
set_option maxRecDepth 1000000
theorem cases20x14 : callN funs2 100000 .l p4 [.int .i64 (.ofNat 20), .int .i64 (.ofNat 14)] .l .e isT = True := by kernel_rfl
theorem cases20x15 : callN funs2 100000 .l p4 [.int .i64 (.ofNat 20), .int .i64 (.ofNat 15)] .l .e isT = True := by kernel_rfl
theorem cases20x16 : callN funs2 100000 .l p4 [.int .i64 (.ofNat 20), .int .i64 (.ofNat 16)] .l .e isT = True := by kernel_rfl
theorem cases20x17 : callN funs2 100000 .l p4 [.int .i64 (.ofNat 20), .int .i64 (.ofNat 17)] .l .e isT = True := by kernel_rfl
theorem cases20x18 : callN funs2 100000 .l p4 [.int .i64 (.ofNat 20), .int .i64 (.ofNat 18)] .l .e isT = True := by kernel_rfl
theorem cases20x19 : callN funs2 100000 .l p4 [.int .i64 (.ofNat 20), .int .i64 (.ofNat 19)] .l .e isT = True := by kernel_rfl
end Go.Proofs.YteaokkkikfjhdaaGreat.X
