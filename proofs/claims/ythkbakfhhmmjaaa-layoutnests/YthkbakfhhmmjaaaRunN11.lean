/- LayoutNests, computed. -/
import Derived.Test.YthkbakfhhmmjaaaTab2
namespace Go.Proofs.Ythkbakfhhmmjaaa.X
set_option maxRecDepth 1000000
theorem nests19x16 : callN funs2 100000 .l p4 [.int .i64 (.ofNat 19), .int .i64 (.ofNat 16)] .l .e isT = True := by kernel_rfl
theorem nests19x17 : callN funs2 100000 .l p4 [.int .i64 (.ofNat 19), .int .i64 (.ofNat 17)] .l .e isT = True := by kernel_rfl
theorem nests19x18 : callN funs2 100000 .l p4 [.int .i64 (.ofNat 19), .int .i64 (.ofNat 18)] .l .e isT = True := by kernel_rfl
theorem nests19x19 : callN funs2 100000 .l p4 [.int .i64 (.ofNat 19), .int .i64 (.ofNat 19)] .l .e isT = True := by kernel_rfl
theorem nests20x0 : callN funs2 100000 .l p4 [.int .i64 (.ofNat 20), .int .i64 (.ofNat 0)] .l .e isT = True := by kernel_rfl
theorem nests20x1 : callN funs2 100000 .l p4 [.int .i64 (.ofNat 20), .int .i64 (.ofNat 1)] .l .e isT = True := by kernel_rfl
theorem nests20x2 : callN funs2 100000 .l p4 [.int .i64 (.ofNat 20), .int .i64 (.ofNat 2)] .l .e isT = True := by kernel_rfl
theorem nests20x3 : callN funs2 100000 .l p4 [.int .i64 (.ofNat 20), .int .i64 (.ofNat 3)] .l .e isT = True := by kernel_rfl
theorem nests20x4 : callN funs2 100000 .l p4 [.int .i64 (.ofNat 20), .int .i64 (.ofNat 4)] .l .e isT = True := by kernel_rfl
theorem nests20x5 : callN funs2 100000 .l p4 [.int .i64 (.ofNat 20), .int .i64 (.ofNat 5)] .l .e isT = True := by kernel_rfl
theorem nests20x6 : callN funs2 100000 .l p4 [.int .i64 (.ofNat 20), .int .i64 (.ofNat 6)] .l .e isT = True := by kernel_rfl
end Go.Proofs.Ythkbakfhhmmjaaa.X
