/- LayoutNests, computed. -/
import Derived.Test.YtfnehpgefcnjgaaTab2
namespace Go.Proofs.Ytfnehpgefcnjgaa.X
set_option maxRecDepth 1000000
theorem nests1x0 : callN funs2 100000 .l p4 [.int .i64 (.ofNat 1), .int .i64 (.ofNat 0)] .l .e isT = True := by kernel_rfl
theorem nests1x1 : callN funs2 100000 .l p4 [.int .i64 (.ofNat 1), .int .i64 (.ofNat 1)] .l .e isT = True := by kernel_rfl
theorem nests2x0 : callN funs2 100000 .l p4 [.int .i64 (.ofNat 2), .int .i64 (.ofNat 0)] .l .e isT = True := by kernel_rfl
theorem nests2x1 : callN funs2 100000 .l p4 [.int .i64 (.ofNat 2), .int .i64 (.ofNat 1)] .l .e isT = True := by kernel_rfl
theorem nests2x2 : callN funs2 100000 .l p4 [.int .i64 (.ofNat 2), .int .i64 (.ofNat 2)] .l .e isT = True := by kernel_rfl
theorem nests3x0 : callN funs2 100000 .l p4 [.int .i64 (.ofNat 3), .int .i64 (.ofNat 0)] .l .e isT = True := by kernel_rfl
theorem nests3x1 : callN funs2 100000 .l p4 [.int .i64 (.ofNat 3), .int .i64 (.ofNat 1)] .l .e isT = True := by kernel_rfl
theorem nests3x2 : callN funs2 100000 .l p4 [.int .i64 (.ofNat 3), .int .i64 (.ofNat 2)] .l .e isT = True := by kernel_rfl
theorem nests3x3 : callN funs2 100000 .l p4 [.int .i64 (.ofNat 3), .int .i64 (.ofNat 3)] .l .e isT = True := by kernel_rfl
theorem nests4x0 : callN funs2 100000 .l p4 [.int .i64 (.ofNat 4), .int .i64 (.ofNat 0)] .l .e isT = True := by kernel_rfl
theorem nests4x1 : callN funs2 100000 .l p4 [.int .i64 (.ofNat 4), .int .i64 (.ofNat 1)] .l .e isT = True := by kernel_rfl
theorem nests4x2 : callN funs2 100000 .l p4 [.int .i64 (.ofNat 4), .int .i64 (.ofNat 2)] .l .e isT = True := by kernel_rfl
theorem nests4x3 : callN funs2 100000 .l p4 [.int .i64 (.ofNat 4), .int .i64 (.ofNat 3)] .l .e isT = True := by kernel_rfl
theorem nests4x4 : callN funs2 100000 .l p4 [.int .i64 (.ofNat 4), .int .i64 (.ofNat 4)] .l .e isT = True := by kernel_rfl
theorem nests5x0 : callN funs2 100000 .l p4 [.int .i64 (.ofNat 5), .int .i64 (.ofNat 0)] .l .e isT = True := by kernel_rfl
theorem nests5x1 : callN funs2 100000 .l p4 [.int .i64 (.ofNat 5), .int .i64 (.ofNat 1)] .l .e isT = True := by kernel_rfl
end Go.Proofs.Ytfnehpgefcnjgaa.X
