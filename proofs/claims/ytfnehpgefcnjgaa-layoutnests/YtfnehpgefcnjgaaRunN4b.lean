/- LayoutNests, computed. -/
import Derived.Test.YtfnehpgefcnjgaaTab2
namespace Go.Proofs.Ytfnehpgefcnjgaa.X
set_option maxRecDepth 1000000
theorem nests14x14 : callN funs2 100000 .l p4 [.int .i64 (.ofNat 14), .int .i64 (.ofNat 14)] .l .e isT = True := by kernel_rfl
theorem nests15x0 : callN funs2 100000 .l p4 [.int .i64 (.ofNat 15), .int .i64 (.ofNat 0)] .l .e isT = True := by kernel_rfl
theorem nests15x1 : callN funs2 100000 .l p4 [.int .i64 (.ofNat 15), .int .i64 (.ofNat 1)] .l .e isT = True := by kernel_rfl
theorem nests15x2 : callN funs2 100000 .l p4 [.int .i64 (.ofNat 15), .int .i64 (.ofNat 2)] .l .e isT = True := by kernel_rfl
theorem nests15x3 : callN funs2 100000 .l p4 [.int .i64 (.ofNat 15), .int .i64 (.ofNat 3)] .l .e isT = True := by kernel_rfl
theorem nests15x4 : callN funs2 100000 .l p4 [.int .i64 (.ofNat 15), .int .i64 (.ofNat 4)] .l .e isT = True := by kernel_rfl
end Go.Proofs.Ytfnehpgefcnjgaa.X
