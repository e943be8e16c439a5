/- LayoutNests, computed. -/
import Derived.Test.YtfnehpgefcnjgaaTab2
namespace Go.Proofs.Ytfnehpgefcnjgaa.X
set_option maxRecDepth 1000000
theorem nests20x0 : callN funs2 100000 .l p4 [.int .i64 (.ofNat 20), .int .i64 (.ofNat 0)] .l .e isT = True := by kernel_rfl
theorem nests20x1 : callN funs2 100000 .l p4 [.int .i64 (.ofNat 20), .int .i64 (.ofNat 1)] .l .e isT = True := by kernel_rfl
theorem nests20x2 : callN funs2 100000 .l p4 [.int .i64 (.ofNat 20), .int .i64 (.ofNat 2)] .l .e isT = True := by kernel_rfl
end Go.Proofs.Ytfnehpgefcnjgaa.X
