/- LayoutNests, computed. -/
import Derived.Test.YtfnehpgefcnjgaaTab2
namespace Go.Proofs.Ytfnehpgefcnjgaa.X
set_option maxRecDepth 1000000
theorem nests18x17 : callN funs2 100000 .l p4 [.int .i64 (.ofNat 18), .int .i64 (.ofNat 17)] .l .e isT = True := by kernel_rfl
theorem nests18x18 : callN funs2 100000 .l p4 [.int .i64 (.ofNat 18), .int .i64 (.ofNat 18)] .l .e isT = True := by kernel_rfl
theorem nests19x0 : callN funs2 100000 .l p4 [.int .i64 (.ofNat 19), .int .i64 (.ofNat 0)] .l .e isT = True := by kernel_rfl
end Go.Proofs.Ytfnehpgefcnjgaa.X
