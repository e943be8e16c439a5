/- LayoutNests, computed. -/
import Derived.Test.YtfnehpgefcnjgaaTab2
namespace Go.Proofs.Ytfnehpgefcnjgaa.X
set_option maxRecDepth 1000000
theorem nests19x12 : callN funs2 100000 .l p4 [.int .i64 (.ofNat 19), .int .i64 (.ofNat 12)] .l .e isT = True := by kernel_rfl
theorem nests19x13 : callN funs2 100000 .l p4 [.int .i64 (.ofNat 19), .int .i64 (.ofNat 13)] .l .e isT = True := by kernel_rfl
theorem nests19x14 : callN funs2 100000 .l p4 [.int .i64 (.ofNat 19), .int .i64 (.ofNat 14)] .l .e isT = True := by kernel_rfl
theorem nests19x15 : callN funs2 100000 .l p4 [.int .i64 (.ofNat 19), .int .i64 (.ofNat 15)] .l .e isT = True := by kernel_rfl
end Go.Proofs.Ytfnehpgefcnjgaa.X
