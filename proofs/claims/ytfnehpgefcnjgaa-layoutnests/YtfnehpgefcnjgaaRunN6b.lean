/- LayoutNests, computed. -/
import Derived.Test.YtfnehpgefcnjgaaTab2
namespace Go.Proofs.Ytfnehpgefcnjgaa.X
set_option maxRecDepth 1000000
theorem nests16x14 : callN funs2 100000 .l p4 [.int .i64 (.ofNat 16), .int .i64 (.ofNat 14)] .l .e isT = True := by kernel_rfl
theorem nests16x15 : callN funs2 100000 .l p4 [.int .i64 (.ofNat 16), .int .i64 (.ofNat 15)] .l .e isT = True := by kernel_rfl
theorem nests16x16 : callN funs2 100000 .l p4 [.int .i64 (.ofNat 16), .int .i64 (.ofNat 16)] .l .e isT = True := by kernel_rfl
theorem nests17x0 : callN funs2 100000 .l p4 [.int .i64 (.ofNat 17), .int .i64 (.ofNat 0)] .l .e isT = True := by kernel_rfl
end Go.Proofs.Ytfnehpgefcnjgaa.X
