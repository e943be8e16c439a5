/- LayoutNests, computed. -/
import Derived.Test.YtfnehpgefcnjgaaTab2
namespace Go.Proofs.Ytfnehpgefcnjgaa.X
set_option maxRecDepth 1000000
theorem nests17x15 : callN funs2 100000 .l p4 [.int .i64 (.ofNat 17), .int .i64 (.ofNat 15)] .l .e isT = True := by kernel_rfl
theorem nests17x16 : callN funs2 100000 .l p4 [.int .i64 (.ofNat 17), .int .i64 (.ofNat 16)] .l .e isT = True := by kernel_rfl
theorem nests17x17 : callN funs2 100000 .l p4 [.int .i64 (.ofNat 17), .int .i64 (.ofNat 17)] .l .e isT = True := by kernel_rfl
theorem nests18x0 : callN funs2 100000 .l p4 [.int .i64 (.ofNat 18), .int .i64 (.ofNat 0)] .l .e isT = True := by kernel_rfl
end Go.Proofs.Ytfnehpgefcnjgaa.X
