/- LayoutNests, computed. -/
import Derived.Test.YtfnehpgefcnjgaaTab2
namespace Go.Proofs.Ytfnehpgefcnjgaa.X
set_option maxRecDepth 1000000
theorem nests20x14 : callN funs2 100000 .l p4 [.int .i64 (.ofNat 20), .int .i64 (.ofNat 14)] .l .e isT = True := by kernel_rfl
theorem nests20x15 : callN funs2 100000 .l p4 [.int .i64 (.ofNat 20), .int .i64 (.ofNat 15)] .l .e isT = True := by kernel_rfl
theorem nests20x16 : callN funs2 100000 .l p4 [.int .i64 (.ofNat 20), .int .i64 (.ofNat 16)] .l .e isT = True := by kernel_rfl
end Go.Proofs.Ytfnehpgefcnjgaa.X
