/- LayoutNests, computed. -/
import Derived.Test.YtfnehpgefcnjgaaTab2
namespace Go.Proofs.Ytfnehpgefcnjgaa.X
set_option maxRecDepth 1000000
theorem nests17x1 : callN funs2 100000 .l p4 [.int .i64 (.ofNat 17), .int .i64 (.ofNat 1)] .l .e isT = True := by kernel_rfl
theorem nests17x2 : callN funs2 100000 .l p4 [.int .i64 (.ofNat 17), .int .i64 (.ofNat 2)] .l .e isT = True := by kernel_rfl
theorem nests17x3 : callN funs2 100000 .l p4 [.int .i64 (.ofNat 17), .int .i64 (.ofNat 3)] .l .e isT = True := by kernel_rfl
theorem nests17x4 : callN funs2 100000 .l p4 [.int .i64 (.ofNat 17), .int .i64 (.ofNat 4)] .l .e isT = True := by kernel_rfl
theorem nests17x5 : callN funs2 100000 .l p4 [.int .i64 (.ofNat 17), .int .i64 (.ofNat 5)] .l .e isT = True := by kernel_rfl
end Go.Proofs.Ytfnehpgefcnjgaa.X
