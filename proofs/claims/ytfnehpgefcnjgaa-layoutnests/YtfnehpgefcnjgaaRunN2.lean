/- LayoutNests, computed. -/
import Derived.Test.YtfnehpgefcnjgaaTab2
namespace Go.Proofs.Ytfnehpgefcnjgaa.X
set_option maxRecDepth 1000000
theorem nests11x10 : callN funs2 100000 .l p4 [.int .i64 (.ofNat 11), .int .i64 (.ofNat 10)] .l .e isT = True := by kernel_rfl
theorem nests11x11 : callN funs2 100000 .l p4 [.int .i64 (.ofNat 11), .int .i64 (.ofNat 11)] .l .e isT = True := by kernel_rfl
theorem nests12x0 : callN funs2 100000 .l p4 [.int .i64 (.ofNat 12), .int .i64 (.ofNat 0)] .l .e isT = True := by kernel_rfl
theorem nests12x1 : callN funs2 100000 .l p4 [.int .i64 (.ofNat 12), .int .i64 (.ofNat 1)] .l .e isT = True := by kernel_rfl
theorem nests12x2 : callN funs2 100000 .l p4 [.int .i64 (.ofNat 12), .int .i64 (.ofNat 2)] .l .e isT = True := by kernel_rfl
theorem nests12x3 : callN funs2 100000 .l p4 [.int .i64 (.ofNat 12), .int .i64 (.ofNat 3)] .l .e isT = True := by kernel_rfl
theorem nests12x4 : callN funs2 100000 .l p4 [.int .i64 (.ofNat 12), .int .i64 (.ofNat 4)] .l .e isT = True := by kernel_rfl
end Go.Proofs.Ytfnehpgefcnjgaa.X
