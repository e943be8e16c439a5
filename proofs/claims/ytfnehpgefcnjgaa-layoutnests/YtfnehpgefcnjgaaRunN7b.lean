/- LayoutNests, computed. -/
import Derived.Test.YtfnehpgefcnjgaaTab2
namespace Go.Proofs.Ytfnehpgefcnjgaa.X
set_option maxRecDepth 1000000
theorem nests17x10 : callN funs2 100000 .l p4 [.int .i64 (.ofNat 17), .int .i64 (.ofNat 10)] .l .e isT = True := by kernel_rfl
theorem nests17x11 : callN funs2 100000 .l p4 [.int .i64 (.ofNat 17), .int .i64 (.ofNat 11)] .l .e isT = True := by kernel_rfl
theorem nests17x12 : callN funs2 100000 .l p4 [.int .i64 (.ofNat 17), .int .i64 (.ofNat 12)] .l .e isT = True := by kernel_rfl
theorem nests17x13 : callN funs2 100000 .l p4 [.int .i64 (.ofNat 17), .int .i64 (.ofNat 13)] .l .e isT = True := by kernel_rfl
theorem nests17x14 : callN funs2 100000 .l p4 [.int .i64 (.ofNat 17), .int .i64 (.ofNat 14)] .l .e isT = True := by kernel_rfl
end Go.Proofs.Ytfnehpgefcnjgaa.X
