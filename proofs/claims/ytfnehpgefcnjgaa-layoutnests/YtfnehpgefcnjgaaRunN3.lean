/- LayoutNests, computed. -/
import Derived.Test.YtfnehpgefcnjgaaTab2
namespace Go.Proofs.Ytfnehpgefcnjgaa.X
set_option maxRecDepth 1000000
theorem nests13x5 : callN funs2 100000 .l p4 [.int .i64 (.ofNat 13), .int .i64 (.ofNat 5)] .l .e isT = True := by kernel_rfl
theorem nests13x6 : callN funs2 100000 .l p4 [.int .i64 (.ofNat 13), .int .i64 (.ofNat 6)] .l .e isT = True := by kernel_rfl
theorem nests13x7 : callN funs2 100000 .l p4 [.int .i64 (.ofNat 13), .int .i64 (.ofNat 7)] .l .e isT = True := by kernel_rfl
theorem nests13x8 : callN funs2 100000 .l p4 [.int .i64 (.ofNat 13), .int .i64 (.ofNat 8)] .l .e isT = True := by kernel_rfl
theorem nests13x9 : callN funs2 100000 .l p4 [.int .i64 (.ofNat 13), .int .i64 (.ofNat 9)] .l .e isT = True := by kernel_rfl
theorem nests13x10 : callN funs2 100000 .l p4 [.int .i64 (.ofNat 13), .int .i64 (.ofNat 10)] .l .e isT = True := by kernel_rfl
end Go.Proofs.Ytfnehpgefcnjgaa.X
