/- LayoutNests, computed. -/
import Derived.Test.YtfnehpgefcnjgaaTab2
namespace Go.Proofs.Ytfnehpgefcnjgaa.X
set_option maxRecDepth 1000000
theorem nests15x5 : callN funs2 100000 .l p4 [.int .i64 (.ofNat 15), .int .i64 (.ofNat 5)] .l .e isT = True := by kernel_rfl
theorem nests15x6 : callN funs2 100000 .l p4 [.int .i64 (.ofNat 15), .int .i64 (.ofNat 6)] .l .e isT = True := by kernel_rfl
theorem nests15x7 : callN funs2 100000 .l p4 [.int .i64 (.ofNat 15), .int .i64 (.ofNat 7)] .l .e isT = True := by kernel_rfl
theorem nests15x8 : callN funs2 100000 .l p4 [.int .i64 (.ofNat 15), .int .i64 (.ofNat 8)] .l .e isT = True := by kernel_rfl
theorem nests15x9 : callN funs2 100000 .l p4 [.int .i64 (.ofNat 15), .int .i64 (.ofNat 9)] .l .e isT = True := by kernel_rfl
end Go.Proofs.Ytfnehpgefcnjgaa.X
