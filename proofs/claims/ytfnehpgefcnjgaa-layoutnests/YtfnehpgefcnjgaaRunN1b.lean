/- LayoutNests, computed. -/
import Derived.Test.YtfnehpgefcnjgaaTab2
namespace Go.Proofs.Ytfnehpgefcnjgaa.X
set_option maxRecDepth 1000000
theorem nests10x4 : callN funs2 100000 .l p4 [.int .i64 (.ofNat 10), .int .i64 (.ofNat 4)] .l .e isT = True := by kernel_rfl
theorem nests10x5 : callN funs2 100000 .l p4 [.int .i64 (.ofNat 10), .int .i64 (.ofNat 5)] .l .e isT = True := by kernel_rfl
theorem nests10x6 : callN funs2 100000 .l p4 [.int .i64 (.ofNat 10), .int .i64 (.ofNat 6)] .l .e isT = True := by kernel_rfl
theorem nests10x7 : callN funs2 100000 .l p4 [.int .i64 (.ofNat 10), .int .i64 (.ofNat 7)] .l .e isT = True := by kernel_rfl
theorem nests10x8 : callN funs2 100000 .l p4 [.int .i64 (.ofNat 10), .int .i64 (.ofNat 8)] .l .e isT = True := by kernel_rfl
theorem nests10x9 : callN funs2 100000 .l p4 [.int .i64 (.ofNat 10), .int .i64 (.ofNat 9)] .l .e isT = True := by kernel_rfl
theorem nests10x10 : callN funs2 100000 .l p4 [.int .i64 (.ofNat 10), .int .i64 (.ofNat 10)] .l .e isT = True := by kernel_rfl
theorem nests11x0 : callN funs2 100000 .l p4 [.int .i64 (.ofNat 11), .int .i64 (.ofNat 0)] .l .e isT = True := by kernel_rfl
end Go.Proofs.Ytfnehpgefcnjgaa.X
