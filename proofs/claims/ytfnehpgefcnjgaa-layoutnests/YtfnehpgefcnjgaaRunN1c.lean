/- LayoutNests, computed. -/
import Derived.Test.YtfnehpgefcnjgaaTab2
namespace Go.Proofs.Ytfnehpgefcnjgaa.X
set_option maxRecDepth 1000000
theorem nests11x1 : callN funs2 100000 .l p4 [.int .i64 (.ofNat 11), .int .i64 (.ofNat 1)] .l .e isT = True := by kernel_rfl
theorem nests11x2 : callN funs2 100000 .l p4 [.int .i64 (.ofNat 11), .int .i64 (.ofNat 2)] .l .e isT = True := by kernel_rfl
theorem nests11x3 : callN funs2 100000 .l p4 [.int .i64 (.ofNat 11), .int .i64 (.ofNat 3)] .l .e isT = True := by kernel_rfl
theorem nests11x4 : callN funs2 100000 .l p4 [.int .i64 (.ofNat 11), .int .i64 (.ofNat 4)] .l .e isT = True := by kernel_rfl
theorem nests11x5 : callN funs2 100000 .l p4 [.int .i64 (.ofNat 11), .int .i64 (.ofNat 5)] .l .e isT = True := by kernel_rfl
theorem nests11x6 : callN funs2 100000 .l p4 [.int .i64 (.ofNat 11), .int .i64 (.ofNat 6)] .l .e isT = True := by kernel_rfl
theorem nests11x7 : callN funs2 100000 .l p4 [.int .i64 (.ofNat 11), .int .i64 (.ofNat 7)] .l .e isT = True := by kernel_rfl
theorem nests11x8 : callN funs2 100000 .l p4 [.int .i64 (.ofNat 11), .int .i64 (.ofNat 8)] .l .e isT = True := by kernel_rfl
theorem nests11x9 : callN funs2 100000 .l p4 [.int .i64 (.ofNat 11), .int .i64 (.ofNat 9)] .l .e isT = True := by kernel_rfl
end Go.Proofs.Ytfnehpgefcnjgaa.X
