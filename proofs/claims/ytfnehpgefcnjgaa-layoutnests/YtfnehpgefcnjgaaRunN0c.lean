/- LayoutNests, computed. -/
import Derived.Test.YtfnehpgefcnjgaaTab2
namespace Go.Proofs.Ytfnehpgefcnjgaa.X
set_option maxRecDepth 1000000
theorem nests7x6 : callN funs2 100000 .l p4 [.int .i64 (.ofNat 7), .int .i64 (.ofNat 6)] .l .e isT = True := by kernel_rfl
theorem nests7x7 : callN funs2 100000 .l p4 [.int .i64 (.ofNat 7), .int .i64 (.ofNat 7)] .l .e isT = True := by kernel_rfl
theorem nests8x0 : callN funs2 100000 .l p4 [.int .i64 (.ofNat 8), .int .i64 (.ofNat 0)] .l .e isT = True := by kernel_rfl
theorem nests8x1 : callN funs2 100000 .l p4 [.int .i64 (.ofNat 8), .int .i64 (.ofNat 1)] .l .e isT = True := by kernel_rfl
theorem nests8x2 : callN funs2 100000 .l p4 [.int .i64 (.ofNat 8), .int .i64 (.ofNat 2)] .l .e isT = True := by kernel_rfl
theorem nests8x3 : callN funs2 100000 .l p4 [.int .i64 (.ofNat 8), .int .i64 (.ofNat 3)] .l .e isT = True := by kernel_rfl
theorem nests8x4 : callN funs2 100000 .l p4 [.int .i64 (.ofNat 8), .int .i64 (.ofNat 4)] .l .e isT = True := by kernel_rfl
theorem nests8x5 : callN funs2 100000 .l p4 [.int .i64 (.ofNat 8), .int .i64 (.ofNat 5)] .l .e isT = True := by kernel_rfl
theorem nests8x6 : callN funs2 100000 .l p4 [.int .i64 (.ofNat 8), .int .i64 (.ofNat 6)] .l .e isT = True := by kernel_rfl
theorem nests8x7 : callN funs2 100000 .l p4 [.int .i64 (.ofNat 8), .int .i64 (.ofNat 7)] .l .e isT = True := by kernel_rfl
theorem nests8x8 : callN funs2 100000 .l p4 [.int .i64 (.ofNat 8), .int .i64 (.ofNat 8)] .l .e isT = True := by kernel_rfl
theorem nests9x0 : callN funs2 100000 .l p4 [.int .i64 (.ofNat 9), .int .i64 (.ofNat 0)] .l .e isT = True := by kernel_rfl
theorem nests9x1 : callN funs2 100000 .l p4 [.int .i64 (.ofNat 9), .int .i64 (.ofNat 1)] .l .e isT = True := by kernel_rfl
theorem nests9x2 : callN funs2 100000 .l p4 [.int .i64 (.ofNat 9), .int .i64 (.ofNat 2)] .l .e isT = True := by kernel_rfl
theorem nests9x3 : callN funs2 100000 .l p4 [.int .i64 (.ofNat 9), .int .i64 (.ofNat 3)] .l .e isT = True := by kernel_rfl
theorem nests9x4 : callN funs2 100000 .l p4 [.int .i64 (.ofNat 9), .int .i64 (.ofNat 4)] .l .e isT = True := by kernel_rfl
end Go.Proofs.Ytfnehpgefcnjgaa.X
