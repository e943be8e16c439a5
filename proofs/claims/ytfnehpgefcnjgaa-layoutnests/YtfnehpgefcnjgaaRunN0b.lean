/- LayoutNests, computed. -/
import Derived.Test.YtfnehpgefcnjgaaTab2
namespace Go.Proofs.Ytfnehpgefcnjgaa.X
set_option maxRecDepth 1000000
theorem nests5x2 : callN funs2 100000 .l p4 [.int .i64 (.ofNat 5), .int .i64 (.ofNat 2)] .l .e isT = True := by kernel_rfl
theorem nests5x3 : callN funs2 100000 .l p4 [.int .i64 (.ofNat 5), .int .i64 (.ofNat 3)] .l .e isT = True := by kernel_rfl
theorem nests5x4 : callN funs2 100000 .l p4 [.int .i64 (.ofNat 5), .int .i64 (.ofNat 4)] .l .e isT = True := by kernel_rfl
theorem nests5x5 : callN funs2 100000 .l p4 [.int .i64 (.ofNat 5), .int .i64 (.ofNat 5)] .l .e isT = True := by kernel_rfl
theorem nests6x0 : callN funs2 100000 .l p4 [.int .i64 (.ofNat 6), .int .i64 (.ofNat 0)] .l .e isT = True := by kernel_rfl
theorem nests6x1 : callN funs2 100000 .l p4 [.int .i64 (.ofNat 6), .int .i64 (.ofNat 1)] .l .e isT = True := by kernel_rfl
theorem nests6x2 : callN funs2 100000 .l p4 [.int .i64 (.ofNat 6), .int .i64 (.ofNat 2)] .l .e isT = True := by kernel_rfl
theorem nests6x3 : callN funs2 100000 .l p4 [.int .i64 (.ofNat 6), .int .i64 (.ofNat 3)] .l .e isT = True := by kernel_rfl
theorem nests6x4 : callN funs2 100000 .l p4 [.int .i64 (.ofNat 6), .int .i64 (.ofNat 4)] .l .e isT = True := by kernel_rfl
theorem nests6x5 : callN funs2 100000 .l p4 [.int .i64 (.ofNat 6), .int .i64 (.ofNat 5)] .l .e isT = True := by kernel_rfl
theorem nests6x6 : callN funs2 100000 .l p4 [.int .i64 (.ofNat 6), .int .i64 (.ofNat 6)] .l .e isT = True := by kernel_rfl
theorem nests7x0 : callN funs2 100000 .l p4 [.int .i64 (.ofNat 7), .int .i64 (.ofNat 0)] .l .e isT = True := by kernel_rfl
theorem nests7x1 : callN funs2 100000 .l p4 [.int .i64 (.ofNat 7), .int .i64 (.ofNat 1)] .l .e isT = True := by kernel_rfl
theorem nests7x2 : callN funs2 100000 .l p4 [.int .i64 (.ofNat 7), .int .i64 (.ofNat 2)] .l .e isT = True := by kernel_rfl
theorem nests7x3 : callN funs2 100000 .l p4 [.int .i64 (.ofNat 7), .int .i64 (.ofNat 3)] .l .e isT = True := by kernel_rfl
theorem nests7x4 : callN funs2 100000 .l p4 [.int .i64 (.ofNat 7), .int .i64 (.ofNat 4)] .l .e isT = True := by kernel_rfl
theorem nests7x5 : callN funs2 100000 .l p4 [.int .i64 (.ofNat 7), .int .i64 (.ofNat 5)] .l .e isT = True := by kernel_rfl
end Go.Proofs.Ytfnehpgefcnjgaa.X
