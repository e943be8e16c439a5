/- LayoutNests, computed. -/
import Derived.Test.YthkbakfhhmmjaaaTab2
namespace Go.Proofs.Ythkbakfhhmmjaaa.X
set_option maxRecDepth 1000000
theorem nests13x5 : callN funs2 100000 .l p4 [.int .i64 (.ofNat 13), .int .i64 (.ofNat 5)] .l .e isT = True := by kernel_rfl
theorem nests13x6 : callN funs2 100000 .l p4 [.int .i64 (.ofNat 13), .int .i64 (.ofNat 6)] .l .e isT = True := by kernel_rfl
theorem nests13x7 : callN funs2 100000 .l p4 [.int .i64 (.ofNat 13), .int .i64 (.ofNat 7)] .l .e isT = True := by kernel_rfl
theorem nests13x8 : callN funs2 100000 .l p4 [.int .i64 (.ofNat 13), .int .i64 (.ofNat 8)] .l .e isT = True := by kernel_rfl
theorem nests13x9 : callN funs2 100000 .l p4 [.int .i64 (.ofNat 13), .int .i64 (.ofNat 9)] .l .e isT = True := by kernel_rfl
theorem nests13x10 : callN funs2 100000 .l p4 [.int .i64 (.ofNat 13), .int .i64 (.ofNat 10)] .l .e isT = True := by kernel_rfl
theorem nests13x11 : callN funs2 100000 .l p4 [.int .i64 (.ofNat 13), .int .i64 (.ofNat 11)] .l .e isT = True := by kernel_rfl
theorem nests13x12 : callN funs2 100000 .l p4 [.int .i64 (.ofNat 13), .int .i64 (.ofNat 12)] .l .e isT = True := by kernel_rfl
theorem nests13x13 : callN funs2 100000 .l p4 [.int .i64 (.ofNat 13), .int .i64 (.ofNat 13)] .l .e isT = True := by kernel_rfl
theorem nests14x0 : callN funs2 100000 .l p4 [.int .i64 (.ofNat 14), .int .i64 (.ofNat 0)] .l .e isT = True := by kernel_rfl
theorem nests14x1 : callN funs2 100000 .l p4 [.int .i64 (.ofNat 14), .int .i64 (.ofNat 1)] .l .e isT = True := by kernel_rfl
theorem nests14x2 : callN funs2 100000 .l p4 [.int .i64 (.ofNat 14), .int .i64 (.ofNat 2)] .l .e isT = True := by kernel_rfl
theorem nests14x3 : callN funs2 100000 .l p4 [.int .i64 (.ofNat 14), .int .i64 (.ofNat 3)] .l .e isT = True := by kernel_rfl
theorem nests14x4 : callN funs2 100000 .l p4 [.int .i64 (.ofNat 14), .int .i64 (.ofNat 4)] .l .e isT = True := by kernel_rfl
theorem nests14x5 : callN funs2 100000 .l p4 [.int .i64 (.ofNat 14), .int .i64 (.ofNat 5)] .l .e isT = True := by kernel_rfl
theorem nests14x6 : callN funs2 100000 .l p4 [.int .i64 (.ofNat 14), .int .i64 (.ofNat 6)] .l .e isT = True := by kernel_rfl
theorem nests14x7 : callN funs2 100000 .l p4 [.int .i64 (.ofNat 14), .int .i64 (.ofNat 7)] .l .e isT = True := by kernel_rfl
theorem nests14x8 : callN funs2 100000 .l p4 [.int .i64 (.ofNat 14), .int .i64 (.ofNat 8)] .l .e isT = True := by kernel_rfl
end Go.Proofs.Ythkbakfhhmmjaaa.X
