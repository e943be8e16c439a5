/- LayoutForms, computed. -/
import Derived.Test.YthkbakfhhmmjaaaTab2
namespace Go.Proofs.Ythkbakfhhmmjaaa.X
set_option maxRecDepth 1000000
theorem forms6 : callN funs2 100000 .l p5 [.int .i64 (.ofNat 6)] .l .e isT = True := by kernel_rfl
theorem forms7 : callN funs2 100000 .l p5 [.int .i64 (.ofNat 7)] .l .e isT = True := by kernel_rfl
theorem forms8 : callN funs2 100000 .l p5 [.int .i64 (.ofNat 8)] .l .e isT = True := by kernel_rfl
theorem forms9 : callN funs2 100000 .l p5 [.int .i64 (.ofNat 9)] .l .e isT = True := by kernel_rfl
theorem forms10 : callN funs2 100000 .l p5 [.int .i64 (.ofNat 10)] .l .e isT = True := by kernel_rfl
theorem forms11 : callN funs2 100000 .l p5 [.int .i64 (.ofNat 11)] .l .e isT = True := by kernel_rfl
end Go.Proofs.Ythkbakfhhmmjaaa.X
