/- LayoutForms, computed. -/
import Derived.Test.YthkbakfhhmmjaaaTab2
namespace Go.Proofs.Ythkbakfhhmmjaaa.X
set_option maxRecDepth 1000000
theorem forms18 : callN funs2 100000 .l p5 [.int .i64 (.ofNat 18)] .l .e isT = True := by kernel_rfl
theorem forms19 : callN funs2 100000 .l p5 [.int .i64 (.ofNat 19)] .l .e isT = True := by kernel_rfl
theorem forms20 : callN funs2 100000 .l p5 [.int .i64 (.ofNat 20)] .l .e isT = True := by kernel_rfl
theorem forms21 : callN funs2 100000 .l p5 [.int .i64 (.ofNat 21)] .l .e isT = True := by kernel_rfl
end Go.Proofs.Ythkbakfhhmmjaaa.X
