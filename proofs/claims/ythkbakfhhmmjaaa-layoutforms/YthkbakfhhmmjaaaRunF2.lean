/- LayoutForms, computed. -/
import Derived.Test.YthkbakfhhmmjaaaTab2
namespace Go.Proofs.Ythkbakfhhmmjaaa.X
set_option maxRecDepth 1000000
theorem forms12 : callN funs2 100000 .l p5 [.int .i64 (.ofNat 12)] .l .e isT = True := by kernel_rfl
theorem forms13 : callN funs2 100000 .l p5 [.int .i64 (.ofNat 13)] .l .e isT = True := by kernel_rfl
theorem forms14 : callN funs2 100000 .l p5 [.int .i64 (.ofNat 14)] .l .e isT = True := by kernel_rfl
theorem forms15 : callN funs2 100000 .l p5 [.int .i64 (.ofNat 15)] .l .e isT = True := by kernel_rfl
theorem forms16 : callN funs2 100000 .l p5 [.int .i64 (.ofNat 16)] .l .e isT = True := by kernel_rfl
theorem forms17 : callN funs2 100000 .l p5 [.int .i64 (.ofNat 17)] .l .e isT = True := by kernel_rfl
end Go.Proofs.Ythkbakfhhmmjaaa.X
