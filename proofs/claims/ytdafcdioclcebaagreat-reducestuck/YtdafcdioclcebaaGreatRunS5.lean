/- ReduceStuck, computed. -/
import Derived.Test.YtdafcdioclcebaaGreatTab2
namespace Go.Proofs.YtdafcdioclcebaaGreat.X
set_option maxRecDepth 1000000
theorem stuck20 : callN funs2 100000 .l p4 [.int .i64 (.ofNat 20)] .l .e isT = True := by kernel_rfl
theorem stuck21 : callN funs2 100000 .l p4 [.int .i64 (.ofNat 21)] .l .e isT = True := by kernel_rfl
theorem stuck22 : callN funs2 100000 .l p4 [.int .i64 (.ofNat 22)] .l .e isT = True := by kernel_rfl
theorem stuck23 : callN funs2 100000 .l p4 [.int .i64 (.ofNat 23)] .l .e isT = True := by kernel_rfl
end Go.Proofs.YtdafcdioclcebaaGreat.X
