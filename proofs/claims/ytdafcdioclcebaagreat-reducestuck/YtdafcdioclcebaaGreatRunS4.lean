/- ReduceStuck, computed. -/
import Derived.Test.YtdafcdioclcebaaGreatTab2
namespace Go.Proofs.YtdafcdioclcebaaGreat.X
set_option maxRecDepth 1000000
theorem stuck16 : callN funs2 100000 .l p4 [.int .i64 (.ofNat 16)] .l .e isT = True := by kernel_rfl
theorem stuck17 : callN funs2 100000 .l p4 [.int .i64 (.ofNat 17)] .l .e isT = True := by kernel_rfl
theorem stuck18 : callN funs2 100000 .l p4 [.int .i64 (.ofNat 18)] .l .e isT = True := by kernel_rfl
theorem stuck19 : callN funs2 100000 .l p4 [.int .i64 (.ofNat 19)] .l .e isT = True := by kernel_rfl
end Go.Proofs.YtdafcdioclcebaaGreat.X
