/- ReduceStuck, computed. -/
import Derived.Test.YtdafcdioclcebaaGreatTab2
namespace Go.Proofs.YtdafcdioclcebaaGreat.X
set_option maxRecDepth 1000000
theorem stuck28 : callN funs2 100000 .l p4 [.int .i64 (.ofNat 28)] .l .e isT = True := by kernel_rfl
theorem stuck29 : callN funs2 100000 .l p4 [.int .i64 (.ofNat 29)] .l .e isT = True := by kernel_rfl
theorem stuck30 : callN funs2 100000 .l p4 [.int .i64 (.ofNat 30)] .l .e isT = True := by kernel_rfl
end Go.Proofs.YtdafcdioclcebaaGreat.X
