/- ReduceTrees, computed. -/
import Derived.Test.YtdafcdioclcebaaGreatTab2
namespace Go.Proofs.YtdafcdioclcebaaGreat.X
set_option maxRecDepth 1000000
theorem trees11 : callN funs2 100000 .l p5 [.int .i64 (.ofNat 11)] .l .e isT = True := by kernel_rfl
theorem trees12 : callN funs2 100000 .l p5 [.int .i64 (.ofNat 12)] .l .e isT = True := by kernel_rfl
end Go.Proofs.YtdafcdioclcebaaGreat.X
