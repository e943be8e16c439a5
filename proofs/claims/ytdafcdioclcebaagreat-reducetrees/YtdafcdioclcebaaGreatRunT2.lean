/- ReduceTrees, computed. -/
import Derived.Test.YtdafcdioclcebaaGreatTab2
namespace Go.Proofs.YtdafcdioclcebaaGreat.X
set_option maxRecDepth 1000000
theorem trees9 : callN funs2 100000 .l p5 [.int .i64 (.ofNat 9)] .l .e isT = True := by kernel_rfl
theorem trees10 : callN funs2 100000 .l p5 [.int .i64 (.ofNat 10)] .l .e isT = True := by kernel_rfl
end Go.Proofs.YtdafcdioclcebaaGreat.X
