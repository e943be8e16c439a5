/- ReduceTrees, computed. -/
import Derived.Test.YtdafcdioclcebaaGreatTab2
namespace Go.Proofs.YtdafcdioclcebaaGreat.X
set_option maxRecDepth 1000000
theorem trees5 : callN funs2 100000 .l p5 [.int .i64 (.ofNat 5)] .l .e isT = True := by kernel_rfl
theorem trees6 : callN funs2 100000 .l p5 [.int .i64 (.ofNat 6)] .l .e isT = True := by kernel_rfl
theorem trees7 : callN funs2 100000 .l p5 [.int .i64 (.ofNat 7)] .l .e isT = True := by kernel_rfl
theorem trees8 : callN funs2 100000 .l p5 [.int .i64 (.ofNat 8)] .l .e isT = True := by kernel_rfl
end Go.Proofs.YtdafcdioclcebaaGreat.X
