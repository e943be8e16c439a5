/- ReduceTrees, computed. -/
import Derived.Test.YtdafcdioclcebaaGreatTab2
namespace Go.Proofs.YtdafcdioclcebaaGreat.X
set_option maxRecDepth 1000000
theorem trees0 : callN funs2 100000 .l p5 [.int .i64 (.ofNat 0)] .l .e isT = True := by kernel_rfl
theorem trees1 : callN funs2 100000 .l p5 [.int .i64 (.ofNat 1)] .l .e isT = True := by kernel_rfl
theorem trees2 : callN funs2 100000 .l p5 [.int .i64 (.ofNat 2)] .l .e isT = True := by kernel_rfl
theorem trees3 : callN funs2 100000 .l p5 [.int .i64 (.ofNat 3)] .l .e isT = True := by kernel_rfl
theorem trees4 : callN funs2 100000 .l p5 [.int .i64 (.ofNat 4)] .l .e isT = True := by kernel_rfl
end Go.Proofs.YtdafcdioclcebaaGreat.X
