/- ReduceStuck, computed. -/
import Derived.Test.YtdafcdioclcebaaGreatTab2
namespace Go.Proofs.YtdafcdioclcebaaGreat.X
set_option maxRecDepth 1000000
theorem stuck0 : callN funs2 100000 .l p4 [.int .i64 (.ofNat 0)] .l .e isT = True := by kernel_rfl
theorem stuck1 : callN funs2 100000 .l p4 [.int .i64 (.ofNat 1)] .l .e isT = True := by kernel_rfl
theorem stuck2 : callN funs2 100000 .l p4 [.int .i64 (.ofNat 2)] .l .e isT = True := by kernel_rfl
theorem stuck3 : callN funs2 100000 .l p4 [.int .i64 (.ofNat 3)] .l .e isT = True := by kernel_rfl
end Go.Proofs.YtdafcdioclcebaaGreat.X
