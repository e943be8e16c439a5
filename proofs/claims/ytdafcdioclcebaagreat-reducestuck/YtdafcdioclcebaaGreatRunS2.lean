/- ReduceStuck, computed. -/
import Derived.Test.YtdafcdioclcebaaGreatTab2
namespace Go.Proofs.YtdafcdioclcebaaGreat.X
set_option maxRecDepth 1000000
theorem stuck8 : callN funs2 100000 .l p4 [.int .i64 (.ofNat 8)] .l .e isT = True := by kernel_rfl
theorem stuck9 : callN funs2 100000 .l p4 [.int .i64 (.ofNat 9)] .l .e isT = True := by kernel_rfl
theorem stuck10 : callN funs2 100000 .l p4 [.int .i64 (.ofNat 10)] .l .e isT = True := by kernel_rfl
theorem stuck11 : callN funs2 100000 .l p4 [.int .i64 (.ofNat 11)] .l .e isT = True := by kernel_rfl
end Go.Proofs.YtdafcdioclcebaaGreat.X
