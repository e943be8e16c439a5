/- ReduceStuck, computed. -/
import Derived.Test.YtdafcdioclcebaaGreatTab2
namespace Go.Proofs.YtdafcdioclcebaaGreat.X
set_option maxRecDepth 1000000
theorem stuck4 : callN funs2 100000 .l p4 [.int .i64 (.ofNat 4)] .l .e isT = True := by kernel_rfl
theorem stuck5 : callN funs2 100000 .l p4 [.int .i64 (.ofNat 5)] .l .e isT = True := by kernel_rfl
theorem stuck6 : callN funs2 100000 .l p4 [.int .i64 (.ofNat 6)] .l .e isT = True := by kernel_rfl
theorem stuck7 : callN funs2 100000 .l p4 [.int .i64 (.ofNat 7)] .l .e isT = True := by kernel_rfl
end Go.Proofs.YtdafcdioclcebaaGreat.X
