/- ReduceStuck, computed. -/
import Derived.Test.YtdafcdioclcebaaGreatTab2
namespace Go.Proofs.YtdafcdioclcebaaGreat.X
set_option maxRecDepth 1000000
theorem stuck12 : callN funs2 100000 .l p4 [.int .i64 (.ofNat 12)] .l .e isT = True := by kernel_rfl
theorem stuck13 : callN funs2 100000 .l p4 [.int .i64 (.ofNat 13)] .l .e isT = True := by kernel_rfl
theorem stuck14 : callN funs2 100000 .l p4 [.int .i64 (.ofNat 14)] .l .e isT = True := by kernel_rfl
theorem stuck15 : callN funs2 100000 .l p4 [.int .i64 (.ofNat 15)] .l .e isT = True := by kernel_rfl
end Go.Proofs.YtdafcdioclcebaaGreat.X
