/- ReduceStuck, computed. -/
import Derived.Test.YtdafcdioclcebaaGreatTab2
namespace Go.Proofs.YtdafcdioclcebaaGreat.X
set_option maxRecDepth 1000000
theorem stuck24 : callN funs2 100000 .l p4 [.int .i64 (.ofNat 24)] .l .e isT = True := by kernel_rfl
theorem stuck25 : callN funs2 100000 .l p4 [.int .i64 (.ofNat 25)] .l .e isT = True := by kernel_rfl
theorem stuck26 : callN funs2 100000 .l p4 [.int .i64 (.ofNat 26)] .l .e isT = True := by kernel_rfl
theorem stuck27 : callN funs2 100000 .l p4 [.int .i64 (.ofNat 27)] .l .e isT = True := by kernel_rfl
end Go.Proofs.YtdafcdioclcebaaGreat.X
