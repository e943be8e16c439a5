/- ConvEta, computed. -/
import Derived.Test.YtlejihhbliodoaaGreatTab2
namespace Go.Proofs.YtlejihhbliodoaaGreat.X
set_option maxRecDepth 1000000
theorem eta5x0x1 : callN funs2 100000 .l p3 [.int .i64 (.ofNat 5), .bool false, .bool true] .l .e isT = True := by kernel_rfl
theorem eta5x1x0 : callN funs2 100000 .l p3 [.int .i64 (.ofNat 5), .bool true, .bool false] .l .e isT = True := by kernel_rfl
theorem eta5x1x1 : callN funs2 100000 .l p3 [.int .i64 (.ofNat 5), .bool true, .bool true] .l .e isT = True := by kernel_rfl
theorem eta6x0x0 : callN funs2 100000 .l p3 [.int .i64 (.ofNat 6), .bool false, .bool false] .l .e isT = True := by kernel_rfl
end Go.Proofs.YtlejihhbliodoaaGreat.X
