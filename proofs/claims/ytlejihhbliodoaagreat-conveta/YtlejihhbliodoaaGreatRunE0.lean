/- ConvEta, computed. -/
import Derived.Test.YtlejihhbliodoaaGreatTab2
namespace Go.Proofs.YtlejihhbliodoaaGreat.X
set_option maxRecDepth 1000000
theorem eta0x0x0 : callN funs2 100000 .l p3 [.int .i64 (.ofNat 0), .bool false, .bool false] .l .e isT = True := by kernel_rfl
theorem eta0x0x1 : callN funs2 100000 .l p3 [.int .i64 (.ofNat 0), .bool false, .bool true] .l .e isT = True := by kernel_rfl
theorem eta0x1x0 : callN funs2 100000 .l p3 [.int .i64 (.ofNat 0), .bool true, .bool false] .l .e isT = True := by kernel_rfl
theorem eta0x1x1 : callN funs2 100000 .l p3 [.int .i64 (.ofNat 0), .bool true, .bool true] .l .e isT = True := by kernel_rfl
theorem eta1x0x0 : callN funs2 100000 .l p3 [.int .i64 (.ofNat 1), .bool false, .bool false] .l .e isT = True := by kernel_rfl
theorem eta1x0x1 : callN funs2 100000 .l p3 [.int .i64 (.ofNat 1), .bool false, .bool true] .l .e isT = True := by kernel_rfl
theorem eta1x1x0 : callN funs2 100000 .l p3 [.int .i64 (.ofNat 1), .bool true, .bool false] .l .e isT = True := by kernel_rfl
theorem eta1x1x1 : callN funs2 100000 .l p3 [.int .i64 (.ofNat 1), .bool true, .bool true] .l .e isT = True := by kernel_rfl
theorem eta2x0x0 : callN funs2 100000 .l p3 [.int .i64 (.ofNat 2), .bool false, .bool false] .l .e isT = True := by kernel_rfl
theorem eta2x0x1 : callN funs2 100000 .l p3 [.int .i64 (.ofNat 2), .bool false, .bool true] .l .e isT = True := by kernel_rfl
end Go.Proofs.YtlejihhbliodoaaGreat.X
