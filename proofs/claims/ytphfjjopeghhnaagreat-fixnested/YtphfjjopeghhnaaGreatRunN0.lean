/- FixNested, computed. -/
import Derived.Test.YtphfjjopeghhnaaGreatTab2
namespace Go.Proofs.YtphfjjopeghhnaaGreat.X
set_option maxRecDepth 1000000
set_option maxHeartbeats 200000000
theorem nst12x1:callN funs2 100000 .l p5 [.int .i64 (.ofNat 12),.bool true] .l .e isT=True:=by kernel_rfl
end Go.Proofs.YtphfjjopeghhnaaGreat.X
