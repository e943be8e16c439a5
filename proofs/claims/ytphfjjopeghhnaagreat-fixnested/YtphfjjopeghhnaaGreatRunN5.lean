/- FixNested, computed. -/
import Derived.Test.YtphfjjopeghhnaaGreatTab2
namespace Go.Proofs.YtphfjjopeghhnaaGreat.X
set_option maxRecDepth 1000000
set_option maxHeartbeats 200000000
theorem nst6x1:callN funs2 100000 .l p5 [.int .i64 (.ofNat 6),.bool true] .l .e isT=True:=by kernel_rfl
theorem nst4x1:callN funs2 100000 .l p5 [.int .i64 (.ofNat 4),.bool true] .l .e isT=True:=by kernel_rfl
theorem nst3x1:callN funs2 100000 .l p5 [.int .i64 (.ofNat 3),.bool true] .l .e isT=True:=by kernel_rfl
theorem nst2x1:callN funs2 100000 .l p5 [.int .i64 (.ofNat 2),.bool true] .l .e isT=True:=by kernel_rfl
theorem nst1x1:callN funs2 100000 .l p5 [.int .i64 (.ofNat 1),.bool true] .l .e isT=True:=by kernel_rfl
theorem nst1x0:callN funs2 100000 .l p5 [.int .i64 (.ofNat 1),.bool false] .l .e isT=True:=by kernel_rfl
end Go.Proofs.YtphfjjopeghhnaaGreat.X
