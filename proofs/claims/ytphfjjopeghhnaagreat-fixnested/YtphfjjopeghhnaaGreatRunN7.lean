/- FixNested, computed. -/
import Derived.Test.YtphfjjopeghhnaaGreatTab2
namespace Go.Proofs.YtphfjjopeghhnaaGreat.X
set_option maxRecDepth 1000000
set_option maxHeartbeats 200000000
theorem nst7x0:callN funs2 100000 .l p5 [.int .i64 (.ofNat 7),.bool false] .l .e isT=True:=by kernel_rfl
theorem nst6x0:callN funs2 100000 .l p5 [.int .i64 (.ofNat 6),.bool false] .l .e isT=True:=by kernel_rfl
theorem nst5x0:callN funs2 100000 .l p5 [.int .i64 (.ofNat 5),.bool false] .l .e isT=True:=by kernel_rfl
theorem nst4x0:callN funs2 100000 .l p5 [.int .i64 (.ofNat 4),.bool false] .l .e isT=True:=by kernel_rfl
theorem nst3x0:callN funs2 100000 .l p5 [.int .i64 (.ofNat 3),.bool false] .l .e isT=True:=by kernel_rfl
theorem nst2x0:callN funs2 100000 .l p5 [.int .i64 (.ofNat 2),.bool false] .l .e isT=True:=by kernel_rfl
end Go.Proofs.YtphfjjopeghhnaaGreat.X
