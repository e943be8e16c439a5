/- FixNested, computed. -/
import Derived.Test.YtphfjjopeghhnaaGreatTab2
namespace Go.Proofs.YtphfjjopeghhnaaGreat.X
set_option maxRecDepth 1000000
set_option maxHeartbeats 200000000
theorem nst12x0:callN funs2 100000 .l p5 [.int .i64 (.ofNat 12),.bool false] .l .e isT=True:=by kernel_rfl
theorem nst11x0:callN funs2 100000 .l p5 [.int .i64 (.ofNat 11),.bool false] .l .e isT=True:=by kernel_rfl
theorem nst10x0:callN funs2 100000 .l p5 [.int .i64 (.ofNat 10),.bool false] .l .e isT=True:=by kernel_rfl
theorem nst9x0:callN funs2 100000 .l p5 [.int .i64 (.ofNat 9),.bool false] .l .e isT=True:=by kernel_rfl
theorem nst8x0:callN funs2 100000 .l p5 [.int .i64 (.ofNat 8),.bool false] .l .e isT=True:=by kernel_rfl
end Go.Proofs.YtphfjjopeghhnaaGreat.X
