/- FixForms, computed. -/
import Derived.Test.YtphfjjopeghhnaaGreatTab2
namespace Go.Proofs.YtphfjjopeghhnaaGreat.X
set_option maxRecDepth 1000000
theorem forms16:callN funs2 100000 .l p3 [.int .i64 (.ofNat 16)] .l .e isT=True:=by kernel_rfl
theorem forms17:callN funs2 100000 .l p3 [.int .i64 (.ofNat 17)] .l .e isT=True:=by kernel_rfl
theorem forms18:callN funs2 100000 .l p3 [.int .i64 (.ofNat 18)] .l .e isT=True:=by kernel_rfl
theorem forms19:callN funs2 100000 .l p3 [.int .i64 (.ofNat 19)] .l .e isT=True:=by kernel_rfl
theorem forms20:callN funs2 100000 .l p3 [.int .i64 (.ofNat 20)] .l .e isT=True:=by kernel_rfl
theorem forms21:callN funs2 100000 .l p3 [.int .i64 (.ofNat 21)] .l .e isT=True:=by kernel_rfl
theorem forms22:callN funs2 100000 .l p3 [.int .i64 (.ofNat 22)] .l .e isT=True:=by kernel_rfl
theorem forms23:callN funs2 100000 .l p3 [.int .i64 (.ofNat 23)] .l .e isT=True:=by kernel_rfl
theorem forms24:callN funs2 100000 .l p3 [.int .i64 (.ofNat 24)] .l .e isT=True:=by kernel_rfl
end Go.Proofs.YtphfjjopeghhnaaGreat.X
