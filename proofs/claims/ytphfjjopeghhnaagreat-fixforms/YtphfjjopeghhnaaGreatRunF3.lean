/- FixForms, computed. -/
import Derived.Test.YtphfjjopeghhnaaGreatTab2
namespace Go.Proofs.YtphfjjopeghhnaaGreat.X
set_option maxRecDepth 1000000
theorem forms25:callN funs2 100000 .l p3 [.int .i64 (.ofNat 25)] .l .e isT=True:=by kernel_rfl
theorem forms26:callN funs2 100000 .l p3 [.int .i64 (.ofNat 26)] .l .e isT=True:=by kernel_rfl
theorem forms27:callN funs2 100000 .l p3 [.int .i64 (.ofNat 27)] .l .e isT=True:=by kernel_rfl
theorem forms28:callN funs2 100000 .l p3 [.int .i64 (.ofNat 28)] .l .e isT=True:=by kernel_rfl
theorem forms29:callN funs2 100000 .l p3 [.int .i64 (.ofNat 29)] .l .e isT=True:=by kernel_rfl
theorem forms30:callN funs2 100000 .l p3 [.int .i64 (.ofNat 30)] .l .e isT=True:=by kernel_rfl
theorem forms31:callN funs2 100000 .l p3 [.int .i64 (.ofNat 31)] .l .e isT=True:=by kernel_rfl
theorem forms32:callN funs2 100000 .l p3 [.int .i64 (.ofNat 32)] .l .e isT=True:=by kernel_rfl
theorem forms33:callN funs2 100000 .l p3 [.int .i64 (.ofNat 33)] .l .e isT=True:=by kernel_rfl
end Go.Proofs.YtphfjjopeghhnaaGreat.X
