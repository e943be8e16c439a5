/- FixForms, computed. -/
import Derived.Test.YtphfjjopeghhnaaGreatTab2
namespace Go.Proofs.YtphfjjopeghhnaaGreat.X
set_option maxRecDepth 1000000
theorem forms7:callN funs2 100000 .l p3 [.int .i64 (.ofNat 7)] .l .e isT=True:=by kernel_rfl
theorem forms8:callN funs2 100000 .l p3 [.int .i64 (.ofNat 8)] .l .e isT=True:=by kernel_rfl
theorem forms9:callN funs2 100000 .l p3 [.int .i64 (.ofNat 9)] .l .e isT=True:=by kernel_rfl
theorem forms10:callN funs2 100000 .l p3 [.int .i64 (.ofNat 10)] .l .e isT=True:=by kernel_rfl
theorem forms11:callN funs2 100000 .l p3 [.int .i64 (.ofNat 11)] .l .e isT=True:=by kernel_rfl
theorem forms12:callN funs2 100000 .l p3 [.int .i64 (.ofNat 12)] .l .e isT=True:=by kernel_rfl
theorem forms13:callN funs2 100000 .l p3 [.int .i64 (.ofNat 13)] .l .e isT=True:=by kernel_rfl
theorem forms14:callN funs2 100000 .l p3 [.int .i64 (.ofNat 14)] .l .e isT=True:=by kernel_rfl
theorem forms15:callN funs2 100000 .l p3 [.int .i64 (.ofNat 15)] .l .e isT=True:=by kernel_rfl
end Go.Proofs.YtphfjjopeghhnaaGreat.X
