/- FixForms, computed. -/
import Derived.Test.YtphfjjopeghhnaaGreatTab2
namespace Go.Proofs.YtphfjjopeghhnaaGreat.X
set_option maxRecDepth 1000000
theorem formsneg (k:Nat):callN funs2 100000 .l p3 [.int .i64 (.negSucc k)] .l .e isT=True:=by kernel_rfl
theorem formsfar (k:Nat):callN funs2 100000 .l p3 [.int .i64 (.ofNat (k+34))] .l .e isT=True:=by kernel_rfl
theorem forms0:callN funs2 100000 .l p3 [.int .i64 (.ofNat 0)] .l .e isT=True:=by kernel_rfl
theorem forms1:callN funs2 100000 .l p3 [.int .i64 (.ofNat 1)] .l .e isT=True:=by kernel_rfl
theorem forms2:callN funs2 100000 .l p3 [.int .i64 (.ofNat 2)] .l .e isT=True:=by kernel_rfl
theorem forms3:callN funs2 100000 .l p3 [.int .i64 (.ofNat 3)] .l .e isT=True:=by kernel_rfl
theorem forms4:callN funs2 100000 .l p3 [.int .i64 (.ofNat 4)] .l .e isT=True:=by kernel_rfl
theorem forms5:callN funs2 100000 .l p3 [.int .i64 (.ofNat 5)] .l .e isT=True:=by kernel_rfl
theorem forms6:callN funs2 100000 .l p3 [.int .i64 (.ofNat 6)] .l .e isT=True:=by kernel_rfl
end Go.Proofs.YtphfjjopeghhnaaGreat.X
