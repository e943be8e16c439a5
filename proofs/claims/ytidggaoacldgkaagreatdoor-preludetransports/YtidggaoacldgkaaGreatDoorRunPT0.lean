/- PreludeTransports, computed. -/
import Derived.Test.YtidggaoacldgkaaGreatDoorRunPTD
namespace Go.Proofs.YtidggaoacldgkaaGreatDoor.X
set_option maxRecDepth 1000000
set_option maxHeartbeats 200000000
theorem pt0:rpt 0=True:=by kernel_rfl
theorem pt31:rpt 31=True:=by kernel_rfl
theorem pt32:rpt 32=True:=by kernel_rfl
theorem pt63:rpt 63=True:=by kernel_rfl
theorem pt64:rpt 64=True:=by kernel_rfl
theorem pt95:rpt 95=True:=by kernel_rfl
theorem pt96:rpt 96=True:=by kernel_rfl
theorem ptn0 (q:Nat):vpt [.int .i64 (.negSucc q)]=True:=by kernel_rfl
end Go.Proofs.YtidggaoacldgkaaGreatDoor.X
