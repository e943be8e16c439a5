/- PreludeTransports, computed. -/
import Derived.Test.YtidggaoacldgkaaGreatDoorRunPTD
namespace Go.Proofs.YtidggaoacldgkaaGreatDoor.X
set_option maxRecDepth 1000000
set_option maxHeartbeats 200000000
theorem pt6:rpt 6=True:=by kernel_rfl
theorem pt25:rpt 25=True:=by kernel_rfl
theorem pt38:rpt 38=True:=by kernel_rfl
theorem pt57:rpt 57=True:=by kernel_rfl
theorem pt70:rpt 70=True:=by kernel_rfl
theorem pt89:rpt 89=True:=by kernel_rfl
end Go.Proofs.YtidggaoacldgkaaGreatDoor.X
