/- PreludeTransports, computed. -/
import Derived.Test.YtidggaoacldgkaaGreatDoorRunPTD
namespace Go.Proofs.YtidggaoacldgkaaGreatDoor.X
set_option maxRecDepth 1000000
set_option maxHeartbeats 200000000
theorem pt14:rpt 14=True:=by kernel_rfl
theorem pt17:rpt 17=True:=by kernel_rfl
theorem pt46:rpt 46=True:=by kernel_rfl
theorem pt49:rpt 49=True:=by kernel_rfl
theorem pt78:rpt 78=True:=by kernel_rfl
theorem pt81:rpt 81=True:=by kernel_rfl
end Go.Proofs.YtidggaoacldgkaaGreatDoor.X
