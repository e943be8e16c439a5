/- PreludeTransports, computed. -/
import Derived.Test.YtidggaoacldgkaaGreatDoorRunPTD
namespace Go.Proofs.YtidggaoacldgkaaGreatDoor.X
set_option maxRecDepth 1000000
set_option maxHeartbeats 200000000
theorem pt8:rpt 8=True:=by kernel_rfl
theorem pt23:rpt 23=True:=by kernel_rfl
theorem pt40:rpt 40=True:=by kernel_rfl
theorem pt55:rpt 55=True:=by kernel_rfl
theorem pt72:rpt 72=True:=by kernel_rfl
theorem pt87:rpt 87=True:=by kernel_rfl
end Go.Proofs.YtidggaoacldgkaaGreatDoor.X
