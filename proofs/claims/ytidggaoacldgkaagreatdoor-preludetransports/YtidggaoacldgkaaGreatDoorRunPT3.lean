/- PreludeTransports, computed. -/
import Derived.Test.YtidggaoacldgkaaGreatDoorRunPTD
namespace Go.Proofs.YtidggaoacldgkaaGreatDoor.X
set_option maxRecDepth 1000000
set_option maxHeartbeats 200000000
theorem pt3:rpt 3=True:=by kernel_rfl
theorem pt28:rpt 28=True:=by kernel_rfl
theorem pt35:rpt 35=True:=by kernel_rfl
theorem pt60:rpt 60=True:=by kernel_rfl
theorem pt67:rpt 67=True:=by kernel_rfl
theorem pt92:rpt 92=True:=by kernel_rfl
theorem pt99:rpt 99=True:=by kernel_rfl
end Go.Proofs.YtidggaoacldgkaaGreatDoor.X
