/- PreludeTransports, computed. -/
import Derived.Test.YtidggaoacldgkaaGreatDoorRunPTD
namespace Go.Proofs.YtidggaoacldgkaaGreatDoor.X
set_option maxRecDepth 1000000
set_option maxHeartbeats 200000000
theorem pt5:rpt 5=True:=by kernel_rfl
theorem pt26:rpt 26=True:=by kernel_rfl
theorem pt37:rpt 37=True:=by kernel_rfl
theorem pt58:rpt 58=True:=by kernel_rfl
theorem pt69:rpt 69=True:=by kernel_rfl
theorem pt90:rpt 90=True:=by kernel_rfl
end Go.Proofs.YtidggaoacldgkaaGreatDoor.X
