/- PreludeTransports, computed. -/
import Derived.Test.YtidggaoacldgkaaGreatDoorRunPTD
namespace Go.Proofs.YtidggaoacldgkaaGreatDoor.X
set_option maxRecDepth 1000000
set_option maxHeartbeats 200000000
theorem pt15:rpt 15=True:=by kernel_rfl
theorem pt16:rpt 16=True:=by kernel_rfl
theorem pt47:rpt 47=True:=by kernel_rfl
theorem pt48:rpt 48=True:=by kernel_rfl
theorem pt79:rpt 79=True:=by kernel_rfl
theorem pt80:rpt 80=True:=by kernel_rfl
end Go.Proofs.YtidggaoacldgkaaGreatDoor.X
