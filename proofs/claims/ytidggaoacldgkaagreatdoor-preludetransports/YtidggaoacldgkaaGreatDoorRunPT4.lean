/- PreludeTransports, computed. -/
import Derived.Test.YtidggaoacldgkaaGreatDoorRunPTD
namespace Go.Proofs.YtidggaoacldgkaaGreatDoor.X
set_option maxRecDepth 1000000
set_option maxHeartbeats 200000000
theorem pt4:rpt 4=True:=by kernel_rfl
theorem pt27:rpt 27=True:=by kernel_rfl
theorem pt36:rpt 36=True:=by kernel_rfl
theorem pt59:rpt 59=True:=by kernel_rfl
theorem pt68:rpt 68=True:=by kernel_rfl
theorem pt91:rpt 91=True:=by kernel_rfl
theorem pt100:rpt 100=True:=by kernel_rfl
end Go.Proofs.YtidggaoacldgkaaGreatDoor.X
