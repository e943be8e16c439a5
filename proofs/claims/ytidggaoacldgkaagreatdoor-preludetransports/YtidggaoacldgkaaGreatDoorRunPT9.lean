/- PreludeTransports, computed. -/
import Derived.Test.YtidggaoacldgkaaGreatDoorRunPTD
namespace Go.Proofs.YtidggaoacldgkaaGreatDoor.X
set_option maxRecDepth 1000000
set_option maxHeartbeats 200000000
theorem pt9:rpt 9=True:=by kernel_rfl
theorem pt22:rpt 22=True:=by kernel_rfl
theorem pt41:rpt 41=True:=by kernel_rfl
theorem pt54:rpt 54=True:=by kernel_rfl
theorem pt73:rpt 73=True:=by kernel_rfl
theorem pt86:rpt 86=True:=by kernel_rfl
end Go.Proofs.YtidggaoacldgkaaGreatDoor.X
