/- PreludeTransports, computed. -/
import Derived.Test.YtidggaoacldgkaaGreatDoorRunPTD
namespace Go.Proofs.YtidggaoacldgkaaGreatDoor.X
set_option maxRecDepth 1000000
set_option maxHeartbeats 200000000
theorem pt13:rpt 13=True:=by kernel_rfl
theorem pt18:rpt 18=True:=by kernel_rfl
theorem pt45:rpt 45=True:=by kernel_rfl
theorem pt50:rpt 50=True:=by kernel_rfl
theorem pt77:rpt 77=True:=by kernel_rfl
theorem pt82:rpt 82=True:=by kernel_rfl
end Go.Proofs.YtidggaoacldgkaaGreatDoor.X
