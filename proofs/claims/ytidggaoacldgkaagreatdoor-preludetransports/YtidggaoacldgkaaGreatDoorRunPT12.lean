/- PreludeTransports, computed. -/
import Derived.Test.YtidggaoacldgkaaGreatDoorRunPTD
namespace Go.Proofs.YtidggaoacldgkaaGreatDoor.X
set_option maxRecDepth 1000000
set_option maxHeartbeats 200000000
theorem pt12:rpt 12=True:=by kernel_rfl
theorem pt19:rpt 19=True:=by kernel_rfl
theorem pt44:rpt 44=True:=by kernel_rfl
theorem pt51:rpt 51=True:=by kernel_rfl
theorem pt76:rpt 76=True:=by kernel_rfl
theorem pt83:rpt 83=True:=by kernel_rfl
end Go.Proofs.YtidggaoacldgkaaGreatDoor.X
