/- PreludeTransports, computed. -/
import Derived.Test.YtidggaoacldgkaaGreatDoorRunPTD
namespace Go.Proofs.YtidggaoacldgkaaGreatDoor.X
set_option maxRecDepth 1000000
set_option maxHeartbeats 200000000
theorem pt10:rpt 10=True:=by kernel_rfl
theorem pt21:rpt 21=True:=by kernel_rfl
theorem pt42:rpt 42=True:=by kernel_rfl
theorem pt53:rpt 53=True:=by kernel_rfl
theorem pt74:rpt 74=True:=by kernel_rfl
theorem pt85:rpt 85=True:=by kernel_rfl
end Go.Proofs.YtidggaoacldgkaaGreatDoor.X
