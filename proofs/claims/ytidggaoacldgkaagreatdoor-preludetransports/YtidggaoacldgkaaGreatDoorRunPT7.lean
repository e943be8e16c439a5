/- PreludeTransports, computed. -/
import Derived.Test.YtidggaoacldgkaaGreatDoorRunPTD
namespace Go.Proofs.YtidggaoacldgkaaGreatDoor.X
set_option maxRecDepth 1000000
set_option maxHeartbeats 200000000
theorem pt7:rpt 7=True:=by kernel_rfl
theorem pt24:rpt 24=True:=by kernel_rfl
theorem pt39:rpt 39=True:=by kernel_rfl
theorem pt56:rpt 56=True:=by kernel_rfl
theorem pt71:rpt 71=True:=by kernel_rfl
theorem pt88:rpt 88=True:=by kernel_rfl
end Go.Proofs.YtidggaoacldgkaaGreatDoor.X
