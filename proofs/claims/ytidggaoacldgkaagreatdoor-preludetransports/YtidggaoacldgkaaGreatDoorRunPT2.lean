/- PreludeTransports, computed. -/
import Derived.Test.YtidggaoacldgkaaGreatDoorRunPTD
namespace Go.Proofs.YtidggaoacldgkaaGreatDoor.X
set_option maxRecDepth 1000000
set_option maxHeartbeats 200000000
theorem pt2:rpt 2=True:=by kernel_rfl
theorem pt29:rpt 29=True:=by kernel_rfl
theorem pt34:rpt 34=True:=by kernel_rfl
theorem pt61:rpt 61=True:=by kernel_rfl
theorem pt66:rpt 66=True:=by kernel_rfl
theorem pt93:rpt 93=True:=by kernel_rfl
theorem pt98:rpt 98=True:=by kernel_rfl
end Go.Proofs.YtidggaoacldgkaaGreatDoor.X
