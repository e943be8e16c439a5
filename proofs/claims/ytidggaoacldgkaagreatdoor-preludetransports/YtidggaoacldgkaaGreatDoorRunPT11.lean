/- PreludeTransports, computed. -/
import Derived.Test.YtidggaoacldgkaaGreatDoorRunPTD
namespace Go.Proofs.YtidggaoacldgkaaGreatDoor.X
set_option maxRecDepth 1000000
set_option maxHeartbeats 200000000
theorem pt11:rpt 11=True:=by kernel_rfl
theorem pt20:rpt 20=True:=by kernel_rfl
theorem pt43:rpt 43=True:=by kernel_rfl
theorem pt52:rpt 52=True:=by kernel_rfl
theorem pt75:rpt 75=True:=by kernel_rfl
theorem pt84:rpt 84=True:=by kernel_rfl
end Go.Proofs.YtidggaoacldgkaaGreatDoor.X
