/- PreludeTransports, computed. -/
import Derived.Test.YtidggaoacldgkaaGreatDoorRunPTD
namespace Go.Proofs.YtidggaoacldgkaaGreatDoor.X
set_option maxRecDepth 1000000
set_option maxHeartbeats 200000000
theorem pt1:rpt 1=True:=by kernel_rfl
theorem pt30:rpt 30=True:=by kernel_rfl
theorem pt33:rpt 33=True:=by kernel_rfl
theorem pt62:rpt 62=True:=by kernel_rfl
theorem pt65:rpt 65=True:=by kernel_rfl
theorem pt94:rpt 94=True:=by kernel_rfl
theorem pt97:rpt 97=True:=by kernel_rfl
theorem ptf0 (q:Nat):vpt [.int .i64 (.ofNat (q+101))]=True:=by kernel_rfl
end Go.Proofs.YtidggaoacldgkaaGreatDoor.X
