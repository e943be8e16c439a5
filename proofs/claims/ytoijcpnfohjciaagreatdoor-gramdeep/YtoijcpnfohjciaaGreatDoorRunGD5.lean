/- GramDeep, computed. -/
import Derived.Test.YtoijcpnfohjciaaGreatDoorRunGDD
namespace Go.Proofs.YtoijcpnfohjciaaGreatDoor.X
set_option maxRecDepth 1000000
theorem gd3x1:rgd 3 true=True:=by kernel_rfl
theorem gd12x0:rgd 12 false=True:=by kernel_rfl
theorem gd17x1:rgd 17 true=True:=by kernel_rfl
theorem gd26x0:rgd 26 false=True:=by kernel_rfl
theorem gd31x1:rgd 31 true=True:=by kernel_rfl
theorem gd40x0:rgd 40 false=True:=by kernel_rfl
theorem gd45x1:rgd 45 true=True:=by kernel_rfl
theorem gd54x0:rgd 54 false=True:=by kernel_rfl
theorem gd59x1:rgd 59 true=True:=by kernel_rfl
theorem gd68x0:rgd 68 false=True:=by kernel_rfl
theorem gd73x1:rgd 73 true=True:=by kernel_rfl
end Go.Proofs.YtoijcpnfohjciaaGreatDoor.X
