/- GramDeep, computed. -/
import Derived.Test.YtoijcpnfohjciaaGreatDoorRunGDD
namespace Go.Proofs.YtoijcpnfohjciaaGreatDoor.X
set_option maxRecDepth 1000000
theorem gd3x0:rgd 3 false=True:=by kernel_rfl
theorem gd12x1:rgd 12 true=True:=by kernel_rfl
theorem gd17x0:rgd 17 false=True:=by kernel_rfl
theorem gd26x1:rgd 26 true=True:=by kernel_rfl
theorem gd31x0:rgd 31 false=True:=by kernel_rfl
theorem gd40x1:rgd 40 true=True:=by kernel_rfl
theorem gd45x0:rgd 45 false=True:=by kernel_rfl
theorem gd54x1:rgd 54 true=True:=by kernel_rfl
theorem gd59x0:rgd 59 false=True:=by kernel_rfl
theorem gd68x1:rgd 68 true=True:=by kernel_rfl
theorem gd73x0:rgd 73 false=True:=by kernel_rfl
end Go.Proofs.YtoijcpnfohjciaaGreatDoor.X
