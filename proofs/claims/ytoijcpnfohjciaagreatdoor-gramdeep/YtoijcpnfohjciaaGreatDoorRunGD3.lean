/- GramDeep, computed. -/
import Derived.Test.YtoijcpnfohjciaaGreatDoorRunGDD
namespace Go.Proofs.YtoijcpnfohjciaaGreatDoor.X
set_option maxRecDepth 1000000
theorem gd2x1:rgd 2 true=True:=by kernel_rfl
theorem gd13x0:rgd 13 false=True:=by kernel_rfl
theorem gd16x1:rgd 16 true=True:=by kernel_rfl
theorem gd27x0:rgd 27 false=True:=by kernel_rfl
theorem gd30x1:rgd 30 true=True:=by kernel_rfl
theorem gd41x0:rgd 41 false=True:=by kernel_rfl
theorem gd44x1:rgd 44 true=True:=by kernel_rfl
theorem gd55x0:rgd 55 false=True:=by kernel_rfl
theorem gd58x1:rgd 58 true=True:=by kernel_rfl
theorem gd69x0:rgd 69 false=True:=by kernel_rfl
theorem gd72x1:rgd 72 true=True:=by kernel_rfl
end Go.Proofs.YtoijcpnfohjciaaGreatDoor.X
