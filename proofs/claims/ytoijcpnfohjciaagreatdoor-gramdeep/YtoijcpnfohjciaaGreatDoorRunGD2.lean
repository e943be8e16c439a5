/- GramDeep, computed. -/
import Derived.Test.YtoijcpnfohjciaaGreatDoorRunGDD
namespace Go.Proofs.YtoijcpnfohjciaaGreatDoor.X
set_option maxRecDepth 1000000
theorem gd2x0:rgd 2 false=True:=by kernel_rfl
theorem gd13x1:rgd 13 true=True:=by kernel_rfl
theorem gd16x0:rgd 16 false=True:=by kernel_rfl
theorem gd27x1:rgd 27 true=True:=by kernel_rfl
theorem gd30x0:rgd 30 false=True:=by kernel_rfl
theorem gd41x1:rgd 41 true=True:=by kernel_rfl
theorem gd44x0:rgd 44 false=True:=by kernel_rfl
theorem gd55x1:rgd 55 true=True:=by kernel_rfl
theorem gd58x0:rgd 58 false=True:=by kernel_rfl
theorem gd69x1:rgd 69 true=True:=by kernel_rfl
theorem gd72x0:rgd 72 false=True:=by kernel_rfl
theorem gdl0x0 (modules:Bool):vgd [.int .i64 (.ofNat 0),.bool modules]=True:=by kernel_rfl
end Go.Proofs.YtoijcpnfohjciaaGreatDoor.X
