/- GramDeep, computed. -/
import Derived.Test.YtoijcpnfohjciaaGreatDoorRunGDD
namespace Go.Proofs.YtoijcpnfohjciaaGreatDoor.X
set_option maxRecDepth 1000000
theorem gd4x0:rgd 4 false=True:=by kernel_rfl
theorem gd11x1:rgd 11 true=True:=by kernel_rfl
theorem gd18x0:rgd 18 false=True:=by kernel_rfl
theorem gd25x1:rgd 25 true=True:=by kernel_rfl
theorem gd32x0:rgd 32 false=True:=by kernel_rfl
theorem gd39x1:rgd 39 true=True:=by kernel_rfl
theorem gd46x0:rgd 46 false=True:=by kernel_rfl
theorem gd53x1:rgd 53 true=True:=by kernel_rfl
theorem gd60x0:rgd 60 false=True:=by kernel_rfl
theorem gd67x1:rgd 67 true=True:=by kernel_rfl
theorem gd74x0:rgd 74 false=True:=by kernel_rfl
end Go.Proofs.YtoijcpnfohjciaaGreatDoor.X
