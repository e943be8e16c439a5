/- GramDeep, computed. -/
import Derived.Test.YtoijcpnfohjciaaGreatDoorRunGDD
namespace Go.Proofs.YtoijcpnfohjciaaGreatDoor.X
set_option maxRecDepth 1000000
theorem gd4x1:rgd 4 true=True:=by kernel_rfl
theorem gd11x0:rgd 11 false=True:=by kernel_rfl
theorem gd18x1:rgd 18 true=True:=by kernel_rfl
theorem gd25x0:rgd 25 false=True:=by kernel_rfl
theorem gd32x1:rgd 32 true=True:=by kernel_rfl
theorem gd39x0:rgd 39 false=True:=by kernel_rfl
theorem gd46x1:rgd 46 true=True:=by kernel_rfl
theorem gd53x0:rgd 53 false=True:=by kernel_rfl
theorem gd60x1:rgd 60 true=True:=by kernel_rfl
theorem gd67x0:rgd 67 false=True:=by kernel_rfl
theorem gd74x1:rgd 74 true=True:=by kernel_rfl
end Go.Proofs.YtoijcpnfohjciaaGreatDoor.X
