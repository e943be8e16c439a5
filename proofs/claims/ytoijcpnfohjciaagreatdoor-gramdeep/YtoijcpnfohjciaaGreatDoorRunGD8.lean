/- GramDeep, computed. -/
import Derived.Test.YtoijcpnfohjciaaGreatDoorRunGDD
namespace Go.Proofs.YtoijcpnfohjciaaGreatDoor.X
set_option maxRecDepth 1000000
theorem gd5x0:rgd 5 false=True:=by kernel_rfl
theorem gd10x1:rgd 10 true=True:=by kernel_rfl
theorem gd19x0:rgd 19 false=True:=by kernel_rfl
theorem gd24x1:rgd 24 true=True:=by kernel_rfl
theorem gd33x0:rgd 33 false=True:=by kernel_rfl
theorem gd38x1:rgd 38 true=True:=by kernel_rfl
theorem gd47x0:rgd 47 false=True:=by kernel_rfl
theorem gd52x1:rgd 52 true=True:=by kernel_rfl
theorem gd61x0:rgd 61 false=True:=by kernel_rfl
theorem gd66x1:rgd 66 true=True:=by kernel_rfl
theorem gd75x0:rgd 75 false=True:=by kernel_rfl
theorem gd80x1:rgd 80 true=True:=by kernel_rfl
end Go.Proofs.YtoijcpnfohjciaaGreatDoor.X
