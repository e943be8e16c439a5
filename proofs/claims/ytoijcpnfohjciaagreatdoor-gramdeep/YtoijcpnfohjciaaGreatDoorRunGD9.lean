/- GramDeep, computed. -/
import Derived.Test.YtoijcpnfohjciaaGreatDoorRunGDD
namespace Go.Proofs.YtoijcpnfohjciaaGreatDoor.X
set_option maxRecDepth 1000000
theorem gd5x1:rgd 5 true=True:=by kernel_rfl
theorem gd10x0:rgd 10 false=True:=by kernel_rfl
theorem gd19x1:rgd 19 true=True:=by kernel_rfl
theorem gd24x0:rgd 24 false=True:=by kernel_rfl
theorem gd33x1:rgd 33 true=True:=by kernel_rfl
theorem gd38x0:rgd 38 false=True:=by kernel_rfl
theorem gd47x1:rgd 47 true=True:=by kernel_rfl
theorem gd52x0:rgd 52 false=True:=by kernel_rfl
theorem gd61x1:rgd 61 true=True:=by kernel_rfl
theorem gd66x0:rgd 66 false=True:=by kernel_rfl
theorem gd75x1:rgd 75 true=True:=by kernel_rfl
theorem gd80x0:rgd 80 false=True:=by kernel_rfl
end Go.Proofs.YtoijcpnfohjciaaGreatDoor.X
