/- GramDeep, computed. -/
import Derived.Test.YtoijcpnfohjciaaGreatDoorRunGDD
namespace Go.Proofs.YtoijcpnfohjciaaGreatDoor.X
set_option maxRecDepth 1000000
theorem gd7x0:rgd 7 false=True:=by kernel_rfl
theorem gd8x1:rgd 8 true=True:=by kernel_rfl
theorem gd21x0:rgd 21 false=True:=by kernel_rfl
theorem gd22x1:rgd 22 true=True:=by kernel_rfl
theorem gd35x0:rgd 35 false=True:=by kernel_rfl
theorem gd36x1:rgd 36 true=True:=by kernel_rfl
theorem gd49x0:rgd 49 false=True:=by kernel_rfl
theorem gd50x1:rgd 50 true=True:=by kernel_rfl
theorem gd63x0:rgd 63 false=True:=by kernel_rfl
theorem gd64x1:rgd 64 true=True:=by kernel_rfl
theorem gd77x0:rgd 77 false=True:=by kernel_rfl
theorem gd78x1:rgd 78 true=True:=by kernel_rfl
end Go.Proofs.YtoijcpnfohjciaaGreatDoor.X
