/- GramDeep, computed. -/
import Derived.Test.YtoijcpnfohjciaaGreatDoorRunGDD
namespace Go.Proofs.YtoijcpnfohjciaaGreatDoor.X
set_option maxRecDepth 1000000
theorem gd7x1:rgd 7 true=True:=by kernel_rfl
theorem gd8x0:rgd 8 false=True:=by kernel_rfl
theorem gd21x1:rgd 21 true=True:=by kernel_rfl
theorem gd22x0:rgd 22 false=True:=by kernel_rfl
theorem gd35x1:rgd 35 true=True:=by kernel_rfl
theorem gd36x0:rgd 36 false=True:=by kernel_rfl
theorem gd49x1:rgd 49 true=True:=by kernel_rfl
theorem gd50x0:rgd 50 false=True:=by kernel_rfl
theorem gd63x1:rgd 63 true=True:=by kernel_rfl
theorem gd64x0:rgd 64 false=True:=by kernel_rfl
theorem gd77x1:rgd 77 true=True:=by kernel_rfl
theorem gd78x0:rgd 78 false=True:=by kernel_rfl
end Go.Proofs.YtoijcpnfohjciaaGreatDoor.X
