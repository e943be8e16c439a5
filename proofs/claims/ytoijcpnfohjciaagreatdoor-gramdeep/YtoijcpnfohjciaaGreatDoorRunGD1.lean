/- GramDeep, computed. -/
import Derived.Test.YtoijcpnfohjciaaGreatDoorRunGDD
namespace Go.Proofs.YtoijcpnfohjciaaGreatDoor.X
set_option maxRecDepth 1000000
theorem gd1x1:rgd 1 true=True:=by kernel_rfl
theorem gd14x0:rgd 14 false=True:=by kernel_rfl
theorem gd15x1:rgd 15 true=True:=by kernel_rfl
theorem gd28x0:rgd 28 false=True:=by kernel_rfl
theorem gd29x1:rgd 29 true=True:=by kernel_rfl
theorem gd42x0:rgd 42 false=True:=by kernel_rfl
theorem gd43x1:rgd 43 true=True:=by kernel_rfl
theorem gd56x0:rgd 56 false=True:=by kernel_rfl
theorem gd57x1:rgd 57 true=True:=by kernel_rfl
theorem gd70x0:rgd 70 false=True:=by kernel_rfl
theorem gd71x1:rgd 71 true=True:=by kernel_rfl
theorem gdf0 (q:Nat) (modules:Bool):vgd [.int .i64 (.ofNat (q+81)),.bool modules]=True:=by kernel_rfl
end Go.Proofs.YtoijcpnfohjciaaGreatDoor.X
