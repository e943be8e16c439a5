/- GramDeep, computed. -/
import Derived.Test.YtoijcpnfohjciaaGreatDoorRunGDD
namespace Go.Proofs.YtoijcpnfohjciaaGreatDoor.X
set_option maxRecDepth 1000000
theorem gd1x0:rgd 1 false=True:=by kernel_rfl
theorem gd14x1:rgd 14 true=True:=by kernel_rfl
theorem gd15x0:rgd 15 false=True:=by kernel_rfl
theorem gd28x1:rgd 28 true=True:=by kernel_rfl
theorem gd29x0:rgd 29 false=True:=by kernel_rfl
theorem gd42x1:rgd 42 true=True:=by kernel_rfl
theorem gd43x0:rgd 43 false=True:=by kernel_rfl
theorem gd56x1:rgd 56 true=True:=by kernel_rfl
theorem gd57x0:rgd 57 false=True:=by kernel_rfl
theorem gd70x1:rgd 70 true=True:=by kernel_rfl
theorem gd71x0:rgd 71 false=True:=by kernel_rfl
theorem gdn0 (q:Nat) (modules:Bool):vgd [.int .i64 (.negSucc q),.bool modules]=True:=by kernel_rfl
end Go.Proofs.YtoijcpnfohjciaaGreatDoor.X
