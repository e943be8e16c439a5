/- GramDeep, computed. -/
import Derived.Test.YtoijcpnfohjciaaGreatDoorRunGDD
namespace Go.Proofs.YtoijcpnfohjciaaGreatDoor.X
set_option maxRecDepth 1000000
theorem gd6x0:rgd 6 false=True:=by kernel_rfl
theorem gd9x1:rgd 9 true=True:=by kernel_rfl
theorem gd20x0:rgd 20 false=True:=by kernel_rfl
theorem gd23x1:rgd 23 true=True:=by kernel_rfl
theorem gd34x0:rgd 34 false=True:=by kernel_rfl
theorem gd37x1:rgd 37 true=True:=by kernel_rfl
theorem gd48x0:rgd 48 false=True:=by kernel_rfl
theorem gd51x1:rgd 51 true=True:=by kernel_rfl
theorem gd62x0:rgd 62 false=True:=by kernel_rfl
theorem gd65x1:rgd 65 true=True:=by kernel_rfl
theorem gd76x0:rgd 76 false=True:=by kernel_rfl
theorem gd79x1:rgd 79 true=True:=by kernel_rfl
end Go.Proofs.YtoijcpnfohjciaaGreatDoor.X
