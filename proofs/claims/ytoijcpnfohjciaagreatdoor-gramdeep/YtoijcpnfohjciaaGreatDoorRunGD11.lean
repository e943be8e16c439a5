/- GramDeep, computed. -/
import Derived.Test.YtoijcpnfohjciaaGreatDoorRunGDD
namespace Go.Proofs.YtoijcpnfohjciaaGreatDoor.X
set_option maxRecDepth 1000000
theorem gd6x1:rgd 6 true=True:=by kernel_rfl
theorem gd9x0:rgd 9 false=True:=by kernel_rfl
theorem gd20x1:rgd 20 true=True:=by kernel_rfl
theorem gd23x0:rgd 23 false=True:=by kernel_rfl
theorem gd34x1:rgd 34 true=True:=by kernel_rfl
theorem gd37x0:rgd 37 false=True:=by kernel_rfl
theorem gd48x1:rgd 48 true=True:=by kernel_rfl
theorem gd51x0:rgd 51 false=True:=by kernel_rfl
theorem gd62x1:rgd 62 true=True:=by kernel_rfl
theorem gd65x0:rgd 65 false=True:=by kernel_rfl
theorem gd76x1:rgd 76 true=True:=by kernel_rfl
theorem gd79x0:rgd 79 false=True:=by kernel_rfl
end Go.Proofs.YtoijcpnfohjciaaGreatDoor.X
