/- GramWrong, computed. -/
import Derived.Test.YtoijcpnfohjciaaGreatDoorRunGWD
namespace Go.Proofs.YtoijcpnfohjciaaGreatDoor.X
set_option maxRecDepth 1000000
theorem gw1:rgw 1=True:=by kernel_rfl
theorem gw2:rgw 2=True:=by kernel_rfl
theorem gw5:rgw 5=True:=by kernel_rfl
theorem gw6:rgw 6=True:=by kernel_rfl
theorem gw9:rgw 9=True:=by kernel_rfl
theorem gw10:rgw 10=True:=by kernel_rfl
theorem gw13:rgw 13=True:=by kernel_rfl
theorem gw14:rgw 14=True:=by kernel_rfl
theorem gw17:rgw 17=True:=by kernel_rfl
theorem gw18:rgw 18=True:=by kernel_rfl
theorem gw21:rgw 21=True:=by kernel_rfl
theorem gw22:rgw 22=True:=by kernel_rfl
theorem gw25:rgw 25=True:=by kernel_rfl
theorem gw26:rgw 26=True:=by kernel_rfl
theorem gw29:rgw 29=True:=by kernel_rfl
theorem gwf0 (q:Nat):vgw [.int .i64 (.ofNat (q+30))]=True:=by kernel_rfl
end Go.Proofs.YtoijcpnfohjciaaGreatDoor.X
