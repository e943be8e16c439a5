/- GramWrong, computed. -/
import Derived.Test.YtoijcpnfohjciaaGreatDoorRunGWD
namespace Go.Proofs.YtoijcpnfohjciaaGreatDoor.X
set_option maxRecDepth 1000000
theorem gw0:rgw 0=True:=by kernel_rfl
theorem gw3:rgw 3=True:=by kernel_rfl
theorem gw4:rgw 4=True:=by kernel_rfl
theorem gw7:rgw 7=True:=by kernel_rfl
theorem gw8:rgw 8=True:=by kernel_rfl
theorem gw11:rgw 11=True:=by kernel_rfl
theorem gw12:rgw 12=True:=by kernel_rfl
theorem gw15:rgw 15=True:=by kernel_rfl
theorem gw16:rgw 16=True:=by kernel_rfl
theorem gw19:rgw 19=True:=by kernel_rfl
theorem gw20:rgw 20=True:=by kernel_rfl
theorem gw23:rgw 23=True:=by kernel_rfl
theorem gw24:rgw 24=True:=by kernel_rfl
theorem gw27:rgw 27=True:=by kernel_rfl
theorem gw28:rgw 28=True:=by kernel_rfl
theorem gwn0 (q:Nat):vgw [.int .i64 (.negSucc q)]=True:=by kernel_rfl
end Go.Proofs.YtoijcpnfohjciaaGreatDoor.X
