/- DataWrong, computed. -/
import Derived.Test.YtpajcdofelmaaaaGreatDoorRunDWD
namespace Go.Proofs.YtpajcdofelmaaaaGreatDoor.X
set_option maxRecDepth 1000000
theorem dw1:rdw 1=True:=by kernel_rfl
theorem dw4:rdw 4=True:=by kernel_rfl
theorem dw7:rdw 7=True:=by kernel_rfl
theorem dw10:rdw 10=True:=by kernel_rfl
theorem dw13:rdw 13=True:=by kernel_rfl
theorem dw16:rdw 16=True:=by kernel_rfl
theorem dw19:rdw 19=True:=by kernel_rfl
theorem dwf0 (q:Nat):vdw [.int .i64 (.ofNat (q+21))]=True:=by kernel_rfl
end Go.Proofs.YtpajcdofelmaaaaGreatDoor.X
