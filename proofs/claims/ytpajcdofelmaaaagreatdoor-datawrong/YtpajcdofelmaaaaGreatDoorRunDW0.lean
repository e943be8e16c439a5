/- DataWrong, computed. -/
import Derived.Test.YtpajcdofelmaaaaGreatDoorRunDWD
namespace Go.Proofs.YtpajcdofelmaaaaGreatDoor.X
set_option maxRecDepth 1000000
theorem dw0:rdw 0=True:=by kernel_rfl
theorem dw5:rdw 5=True:=by kernel_rfl
theorem dw6:rdw 6=True:=by kernel_rfl
theorem dw11:rdw 11=True:=by kernel_rfl
theorem dw12:rdw 12=True:=by kernel_rfl
theorem dw17:rdw 17=True:=by kernel_rfl
theorem dw18:rdw 18=True:=by kernel_rfl
theorem dwn0 (q:Nat):vdw [.int .i64 (.negSucc q)]=True:=by kernel_rfl
end Go.Proofs.YtpajcdofelmaaaaGreatDoor.X
