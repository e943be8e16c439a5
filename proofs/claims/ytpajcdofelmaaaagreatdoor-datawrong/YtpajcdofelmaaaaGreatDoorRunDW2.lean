/- DataWrong, computed. -/
import Derived.Test.YtpajcdofelmaaaaGreatDoorRunDWD
namespace Go.Proofs.YtpajcdofelmaaaaGreatDoor.X
set_option maxRecDepth 1000000
theorem dw2:rdw 2=True:=by kernel_rfl
theorem dw3:rdw 3=True:=by kernel_rfl
theorem dw8:rdw 8=True:=by kernel_rfl
theorem dw9:rdw 9=True:=by kernel_rfl
theorem dw14:rdw 14=True:=by kernel_rfl
theorem dw15:rdw 15=True:=by kernel_rfl
theorem dw20:rdw 20=True:=by kernel_rfl
end Go.Proofs.YtpajcdofelmaaaaGreatDoor.X
