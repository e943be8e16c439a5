/- KernelIdentity, computed. -/
import Derived.Test.YtcakhpfonailhaaGreatDoorRunKID
namespace Go.Proofs.YtcakhpfonailhaaGreatDoor.X
set_option maxRecDepth 1000000
theorem ki2x1:rki 2 true=True:=by kernel_rfl
theorem ki5x0:rki 5 false=True:=by kernel_rfl
theorem ki10x1:rki 10 true=True:=by kernel_rfl
theorem ki13x0:rki 13 false=True:=by kernel_rfl
theorem ki18x1:rki 18 true=True:=by kernel_rfl
theorem ki21x0:rki 21 false=True:=by kernel_rfl
theorem ki26x1:rki 26 true=True:=by kernel_rfl
theorem ki29x0:rki 29 false=True:=by kernel_rfl
theorem ki34x1:rki 34 true=True:=by kernel_rfl
theorem ki37x0:rki 37 false=True:=by kernel_rfl
theorem ki42x1:rki 42 true=True:=by kernel_rfl
theorem ki45x0:rki 45 false=True:=by kernel_rfl
theorem ki50x1:rki 50 true=True:=by kernel_rfl
theorem ki53x0:rki 53 false=True:=by kernel_rfl
theorem ki58x1:rki 58 true=True:=by kernel_rfl
theorem ki61x0:rki 61 false=True:=by kernel_rfl
theorem ki66x1:rki 66 true=True:=by kernel_rfl
theorem ki69x0:rki 69 false=True:=by kernel_rfl
theorem ki74x1:rki 74 true=True:=by kernel_rfl
theorem ki77x0:rki 77 false=True:=by kernel_rfl
theorem ki82x1:rki 82 true=True:=by kernel_rfl
theorem ki85x0:rki 85 false=True:=by kernel_rfl
theorem ki90x1:rki 90 true=True:=by kernel_rfl
theorem ki93x0:rki 93 false=True:=by kernel_rfl
theorem ki98x1:rki 98 true=True:=by kernel_rfl
end Go.Proofs.YtcakhpfonailhaaGreatDoor.X
