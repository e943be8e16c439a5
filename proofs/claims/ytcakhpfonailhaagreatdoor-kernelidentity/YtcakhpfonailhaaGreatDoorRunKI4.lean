/- KernelIdentity, computed. -/
import Derived.Test.YtcakhpfonailhaaGreatDoorRunKID
namespace Go.Proofs.YtcakhpfonailhaaGreatDoor.X
set_option maxRecDepth 1000000
theorem ki2x0:rki 2 false=True:=by kernel_rfl
theorem ki5x1:rki 5 true=True:=by kernel_rfl
theorem ki10x0:rki 10 false=True:=by kernel_rfl
theorem ki13x1:rki 13 true=True:=by kernel_rfl
theorem ki18x0:rki 18 false=True:=by kernel_rfl
theorem ki21x1:rki 21 true=True:=by kernel_rfl
theorem ki26x0:rki 26 false=True:=by kernel_rfl
theorem ki29x1:rki 29 true=True:=by kernel_rfl
theorem ki34x0:rki 34 false=True:=by kernel_rfl
theorem ki37x1:rki 37 true=True:=by kernel_rfl
theorem ki42x0:rki 42 false=True:=by kernel_rfl
theorem ki45x1:rki 45 true=True:=by kernel_rfl
theorem ki50x0:rki 50 false=True:=by kernel_rfl
theorem ki53x1:rki 53 true=True:=by kernel_rfl
theorem ki58x0:rki 58 false=True:=by kernel_rfl
theorem ki61x1:rki 61 true=True:=by kernel_rfl
theorem ki66x0:rki 66 false=True:=by kernel_rfl
theorem ki69x1:rki 69 true=True:=by kernel_rfl
theorem ki74x0:rki 74 false=True:=by kernel_rfl
theorem ki77x1:rki 77 true=True:=by kernel_rfl
theorem ki82x0:rki 82 false=True:=by kernel_rfl
theorem ki85x1:rki 85 true=True:=by kernel_rfl
theorem ki90x0:rki 90 false=True:=by kernel_rfl
theorem ki93x1:rki 93 true=True:=by kernel_rfl
theorem ki98x0:rki 98 false=True:=by kernel_rfl
end Go.Proofs.YtcakhpfonailhaaGreatDoor.X
