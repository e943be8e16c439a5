/- KernelIdentity, computed. -/
import Derived.Test.YtcakhpfonailhaaGreatDoorRunKID
namespace Go.Proofs.YtcakhpfonailhaaGreatDoor.X
set_option maxRecDepth 1000000
theorem ki3x1:rki 3 true=True:=by kernel_rfl
theorem ki4x0:rki 4 false=True:=by kernel_rfl
theorem ki11x1:rki 11 true=True:=by kernel_rfl
theorem ki12x0:rki 12 false=True:=by kernel_rfl
theorem ki19x1:rki 19 true=True:=by kernel_rfl
theorem ki20x0:rki 20 false=True:=by kernel_rfl
theorem ki27x1:rki 27 true=True:=by kernel_rfl
theorem ki28x0:rki 28 false=True:=by kernel_rfl
theorem ki35x1:rki 35 true=True:=by kernel_rfl
theorem ki36x0:rki 36 false=True:=by kernel_rfl
theorem ki43x1:rki 43 true=True:=by kernel_rfl
theorem ki44x0:rki 44 false=True:=by kernel_rfl
theorem ki51x1:rki 51 true=True:=by kernel_rfl
theorem ki52x0:rki 52 false=True:=by kernel_rfl
theorem ki59x1:rki 59 true=True:=by kernel_rfl
theorem ki60x0:rki 60 false=True:=by kernel_rfl
theorem ki67x1:rki 67 true=True:=by kernel_rfl
theorem ki68x0:rki 68 false=True:=by kernel_rfl
theorem ki75x1:rki 75 true=True:=by kernel_rfl
theorem ki76x0:rki 76 false=True:=by kernel_rfl
theorem ki83x1:rki 83 true=True:=by kernel_rfl
theorem ki84x0:rki 84 false=True:=by kernel_rfl
theorem ki91x1:rki 91 true=True:=by kernel_rfl
theorem ki92x0:rki 92 false=True:=by kernel_rfl
theorem ki99x1:rki 99 true=True:=by kernel_rfl
theorem ki100x0:rki 100 false=True:=by kernel_rfl
end Go.Proofs.YtcakhpfonailhaaGreatDoor.X
