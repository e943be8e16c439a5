/- KernelIdentity, computed. -/
import Derived.Test.YtcakhpfonailhaaGreatDoorRunKID
namespace Go.Proofs.YtcakhpfonailhaaGreatDoor.X
set_option maxRecDepth 1000000
theorem ki3x0:rki 3 false=True:=by kernel_rfl
theorem ki4x1:rki 4 true=True:=by kernel_rfl
theorem ki11x0:rki 11 false=True:=by kernel_rfl
theorem ki12x1:rki 12 true=True:=by kernel_rfl
theorem ki19x0:rki 19 false=True:=by kernel_rfl
theorem ki20x1:rki 20 true=True:=by kernel_rfl
theorem ki27x0:rki 27 false=True:=by kernel_rfl
theorem ki28x1:rki 28 true=True:=by kernel_rfl
theorem ki35x0:rki 35 false=True:=by kernel_rfl
theorem ki36x1:rki 36 true=True:=by kernel_rfl
theorem ki43x0:rki 43 false=True:=by kernel_rfl
theorem ki44x1:rki 44 true=True:=by kernel_rfl
theorem ki51x0:rki 51 false=True:=by kernel_rfl
theorem ki52x1:rki 52 true=True:=by kernel_rfl
theorem ki59x0:rki 59 false=True:=by kernel_rfl
theorem ki60x1:rki 60 true=True:=by kernel_rfl
theorem ki67x0:rki 67 false=True:=by kernel_rfl
theorem ki68x1:rki 68 true=True:=by kernel_rfl
theorem ki75x0:rki 75 false=True:=by kernel_rfl
theorem ki76x1:rki 76 true=True:=by kernel_rfl
theorem ki83x0:rki 83 false=True:=by kernel_rfl
theorem ki84x1:rki 84 true=True:=by kernel_rfl
theorem ki91x0:rki 91 false=True:=by kernel_rfl
theorem ki92x1:rki 92 true=True:=by kernel_rfl
theorem ki99x0:rki 99 false=True:=by kernel_rfl
theorem ki100x1:rki 100 true=True:=by kernel_rfl
end Go.Proofs.YtcakhpfonailhaaGreatDoor.X
