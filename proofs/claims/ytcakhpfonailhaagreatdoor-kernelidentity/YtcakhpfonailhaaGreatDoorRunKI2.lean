/- KernelIdentity, computed. -/
import Derived.Test.YtcakhpfonailhaaGreatDoorRunKID
namespace Go.Proofs.YtcakhpfonailhaaGreatDoor.X
set_option maxRecDepth 1000000
theorem ki1x0:rki 1 false=True:=by kernel_rfl
theorem ki6x1:rki 6 true=True:=by kernel_rfl
theorem ki9x0:rki 9 false=True:=by kernel_rfl
theorem ki14x1:rki 14 true=True:=by kernel_rfl
theorem ki17x0:rki 17 false=True:=by kernel_rfl
theorem ki22x1:rki 22 true=True:=by kernel_rfl
theorem ki25x0:rki 25 false=True:=by kernel_rfl
theorem ki30x1:rki 30 true=True:=by kernel_rfl
theorem ki33x0:rki 33 false=True:=by kernel_rfl
theorem ki38x1:rki 38 true=True:=by kernel_rfl
theorem ki41x0:rki 41 false=True:=by kernel_rfl
theorem ki46x1:rki 46 true=True:=by kernel_rfl
theorem ki49x0:rki 49 false=True:=by kernel_rfl
theorem ki54x1:rki 54 true=True:=by kernel_rfl
theorem ki57x0:rki 57 false=True:=by kernel_rfl
theorem ki62x1:rki 62 true=True:=by kernel_rfl
theorem ki65x0:rki 65 false=True:=by kernel_rfl
theorem ki70x1:rki 70 true=True:=by kernel_rfl
theorem ki73x0:rki 73 false=True:=by kernel_rfl
theorem ki78x1:rki 78 true=True:=by kernel_rfl
theorem ki81x0:rki 81 false=True:=by kernel_rfl
theorem ki86x1:rki 86 true=True:=by kernel_rfl
theorem ki89x0:rki 89 false=True:=by kernel_rfl
theorem ki94x1:rki 94 true=True:=by kernel_rfl
theorem ki97x0:rki 97 false=True:=by kernel_rfl
end Go.Proofs.YtcakhpfonailhaaGreatDoor.X
