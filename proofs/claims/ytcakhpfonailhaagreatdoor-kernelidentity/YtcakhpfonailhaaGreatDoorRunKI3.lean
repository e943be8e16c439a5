/- KernelIdentity, computed. -/
import Derived.Test.YtcakhpfonailhaaGreatDoorRunKID
namespace Go.Proofs.YtcakhpfonailhaaGreatDoor.X
set_option maxRecDepth 1000000
theorem ki1x1:rki 1 true=True:=by kernel_rfl
theorem ki6x0:rki 6 false=True:=by kernel_rfl
theorem ki9x1:rki 9 true=True:=by kernel_rfl
theorem ki14x0:rki 14 false=True:=by kernel_rfl
theorem ki17x1:rki 17 true=True:=by kernel_rfl
theorem ki22x0:rki 22 false=True:=by kernel_rfl
theorem ki25x1:rki 25 true=True:=by kernel_rfl
theorem ki30x0:rki 30 false=True:=by kernel_rfl
theorem ki33x1:rki 33 true=True:=by kernel_rfl
theorem ki38x0:rki 38 false=True:=by kernel_rfl
theorem ki41x1:rki 41 true=True:=by kernel_rfl
theorem ki46x0:rki 46 false=True:=by kernel_rfl
theorem ki49x1:rki 49 true=True:=by kernel_rfl
theorem ki54x0:rki 54 false=True:=by kernel_rfl
theorem ki57x1:rki 57 true=True:=by kernel_rfl
theorem ki62x0:rki 62 false=True:=by kernel_rfl
theorem ki65x1:rki 65 true=True:=by kernel_rfl
theorem ki70x0:rki 70 false=True:=by kernel_rfl
theorem ki73x1:rki 73 true=True:=by kernel_rfl
theorem ki78x0:rki 78 false=True:=by kernel_rfl
theorem ki81x1:rki 81 true=True:=by kernel_rfl
theorem ki86x0:rki 86 false=True:=by kernel_rfl
theorem ki89x1:rki 89 true=True:=by kernel_rfl
theorem ki94x0:rki 94 false=True:=by kernel_rfl
theorem ki97x1:rki 97 true=True:=by kernel_rfl
end Go.Proofs.YtcakhpfonailhaaGreatDoor.X
