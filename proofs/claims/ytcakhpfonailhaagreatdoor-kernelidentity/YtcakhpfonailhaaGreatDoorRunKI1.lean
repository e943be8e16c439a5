/- KernelIdentity, computed. -/
import Derived.Test.YtcakhpfonailhaaGreatDoorRunKID
namespace Go.Proofs.YtcakhpfonailhaaGreatDoor.X
set_option maxRecDepth 1000000
theorem ki0x1:rki 0 true=True:=by kernel_rfl
theorem ki7x0:rki 7 false=True:=by kernel_rfl
theorem ki8x1:rki 8 true=True:=by kernel_rfl
theorem ki15x0:rki 15 false=True:=by kernel_rfl
theorem ki16x1:rki 16 true=True:=by kernel_rfl
theorem ki23x0:rki 23 false=True:=by kernel_rfl
theorem ki24x1:rki 24 true=True:=by kernel_rfl
theorem ki31x0:rki 31 false=True:=by kernel_rfl
theorem ki32x1:rki 32 true=True:=by kernel_rfl
theorem ki39x0:rki 39 false=True:=by kernel_rfl
theorem ki40x1:rki 40 true=True:=by kernel_rfl
theorem ki47x0:rki 47 false=True:=by kernel_rfl
theorem ki48x1:rki 48 true=True:=by kernel_rfl
theorem ki55x0:rki 55 false=True:=by kernel_rfl
theorem ki56x1:rki 56 true=True:=by kernel_rfl
theorem ki63x0:rki 63 false=True:=by kernel_rfl
theorem ki64x1:rki 64 true=True:=by kernel_rfl
theorem ki71x0:rki 71 false=True:=by kernel_rfl
theorem ki72x1:rki 72 true=True:=by kernel_rfl
theorem ki79x0:rki 79 false=True:=by kernel_rfl
theorem ki80x1:rki 80 true=True:=by kernel_rfl
theorem ki87x0:rki 87 false=True:=by kernel_rfl
theorem ki88x1:rki 88 true=True:=by kernel_rfl
theorem ki95x0:rki 95 false=True:=by kernel_rfl
theorem ki96x1:rki 96 true=True:=by kernel_rfl
theorem kif0 (q:Nat) (up:Bool):vki [.int .i64 (.ofNat (q+101)),.bool up]=True:=by kernel_rfl
end Go.Proofs.YtcakhpfonailhaaGreatDoor.X
