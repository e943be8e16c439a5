/- KernelIdentity, computed. -/
import Derived.Test.YtcakhpfonailhaaGreatDoorRunKID
namespace Go.Proofs.YtcakhpfonailhaaGreatDoor.X
set_option maxRecDepth 1000000
theorem ki0x0:rki 0 false=True:=by kernel_rfl
theorem ki7x1:rki 7 true=True:=by kernel_rfl
theorem ki8x0:rki 8 false=True:=by kernel_rfl
theorem ki15x1:rki 15 true=True:=by kernel_rfl
theorem ki16x0:rki 16 false=True:=by kernel_rfl
theorem ki23x1:rki 23 true=True:=by kernel_rfl
theorem ki24x0:rki 24 false=True:=by kernel_rfl
theorem ki31x1:rki 31 true=True:=by kernel_rfl
theorem ki32x0:rki 32 false=True:=by kernel_rfl
theorem ki39x1:rki 39 true=True:=by kernel_rfl
theorem ki40x0:rki 40 false=True:=by kernel_rfl
theorem ki47x1:rki 47 true=True:=by kernel_rfl
theorem ki48x0:rki 48 false=True:=by kernel_rfl
theorem ki55x1:rki 55 true=True:=by kernel_rfl
theorem ki56x0:rki 56 false=True:=by kernel_rfl
theorem ki63x1:rki 63 true=True:=by kernel_rfl
theorem ki64x0:rki 64 false=True:=by kernel_rfl
theorem ki71x1:rki 71 true=True:=by kernel_rfl
theorem ki72x0:rki 72 false=True:=by kernel_rfl
theorem ki79x1:rki 79 true=True:=by kernel_rfl
theorem ki80x0:rki 80 false=True:=by kernel_rfl
theorem ki87x1:rki 87 true=True:=by kernel_rfl
theorem ki88x0:rki 88 false=True:=by kernel_rfl
theorem ki95x1:rki 95 true=True:=by kernel_rfl
theorem ki96x0:rki 96 false=True:=by kernel_rfl
theorem kin0 (q:Nat) (up:Bool):vki [.int .i64 (.negSucc q),.bool up]=True:=by kernel_rfl
end Go.Proofs.YtcakhpfonailhaaGreatDoor.X
