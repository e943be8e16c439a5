/- The closed facts of the row of DataPlaces, what its card asks of the looks. -/
import Derived.Test.YtkcpnbfhoamlfaaGreatDoorRows
import Derived.JoinedOf
import Derived.KernelRfl
import Derived.SevenTiedAt
namespace Go.Proofs.YtkcpnbfhoamlfaaGreatDoor
namespace dataPlaces
theorem cl : true = Tryz.pinned.checked.prog.looks [] := by kernel_rfl
end dataPlaces
end Go.Proofs.YtkcpnbfhoamlfaaGreatDoor
