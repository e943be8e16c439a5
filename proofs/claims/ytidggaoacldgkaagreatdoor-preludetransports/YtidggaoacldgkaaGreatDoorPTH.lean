/- The closed facts of the row of PreludeTransports, what its card asks of the looks. -/
import Derived.Test.YtidggaoacldgkaaGreatDoorRows
import Derived.JoinedOf
import Derived.KernelRfl
import Derived.SevenTiedAt
namespace Go.Proofs.YtidggaoacldgkaaGreatDoor
namespace preludeTransports
theorem cl:true=Tryz.pinned.checked.prog.looks []:=by kernel_rfl
end preludeTransports
end Go.Proofs.YtidggaoacldgkaaGreatDoor
