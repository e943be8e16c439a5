/- The closed facts of the row of KernelVars, what its card asks of the looks. -/
import Derived.Test.YtcakhpfonailhaaGreatDoorRows
import Derived.JoinedOf
import Derived.KernelRfl
import Derived.SevenTiedAt
namespace Go.Proofs.YtcakhpfonailhaaGreatDoor
namespace kernelVars
theorem cl:true=Tryz.pinned.checked.prog.looks []:=by kernel_rfl
end kernelVars
end Go.Proofs.YtcakhpfonailhaaGreatDoor
