/- The closed facts of the row of KernelIdentity, what its card asks of the looks. -/
import Derived.Test.YtcakhpfonailhaaGreatDoorRows
import Derived.JoinedOf
import Derived.KernelRfl
import Derived.SevenTiedAt
namespace Go.Proofs.YtcakhpfonailhaaGreatDoor
namespace kernelIdentity
theorem cl:true=Tryz.pinned.checked.prog.looks []:=by kernel_rfl
end kernelIdentity
end Go.Proofs.YtcakhpfonailhaaGreatDoor
