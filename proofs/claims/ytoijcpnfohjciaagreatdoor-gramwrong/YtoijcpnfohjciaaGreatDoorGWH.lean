/- The closed facts of the row of GramWrong, what its card asks of the looks. -/
import Derived.Test.YtoijcpnfohjciaaGreatDoorRows
import Derived.JoinedOf
import Derived.KernelRfl
import Derived.SevenTiedAt
namespace Go.Proofs.YtoijcpnfohjciaaGreatDoor
namespace gramWrong
theorem cl:true=Tryz.pinned.checked.prog.looks []:=by kernel_rfl
end gramWrong
end Go.Proofs.YtoijcpnfohjciaaGreatDoor
