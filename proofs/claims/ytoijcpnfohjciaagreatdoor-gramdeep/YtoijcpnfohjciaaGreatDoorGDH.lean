/- The closed facts of the row of GramDeep, what its card asks of the looks. -/
import Derived.Test.YtoijcpnfohjciaaGreatDoorRows
import Derived.JoinedOf
import Derived.KernelRfl
import Derived.SevenTiedAt
namespace Go.Proofs.YtoijcpnfohjciaaGreatDoor
namespace gramDeep
theorem cl:true=Tryz.pinned.checked.prog.looks []:=by kernel_rfl
end gramDeep
end Go.Proofs.YtoijcpnfohjciaaGreatDoor
