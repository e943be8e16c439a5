/- The closed facts of the row of GramBinds, what its card asks of the looks. -/
import Derived.Test.YtoijcpnfohjciaaGreatDoorRows
import Derived.JoinedOf
import Derived.KernelRfl
import Derived.SevenTiedAt
namespace Go.Proofs.YtoijcpnfohjciaaGreatDoor
namespace gramBinds
theorem cl:true=Tryz.pinned.checked.prog.looks []:=by kernel_rfl
end gramBinds
end Go.Proofs.YtoijcpnfohjciaaGreatDoor
