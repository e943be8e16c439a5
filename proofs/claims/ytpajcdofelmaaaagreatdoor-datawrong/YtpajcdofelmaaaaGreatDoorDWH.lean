/- The closed facts of the row of DataWrong, what its card asks of the looks. -/
import Derived.Test.YtpajcdofelmaaaaGreatDoorRows
import Derived.JoinedOf
import Derived.KernelRfl
import Derived.SevenTiedAt
namespace Go.Proofs.YtpajcdofelmaaaaGreatDoor
namespace dataWrong
theorem cl:true=Tryz.pinned.checked.prog.looks []:=by kernel_rfl
end dataWrong
end Go.Proofs.YtpajcdofelmaaaaGreatDoor
