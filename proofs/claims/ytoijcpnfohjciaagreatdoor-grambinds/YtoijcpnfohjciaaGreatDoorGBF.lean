/- The closed facts of the row of GramBinds, one by one, and those of its card. -/
import Derived.Test.YtoijcpnfohjciaaGreatDoorRows
import Derived.JoinedOf
import Derived.KernelRfl
import Derived.SevenTiedAt
namespace Go.Proofs.YtoijcpnfohjciaaGreatDoor
namespace gramBinds
theorem and_t {a b:Bool} (ha:a=true) (hb:b=true):(a&&b)=true:=by rw [ha,hb]; rfl
set_option maxRecDepth 100000 in
set_option maxHeartbeats 400000000 in
theorem joined:joinedFacts Tryz.pinned.checked.prog 5 Tryz.f5 Rows.gramBindsSpec Rows.gramBindsRow=true:=by
 unfold joinedFacts
 refine (and_t (and_t (and_t (and_t (and_t (and_t (and_t (and_t (and_t (and_t (and_t (and_t (and_t (and_t (and_t (and_t (and_t (and_t (and_t (and_t (and_t (and_t (and_t (and_t (and_t (and_t (and_t (and_t (and_t (and_t (and_t ?_ ?_) ?_) ?_) ?_) ?_) ?_) ?_) ?_) ?_) ?_) ?_) ?_) ?_) ?_) ?_) ?_) ?_) ?_) ?_) ?_) ?_) ?_) ?_) ?_) ?_) ?_) ?_) ?_) ?_) ?_) ?_)
 all_goals as_aux_lemma=>kernel_rfl
end gramBinds
end Go.Proofs.YtoijcpnfohjciaaGreatDoor
