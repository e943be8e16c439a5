/- The closed facts of the card of PreludeTransports. -/
import Derived.Test.YtidggaoacldgkaaGreatDoorPTH
import Derived.WalkKit
import Derived.Test.YtidggaoacldgkaaGreatDoorXGO
import Derived.Test.YtidggaoacldgkaaGreatDoorRows
import Derived.JoinedOf
import Derived.KernelRfl
import Derived.SevenTiedAt
namespace Go.Proofs.YtidggaoacldgkaaGreatDoor
namespace preludeTransports
theorem hinst:Tryz.f3.isInstance Tryz.pinned.checked.prog Rows.preludeTransportsRow.origin Rows.preludeTransportsRow.targs:=of_decide_eq_true (by kernel_rfl)
theorem hwrap:Tryz.f3.isWrapper Tryz.pinned.checked.prog Rows.preludeTransportsRow.wrapper Rows.preludeTransportsRow.mainSum:=by unfold Func.isWrapper; first | (rw [if_pos (by decide +kernel)]; kernel_rfl) | (rw [if_neg (by decide +kernel)]; exact ⟨rfl,rfl⟩)
theorem cw:Rows.preludeTransportsRow.wfByText (OpenSpec.ofChange Rows.preludeTransportsSpec)=true:=by kernel_rfl
theorem cm:Tryz.pinned.checked.prog.mainIs=some (true,"a148a6a42368f0d1d75cfb2effd5e6a3a0c111204469228c15d93c5f7a352fb2".toList):=by kernel_rfl
theorem cg:false=Rows.preludeTransportsRow.goesBy Tryz.pinned.checked.prog:=goes_none quiet rfl
theorem cn:Tryz.pinned.checked.prog.funcNamed Rows.preludeTransportsRow.func=some 3:=by kernel_rfl
theorem cs3:Tryz.pinned.checked.prog.wantsStandIn 3=false:=by kernel_rfl
theorem cs4:Tryz.pinned.checked.prog.wantsStandIn 4=false:=by kernel_rfl
theorem ch (f:FuncId) (fn:Func) (hf:Tryz.pinned.checked.prog.funcNamed Rows.preludeTransportsRow.func=some f) (hfn:Tryz.pinned.checked.prog.funcs[f]?=some fn):true=Tryz.pinned.checked.prog.looks []∧∀ (j:Nat) t,fn.params[j]?=some t→Tryz.pinned.checked.prog.wantsStandIn t=false:=by
 obtain rfl:f=3:=Option.some.inj (hf.symm.trans cn)
 obtain rfl:fn=Tryz.f3:=Option.some.inj (hfn.symm.trans Tryz.func3)
 refine ⟨cl,fun j t ht=>?_⟩
 rw [Tryz.params3] at ht
 have hw:∀ t,t=3∨t=4→Tryz.pinned.checked.prog.wantsStandIn t=false:=fun t h=>by
  rcases h with rfl | rfl
  ·exact cs3
  ·exact cs4
 refine hw t ?_
 rcases j with _ | j
 ·exact .inl (by simpa using ht.symm)
 ·simp at ht
end preludeTransports
end Go.Proofs.YtidggaoacldgkaaGreatDoor
