/- The closed facts of the card of DataWrong. -/
import Derived.Test.YtpajcdofelmaaaaGreatDoorDWH
import Derived.WalkKit
import Derived.Test.YtpajcdofelmaaaaGreatDoorXGO
import Derived.Test.YtpajcdofelmaaaaGreatDoorRows
import Derived.JoinedOf
import Derived.KernelRfl
import Derived.SevenTiedAt
namespace Go.Proofs.YtpajcdofelmaaaaGreatDoor
namespace dataWrong
theorem hinst:Tryz.f3.isInstance Tryz.pinned.checked.prog Rows.dataWrongRow.origin Rows.dataWrongRow.targs:=of_decide_eq_true (by kernel_rfl)
theorem hwrap:Tryz.f3.isWrapper Tryz.pinned.checked.prog Rows.dataWrongRow.wrapper Rows.dataWrongRow.mainSum:=by unfold Func.isWrapper; first | (rw [if_pos (by decide +kernel)]; kernel_rfl) | (rw [if_neg (by decide +kernel)]; exact ⟨rfl,rfl⟩)
theorem cw:Rows.dataWrongRow.wfByText (OpenSpec.ofChange Rows.dataWrongSpec)=true:=by kernel_rfl
theorem cm:Tryz.pinned.checked.prog.mainIs=some (true,"420152e8f288ebd554f4ebb41d83f738df473f1b3c1cef1afb6f511e4d587c9b".toList):=by kernel_rfl
theorem cg:false=Rows.dataWrongRow.goesBy Tryz.pinned.checked.prog:=goes_none quiet rfl
theorem cn:Tryz.pinned.checked.prog.funcNamed Rows.dataWrongRow.func=some 3:=by kernel_rfl
theorem cs3:Tryz.pinned.checked.prog.wantsStandIn 3=false:=by kernel_rfl
theorem cs4:Tryz.pinned.checked.prog.wantsStandIn 4=false:=by kernel_rfl
theorem ch (f:FuncId) (fn:Func) (hf:Tryz.pinned.checked.prog.funcNamed Rows.dataWrongRow.func=some f) (hfn:Tryz.pinned.checked.prog.funcs[f]?=some fn):true=Tryz.pinned.checked.prog.looks []∧∀ (j:Nat) t,fn.params[j]?=some t→Tryz.pinned.checked.prog.wantsStandIn t=false:=by
 obtain rfl:f=3:=Option.some.inj (hf.symm.trans cn)
 obtain rfl:fn=Tryz.f3:=Option.some.inj (hfn.symm.trans Tryz.func3)
 refine ⟨cl,fun j t ht=>?_⟩
 rw [Tryz.params3] at ht
 have hw:∀ t,t=3∨t=4→Tryz.pinned.checked.prog.wantsStandIn t=false:=fun t h=>by
  rcases h with rfl | rfl
  ·exact cs3
  ·exact cs4
 refine hw t ?_
 rcases j with _ | j
 ·exact .inl (by simpa using ht.symm)
 ·simp at ht
end dataWrong
end Go.Proofs.YtpajcdofelmaaaaGreatDoor
