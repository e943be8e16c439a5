/- The closed facts of the card of GramDeep. -/
import Derived.Test.YtoijcpnfohjciaaGreatDoorGDH
import Derived.WalkKit
import Derived.Test.YtoijcpnfohjciaaGreatDoorXGO
import Derived.Test.YtoijcpnfohjciaaGreatDoorRows
import Derived.JoinedOf
import Derived.KernelRfl
import Derived.SevenTiedAt
namespace Go.Proofs.YtoijcpnfohjciaaGreatDoor
namespace gramDeep
theorem hinst:Tryz.f4.isInstance Tryz.pinned.checked.prog Rows.gramDeepRow.origin Rows.gramDeepRow.targs:=of_decide_eq_true (by kernel_rfl)
theorem hwrap:Tryz.f4.isWrapper Tryz.pinned.checked.prog Rows.gramDeepRow.wrapper Rows.gramDeepRow.mainSum:=by unfold Func.isWrapper; first | (rw [if_pos (by decide +kernel)]; kernel_rfl) | (rw [if_neg (by decide +kernel)]; exact ⟨rfl,rfl⟩)
theorem cw:Rows.gramDeepRow.wfByText (OpenSpec.ofChange Rows.gramDeepSpec)=true:=by kernel_rfl
theorem cm:Tryz.pinned.checked.prog.mainIs=some (true,"f3814e9d4c5a19824a7bf156a3e263c9fdb64b34585fe0127fbb704a26cf3449".toList):=by kernel_rfl
theorem cg:false=Rows.gramDeepRow.goesBy Tryz.pinned.checked.prog:=goes_none quiet rfl
theorem cn:Tryz.pinned.checked.prog.funcNamed Rows.gramDeepRow.func=some 4:=by kernel_rfl
theorem cs3:Tryz.pinned.checked.prog.wantsStandIn 3=false:=by kernel_rfl
theorem cs4:Tryz.pinned.checked.prog.wantsStandIn 4=false:=by kernel_rfl
theorem ch (f:FuncId) (fn:Func) (hf:Tryz.pinned.checked.prog.funcNamed Rows.gramDeepRow.func=some f) (hfn:Tryz.pinned.checked.prog.funcs[f]?=some fn):true=Tryz.pinned.checked.prog.looks []∧∀ (j:Nat) t,fn.params[j]?=some t→Tryz.pinned.checked.prog.wantsStandIn t=false:=by
 obtain rfl:f=4:=Option.some.inj (hf.symm.trans cn)
 obtain rfl:fn=Tryz.f4:=Option.some.inj (hfn.symm.trans Tryz.func4)
 refine ⟨cl,fun j t ht=>?_⟩
 rw [Tryz.params4] at ht
 have hw:∀ t,t=3∨t=4→Tryz.pinned.checked.prog.wantsStandIn t=false:=fun t h=>by
  rcases h with rfl | rfl
  ·exact cs3
  ·exact cs4
 refine hw t ?_
 rcases j with _ | _ | j
 ·exact .inl (by simpa using ht.symm)
 ·exact .inr (by simpa using ht.symm)
 ·simp at ht
end gramDeep
end Go.Proofs.YtoijcpnfohjciaaGreatDoor
