/- No function of the program starts a goroutine: so no call does. -/
import Derived.Test.YtidggaoacldgkaaGreatDoorRows
import Derived.KernelRfl
import Derived.SevenTiedAt
namespace Go.Proofs.YtidggaoacldgkaaGreatDoor
theorem goes_none {P:Program} (h:P.funcs.all (fun fn=>!fn.goes)=true) {c:OpenClaim} (hs:c.start=.entering):false=c.goesBy P:=by
 have hg:∀ g:FuncId,(P.funcs[g]?).any Func.goes=false:=fun g=>by
  cases hf:P.funcs[g]? with
  | none=>rfl
  | some fn =>
   have h1:fn ∈ P.funcs:=Array.mem_of_getElem? hf
   have h2:=Array.all_eq_true'.1 h fn h1
   simpa using h2
 have ha:P.funcs.any Func.goes=false:=by
  rw [Array.any_eq_false']
  intro fn hfn
  have h2:=Array.all_eq_true'.1 h fn hfn
  simpa using h2
 have hP:∀ f:FuncId,P.goes f=false:=fun f=>by
  unfold Program.goes
  rw [ha]
  simp [hg]
 have hF:P.goesFrom c.func=false:=by
  unfold Program.goesFrom
  cases P.funcNamed c.func with
  | none=>rfl
  | some f=>exact hP f
 unfold OpenClaim.goesBy Program.goesAt
 rw [hF,hs]
 rfl
theorem quiet:Tryz.pinned.checked.prog.funcs.all (fun fn=>!fn.goes)=true:=by kernel_rfl
end Go.Proofs.YtidggaoacldgkaaGreatDoor
