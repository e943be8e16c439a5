/- An executor for closed calls, 28: a table of functions. -/
import Derived.Test.YtpajcdofelmaaaaGreatDoorXQ
import Derived.Test.YtpajcdofelmaaaaGreatDoorXFO
namespace Go.Proofs.YtpajcdofelmaaaaGreatDoor.X
def compF (P:Program) (f:Nat):Option AF:=match P.funcs[f]? with
 | none=>none
 | some fn=>match fn.name == "runtime.NumGoroutine" with
  | true=>none
  | false=>match fn.body with
   | none=>none
   | some c=>match compC P fn.ntmps c with
    | none=>none
    | some ac=>match mapO (compR P) fn.results.toList with
     | none=>none
     | some rs=>some ⟨den ac,rs⟩
theorem FunOk.of {P:Program} {f:Nat} {af:AF} (h:compF P f=some af):FunOk P f af:=by
 unfold compF at h
 split at h
 ·cases h
 ·rename_i fn hfn
  split at h
  ·cases h
  ·rename_i hname
   split at h
   ·cases h
   ·rename_i c hc
    split at h
    ·cases h
    ·rename_i ac hac
     split at h
     ·cases h
     ·rename_i rs hrs
      cases h
      exact ⟨fn,c,hfn,hname,hc,⟨ac,hac,rfl⟩,hrs⟩
theorem FunSem.of {P:Program} {f:Nat} {af:AF} (hm:P.follows .mixedOrders=true) (h:compF P f=some af):FunSem P f af:=(FunOk.of h).sem hm
theorem okF {P:Program} {f:Nat} {g:Ops→AF} (h:FunSem P f (g slowO)):FunSem P f (g fastO):=Eq.mp (congrArg (fun o=>FunSem P f (g o)) fast_slow) h
def TabOk (P:Program) (s:Pt→Pt) (t:T AF):Prop:=∀ p af,t.find p=some af→FunSem P (s p).toNat af
theorem TabOk.l {P:Program} {s:Pt→Pt}:TabOk P s .l:=fun p af h=>by rw [T.find_l] at h; cases h
theorem TabOk.m {P:Program} {s:Pt→Pt} {a b:T AF} (ha:TabOk P (fun p=>s (.z p)) a) (hb:TabOk P (fun p=>s (.o p)) b):TabOk P s (.m a b):=fun p af h=>by
 cases p with
 | e=>cases h
 | z p=>exact ha p af h
 | o p=>exact hb p af h
theorem TabOk.n {P:Program} {s:Pt→Pt} {a b:T AF} {v:AF} (hv:FunSem P (s .e).toNat v) (ha:TabOk P (fun p=>s (.z p)) a) (hb:TabOk P (fun p=>s (.o p)) b):TabOk P s (.n a v b):=fun p af h=>by
 cases p with
 | e=>cases h; exact hv
 | z p=>exact ha p af h
 | o p=>exact hb p af h
theorem TabOk.funs {P:Program} {t:T AF} (h:TabOk P (fun p=>p) t):FunsOk P t:=h
end Go.Proofs.YtpajcdofelmaaaaGreatDoor.X
