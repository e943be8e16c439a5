/- An executor for closed calls, 38 (in a seat without tables): a function without arguments that answers true, told. -/
import Derived.Test.YtphfjjopeghhnaaGreatXQB
namespace Go.Proofs.YtphfjjopeghhnaaGreat.X
open Go.RowKit
section
variable {P:Program} {w0:World} {r:Rho} {h:T AO} {nx:Pt} {w w':World}
theorem WR.turn (H:WR P w0 r h nx w) {h':T AO} (hB:Below w0.heap.size w0 w') (h1:∀ k o,h'.find k=some o→(h.find k=some o∧w'.heap[r.blk k]?=w.heap[r.blk k]?)∨((∃ o0,h.find k=some o0)∧okO r.has o∧BR P r k o (w'.heap[r.blk k]?))):WR P w0 r h' nx w':=by
 have key:∀ k o,h'.find k=some o→∃ o0,h.find k=some o0:=fun k o hk=>by
  rcases h1 k o hk with ⟨g,-⟩ | ⟨g,-⟩
  ·exact ⟨o,g⟩
  ·exact g
 refine ⟨H.dom,H.dis,hB,fun k o hk=>?_,fun i j oi oj hi hj e=>?_⟩
 ·rcases h1 k o hk with ⟨g,e⟩ | ⟨⟨o0,g⟩,g2,g3⟩
  ·obtain ⟨a1,a2,a3,a4⟩:=H.has k o g
   exact ⟨a1,a2,a3,by rw [e]; exact a4⟩
  ·obtain ⟨a1,a2,-,-⟩:=H.has k o0 g
   exact ⟨a1,a2,g2,g3⟩
 ·obtain ⟨x,hx⟩:=key i oi hi
  obtain ⟨y,hy⟩:=key j oj hj
  exact H.apart i j x y hx hy e
end
theorem argsK_fullF:∀ {args:List AV} {j:Nat} {ps:List Sl} {tm:S} {c:S→Prop},(∀ i p,ps[i]?=some p→p.toNat=j+i)→argsK args ps tm c→∃ tm',c tm'∧(∀ q:Sl,q.toNat<j→tm'.find q=tm.find q)∧(∀ (q:Sl) i v,q.toNat=j+i→args[i]?=some v→tm'.find q=some v) ∧
  ∀ (q:Sl),j+args.length≤q.toNat→tm'.find q=tm.find q
 | [],j,ps,tm,c,_,hk=>⟨tm,hk,fun _ _=>rfl,fun q i v _ h=>by simp at h,fun _ _=>rfl⟩
 | x :: l,j,[],tm,c,_,hk=>False.elim hk
 | x :: l,j,p :: ps,tm,c,hps,hk=>by
  have hp:p.toNat=j:=hps 0 p rfl
  have hk:tm.setK x p fun tm=>argsK l ps tm c:=hk
  rw [S.setK_iff] at hk
  obtain ⟨tm',h1,h2,h3,h4⟩:=argsK_fullF (j:=j+1) (fun i p hi=>by rw [hps (i+1) p hi]; omega) hk
  refine ⟨tm',h1,fun q hq=>?_,fun q i v hq hv=>?_,fun q hq=>?_⟩
  ·rw [h2 q (by omega),S.find_set_ne _ _ _ _ (fun e=>by rw [e] at hq; omega)]
  ·cases i with
   | zero =>
    have:q=p:=Sl.inj (by omega)
    subst this
    simp only [List.getElem?_cons_zero,Option.some.injEq] at hv
    rw [h2 q (by omega),S.find_set,hv]
   | succ i=>exact h3 q i v (by omega) (by simpa using hv)
  ·simp only [List.length_cons] at hq
   rw [h4 q (by omega),S.find_set_ne _ _ _ _ (fun e=>by rw [e] at hq; omega)]
theorem argsK_full {args:List AV} {c:S→Prop} (hk:argsK args slTab .l c):∃ tm',c tm'∧(∀ q:Sl,q.toNat<0→tm'.find q=S.l.find q)∧(∀ (q:Sl) i v,q.toNat=0+i→args[i]?=some v→tm'.find q=some v) ∧
  ∀ (q:Sl),0+args.length≤q.toNat→tm'.find q=S.l.find q :=
 argsK_fullF (fun i p h=>by rw [slTab_get h]; omega) hk
def isT:AV→T AO→Pt→Prop:=fun v _ _=>match v with
 | .bool b=>Bool.rec (motive:=fun _=>Prop) False True b
 | _=>False
theorem isT_spec {v:AV} {h:T AO} {nx:Pt} (hv:isT v h nx):v=.bool true:=by
 unfold isT at hv
 split at hv
 ·rename_i b
  cases b with
  | false=>exact hv.elim
  | true=>rfl
 ·exact hv.elim
theorem true_of_run {P:Program} {funs:T AF} (hf:FunsOk P funs) {n:Nat} {p:Pt} {args:List AV} (w:World) (xs:Array Value) (hx:(∀ r,concL r args=xs.toList)∧∀ n,okL n args) (hk:callN funs n .l p args .l .e isT=True) (hG:GW w:=by trivial) :
  Calls P p.toNat xs w fun e w'=>e=.returned (.bool true)∧Below w.heap.size w w':=by
 refine run_sound hf w xs hx (hk ▸ trivial:callN funs n .l p args .l .e isT) (fun v h nx r w' hK H hv=>?_) hG
 rw [isT_spec hK]
 exact ⟨by simp [conc],H.below⟩
def liveAF:AF:=⟨fun _ tm h nx K=>match tm.find s0 with
 | none=>tm.setK (.bool true) s0 fun tm=>K .ret tm h nx
 | some _=>False,[.t s0]⟩
theorem live_sem {P:Program} {f:Nat} (hf:∃ fn c,P.funcs[f]?=some fn∧(fn.name == "runtime.NumGoroutine")=false∧fn.body=some c) (hc:∀ w,GW w→Calls P f #[] w fun e w'=>e=.returned (.bool true)∧Below w.heap.size w w'):FunSem P f liveAF:=by
 intro w0 ch hcur hch args h nx K r w R hk hE H ha hR _
 obtain ⟨tm,h1,h2,h3,h4⟩:=argsK_full hk
 have h1:(match tm.find s0 with
  | none=>tm.setK (.bool true) s0 fun tm=>retK liveAF.res K .ret tm h nx
  | some _=>False):=h1
 split at h1
 ·rename_i hn
  have hargs:args=[]:=by
   match args,h3 with
   | [],_=>rfl
   | a :: l,h3 =>
    have:=h3 s0 0 a rfl (by simp)
    rw [hn] at this; cases this
  subst hargs
  refine ⟨hf,?_⟩
  have e0:(concL r []).toArray=#[]:=by simp [concL]
  rw [e0]
  refine (hc w (hE.1.below H.below)).mono fun e w' he=>?_
  obtain ⟨rfl,hB⟩:=he
  rw [S.setK_iff] at h1
  have h1:(tm.set (.bool true) s0).getK s0 fun v=>K v h nx:=h1
  rw [S.getK_iff,S.find_set] at h1
  obtain ⟨v,hv,h1⟩:=h1
  cases hv
  have hWR:WR P w0 r h nx w':=H.turn (H.below.trans (hB.mono H.below.size)) fun k o hko=>.inl ⟨hko,hB.block _ (H.lt hko)⟩
  have:=hR (.bool true) h nx r w' h1 hWR ⟨.refl r,hB.size,fun b hb _=>hB.block b hb,fun k o hko=>.inr ⟨k,o,hko,rfl⟩⟩ (by simp [okV])
  simpa [conc] using this
 ·exact h1.elim
end Go.Proofs.YtphfjjopeghhnaaGreat.X
