/- An executor for closed calls, 32: a function that puts off one call, which does nothing where nothing panics. -/
import Derived.Test.YtpajcdofelmaaaaGreatDoorXQB
import Derived.Recover
import Derived.Test.YtpajcdofelmaaaaGreatDoorProg
import Derived.WalkKit
namespace Go.Proofs.YtpajcdofelmaaaaGreatDoor.X
open Go.RowKit
section
variable {P:Program} {w0:World}
def LeavesX (P:Program) (fn:Func) (tmps:Array Value) (R:Ending→World→Prop):List Deferred→World→Prop
 | [],w=>∃ v,(results fn tmps).run P w=.ok v w∧R (.returned v) w
 | d :: ds,w=>(∃ r w',d.target=.collected r∧(Instr.takeDeferred r).run P w=.ok [] w'∧LeavesX P fn tmps R ds w') ∨
   ∃ fv cap f args,d.target=.fn fv cap∧(invoke d.target d.args).run P w=.ok (.enter f args) w∧CallsD P f args .returning w fun e u' w'=>(∃ v,e=.returned v)∧u'=.returning∧LeavesX P fn tmps R ds w'
theorem leavesX_steps {fn:Func} {tmps:Array Value} {R:Ending→World→Prop}:∀ (ds:List Deferred) (w:World) (fr:Frame) (cs:List Frame),fr.mode=.returning→fr.defers=ds→fr.tmps=tmps→P.funcs[fr.fn]?=some fn→fr.kind=.normal→LeavesX P fn tmps R ds w →
  ∃ e w' fr',R e w'∧Comes P (lone fr cs w) (lone fr' cs w') e∧fr'.fn=fr.fn∧fr'.leaving P w' e:=by
 intro ds
 induction ds with
 | nil =>
  intro w fr cs hu hd ht hf hk h
  obtain ⟨v,hr,hR⟩:=h
  exact ⟨.returned v,w,fr,hR,Steps.refl P _,rfl,hu,hd,hk,fn,hf,ht ▸ hr⟩
 | cons d ds ih =>
  intro w fr cs hu hd ht hf hk h
  rcases h with ⟨r,w',htar,htake,hrest⟩ | ⟨fv,cap,f,args,htar,hinv,hcall⟩
  ·have h1:=step_collected (cs:=cs) (by rw [hu]; simp) hd htar htake
   obtain ⟨e',w'',fr',hR',hs',hfn',hl'⟩:=ih w' { fr with defers:=[] ++ ds } cs hu rfl ht hf hk hrest
   exact ⟨e',w'',fr',hR',Comes.of_steps (.one h1) hs',hfn',hl'⟩
  ·have h1:=step_defer (cs:=cs) (by rw [hu]; simp) hd htar hinv
   obtain ⟨e,u',w',frX,⟨⟨v,rfl⟩,rfl,hR⟩,hsteps,hkX,hgo⟩:=hcall { fr with defers:=ds } cs hu
   have h2:=step_going_returned (c:={ { fr with defers:=ds } with mode:=.returning }) (cs:=cs) hkX hgo
   obtain ⟨e',w'',fr',hR',hs',hfn',hl'⟩:=ih w' { { { fr with defers:=ds } with mode:=.returning } with mode:=settle .returning } cs rfl rfl ht hf hk hR
   exact ⟨e',w'',fr',hR',Comes.of_steps (.head h1 (Steps.trans hsteps (.one h2))) hs',hfn',hl'⟩
def bodyX (P:Program) (fn:Func) (R:Ending→World→Prop):Exit→Act→World→Prop
 | .normal,a,w | .ret,a,w=>LeavesX P fn a.tmps R a.defers w
 | _,_,_=>False
theorem calls_of_bodyX {f:FuncId} {fn:Func} {c:Code} {args:Array Value} {w:World} {R:Ending→World→Prop} (hf:P.funcs[f]?=some fn) (hb:fn.body=some c)
  (h:WpN P none c (bodyX P fn R) { tmps:=args ++ Array.replicate (fn.ntmps - args.size) undef,defers:=[] } w):Calls P f args w R:=by
 intro cs
 let b:Frame:={ (default:Frame) with fn:=f,kind:=.normal,roundOf:=none }
 have henter:Frame.enter P f args .normal=b.atR { tmps:=args ++ Array.replicate (fn.ntmps - args.size) undef,defers:=[] } [.code c]:=by
  simp [Frame.enter,Frame.atR,hf,hb,b]
 obtain ⟨e,a',w',hq,harr⟩:=h b [] cs rfl rfl
 rw [← henter] at harr
 cases e with
 | normal =>
  obtain ⟨e',w'',fr',hR,hs,hfn,hl⟩:=leavesX_steps a'.defers w' { b.atR a' [] with mode:=.returning } cs rfl rfl rfl hf rfl hq
  exact ⟨e',w'',fr',hR,Comes.of_steps (Steps.trans (StepsIn.steps harr) (.one (stepR_end rfl))) hs,hfn,hl⟩
 | ret =>
  obtain ⟨todo,hs₀⟩:=harr.1 rfl
  obtain ⟨e',w'',fr',hR,hs,hfn,hl⟩:=leavesX_steps a'.defers w' { b.atR a' todo with mode:=.returning } cs rfl rfl rfl hf rfl hq
  exact ⟨e',w'',fr',hR,Comes.of_steps (StepsIn.steps hs₀) hs,hfn,hl⟩
 | exit id=>exact hq.elim
 | goto l=>exact hq.elim
 | panic ch=>exact hq.elim
 | outgrown=>exact hq.elim
theorem leavesX_marks {r:Rho} {h:T AO} {nx:Pt} {fn:Func} {tmps:Array Value} {R:Ending→World→Prop} {base:List Deferred} {B:Nat} (h0:w0.heap.size≤B):∀ (ds:List Deferred) (w:World) {re:Rho} {he:T AO} {we:World},
  Marks B r h w ds→WR P w0 r h nx w→Ev re he we r h w→we.heap.size≤B→(∀ w',WR P w0 r h nx w'→Ev re he we r h w'→LeavesX P fn tmps R base w')→LeavesX P fn tmps R (ds ++ base) w
 | [],w,_,_,_,_,H,e,_,hR=>hR w H e
 | d :: ds,w,re,he,we,hm,H,e,hB,hR=>by
  obtain ⟨⟨b,rfl,h2,h3,h4,h5⟩,g⟩:=hm
  refine .inl ⟨b,_,rfl,run_takeDeferred h3,?_⟩
  refine leavesX_marks h0 ds _ ?_ (H.other (Nat.le_trans h0 h2) h4 _) (e.other (Nat.le_trans hB h2) _) hB hR
  clear hR e H h3
  induction ds with
  | nil=>trivial
  | cons d' ds ih =>
   obtain ⟨⟨b',rfl,k2,k3,k4,k5⟩,g⟩:=g
   refine ⟨⟨b',rfl,k2,?_,k4,k5⟩,ih g (fun d hd=>h5 d (List.mem_cons_of_mem _ hd))⟩
   have hne:b'≠b:=fun e=>h5 _ (List.mem_cons_self ..) (by rw [e])
   exact (World.putObj_heap_other hne).trans k3
theorem evsK_det {tm:S}:∀ {xs:List AX} {c:List AV→Prop},evsK tm xs c→∃ vs,vs.length=xs.length∧c vs∧∀ c':List AV→Prop,c' vs→evsK tm xs c'
 | [],c,h=>⟨[],rfl,h,fun _ h=>h⟩
 | x :: xs,c,h=>by
  obtain ⟨v,h1,h2⟩:=evK_iff.1 (show evK tm x _ from h)
  obtain ⟨vs,h3,h4,h5⟩:=evsK_det h2
  exact ⟨v :: vs,by simp [h3],h4,fun c' hc=>evK_iff.2 ⟨v,h1,h5 _ hc⟩⟩
theorem try_sem {f f2:Nat} {fn fn2:Func} {c1 c2 c3:Code} {id:Nat} {o0 od:Oper} {ts:Array TypeId} {pt:Sl} {caps:List AX} {ac1 ac3:AC} {res:List AR} (hm:P.follows .mixedOrders=true)
  (hf:P.funcs[f]?=some fn) (hname:(fn.name == "runtime.NumGoroutine")=false) (hbody:fn.body=some (.seq c1 (.seq (.region id #[o0,od] false) c3)))
  (hf2:P.funcs[f2]?=some fn2) (hname2:(fn2.name == "runtime.NumGoroutine")=false) (hbody2:fn2.body=some c2)
  (h1:compC P fn.ntmps c1=some ac1) (h0:compOper P fn.ntmps #[o0,od] o0=some ⟨some pt,.v (.mkf f2 [] caps),none⟩) (h3:compC P fn.ntmps c3=some ac3) (hres:mapO (compR P) fn.results.toList=some res)
  (hop:od.op=.defer ⟨.value (.tmp pt.toNat),#[],ts⟩) (hdst:od.dst=none) (hg:od.guard=none)
  (hidle:∀ (args:Array Value) (w:World),args.size=caps.length→CallsD P f2 args .returning w fun e u' w'=>(∃ v,e=.returned v)∧u'=.returning∧w'=w) :
  FunSem P f ⟨fun ch=>den (.seq ac1 (.seq (.ops [⟨some pt,.v (.mkf f2 [] caps),none⟩]) ac3)) ch.calm,res⟩:=by
 intro w0 ch0 hcur0 hch0 args h nx K r w R hk hE0 H ha hR hP0
 obtain ⟨ch,hc0⟩:∃ ch,ch0.calm=ch:=⟨_,rfl⟩
 have hcur:ch.cur=none:=by rw [← hc0]; exact hcur0
 have hq:CHq P w0 ch:=by rw [← hc0]; exact CHq.of hch0
 have hch:CHok P w0 ch.call:=hq.call
 have hE:EnvOk P w0 ch.loops r:=by rw [← hc0]; exact hE0
 replace hk:argsK args slTab .l fun tm=>den (.seq ac1 (.seq (.ops [⟨some pt,.v (.mkf f2 [] caps),none⟩]) ac3)) ch tm h nx (retK res K):=by rw [← hc0]; exact hk
 clear hP0 hc0 hE0 hch0 hcur0 ch0
 refine ⟨⟨fn,_,hf,hname,hbody⟩,?_⟩
 obtain ⟨tm,hk,htm⟩:=argsK_spec hk
 refine calls_of_bodyX hf hbody ?_
 have hcd:∀ base,DefOk ⟨fn.ntmps,w.heap.size,none,base⟩ r h w base:=fun base=>⟨[],rfl,trivial,fun e=>(e rfl).elim⟩
 have hSt:St P w0 ⟨fn.ntmps,w.heap.size,none,[]⟩ ch r tm h nx { tmps:=(concL r args).toArray ++ Array.replicate (fn.ntmps - (concL r args).toArray.size) undef,defers:=[] } w:=by
  refine ⟨H,fun q v hq=>?_,?_,hcd [],hE,by rw [hcur]; exact rfl,Nat.le_refl _⟩
  ·rcases htm q v hq with h1 | ⟨i,h1,h2⟩
   ·rw [S.find_l] at h1; cases h1
   ·have hi:i<args.length:=(List.getElem?_eq_some_iff.1 h2).1
    have h1:q.toNat=i:=by rw [h1]; show 0+i=i; omega
    refine ⟨?_,ha.get h2⟩
    rw [h1,Array.getElem?_append_left (by simp [concL_length]; exact hi)]
    rw [List.getElem?_toArray,concL_get,h2]; rfl
  ·simp [concL_length]; omega
 refine WpN.seq (den_sound hm fn.ntmps c1 ac1 h1 ⟨fn.ntmps,w.heap.size,none,[]⟩ ch rfl hch tm h nx _ _ w r _ hk hSt (fun e tm1 h1' nx1 r1 a1 w1 hK1 hs1 ev1=>?_) hq.goodP)
 cases e with
 | exit id=>exact hK1.elim
 | goto l=>exact hK1.elim
 | ret =>
  obtain ⟨vs,g1,g2,g3⟩:=resK_spec hs1.wr hs1.tr hres (show resK tm1 h1' res fun vs=>K (oneV vs) h1' nx1 from hK1)
  obtain ⟨ds,d1,d2,-⟩:=hs1.defers
  show LeavesX P fn a1.tmps R a1.defers w1
  rw [d1]
  exact leavesX_marks H.below.size ds w1 d2 hs1.wr ev1 (Nat.le_refl _) fun w'' H'' e''=>⟨_,run_results (g3 w'' H''),hR _ _ _ _ _ g1 H'' e'' (okV_one g2)⟩
 | nrm =>
  show WpN _ _ (Code.seq _ _) _ _ _
  refine WpN.seq (WpN.of (wpIn_region ?_))
  show wpOpsIn (Wr none) 0 P #[o0,od] _ [0,1] a1 w1
  rw [wpOpsIn_cons]
  have hK1:evsK tm1 [] fun a=>evsK tm1 caps fun b=>tm1.setK (.fn (.func f2) a b) pt fun tm=>den ac3 ch tm h1' nx1 (retK res K):=hK1
  obtain ⟨vs,hlen,hK1,hdet⟩:=evsK_det (show evsK tm1 caps fun b=>tm1.setK (.fn (.func f2) [] b) pt fun tm=>den ac3 ch tm h1' nx1 (retK res K) from hK1)
  rw [S.setK_iff] at hK1
  refine op_sound (F:=⟨fn.ntmps,w.heap.size,none,[]⟩) (rest:=dE) (K:=fun tm' h' nx'=>tm'=tm1.set (.fn (.func f2) [] vs) pt∧h'=h1'∧nx'=nx1) hch (ops:=#[o0,od]) (i:=0) rfl h0 rfl hs1 ?_ ?_ hq.goodP
  ·show evsK tm1 [] fun a=>evsK tm1 caps fun b=>tm1.setK (.fn (.func f2) a b) pt fun tm'=>tm'=tm1.set (.fn (.func f2) [] vs) pt∧h1'=h1'∧nx1=nx1
   show evsK tm1 caps fun b=>tm1.setK (.fn (.func f2) [] b) pt fun tm'=>tm'=tm1.set (.fn (.func f2) [] vs) pt∧h1'=h1'∧nx1=nx1
   refine hdet _ ?_
   rw [S.setK_iff]
   exact ⟨rfl,rfl,rfl⟩
  ·rintro tm2 h2 nx2 r2 a2 w2 ⟨rfl,rfl,rfl⟩ hs2 ev2
   rw [wpOpsIn_cons]
   have hw:Region.wanted od (yielded #[o0,od] a2.tmps)=true:=by simp [Region.wanted,hg]
   show wpOpIn (Wr none) 0 P #[o0,od] _ 1 _ a2 w2
   simp only [wpOpIn,show (#[o0,od]:Array Oper)[1]?=some od from rfl,hw,if_true]
   obtain ⟨t1,-⟩:=hs2.tr pt _ (S.find_set ..)
   have hev:a2.eval (.tmp pt.toNat)=.func (.func f2) #[] (concL r2 vs).toArray:=by
    simp only [Act.eval,Array.getD_eq_getD_getElem?,t1,Option.getD_some,conc,concL]
   have hrun:(od.semAt (Wr none).round a2.eval).run P w2=.ok (.defer { target:=.fn (.func f2) (concL r2 vs).toArray,args:=#[] }) w2:=by
    show (od.semAt none a2.eval).run P w2=_
    rw [Oper.semAt_none]
    simp only [execOp,hop,resolve,hev]
    simp [go_sem]
   refine ⟨fun _ _=>trivial,?_⟩
   rw [hrun,Oper.uponIn_defer]
   show Exit.then _ _ .normal _ w2
   obtain ⟨ds,d1,d2,d3⟩:=hs2.defers
   have d1:a2.defers=ds:=by rw [d1]; simp
   have ev12:=ev1.trans ev2
   refine den_sound hm fn.ntmps c3 ac3 h3 ⟨fn.ntmps,w2.heap.size,none,{ target:=.fn (.func f2) (concL r2 vs).toArray,args:=#[] } :: ds⟩ ch rfl hch _ _ _ (retK res K) _ w2 r2 _ hK1 ?_ ?_ hq.goodP
   ·rw [hdst]
    exact ⟨hs2.wr,hs2.tr,hs2.size,⟨[],by rw [← d1]; rfl,trivial,fun e=>(e rfl).elim⟩,hs2.env,hs2.cur,Nat.le_refl _⟩
   ·intro e tm' h' nx' r' a' w' hK hs hev'
    have key:(resK tm' h' res fun vs=>K (oneV vs) h' nx')→LeavesX P fn a'.tmps R a'.defers w':=by
     intro hK
     obtain ⟨us,g1,g2,g3⟩:=resK_spec hs.wr hs.tr hres hK
     obtain ⟨ds',d1',d2',-⟩:=hs.defers
     rw [d1']
     refine leavesX_marks hs2.wr.below.size ds' w' d2' hs.wr hev' (Nat.le_refl _) fun w'' H'' e''=>?_
     refine .inr ⟨.func f2,(concL r2 vs).toArray,f2,(concL r2 vs).toArray,rfl,?_,?_⟩
     ·have e2:invoke (.fn (.func f2) (concL r2 vs).toArray) #[]=callFunc f2 (concL r2 vs).toArray:=by
       show callFunc f2 (#[] ++ (concL r2 vs).toArray)=_
       simp
      show (invoke (.fn (.func f2) (concL r2 vs).toArray) #[]).run P w''=_
      rw [e2]
      exact run_callFunc hf2 hname2 hbody2
     ·refine (hidle (concL r2 vs).toArray w'' (by simp [concL_length,hlen])).mono fun e u' w3 he=>?_
      obtain ⟨k1,k2,rfl⟩:=he
      refine ⟨k1,k2,?_⟩
      have:=leavesX_marks (P:=P) (fn:=fn) (tmps:=a'.tmps) (R:=R) (base:=[]) H.below.size ds w3 (d2.ev e'') H'' (ev12.trans e'') (Nat.le_refl _) fun w4 H4 e4=>⟨_,run_results (g3 w4 H4),hR _ _ _ _ _ g1 H4 e4 (okV_one g2)⟩
      simpa using this
    cases e with
    | nrm=>exact key hK
    | ret=>exact key hK
    | exit id=>exact hK.elim
    | goto l=>exact hK.elim
end
end Go.Proofs.YtpajcdofelmaaaaGreatDoor.X

/- reduce.Try of each type: what it puts off does nothing where nothing panics. -/
namespace Go.Proofs.YtpajcdofelmaaaaGreatDoor.X
open Go.RowKit
def tryAF120:AF:=⟨fun ch=>den (.seq (.ops [⟨(some s2),(.v (.new [(.bool false)] 4)),none⟩,⟨(some s3),(.v (.new [(.int .i64 (.ofNat 0))] 44)),none⟩]) (.seq (.ops [⟨(some s4),(.v (.mkf 176 [] [(.t s2),(.t s3)])),none⟩]) (.seq (.ops [⟨(some s5),(.v (.mv (.t s0))),none⟩,⟨(some s6),(.callv (.t s5) []),none⟩,⟨none,(.v (.st 1 (.t s2) (.t s6))),none⟩,⟨none,(.v (.st 1 (.t s3) (.c (.int .i64 (.ofNat 0))))),none⟩]) .ret))) ch.calm,[(.c1 s2),(.c1 s3)]⟩
theorem try_idle120 (x y:Value) (w:World):CallsD Tryz.prog 176 #[x,y] .returning w fun e u' w'=>(∃ v,e=.returned v)∧u'=.returning∧w'=w:=by
 refine callsD_of_wpS Tryz.func176 rfl fun c₀ cs hu=>?_
 apply wpS_seq
 apply wpS_region
 simp [wpOpsS,go_sem,recoverD,hu,Tryz.ntmps176,Exit.thenS]
 apply wpS_seq
 apply wpS_region
 simp [wpOpsS,go_sem,Exit.thenS]
 refine wpS_cond (t:=false) (by simp [Act.eval,Array.replicate]) ?_
 simp only [Bool.false_eq_true,if_false]
 refine wpS_of_wp (wp_skip ?_)
 cases c₀
 simp_all [bodyPostS,results,Tryz.results176]
theorem try_ok120:FunSem Tryz.prog 120 tryAF120 :=
 try_sem (by kernel_rfl) Tryz.func120 (by kernel_rfl) rfl Tryz.func176 (by kernel_rfl) rfl (by kernel_rfl) (by kernel_rfl) (by kernel_rfl) (by kernel_rfl) rfl rfl rfl (fun args w h=>by
  match args,h with
  | ⟨[x,y]⟩,_=>exact try_idle120 x y w)
def tryAF162:AF:=⟨fun ch=>den (.seq (.ops [⟨(some s2),(.v (.new [.nilp] 204)),none⟩,⟨(some s3),(.v (.new [(.int .i64 (.ofNat 0))] 44)),none⟩]) (.seq (.ops [⟨(some s4),(.v (.mkf 220 [] [(.t s2),(.t s3)])),none⟩]) (.seq (.ops [⟨(some s5),(.v (.mv (.t s0))),none⟩,⟨(some s6),(.callv (.t s5) []),none⟩,⟨none,(.v (.st 1 (.t s2) (.t s6))),none⟩,⟨none,(.v (.st 1 (.t s3) (.c (.int .i64 (.ofNat 0))))),none⟩]) .ret))) ch.calm,[(.cN s2 1),(.c1 s3)]⟩
theorem try_idle162 (x y:Value) (w:World):CallsD Tryz.prog 220 #[x,y] .returning w fun e u' w'=>(∃ v,e=.returned v)∧u'=.returning∧w'=w:=by
 refine callsD_of_wpS Tryz.func220 rfl fun c₀ cs hu=>?_
 apply wpS_seq
 apply wpS_region
 simp [wpOpsS,go_sem,recoverD,hu,Tryz.ntmps220,Exit.thenS]
 apply wpS_seq
 apply wpS_region
 simp [wpOpsS,go_sem,Exit.thenS]
 refine wpS_cond (t:=false) (by simp [Act.eval,Array.replicate]) ?_
 simp only [Bool.false_eq_true,if_false]
 refine wpS_of_wp (wp_skip ?_)
 cases c₀
 simp_all [bodyPostS,results,Tryz.results220]
theorem try_ok162:FunSem Tryz.prog 162 tryAF162 :=
 try_sem (by kernel_rfl) Tryz.func162 (by kernel_rfl) rfl Tryz.func220 (by kernel_rfl) rfl (by kernel_rfl) (by kernel_rfl) (by kernel_rfl) (by kernel_rfl) rfl rfl rfl (fun args w h=>by
  match args,h with
  | ⟨[x,y]⟩,_=>exact try_idle162 x y w)
def tryAF173:AF:=⟨fun ch=>den (.seq (.ops [⟨(some s2),(.v (.new [(.int .i64 (.ofNat 0))] 3)),none⟩,⟨(some s3),(.v (.new [(.int .i64 (.ofNat 0))] 44)),none⟩]) (.seq (.ops [⟨(some s4),(.v (.mkf 230 [] [(.t s2),(.t s3)])),none⟩]) (.seq (.ops [⟨(some s5),(.v (.mv (.t s0))),none⟩,⟨(some s6),(.callv (.t s5) []),none⟩,⟨none,(.v (.st 1 (.t s2) (.t s6))),none⟩,⟨none,(.v (.st 1 (.t s3) (.c (.int .i64 (.ofNat 0))))),none⟩]) .ret))) ch.calm,[(.c1 s2),(.c1 s3)]⟩
theorem try_idle173 (x y:Value) (w:World):CallsD Tryz.prog 230 #[x,y] .returning w fun e u' w'=>(∃ v,e=.returned v)∧u'=.returning∧w'=w:=by
 refine callsD_of_wpS Tryz.func230 rfl fun c₀ cs hu=>?_
 apply wpS_seq
 apply wpS_region
 simp [wpOpsS,go_sem,recoverD,hu,Tryz.ntmps230,Exit.thenS]
 apply wpS_seq
 apply wpS_region
 simp [wpOpsS,go_sem,Exit.thenS]
 refine wpS_cond (t:=false) (by simp [Act.eval,Array.replicate]) ?_
 simp only [Bool.false_eq_true,if_false]
 refine wpS_of_wp (wp_skip ?_)
 cases c₀
 simp_all [bodyPostS,results,Tryz.results230]
theorem try_ok173:FunSem Tryz.prog 173 tryAF173 :=
 try_sem (by kernel_rfl) Tryz.func173 (by kernel_rfl) rfl Tryz.func230 (by kernel_rfl) rfl (by kernel_rfl) (by kernel_rfl) (by kernel_rfl) (by kernel_rfl) rfl rfl rfl (fun args w h=>by
  match args,h with
  | ⟨[x,y]⟩,_=>exact try_idle173 x y w)
end Go.Proofs.YtpajcdofelmaaaaGreatDoor.X
