/- An executor for closed calls, 32: a function that puts off one call, which does nothing where nothing panics. -/
import Derived.Test.YtidggaoacldgkaaGreatDoorXQB
import Derived.Recover
import Derived.Test.YtidggaoacldgkaaGreatDoorProg
import Derived.WalkKit
import Derived.Test.YtidggaoacldgkaaGreatDoorQGX
namespace Go.Proofs.YtidggaoacldgkaaGreatDoor.X
open Go.RowKit
section
variable {P:Program} {w0:World}
def LeavesX (P:Program) (fn:Func) (tmps:Array Value) (R:Ending→World→Prop):List Deferred→World→Prop
 | [],w=>∃ v,(results fn tmps).run P w=.ok v w∧R (.returned v) w
 | d :: ds,w=>(∃ r w',d.target=.collected r∧(Instr.takeDeferred r).run P w=.ok [] w'∧LeavesX P fn tmps R ds w') ∨
   ∃ fv cap f args,d.target=.fn fv cap∧(invoke d.target d.args).run P w=.ok (.enter f args) w∧CallsD P f args .returning w fun e u' w'=>(∃ v,e=.returned v)∧u'=.returning∧LeavesX P fn tmps R ds w'
theorem leavesX_steps {fn:Func} {tmps:Array Value} {R:Ending→World→Prop}:∀ (ds:List Deferred) (w:World) (fr:Frame) (cs:List Frame),fr.mode=.returning→fr.defers=ds→fr.tmps=tmps→P.funcs[fr.fn]?=some fn→fr.kind=.normal→LeavesX P fn tmps R ds w →
  ∃ e w' fr',R e w'∧Comes P (lone fr cs w) (lone fr' cs w') e∧fr'.fn=fr.fn∧fr'.leaving P w' e:=by
 intro ds
 induction ds with
 | nil =>
  intro w fr cs hu hd ht hf hk h
  obtain ⟨v,hr,hR⟩:=h
  exact ⟨.returned v,w,fr,hR,Steps.refl P _,rfl,hu,hd,hk,fn,hf,ht ▸ hr⟩
 | cons d ds ih =>
  intro w fr cs hu hd ht hf hk h
  rcases h with ⟨r,w',htar,htake,hrest⟩ | ⟨fv,cap,f,args,htar,hinv,hcall⟩
  ·have h1:=step_collected (cs:=cs) (by rw [hu]; simp) hd htar htake
   obtain ⟨e',w'',fr',hR',hs',hfn',hl'⟩:=ih w' { fr with defers:=[] ++ ds } cs hu rfl ht hf hk hrest
   exact ⟨e',w'',fr',hR',Comes.of_steps (.one h1) hs',hfn',hl'⟩
  ·have h1:=step_defer (cs:=cs) (by rw [hu]; simp) hd htar hinv
   obtain ⟨e,u',w',frX,⟨⟨v,rfl⟩,rfl,hR⟩,hsteps,hkX,hgo⟩:=hcall { fr with defers:=ds } cs hu
   have h2:=step_going_returned (c:={ { fr with defers:=ds } with mode:=.returning }) (cs:=cs) hkX hgo
   obtain ⟨e',w'',fr',hR',hs',hfn',hl'⟩:=ih w' { { { fr with defers:=ds } with mode:=.returning } with mode:=settle .returning } cs rfl rfl ht hf hk hR
   exact ⟨e',w'',fr',hR',Comes.of_steps (.head h1 (Steps.trans hsteps (.one h2))) hs',hfn',hl'⟩
def bodyX (P:Program) (fn:Func) (R:Ending→World→Prop):Exit→Act→World→Prop
 | .normal,a,w | .ret,a,w=>LeavesX P fn a.tmps R a.defers w
 | _,_,_=>False
theorem calls_of_bodyX {f:FuncId} {fn:Func} {c:Code} {args:Array Value} {w:World} {R:Ending→World→Prop} (hf:P.funcs[f]?=some fn) (hb:fn.body=some c)
  (h:WpN P none c (bodyX P fn R) { tmps:=args ++ Array.replicate (fn.ntmps - args.size) undef,defers:=[] } w):Calls P f args w R:=by
 intro cs
 let b:Frame:={ (default:Frame) with fn:=f,kind:=.normal,roundOf:=none }
 have henter:Frame.enter P f args .normal=b.atR { tmps:=args ++ Array.replicate (fn.ntmps - args.size) undef,defers:=[] } [.code c]:=by
  simp [Frame.enter,Frame.atR,hf,hb,b]
 obtain ⟨e,a',w',hq,harr⟩:=h b [] cs rfl rfl
 rw [← henter] at harr
 cases e with
 | normal =>
  obtain ⟨e',w'',fr',hR,hs,hfn,hl⟩:=leavesX_steps a'.defers w' { b.atR a' [] with mode:=.returning } cs rfl rfl rfl hf rfl hq
  exact ⟨e',w'',fr',hR,Comes.of_steps (Steps.trans (StepsIn.steps harr) (.one (stepR_end rfl))) hs,hfn,hl⟩
 | ret =>
  obtain ⟨todo,hs₀⟩:=harr.1 rfl
  obtain ⟨e',w'',fr',hR,hs,hfn,hl⟩:=leavesX_steps a'.defers w' { b.atR a' todo with mode:=.returning } cs rfl rfl rfl hf rfl hq
  exact ⟨e',w'',fr',hR,Comes.of_steps (StepsIn.steps hs₀) hs,hfn,hl⟩
 | exit id=>exact hq.elim
 | goto l=>exact hq.elim
 | panic ch=>exact hq.elim
 | outgrown=>exact hq.elim
theorem leavesX_marks {r:Rho} {h:T AO} {nx:Pt} {fn:Func} {tmps:Array Value} {R:Ending→World→Prop} {base:List Deferred} {B:Nat} (h0:w0.heap.size≤B):∀ (ds:List Deferred) (w:World) {re:Rho} {he:T AO} {we:World},
  Marks B r h w ds→WR P w0 r h nx w→Ev re he we r h w→we.heap.size≤B→(∀ w',WR P w0 r h nx w'→Ev re he we r h w'→LeavesX P fn tmps R base w')→LeavesX P fn tmps R (ds ++ base) w
 | [],w,_,_,_,_,H,e,_,hR=>hR w H e
 | d :: ds,w,re,he,we,hm,H,e,hB,hR=>by
  obtain ⟨⟨b,rfl,h2,h3,h4,h5⟩,g⟩:=hm
  refine .inl ⟨b,_,rfl,run_takeDeferred h3,?_⟩
  refine leavesX_marks h0 ds _ ?_ (H.other (Nat.le_trans h0 h2) h4 _) (e.other (Nat.le_trans hB h2) _) hB hR
  clear hR e H h3
  induction ds with
  | nil=>trivial
  | cons d' ds ih =>
   obtain ⟨⟨b',rfl,k2,k3,k4,k5⟩,g⟩:=g
   refine ⟨⟨b',rfl,k2,?_,k4,k5⟩,ih g (fun d hd=>h5 d (List.mem_cons_of_mem _ hd))⟩
   have hne:b'≠b:=fun e=>h5 _ (List.mem_cons_self ..) (by rw [e])
   exact (World.putObj_heap_other hne).trans k3
theorem evsK_det {tm:S}:∀ {xs:List AX} {c:List AV→Prop},evsK tm xs c→∃ vs,vs.length=xs.length∧c vs∧∀ c':List AV→Prop,c' vs→evsK tm xs c'
 | [],c,h=>⟨[],rfl,h,fun _ h=>h⟩
 | x :: xs,c,h=>by
  obtain ⟨v,h1,h2⟩:=evK_iff.1 (show evK tm x _ from h)
  obtain ⟨vs,h3,h4,h5⟩:=evsK_det h2
  exact ⟨v :: vs,by simp [h3],h4,fun c' hc=>evK_iff.2 ⟨v,h1,h5 _ hc⟩⟩
theorem try_sem {f f2:Nat} {fn fn2:Func} {c1 c2 c3:Code} {id:Nat} {o0 od:Oper} {ts:Array TypeId} {pt:Sl} {caps:List AX} {ac1 ac3:AC} {res:List AR} (hm:P.follows .mixedOrders=true)
  (hf:P.funcs[f]?=some fn) (hname:(fn.name == "runtime.NumGoroutine")=false) (hbody:fn.body=some (.seq c1 (.seq (.region id #[o0,od] false) c3)))
  (hf2:P.funcs[f2]?=some fn2) (hname2:(fn2.name == "runtime.NumGoroutine")=false) (hbody2:fn2.body=some c2)
  (h1:compC P fn.ntmps c1=some ac1) (h0:compOper P fn.ntmps #[o0,od] o0=some ⟨some pt,.v (.mkf f2 [] caps),none⟩) (h3:compC P fn.ntmps c3=some ac3) (hres:mapO (compR P) fn.results.toList=some res)
  (hop:od.op=.defer ⟨.value (.tmp pt.toNat),#[],ts⟩) (hdst:od.dst=none) (hg:od.guard=none)
  (hidle:∀ (args:Array Value) (w:World),args.size=caps.length→CallsD P f2 args .returning w fun e u' w'=>(∃ v,e=.returned v)∧u'=.returning∧w'=w) :
  FunSem P f ⟨fun ch=>den (.seq ac1 (.seq (.ops [⟨some pt,.v (.mkf f2 [] caps),none⟩]) ac3)) ch.calm,res⟩:=by
 intro w0 ch0 hcur0 hch0 args h nx K r w R hk hE0 H ha hR hP0
 obtain ⟨ch,hc0⟩:∃ ch,ch0.calm=ch:=⟨_,rfl⟩
 have hcur:ch.cur=none:=by rw [← hc0]; exact hcur0
 have hq:CHq P w0 ch:=by rw [← hc0]; exact CHq.of hch0
 have hch:CHok P w0 ch.call:=hq.call
 have hE:EnvOk P w0 ch.loops r:=by rw [← hc0]; exact hE0
 replace hk:argsK args slTab .l fun tm=>den (.seq ac1 (.seq (.ops [⟨some pt,.v (.mkf f2 [] caps),none⟩]) ac3)) ch tm h nx (retK res K):=by rw [← hc0]; exact hk
 clear hP0 hc0 hE0 hch0 hcur0 ch0
 refine ⟨⟨fn,_,hf,hname,hbody⟩,?_⟩
 obtain ⟨tm,hk,htm⟩:=argsK_spec hk
 refine calls_of_bodyX hf hbody ?_
 have hcd:∀ base,DefOk ⟨fn.ntmps,w.heap.size,none,base⟩ r h w base:=fun base=>⟨[],rfl,trivial,fun e=>(e rfl).elim⟩
 have hSt:St P w0 ⟨fn.ntmps,w.heap.size,none,[]⟩ ch r tm h nx { tmps:=(concL r args).toArray ++ Array.replicate (fn.ntmps - (concL r args).toArray.size) undef,defers:=[] } w:=by
  refine ⟨H,fun q v hq=>?_,?_,hcd [],hE,by rw [hcur]; exact rfl,Nat.le_refl _⟩
  ·rcases htm q v hq with h1 | ⟨i,h1,h2⟩
   ·rw [S.find_l] at h1; cases h1
   ·have hi:i<args.length:=(List.getElem?_eq_some_iff.1 h2).1
    have h1:q.toNat=i:=by rw [h1]; show 0+i=i; omega
    refine ⟨?_,ha.get h2⟩
    rw [h1,Array.getElem?_append_left (by simp [concL_length]; exact hi)]
    rw [List.getElem?_toArray,concL_get,h2]; rfl
  ·simp [concL_length]; omega
 refine WpN.seq (den_sound hm fn.ntmps c1 ac1 h1 ⟨fn.ntmps,w.heap.size,none,[]⟩ ch rfl hch tm h nx _ _ w r _ hk hSt (fun e tm1 h1' nx1 r1 a1 w1 hK1 hs1 ev1=>?_) hq.goodP)
 cases e with
 | exit id=>exact hK1.elim
 | goto l=>exact hK1.elim
 | ret =>
  obtain ⟨vs,g1,g2,g3⟩:=resK_spec hs1.wr hs1.tr hres (show resK tm1 h1' res fun vs=>K (oneV vs) h1' nx1 from hK1)
  obtain ⟨ds,d1,d2,-⟩:=hs1.defers
  show LeavesX P fn a1.tmps R a1.defers w1
  rw [d1]
  exact leavesX_marks H.below.size ds w1 d2 hs1.wr ev1 (Nat.le_refl _) fun w'' H'' e''=>⟨_,run_results (g3 w'' H''),hR _ _ _ _ _ g1 H'' e'' (okV_one g2)⟩
 | nrm =>
  show WpN _ _ (Code.seq _ _) _ _ _
  refine WpN.seq (WpN.of (wpIn_region ?_))
  show wpOpsIn (Wr none) 0 P #[o0,od] _ [0,1] a1 w1
  rw [wpOpsIn_cons]
  have hK1:evsK tm1 [] fun a=>evsK tm1 caps fun b=>tm1.setK (.fn (.func f2) a b) pt fun tm=>den ac3 ch tm h1' nx1 (retK res K):=hK1
  obtain ⟨vs,hlen,hK1,hdet⟩:=evsK_det (show evsK tm1 caps fun b=>tm1.setK (.fn (.func f2) [] b) pt fun tm=>den ac3 ch tm h1' nx1 (retK res K) from hK1)
  rw [S.setK_iff] at hK1
  refine op_sound (F:=⟨fn.ntmps,w.heap.size,none,[]⟩) (rest:=dE) (K:=fun tm' h' nx'=>tm'=tm1.set (.fn (.func f2) [] vs) pt∧h'=h1'∧nx'=nx1) hch (ops:=#[o0,od]) (i:=0) rfl h0 rfl hs1 ?_ ?_ hq.goodP
  ·show evsK tm1 [] fun a=>evsK tm1 caps fun b=>tm1.setK (.fn (.func f2) a b) pt fun tm'=>tm'=tm1.set (.fn (.func f2) [] vs) pt∧h1'=h1'∧nx1=nx1
   show evsK tm1 caps fun b=>tm1.setK (.fn (.func f2) [] b) pt fun tm'=>tm'=tm1.set (.fn (.func f2) [] vs) pt∧h1'=h1'∧nx1=nx1
   refine hdet _ ?_
   rw [S.setK_iff]
   exact ⟨rfl,rfl,rfl⟩
  ·rintro tm2 h2 nx2 r2 a2 w2 ⟨rfl,rfl,rfl⟩ hs2 ev2
   rw [wpOpsIn_cons]
   have hw:Region.wanted od (yielded #[o0,od] a2.tmps)=true:=by simp [Region.wanted,hg]
   show wpOpIn (Wr none) 0 P #[o0,od] _ 1 _ a2 w2
   simp only [wpOpIn,show (#[o0,od]:Array Oper)[1]?=some od from rfl,hw,if_true]
   obtain ⟨t1,-⟩:=hs2.tr pt _ (S.find_set ..)
   have hev:a2.eval (.tmp pt.toNat)=.func (.func f2) #[] (concL r2 vs).toArray:=by
    simp only [Act.eval,Array.getD_eq_getD_getElem?,t1,Option.getD_some,conc,concL]
   have hrun:(od.semAt (Wr none).round a2.eval).run P w2=.ok (.defer { target:=.fn (.func f2) (concL r2 vs).toArray,args:=#[] }) w2:=by
    show (od.semAt none a2.eval).run P w2=_
    rw [Oper.semAt_none]
    simp only [execOp,hop,resolve,hev]
    simp [go_sem]
   refine ⟨fun _ _=>trivial,?_⟩
   rw [hrun,Oper.uponIn_defer]
   show Exit.then _ _ .normal _ w2
   obtain ⟨ds,d1,d2,d3⟩:=hs2.defers
   have d1:a2.defers=ds:=by rw [d1]; simp
   have ev12:=ev1.trans ev2
   refine den_sound hm fn.ntmps c3 ac3 h3 ⟨fn.ntmps,w2.heap.size,none,{ target:=.fn (.func f2) (concL r2 vs).toArray,args:=#[] } :: ds⟩ ch rfl hch _ _ _ (retK res K) _ w2 r2 _ hK1 ?_ ?_ hq.goodP
   ·rw [hdst]
    exact ⟨hs2.wr,hs2.tr,hs2.size,⟨[],by rw [← d1]; rfl,trivial,fun e=>(e rfl).elim⟩,hs2.env,hs2.cur,Nat.le_refl _⟩
   ·intro e tm' h' nx' r' a' w' hK hs hev'
    have key:(resK tm' h' res fun vs=>K (oneV vs) h' nx')→LeavesX P fn a'.tmps R a'.defers w':=by
     intro hK
     obtain ⟨us,g1,g2,g3⟩:=resK_spec hs.wr hs.tr hres hK
     obtain ⟨ds',d1',d2',-⟩:=hs.defers
     rw [d1']
     refine leavesX_marks hs2.wr.below.size ds' w' d2' hs.wr hev' (Nat.le_refl _) fun w'' H'' e''=>?_
     refine .inr ⟨.func f2,(concL r2 vs).toArray,f2,(concL r2 vs).toArray,rfl,?_,?_⟩
     ·have e2:invoke (.fn (.func f2) (concL r2 vs).toArray) #[]=callFunc f2 (concL r2 vs).toArray:=by
       show callFunc f2 (#[] ++ (concL r2 vs).toArray)=_
       simp
      show (invoke (.fn (.func f2) (concL r2 vs).toArray) #[]).run P w''=_
      rw [e2]
      exact run_callFunc hf2 hname2 hbody2
     ·refine (hidle (concL r2 vs).toArray w'' (by simp [concL_length,hlen])).mono fun e u' w3 he=>?_
      obtain ⟨k1,k2,rfl⟩:=he
      refine ⟨k1,k2,?_⟩
      have:=leavesX_marks (P:=P) (fn:=fn) (tmps:=a'.tmps) (R:=R) (base:=[]) H.below.size ds w3 (d2.ev e'') H'' (ev12.trans e'') (Nat.le_refl _) fun w4 H4 e4=>⟨_,run_results (g3 w4 H4),hR _ _ _ _ _ g1 H4 e4 (okV_one g2)⟩
      simpa using this
    cases e with
    | nrm=>exact key hK
    | ret=>exact key hK
    | exit id=>exact hK.elim
    | goto l=>exact hK.elim
end
end Go.Proofs.YtidggaoacldgkaaGreatDoor.X

/- reduce.Try of each type: what it puts off does nothing where nothing panics. -/
namespace Go.Proofs.YtidggaoacldgkaaGreatDoor.X
open Go.RowKit
def tryAF40:AF:=⟨fun ch=>den (.seq (.ops [⟨(some s2),(.v (.new [(.int .i64 (.ofNat 0)),(.int .i64 (.ofNat 0)),(.bool false),(.str []),.nils,.nils] 30)),none⟩,⟨(some s3),(.v (.new [(.int .i64 (.ofNat 0))] 36)),none⟩]) (.seq (.ops [⟨(some s4),(.v (.mkf 85 [] [(.t s2),(.t s3)])),none⟩]) (.seq (.ops [⟨(some s5),(.v (.mv (.t s0))),none⟩,⟨(some s6),(.callv (.t s5) []),none⟩,⟨none,(.v (.st 6 (.t s2) (.t s6))),none⟩,⟨none,(.v (.st 1 (.t s3) (.c (.int .i64 (.ofNat 0))))),none⟩]) .ret))) ch.calm,[(.cN s2 6),(.c1 s3)]⟩
theorem try_idle40 (x y:Value) (w:World):CallsD Tryz.prog 85 #[x,y] .returning w fun e u' w'=>(∃ v,e=.returned v)∧u'=.returning∧w'=w:=by
 refine callsD_of_wpS Tryz.func85 rfl fun c₀ cs hu=>?_
 apply wpS_seq
 apply wpS_region
 simp [wpOpsS,go_sem,recoverD,hu,Tryz.ntmps85,Exit.thenS]
 apply wpS_seq
 apply wpS_region
 simp [wpOpsS,go_sem,Exit.thenS]
 refine wpS_cond (t:=false) (by simp [Act.eval,Array.replicate]) ?_
 simp only [Bool.false_eq_true,if_false]
 refine wpS_of_wp (wp_skip ?_)
 cases c₀
 simp_all [bodyPostS,results,Tryz.results85]
theorem try_ok40:FunSem Tryz.prog 40 tryAF40 :=
 try_sem (by kernel_rfl) Tryz.func40 (by kernel_rfl) rfl Tryz.func85 (by kernel_rfl) rfl (by kernel_rfl) (by kernel_rfl) (by kernel_rfl) (by kernel_rfl) rfl rfl rfl (fun args w h=>by
  match args,h with
  | ⟨[x,y]⟩,_=>exact try_idle40 x y w)
def tryAF116:AF:=⟨fun ch=>den (.seq (.ops [⟨(some s2),(.v (.new [(.int .i64 (.ofNat 0))] 3)),none⟩,⟨(some s3),(.v (.new [(.int .i64 (.ofNat 0))] 36)),none⟩]) (.seq (.ops [⟨(some s4),(.v (.mkf 161 [] [(.t s2),(.t s3)])),none⟩]) (.seq (.ops [⟨(some s5),(.v (.mv (.t s0))),none⟩,⟨(some s6),(.callv (.t s5) []),none⟩,⟨none,(.v (.st 1 (.t s2) (.t s6))),none⟩,⟨none,(.v (.st 1 (.t s3) (.c (.int .i64 (.ofNat 0))))),none⟩]) .ret))) ch.calm,[(.c1 s2),(.c1 s3)]⟩
theorem try_idle116 (x y:Value) (w:World):CallsD Tryz.prog 161 #[x,y] .returning w fun e u' w'=>(∃ v,e=.returned v)∧u'=.returning∧w'=w:=by
 refine callsD_of_wpS Tryz.func161 rfl fun c₀ cs hu=>?_
 apply wpS_seq
 apply wpS_region
 simp [wpOpsS,go_sem,recoverD,hu,Tryz.ntmps161,Exit.thenS]
 apply wpS_seq
 apply wpS_region
 simp [wpOpsS,go_sem,Exit.thenS]
 refine wpS_cond (t:=false) (by simp [Act.eval,Array.replicate]) ?_
 simp only [Bool.false_eq_true,if_false]
 refine wpS_of_wp (wp_skip ?_)
 cases c₀
 simp_all [bodyPostS,results,Tryz.results161]
theorem try_ok116:FunSem Tryz.prog 116 tryAF116 :=
 try_sem (by kernel_rfl) Tryz.func116 (by kernel_rfl) rfl Tryz.func161 (by kernel_rfl) rfl (by kernel_rfl) (by kernel_rfl) (by kernel_rfl) (by kernel_rfl) rfl rfl rfl (fun args w h=>by
  match args,h with
  | ⟨[x,y]⟩,_=>exact try_idle116 x y w)
def tryAF246:AF:=⟨fun ch=>den (.seq (.ops [⟨(some s2),(.v (.new [.nilp] 310)),none⟩,⟨(some s3),(.v (.new [(.int .i64 (.ofNat 0))] 36)),none⟩]) (.seq (.ops [⟨(some s4),(.v (.mkf 281 [] [(.t s2),(.t s3)])),none⟩]) (.seq (.ops [⟨(some s5),(.v (.mv (.t s0))),none⟩,⟨(some s6),(.callv (.t s5) []),none⟩,⟨none,(.v (.st 1 (.t s2) (.t s6))),none⟩,⟨none,(.v (.st 1 (.t s3) (.c (.int .i64 (.ofNat 0))))),none⟩]) .ret))) ch.calm,[(.cN s2 1),(.c1 s3)]⟩
theorem try_idle246 (x y:Value) (w:World):CallsD Tryz.prog 281 #[x,y] .returning w fun e u' w'=>(∃ v,e=.returned v)∧u'=.returning∧w'=w:=by
 refine callsD_of_wpS Tryz.func281 rfl fun c₀ cs hu=>?_
 apply wpS_seq
 apply wpS_region
 simp [wpOpsS,go_sem,recoverD,hu,Tryz.ntmps281,Exit.thenS]
 apply wpS_seq
 apply wpS_region
 simp [wpOpsS,go_sem,Exit.thenS]
 refine wpS_cond (t:=false) (by simp [Act.eval,Array.replicate]) ?_
 simp only [Bool.false_eq_true,if_false]
 refine wpS_of_wp (wp_skip ?_)
 cases c₀
 simp_all [bodyPostS,results,Tryz.results281]
theorem try_ok246:FunSem Tryz.prog 246 tryAF246 :=
 try_sem (by kernel_rfl) Tryz.func246 (by kernel_rfl) rfl Tryz.func281 (by kernel_rfl) rfl (by kernel_rfl) (by kernel_rfl) (by kernel_rfl) (by kernel_rfl) rfl rfl rfl (fun args w h=>by
  match args,h with
  | ⟨[x,y]⟩,_=>exact try_idle246 x y w)
def tryAF250:AF:=⟨fun ch=>den (.seq (.ops [⟨(some s2),(.v (.new [(.bool false)] 4)),none⟩,⟨(some s3),(.v (.new [(.int .i64 (.ofNat 0))] 36)),none⟩]) (.seq (.ops [⟨(some s4),(.v (.mkf 282 [] [(.t s2),(.t s3)])),none⟩]) (.seq (.ops [⟨(some s5),(.v (.mv (.t s0))),none⟩,⟨(some s6),(.callv (.t s5) []),none⟩,⟨none,(.v (.st 1 (.t s2) (.t s6))),none⟩,⟨none,(.v (.st 1 (.t s3) (.c (.int .i64 (.ofNat 0))))),none⟩]) .ret))) ch.calm,[(.c1 s2),(.c1 s3)]⟩
theorem try_idle250 (x y:Value) (w:World):CallsD Tryz.prog 282 #[x,y] .returning w fun e u' w'=>(∃ v,e=.returned v)∧u'=.returning∧w'=w:=by
 refine callsD_of_wpS Tryz.func282 rfl fun c₀ cs hu=>?_
 apply wpS_seq
 apply wpS_region
 simp [wpOpsS,go_sem,recoverD,hu,Tryz.ntmps282,Exit.thenS]
 apply wpS_seq
 apply wpS_region
 simp [wpOpsS,go_sem,Exit.thenS]
 refine wpS_cond (t:=false) (by simp [Act.eval,Array.replicate]) ?_
 simp only [Bool.false_eq_true,if_false]
 refine wpS_of_wp (wp_skip ?_)
 cases c₀
 simp_all [bodyPostS,results,Tryz.results282]
theorem try_ok250:FunSem Tryz.prog 250 tryAF250 :=
 try_sem (by kernel_rfl) Tryz.func250 (by kernel_rfl) rfl Tryz.func282 (by kernel_rfl) rfl (by kernel_rfl) (by kernel_rfl) (by kernel_rfl) (by kernel_rfl) rfl rfl rfl (fun args w h=>by
  match args,h with
  | ⟨[x,y]⟩,_=>exact try_idle250 x y w)
end Go.Proofs.YtidggaoacldgkaaGreatDoor.X

/- An executor for closed calls, 33: a table in memory, as entries and as a function. -/
namespace Go.Proofs.YtidggaoacldgkaaGreatDoor.X
open Go.RowKit
theorem inj_key {l:List MapEntry} (h:(l.map (·.key)).Nodup) {x y:MapEntry} (hx:x ∈ l) (hy:y ∈ l) (e:x.key=y.key):x=y:=by
 induction l with
 | nil=>cases hx
 | cons z l ih =>
  simp only [List.map_cons,List.nodup_cons] at h
  rcases List.mem_cons.1 hx with e1 | h1
  ·rcases List.mem_cons.1 hy with e2 | h2
   ·rw [e1,e2]
   ·exact absurd (List.mem_map.2 ⟨y,h2,by rw [← e,e1]⟩) h.1
  ·rcases List.mem_cons.1 hy with e2 | h2
   ·exact absurd (List.mem_map.2 ⟨x,h1,by rw [e,e2]⟩) h.1
   ·exact ih h.2 h1 h2
def EntM (M:ByteArray→Option (Int × Int)) (x:MapEntry):Prop:=∃ s p k,x.key=.string s∧s.size≤maxLen∧x.val=.agg #[.int .i64 p,.int .i64 k]∧M s=some (p,k)
theorem Tb.out {w:World} {b n:Nat} {M:ByteArray→Option (Int × Int)} (h:Tb w (some b) n M):∃ arr clk,w.heap[b]?=some (.map arr clk)∧MapKept.Stamped arr clk∧arr.size≤n∧(∀ x ∈ arr.toList,EntM M x) ∧
  ∀ s p k,s.size≤maxLen→M s=some (p,k)→∃ x ∈ arr.toList,x.key=.string s∧x.val=.agg #[.int .i64 p,.int .i64 k]:=by
 rcases h.go with ⟨h,-⟩ | ⟨b',D,h1,⟨arr,clk,hb,F,hs,rfl⟩,hD⟩
 ·cases h
 cases h1
 refine ⟨arr,clk,hb,F.stamped,hs,fun x hx=>?_,fun s p k hsz hM=>?_⟩
 ·obtain ⟨y,hy⟩:=F.reads x hx
  obtain ⟨s,hks⟩:=keyS_inv (WideElems.rd_key hy)
  have hkey:=WideElems.rd_key hy
  rw [hks] at hkey
  obtain ⟨hsz,hy1⟩:=keyS_is hkey
  rcases Maps.fit_look true law_str Tryz.underlying71 (zeroM w) hb F (keyS_of hsz) with ⟨-,hno,-⟩ | ⟨e0,y0,he0,hk0,-,hR0,hat,-⟩
  ·exact absurd hks (hno x hx)
  ·have hex:e0=x:=inj_key F.stamped.2.2 he0 hx (hk0.trans hks.symm)
   subst hex
   obtain ⟨p,k,hv,hy0⟩:=readM_inv hR0
   have hhas:=Maps.has_true_of_atKey hat
   rw [(hD s hsz).1] at hhas
   obtain ⟨x',hx'⟩:=Option.isSome_iff_exists.1 hhas
   have h2:=(hD s hsz).2 x' (.agg []) hx'
   rw [hat,hy0] at h2
   simp only [DataW.agg.injEq,List.cons.injEq,DataW.lit.injEq,Lit.int.injEq,and_true,true_and] at h2
   exact ⟨s,p,k,hks,hsz,hv,by rw [hx',h2.1,h2.2]⟩
 ·rcases Maps.fit_look true law_str Tryz.underlying71 (zeroM w) hb F (keyS_of hsz) with ⟨-,-,hat⟩ | ⟨e0,y0,he0,hk0,-,hR0,hat,-⟩
  ·have:=Maps.has_false_of_atKey hat
   rw [(hD s hsz).1,hM] at this
   cases this
  ·obtain ⟨p',k',hv,hy0⟩:=readM_inv hR0
   have h2:=(hD s hsz).2 (p,k) (.agg []) hM
   rw [hat,hy0] at h2
   simp only [DataW.agg.injEq,List.cons.injEq,DataW.lit.injEq,Lit.int.injEq,and_true,true_and] at h2
   exact ⟨e0,he0,hk0,by rw [hv,h2.1,h2.2]⟩
theorem Tb.of {w:World} {b n:Nat} {M:ByteArray→Option (Int × Int)} {arr:Array MapEntry} {clk:Nat} (hb:w.heap[b]?=some (.map arr clk)) (hst:MapKept.Stamped arr clk) (hs:arr.size≤n) (hn:n≤maxLen) (h1:∀ x ∈ arr.toList,EntM M x)
  (h2:∀ s p k,s.size≤maxLen→M s=some (p,k)→∃ x ∈ arr.toList,x.key=.string s∧x.val=.agg #[.int .i64 p,.int .i64 k]):Tb w (some b) n M:=by
 have F:WideElems.Fit Tryz.prog 9 readM arr clk:=⟨Nat.le_trans hs hn,hst,fun x hx=>by
  obtain ⟨s,p,k,e1,e2,e3,e4⟩:=h1 x hx
  exact ⟨_,WideElems.rd_mk (key:=x.key) (val:=x.val) (born:=x.born) (by rw [e1]; exact keyS_of e2) (by rw [e3]; exact readM_mk p k)⟩⟩
 refine ⟨.inr ⟨b,_,rfl,⟨arr,clk,hb,F,hs,rfl⟩,fun s hsz=>?_⟩⟩
 rcases Maps.fit_look true law_str Tryz.underlying71 (zeroM w) hb F (keyS_of hsz) with ⟨-,hno,hat⟩ | ⟨e0,y0,he0,hk0,-,hR0,hat,-⟩
 ·have hM:M s=none:=by
   cases hm:M s with
   | none=>rfl
   | some x =>
    obtain ⟨e,he,hk,-⟩:=h2 s x.1 x.2 hsz hm
    exact absurd hk (hno e he)
  refine ⟨?_,fun x zd hx=>by rw [hM] at hx; cases hx⟩
  rw [Maps.has_false_of_atKey hat,hM]; rfl
 ·obtain ⟨s',p,k,e1,e2,e3,e4⟩:=h1 e0 he0
  have:s'=s:=by rw [hk0] at e1; exact (Value.string.inj e1).symm
  subst this
  obtain ⟨p',k',hv,hy0⟩:=readM_inv hR0
  refine ⟨by rw [Maps.has_true_of_atKey hat,e4]; rfl,fun x zd hx=>?_⟩
  rw [e4] at hx
  cases hx
  rw [hat,hy0]
  rw [e3] at hv
  simp only [Value.agg.injEq,Array.mk.injEq,List.cons.injEq,Value.int.injEq,and_true,true_and] at hv
  rw [hv.1,hv.2]
end Go.Proofs.YtidggaoacldgkaaGreatDoor.X

/- An executor for closed calls, 34: a map's block is a table, and a table is a map's block. -/
namespace Go.Proofs.YtidggaoacldgkaaGreatDoor.X
open Go.RowKit
def natsOf (b:ByteArray):List Nat:=b.data.toList.map (·.toNat)
theorem bytes_nats (b:ByteArray):bytesOf (natsOf b)=b:=by
 cases b with
 | mk d =>
  unfold bytesOf natsOf
  congr 1
  apply Array.ext'
  show List.map UInt8.ofNat (List.map (fun x:UInt8=>x.toNat) d.toList)=d.toList
  rw [List.map_map]
  conv=>rhs; rw [← List.map_id d.toList]
  exact List.map_congr_left fun x _=>by simp
theorem nats_bytes {s:List Nat} (h:∀ x ∈ s,x<256):natsOf (bytesOf s)=s:=by
 unfold natsOf bytesOf
 simp only [List.map_map]
 conv=>rhs; rw [← List.map_id s]
 refine List.map_congr_left fun x hx=>?_
 have:=h x hx
 simp [UInt8.toNat_ofNat']
 omega
def okE (e:AV × AV × Nat):Bool:=match e.1,e.2.1 with
 | .str s,.agg [.int .i64 _,.int .i64 _]=>Nat.ble s.length 1000
 | _,_=>false
def okEs:List (AV × AV × Nat)→Bool
 | []=>true
 | e :: l=>okE e&&okEs l
theorem okE_spec {e:AV × AV × Nat} (h:okE e=true):∃ s p k,e.1=.str s∧e.2.1=.agg [.int .i64 p,.int .i64 k]∧s.length≤1000:=by
 unfold okE at h
 split at h
 ·rename_i s p k h1 h2
  exact ⟨s,p,k,h1,h2,Nat.le_of_ble_eq_true h⟩
 ·cases h
theorem okEs_mem:∀ {es:List (AV × AV × Nat)},okEs es=true→∀ e ∈ es,okE e=true
 | [],_,e,he=>by cases he
 | x :: l,h,e,he=>by
  simp only [okEs,Bool.and_eq_true] at h
  rcases List.mem_cons.1 he with rfl | he
  ·exact h.1
  ·exact okEs_mem h.2 e he
def MofE (es:List (AV × AV × Nat)):ByteArray→Option (Int × Int):=fun b=>match look (natsOf b) es with
 | some (.agg [.int .i64 p,.int .i64 k])=>some (p,k)
 | _=>none
theorem MofE_iff {es:List (AV × AV × Nat)} {b:ByteArray} {p k:Int}:MofE es b=some (p,k)↔look (natsOf b) es=some (.agg [.int .i64 p,.int .i64 k]):=by
 unfold MofE
 constructor
 ·intro h
  split at h
  ·rename_i p' k' he
   cases h
   exact he
  ·cases h
 ·intro h
  rw [h]
section
variable {P:Program} {w0:World} {r:Rho} {h:T AO} {nx:Pt} {w:World}
def okS (es:List (AV × AV × Nat)):Prop:=∀ e ∈ es,∀ s,e.1=.str s→∀ x ∈ s,x<256
theorem okS_of {es:List (AV × AV × Nat)} {n:Pt→Prop} {c:Nat} (ho:okO n (.map es c)):okS es:=fun e he s hs=>by
 have:=(ho e he).1
 rw [hs] at this
 simpa only [okV] using this
theorem tb_of_BR {k:Pt} {es:List (AV × AV × Nat)} {c n b:Nat} (hbr:BR P r k (.map es c) (w.heap[b]?)) (hS:okS es) (hok:okEs es=true) (hl:es.length≤n) (hn:n≤maxLen):Tb w (some b) n (MofE es):=by
 obtain ⟨es',c',hb,M,Bi⟩:=hbr
 have hok':∀ e ∈ es',∃ s p k,e.1=.str s∧e.2.1=.agg [.int .i64 p,.int .i64 k]∧s.length≤1000∧∀ x ∈ s,x<256:=fun e he=>by
  obtain ⟨e',he',q1,q2⟩:=M.mem he
  obtain ⟨s,p,k,g1,g2,g3⟩:=okE_spec (okEs_mem hok e' he')
  exact ⟨s,p,k,by rw [← q1]; exact g1,by rw [← q2]; exact g2,g3,hS e' he' s g1⟩
 have hkv:∀ e ∈ es',∀ s,e.1=.str s→look s es=some e.2.1:=fun e he s hs=>by
  rw [look_mem M.str M.nodup,M.perm.mem_iff]
  exact List.mem_map.2 ⟨e,he,by simp [KV,hs]⟩
 have hmax:(1000:Nat)≤maxLen:=by decide
 refine Tb.of hb ⟨fun x hx=>?_,?_,?_⟩ (by simpa using Nat.le_trans (Nat.le_of_eq (by have:=M.perm.length_eq; simpa using this.symm)) hl) hn (fun x hx=>?_) fun s p k hs hM=>?_
 ·obtain ⟨e,he,rfl⟩:=List.mem_map.1 (show x ∈ es'.map (concE r) from hx)
  exact Bi.2 e he
 ·have:(es'.map (concE r)).map (·.born)=es'.map (·.2.2):=by simp [concE,Function.comp_def]
  show ((es'.map (concE r)).map (·.born)).Nodup
  rw [this]; exact Bi.1
 ·show ((es'.map (concE r)).map (·.key)).Nodup
  have hk:=M.keys.1
  unfold List.Nodup at hk ⊢
  rw [List.pairwise_map] at hk
  rw [List.map_map,List.pairwise_map]
  refine hk.imp_of_mem fun {a b} ha hb' hab e=>hab ?_
  obtain ⟨s,p,k,g1,-,-,g4⟩:=hok' a ha
  obtain ⟨s',p',k',g1',-,-,g4'⟩:=hok' b hb'
  simp only [Function.comp,concE,g1,g1',conc,Value.string.injEq] at e
  rw [g1,g1',← nats_bytes g4,← nats_bytes g4',e]
 ·obtain ⟨e,he,rfl⟩:=List.mem_map.1 (show x ∈ es'.map (concE r) from hx)
  obtain ⟨s,p,k,g1,g2,g3,g4⟩:=hok' e he
  refine ⟨bytesOf s,p,k,by simp [concE,g1,conc],?_,by simp [concE,g2,conc,concL],?_⟩
  ·have:(bytesOf s).size=s.length:=by simp [bytesOf,ByteArray.size]
   rw [this]; omega
  ·rw [MofE_iff,nats_bytes g4,hkv e he s g1,g2]
 ·rw [MofE_iff,look_mem M.str M.nodup,M.perm.mem_iff] at hM
  obtain ⟨e,he,q⟩:=List.mem_map.1 hM
  simp only [KV,Prod.mk.injEq] at q
  refine ⟨concE r e,List.mem_map.2 ⟨e,he,rfl⟩,?_,?_⟩
  ·simp [concE,q.1,conc,bytes_nats]
  ·simp [concE,q.2,conc,concL]
def decE (x:MapEntry):AV × AV × Nat:=(match x.key with | .string s=>.str (natsOf s) | _=>.nilp,match x.val with | .agg a=>(match a.toList with | [.int _ p,.int _ k]=>.agg [.int .i64 p,.int .i64 k] | _=>.nilp) | _=>.nilp,x.born)
theorem BR_of_tb {k:Pt} {es:List (AV × AV × Nat)} {c n b:Nat} (hT:Tb w (some b) n (MofE es)) (hS:okS es) (hok:okEs es=true) (hnd:(es.map Prod.fst).Nodup):BR P r k (.map es c) (w.heap[b]?):=by
 obtain ⟨arr,clk,hb,hst,-,h1,h2⟩:=Tb.out hT
 have hstr:∀ e ∈ es,∃ s,e.1=.str s:=fun e he=>by obtain ⟨s,p,k,g,-⟩:=okE_spec (okEs_mem hok e he); exact ⟨s,g⟩
 have hdec:∀ x ∈ arr.toList,∃ s p k,x.key=.string s∧decE x=(.str (natsOf s),.agg [.int .i64 p,.int .i64 k],x.born)∧x.val=.agg #[.int .i64 p,.int .i64 k]∧look (natsOf s) es=some (.agg [.int .i64 p,.int .i64 k]):=fun x hx=>by
  obtain ⟨s,p,k,e1,e2,e3,e4⟩:=h1 x hx
  exact ⟨s,p,k,e1,by simp only [decE,e1,e3],e3,MofE_iff.1 e4⟩
 have hmax:(1000:Nat)≤maxLen:=by decide
 refine ⟨arr.toList.map decE,clk,?_,⟨?_,hnd,hstr⟩,?_,fun e he=>?_⟩
 ·rw [hb]
  congr 2
  apply Array.ext'
  rw [List.map_map]
  conv=>lhs; rw [← List.map_id arr.toList]
  refine List.map_congr_left fun x hx=>?_
  obtain ⟨s,p,k,e1,e2,e3,-⟩:=hdec x hx
  cases x with
  | mk key val born =>
   simp only at e1 e3
   subst e1; subst e3
   simp only [Function.comp,id,e2,concE,conc,concL,bytes_nats]
 ·have hkn:∀ {l:List (AV × AV × Nat)},(l.map Prod.fst).Nodup→(l.map KV).Nodup:=fun {l} h=>by
   unfold List.Nodup at h ⊢
   rw [List.pairwise_map] at h ⊢
   exact h.imp fun {a b} hab e=>hab (by simp only [KV,Prod.mk.injEq] at e; exact e.1)
  have hnd2:((arr.toList.map decE).map Prod.fst).Nodup:=by
   have hk:=hst.2.2
   unfold List.Nodup at hk ⊢
   rw [List.pairwise_map] at hk
   rw [List.map_map,List.pairwise_map]
   refine hk.imp_of_mem fun {a b} ha hb' hab e=>hab ?_
   obtain ⟨s,p,k,e1,e2,-⟩:=hdec a ha
   obtain ⟨s',p',k',e1',e2',-⟩:=hdec b hb'
   simp only [Function.comp,e2,e2',AV.str.injEq] at e
   rw [e1,e1',← bytes_nats s,← bytes_nats s',e]
  rw [List.perm_ext_iff_of_nodup (hkn hnd) (hkn hnd2)]
  intro q
  constructor
  ·intro hq
   obtain ⟨e,he,rfl⟩:=List.mem_map.1 hq
   obtain ⟨s,p,k,g1,g2,g3⟩:=okE_spec (okEs_mem hok e he)
   have hl:=(look_mem hstr hnd (s:=s) (v:=e.2.1)).2 (List.mem_map.2 ⟨e,he,by simp [KV,g1]⟩)
   have hsz:(bytesOf s).size=s.length:=by simp [bytesOf,ByteArray.size]
   obtain ⟨x,hx,q1,q2⟩:=h2 (bytesOf s) p k (by rw [hsz]; omega) (by rw [MofE_iff,nats_bytes (hS e he s g1),hl,g2])
   obtain ⟨s',p',k',e1,e2,e3,-⟩:=hdec x hx
   rw [q1] at e1
   cases e1
   rw [q2] at e3
   simp only [Value.agg.injEq,Array.mk.injEq,List.cons.injEq,Value.int.injEq,and_true,true_and] at e3
   refine List.mem_map.2 ⟨decE x,List.mem_map.2 ⟨x,hx,rfl⟩,?_⟩
   rw [e2]
   simp only [KV,g1,g2,nats_bytes (hS e he s g1),← e3.1,← e3.2]
  ·intro hq
   obtain ⟨e,he,rfl⟩:=List.mem_map.1 hq
   obtain ⟨x,hx,rfl⟩:=List.mem_map.1 he
   obtain ⟨s',p',k',e1,e2,e3,e4⟩:=hdec x hx
   rw [e2]
   exact (look_mem hstr hnd).1 e4
 ·have:(arr.toList.map decE).map (·.2.2)=arr.toList.map (·.born):=by simp [decE,Function.comp_def]
  rw [this]; exact hst.2.1
 ·obtain ⟨x,hx,rfl⟩:=List.mem_map.1 he
  exact hst.1 x hx
end
end Go.Proofs.YtidggaoacldgkaaGreatDoor.X

/- An executor for closed calls, 35: the tables' join and meets, told. -/
namespace Go.Proofs.YtidggaoacldgkaaGreatDoor.X
open Go.RowKit
section
variable {P:Program} {w0:World} {r:Rho} {h:T AO} {nx:Pt} {w w':World}
theorem WR.turn (H:WR P w0 r h nx w) {h':T AO} (hB:Below w0.heap.size w0 w') (h1:∀ k o,h'.find k=some o→(h.find k=some o∧w'.heap[r.blk k]?=w.heap[r.blk k]?)∨((∃ o0,h.find k=some o0)∧okO r.has o∧BR P r k o (w'.heap[r.blk k]?))):WR P w0 r h' nx w':=by
 have key:∀ k o,h'.find k=some o→∃ o0,h.find k=some o0:=fun k o hk=>by
  rcases h1 k o hk with ⟨g,-⟩ | ⟨g,-⟩
  ·exact ⟨o,g⟩
  ·exact g
 refine ⟨H.dom,H.dis,hB,fun k o hk=>?_,fun i j oi oj hi hj e=>?_⟩
 ·rcases h1 k o hk with ⟨g,e⟩ | ⟨⟨o0,g⟩,g2,g3⟩
  ·obtain ⟨a1,a2,a3,a4⟩:=H.has k o g
   exact ⟨a1,a2,a3,by rw [e]; exact a4⟩
  ·obtain ⟨a1,a2,-,-⟩:=H.has k o0 g
   exact ⟨a1,a2,g2,g3⟩
 ·obtain ⟨x,hx⟩:=key i oi hi
  obtain ⟨y,hy⟩:=key j oj hj
  exact H.apart i j x y hx hy e
def disB (es1:List (AV × AV × Nat)):List (AV × AV × Nat)→Bool
 | []=>true
 | e :: l=>(match e.1 with | .str s=>(look s es1).isNone | _=>false)&&disB es1 l
theorem disB_spec {es1:List (AV × AV × Nat)}:∀ {es2:List (AV × AV × Nat)},disB es1 es2=true→∀ e ∈ es2,∀ s,e.1=.str s→look s es1=none
 | [],_,e,he=>by cases he
 | x :: l,h,e,he=>by
  simp only [disB,Bool.and_eq_true] at h
  rcases List.mem_cons.1 he with rfl | he
  ·intro s hs
   have:=h.1
   rw [hs] at this
   simpa using this
  ·exact disB_spec h.2 e he
theorem look_app {s:List Nat}:∀ {es1 es2:List (AV × AV × Nat)},(∀ e ∈ es1,∃ s,e.1=.str s)→look s (es1 ++ es2)=(match look s es1 with | some v=>some v | none=>look s es2)
 | [],es2,_=>rfl
 | e :: l,es2,h=>by
  obtain ⟨s',hs'⟩:=h e (List.mem_cons_self ..)
  simp only [List.cons_append,look,hs']
  cases eqN s s' with
  | true=>rfl
  | false=>exact look_app fun e he=>h e (List.mem_cons_of_mem _ he)
theorem okEs_app:∀ {a b:List (AV × AV × Nat)},okEs a=true→okEs b=true→okEs (a ++ b)=true
 | [],_,_,hb=>hb
 | e :: l,b,ha,hb=>by
  simp only [okEs,Bool.and_eq_true,List.cons_append] at ha ⊢
  exact ⟨ha.1,okEs_app ha.2 hb⟩
def twoK (tm:S) (c:Prop):Prop:=match tm.find s2 with
 | none=>c
 | some _=>False
def joinD:D:=fun _ tm h nx K=>twoK tm <| tm.getK s0 fun a0=>tm.getK s1 fun a1=>match a0,a1 with
 | .ptr kt ot,.agg [.map m2]=>h.getK kt fun b=>match b with
  | .cells cs e=>h.getK m2 fun b2=>match b2 with
   | .map es2 _=>match cs[ot]? with
    | some (.map m1)=>h.getK m1 fun b1=>match b1 with
     | .map es1 _=>Bool.rec (motive:=fun _=>Prop) False (forceL (es1 ++ es2) fun es=>h.setK (.map es 0) m1 fun h=>K .nrm tm h nx)
       (okEs es1&&okEs es2&&disB es1 es2&&!(eqP m1 kt)&&!(eqP m2 m1)&&!(eqP m2 kt)&&Nat.ble es1.length 1000&&Nat.ble es2.length 1000)
     | _=>False
    | some .nilm=>Bool.rec (motive:=fun _=>Prop) False (h.setK (.map es2 0) nx fun h=>forceL (putL cs ot [.map nx]) fun cs'=>h.setK (.cells cs' e) kt fun h=>succK nx fun nx'=>K .nrm tm h nx')
      (okEs es2&&!(eqP m2 kt)&&Nat.ble es2.length 1000&&Nat.ble 1 es2.length)
    | _=>False
   | _=>False
  | _=>False
 | _,_=>False
def meetP:Sl:=s4
def meetsD:D:=fun _ tm h nx K=>twoK tm <| tm.getK s0 fun a0=>tm.getK s1 fun a1=>match a0,a1 with
 | .ptr kt ot,.agg [.map m2]=>h.getK kt fun b=>match b with
  | .cells cs _=>h.getK m2 fun b2=>match b2 with
   | .map es2 _=>match cs[ot]? with
    | some (.map m1)=>h.getK m1 fun b1=>match b1 with
     | .map es1 _=>Bool.rec (motive:=fun _=>Prop) False (Bool.rec (motive:=fun _=>Prop) (tm.setK (.bool true) meetP fun tm=>K .ret tm h nx) (tm.setK (.bool false) meetP fun tm=>K .ret tm h nx) (disB es1 es2))
       (okEs es1&&okEs es2&&Nat.ble es1.length 1000&&Nat.ble es2.length 1000)
     | _=>False
    | some .nilm=>Bool.rec (motive:=fun _=>Prop) False (tm.setK (.bool false) meetP fun tm=>K .ret tm h nx) (okEs es2&&Nat.ble es2.length 1000)
    | _=>False
   | _=>False
  | _=>False
 | _,_=>False
def joinAF:AF:=⟨joinD,[]⟩
def meetsAF:AF:=⟨meetsD,[.t meetP]⟩
theorem cell_of_BR {k:Pt} {cs:List AV} {e:TypeId} {b o:Nat} {v:AV} (hbr:BR P r k (.cells cs e) (w.heap[b]?)) (hv:cs[o]?=some v):w.cell? ⟨b,o,none⟩=some (conc r v)∧∀ o,w.frozen? ⟨b,o,none⟩=false:=by
 obtain ⟨rest,hb,-⟩:=hbr
 refine ⟨?_,fun o=>by simp [World.frozen?,hb]⟩
 rw [cell_of_row _ _ _ _ _ _ hb]
 have ho:o<(concL r cs).length:=by rw [concL_length]; exact (List.getElem?_eq_some_iff.1 hv).1
 rw [List.getElem?_toArray,List.getElem?_append_left ho,concL_get,hv]
 rfl
theorem argsK_fullF:∀ {args:List AV} {j:Nat} {ps:List Sl} {tm:S} {c:S→Prop},(∀ i p,ps[i]?=some p→p.toNat=j+i)→argsK args ps tm c→∃ tm',c tm'∧(∀ q:Sl,q.toNat<j→tm'.find q=tm.find q)∧(∀ (q:Sl) i v,q.toNat=j+i→args[i]?=some v→tm'.find q=some v) ∧
  ∀ (q:Sl),j+args.length≤q.toNat→tm'.find q=tm.find q
 | [],j,ps,tm,c,_,hk=>⟨tm,hk,fun _ _=>rfl,fun q i v _ h=>by simp at h,fun _ _=>rfl⟩
 | x :: l,j,[],tm,c,_,hk=>False.elim hk
 | x :: l,j,p :: ps,tm,c,hps,hk=>by
  have hp:p.toNat=j:=hps 0 p rfl
  have hk:tm.setK x p fun tm=>argsK l ps tm c:=hk
  rw [S.setK_iff] at hk
  obtain ⟨tm',h1,h2,h3,h4⟩:=argsK_fullF (j:=j+1) (fun i p hi=>by rw [hps (i+1) p hi]; omega) hk
  refine ⟨tm',h1,fun q hq=>?_,fun q i v hq hv=>?_,fun q hq=>?_⟩
  ·rw [h2 q (by omega),S.find_set_ne _ _ _ _ (fun e=>by rw [e] at hq; omega)]
  ·cases i with
   | zero =>
    have:q=p:=Sl.inj (by omega)
    subst this
    simp only [List.getElem?_cons_zero,Option.some.injEq] at hv
    rw [h2 q (by omega),S.find_set,hv]
   | succ i=>exact h3 q i v (by omega) (by simpa using hv)
  ·simp only [List.length_cons] at hq
   rw [h4 q (by omega),S.find_set_ne _ _ _ _ (fun e=>by rw [e] at hq; omega)]
theorem argsK_full {args:List AV} {c:S→Prop} (hk:argsK args slTab .l c):∃ tm',c tm'∧(∀ q:Sl,q.toNat<0→tm'.find q=S.l.find q)∧(∀ (q:Sl) i v,q.toNat=0+i→args[i]?=some v→tm'.find q=some v) ∧
  ∀ (q:Sl),0+args.length≤q.toNat→tm'.find q=S.l.find q :=
 argsK_fullF (fun i p h=>by rw [slTab_get h]; omega) hk
theorem args_two {args:List AV} {tm:S} {c:AV→AV→Prop} (hf:∀ (q:Sl) v,args[q.toNat]?=some v→tm.find q=some v) (hb:∀ q v,tm.find q=some v→args[q.toNat]?=some v) (hk:twoK tm (tm.getK s0 fun a0=>tm.getK s1 fun a1=>c a0 a1)):∃ a0 a1,args=[a0,a1]∧c a0 a1:=by
 unfold twoK at hk
 split at hk
 ·rename_i hn
  obtain ⟨a0,h0,hk⟩:=(S.getK_iff _ _ _).1 hk
  obtain ⟨a1,h1,hk⟩:=(S.getK_iff _ _ _).1 hk
  have e0:args[0]?=some a0:=hb _ _ h0
  have e1:args[1]?=some a1:=hb _ _ h1
  match args,e0,e1 with
  | [x,y],e0,e1 =>
   simp at e0 e1
   exact ⟨a0,a1,by rw [e0,e1],hk⟩
  | x :: y :: z :: l,e0,e1 =>
   have:=hf s2 z rfl
   rw [hn] at this; cases this
 ·exact hk.elim
theorem two_args {args:List AV} {c:AV→AV→S→Prop} (hk:argsK args slTab .l fun tm=>twoK tm (tm.getK s0 fun a0=>tm.getK s1 fun a1=>c a0 a1 tm)):∃ a0 a1 tm,args=[a0,a1]∧c a0 a1 tm:=by
 obtain ⟨tm,h1,h2,h3,h4⟩:=argsK_full hk
 have hb:∀ q v,tm.find q=some v→args[q.toNat]?=some v:=by
  intro q v hv
  rcases Nat.lt_or_ge q.toNat args.length with hlt | hge
  ·have:=h3 q q.toNat args[q.toNat] (by omega) (by simp [hlt])
   rw [this] at hv; cases hv; simp [hlt]
  ·rw [h4 q (by omega),S.find_l] at hv
   cases hv
 obtain ⟨a0,a1,e,hk⟩:=args_two (c:=fun a0 a1=>c a0 a1 tm) (fun q v hv=>h3 q q.toNat v (by omega) hv) hb h1
 exact ⟨a0,a1,tm,e,hk⟩
end
end Go.Proofs.YtidggaoacldgkaaGreatDoor.X

/- An executor for closed calls, 38: a function without arguments that answers true, told. -/
namespace Go.Proofs.YtidggaoacldgkaaGreatDoor.X
open Go.RowKit
def isT:AV→T AO→Pt→Prop:=fun v _ _=>match v with
 | .bool b=>Bool.rec (motive:=fun _=>Prop) False True b
 | _=>False
theorem isT_spec {v:AV} {h:T AO} {nx:Pt} (hv:isT v h nx):v=.bool true:=by
 unfold isT at hv
 split at hv
 ·rename_i b
  cases b with
  | false=>exact hv.elim
  | true=>rfl
 ·exact hv.elim
theorem true_of_run {P:Program} {funs:T AF} (hf:FunsOk P funs) {n:Nat} {p:Pt} {args:List AV} (w:World) (xs:Array Value) (hx:(∀ r,concL r args=xs.toList)∧∀ n,okL n args) (hk:callN funs n .l p args .l .e isT=True) (hG:GW w:=by trivial) :
  Calls P p.toNat xs w fun e w'=>e=.returned (.bool true)∧Below w.heap.size w w':=by
 refine run_sound hf w xs hx (hk ▸ trivial:callN funs n .l p args .l .e isT) (fun v h nx r w' hK H hv=>?_) hG
 rw [isT_spec hK]
 exact ⟨by simp [conc],H.below⟩
def liveAF:AF:=⟨fun _ tm h nx K=>match tm.find s0 with
 | none=>tm.setK (.bool true) s0 fun tm=>K .ret tm h nx
 | some _=>False,[.t s0]⟩
theorem live_sem {P:Program} {f:Nat} (hf:∃ fn c,P.funcs[f]?=some fn∧(fn.name == "runtime.NumGoroutine")=false∧fn.body=some c) (hc:∀ w,GW w→Calls P f #[] w fun e w'=>e=.returned (.bool true)∧Below w.heap.size w w'):FunSem P f liveAF:=by
 intro w0 ch hcur hch args h nx K r w R hk hE H ha hR _
 obtain ⟨tm,h1,h2,h3,h4⟩:=argsK_full hk
 have h1:(match tm.find s0 with
  | none=>tm.setK (.bool true) s0 fun tm=>retK liveAF.res K .ret tm h nx
  | some _=>False):=h1
 split at h1
 ·rename_i hn
  have hargs:args=[]:=by
   match args,h3 with
   | [],_=>rfl
   | a :: l,h3 =>
    have:=h3 s0 0 a rfl (by simp)
    rw [hn] at this; cases this
  subst hargs
  refine ⟨hf,?_⟩
  have e0:(concL r []).toArray=#[]:=by simp [concL]
  rw [e0]
  refine (hc w (hE.1.below H.below)).mono fun e w' he=>?_
  obtain ⟨rfl,hB⟩:=he
  rw [S.setK_iff] at h1
  have h1:(tm.set (.bool true) s0).getK s0 fun v=>K v h nx:=h1
  rw [S.getK_iff,S.find_set] at h1
  obtain ⟨v,hv,h1⟩:=h1
  cases hv
  have hWR:WR P w0 r h nx w':=H.turn (H.below.trans (hB.mono H.below.size)) fun k o hko=>.inl ⟨hko,hB.block _ (H.lt hko)⟩
  have:=hR (.bool true) h nx r w' h1 hWR ⟨.refl r,hB.size,fun b hb _=>hB.block b hb,fun k o hko=>.inr ⟨k,o,hko,rfl⟩⟩ (by simp [okV])
  simpa [conc] using this
 ·exact h1.elim
end Go.Proofs.YtidggaoacldgkaaGreatDoor.X
