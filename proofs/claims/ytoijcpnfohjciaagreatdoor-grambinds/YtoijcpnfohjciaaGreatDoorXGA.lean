/- An executor for closed calls, 33c: a closure that catches: what panicked is laid into two slots, then its code runs. -/
import Derived.Test.YtoijcpnfohjciaaGreatDoorXTR
import Derived.Test.YtoijcpnfohjciaaGreatDoorProg
import Derived.WalkKit
import Derived.Test.YtoijcpnfohjciaaGreatDoorXTO
import Derived.Test.YtoijcpnfohjciaaGreatDoorGEA
namespace Go.Proofs.YtoijcpnfohjciaaGreatDoor.X
open Go.RowKit
section
variable {P:Program} {w0:World}
theorem wpS_of_wpN {c:Code} {Q:Exit→Act→List Frame→World→Prop} {a:Act} {cs:List Frame} {w:World} (h:WpN P none c (fun e a' w'=>Q e a' cs w') a w):c.wpS P Q a cs w:=fun b k hk hb=>by
 obtain ⟨e,a',w',q,harr⟩:=h b k cs (by rw [hk]; rfl) hb
 rw [Frame.atR_of_none hb] at harr
 refine ⟨e,a',cs,w',q,?_⟩
 cases e with
 | normal=>have h1:=StepsIn.steps harr; rw [Frame.atR_of_none hb] at h1; exact h1
 | exit id=>intro k' hk'; have h1:=StepsIn.steps (harr.1 k' hk'); rw [Frame.atR_of_none hb] at h1; exact h1
 | goto l=>intro k' hk'; have h1:=StepsIn.steps (harr.1 k' hk'); rw [Frame.atR_of_none hb] at h1; exact h1
 | ret=>obtain ⟨todo,h1⟩:=harr.1 hb; rw [Frame.atR_of_none hb] at h1; exact ⟨todo,StepsIn.steps h1⟩
 | panic pc=>obtain ⟨todo,h1⟩:=harr; rw [Frame.atR_of_none hb] at h1; exact ⟨todo,StepsIn.steps h1⟩
 | outgrown=>exact harr
def LeavesC (P:Program) (fn:Func) (tmps:Array Value) (u:FrameMode) (R:Ending→FrameMode→World→Prop):List Deferred→World→Prop
 | [],w=>∃ v,(results fn tmps).run P w=.ok v w∧R (.returned v) u w
 | d :: ds,w=>∃ r w',d.target=.collected r∧(Instr.takeDeferred r).run P w=.ok [] w'∧LeavesC P fn tmps u R ds w'
theorem leavesC_steps {fn:Func} {tmps:Array Value} {u:FrameMode} {R:Ending→FrameMode→World→Prop}:∀ (ds:List Deferred) (w:World) (fr:Frame) (cs:List Frame),fr.mode=.returning→fr.defers=ds→fr.tmps=tmps→P.funcs[fr.fn]?=some fn→LeavesC P fn tmps u R ds w →
  ∃ v w' fr',R (.returned v) u w'∧Steps P (lone fr cs w) (lone fr' cs w')∧fr'.kind=fr.kind∧fr'.going P w' (.returned v):=by
 intro ds
 induction ds with
 | nil =>
  intro w fr cs hu hd ht hf h
  obtain ⟨v,hr,hR⟩:=h
  exact ⟨v,w,fr,hR,Steps.refl P _,rfl,hu,hd,fn,hf,ht ▸ hr⟩
 | cons d ds ih =>
  intro w fr cs hu hd ht hf h
  obtain ⟨r,w',htar,htake,hrest⟩:=h
  have h1:=step_collected (cs:=cs) (by rw [hu]; simp) hd htar htake
  obtain ⟨v,w'',fr',hR',hs',hk',hl'⟩:=ih w' { fr with defers:=[] ++ ds } cs hu rfl ht hf hrest
  exact ⟨v,w'',fr',hR',Steps.trans (.one h1) hs',hk',hl'⟩
def bodyPostC (P:Program) (fn:Func) (c₀:Frame) (cs:List Frame) (R:Ending→FrameMode→World→Prop):Exit→Act→List Frame→World→Prop
 | .normal,a,cs',w | .ret,a,cs',w=>∃ u,cs'={ c₀ with mode:=u } :: cs∧LeavesC P fn a.tmps u R a.defers w
 | _,_,_,_=>False
theorem callsD_of_wpC {f:FuncId} {fn:Func} {c:Code} {args:Array Value} {u:FrameMode} {w:World} {R:Ending→FrameMode→World→Prop} (hf:P.funcs[f]?=some fn) (hb:fn.body=some c)
  (h:∀ (c₀:Frame) (cs:List Frame),c₀.mode=u→c.wpS P (bodyPostC P fn c₀ cs R) { tmps:=args ++ Array.replicate (fn.ntmps - args.size) undef,defers:=[] } (c₀ :: cs) w):CallsD P f args u w R:=by
 intro c₀ cs hu
 let b:Frame:={ (default:Frame) with fn:=f,kind:=.deferred }
 have henter:Frame.enter P f args .deferred=b.at { tmps:=args ++ Array.replicate (fn.ntmps - args.size) undef,defers:=[] } [.code c]:=by
  simp [Frame.enter,Frame.at,hf,hb,b]
 obtain ⟨e,a',cs',w',hq,harr⟩:=h c₀ cs hu b [] rfl rfl
 rw [← henter] at harr
 cases e with
 | normal =>
  obtain ⟨u',rfl,hl⟩:=hq
  obtain ⟨v,w'',fr',hR,hs,hk,hg⟩:=leavesC_steps a'.defers w' { b.at a' [] with mode:=.returning } ({ c₀ with mode:=u' } :: cs) rfl rfl rfl hf hl
  exact ⟨.returned v,u',w'',fr',hR,Steps.trans harr (Steps.trans (.one step_end) hs),hk,hg⟩
 | ret =>
  obtain ⟨u',rfl,hl⟩:=hq
  obtain ⟨todo,hs₀⟩:=harr
  obtain ⟨v,w'',fr',hR,hs,hk,hg⟩:=leavesC_steps a'.defers w' { b.at a' todo with mode:=.returning } ({ c₀ with mode:=u' } :: cs) rfl rfl rfl hf hl
  exact ⟨.returned v,u',w'',fr',hR,Steps.trans hs₀ hs,hk,hg⟩
 | _=>exact hq.elim
theorem leavesC_marks {r:Rho} {h:T AO} {nx:Pt} {fn:Func} {tmps:Array Value} {u:FrameMode} {R:Ending→FrameMode→World→Prop} {B:Nat} (h0:w0.heap.size≤B):∀ (ds:List Deferred) (w:World) {re:Rho} {he:T AO} {we:World},
  Marks B r h w ds→WR P w0 r h nx w→Ev re he we r h w→we.heap.size≤B→(∀ w',WR P w0 r h nx w'→Ev re he we r h w'→LeavesC P fn tmps u R [] w')→LeavesC P fn tmps u R ds w
 | [],w,_,_,_,_,H,e,_,hR=>hR w H e
 | d :: ds,w,re,he,we,hm,H,e,hB,hR=>by
  obtain ⟨⟨b,rfl,h2,h3,h4,h5⟩,g⟩:=hm
  refine ⟨b,_,rfl,run_takeDeferred h3,?_⟩
  refine leavesC_marks h0 ds _ ?_ (H.other (Nat.le_trans h0 h2) h4 _) (e.other (Nat.le_trans hB h2) _) hB hR
  clear hR e H h3
  induction ds with
  | nil=>trivial
  | cons d' ds ih =>
   obtain ⟨⟨b',rfl,k2,k3,k4,k5⟩,g⟩:=g
   refine ⟨⟨b',rfl,k2,?_,k4,k5⟩,ih g (fun d hd=>h5 d (List.mem_cons_of_mem _ hd))⟩
   have hne:b'≠b:=fun e=>h5 _ (List.mem_cons_self ..) (by rw [e])
   exact (World.putObj_heap_other hne).trans k3
def catchK (K:T AO→Pt→Prop) (e:AE) (_:S) (h:T AO) (nx:Pt):Prop :=
 match e with
 | .exit _=>False
 | _=>K h nx
def catchF (p1 p2:Sl) (d:D):Catch:=fun ch u vs h nx K=>argsK vs slTab .l fun tm=>tm.setK u p1 fun tm=>tm.setK u p2 fun tm=>d ch.calm tm h nx (catchK K)
theorem catch_ok {f2:Nat} {fn2:Func} {c2:Code} {id:Nat} {ops:Array Oper} {p1 p2:Sl} {ac:AC} (hm:P.follows .mixedOrders=true)
  (hf2:P.funcs[f2]?=some fn2) (hbody2:fn2.body=some (.seq (.region id ops false) c2)) (h2:compC P fn2.ntmps c2=some ac) (hres:fn2.results=#[]) (hp1:p1.toNat<fn2.ntmps) (hp2:p2.toNat<fn2.ntmps)
  (hrec:∀ (a:Act) (c₀:Frame) (cs:List Frame) (w:World) (v:Value) (Q:Exit→Act→List Frame→World→Prop),c₀.mode=.panicking [{ v:=v,recovered:=false }]→p1.toNat<a.tmps.size→p2.toNat<a.tmps.size →
   Q .normal ((a.put (some p1.toNat) v).put (some p2.toNat) v) ({ c₀ with mode:=.panicking [{ v:=v,recovered:=true }] } :: cs) w→wpOpsS P ops Q (List.range ops.size) a (c₀ :: cs) w) :
  CatchOk P f2 (catchF p1 p2 (den ac)):=by
 intro w0 ch hcur hch u vs h nx K r w hk hE H hu hvs
 obtain ⟨tm,hk,htm⟩:=argsK_spec hk
 rw [S.setK_iff,S.setK_iff] at hk
 have hsz:fn2.ntmps≤((concL r vs).toArray ++ Array.replicate (fn2.ntmps - (concL r vs).toArray.size) undef).size:=by simp [concL_length]; omega
 have htr:TR r tm ((concL r vs).toArray ++ Array.replicate (fn2.ntmps - (concL r vs).toArray.size) undef):=fun q v hq=>by
  rcases htm q v hq with h1 | ⟨i,h1,h2⟩
  ·rw [S.find_l] at h1; cases h1
  ·have hi:i<vs.length:=(List.getElem?_eq_some_iff.1 h2).1
   have h1:q.toNat=i:=by rw [h1]; show 0+i=i; omega
   refine ⟨?_,hvs.get h2⟩
   rw [h1,Array.getElem?_append_left (by simp [concL_length]; exact hi)]
   rw [List.getElem?_toArray,concL_get,h2]; rfl
 refine callsD_of_wpC hf2 hbody2 fun c₀ cs hc₀=>wpS_seq (wpS_region (hrec _ c₀ cs w (conc r u) _ hc₀ (Nat.lt_of_lt_of_le hp1 hsz) (Nat.lt_of_lt_of_le hp2 hsz) ?_))
 show Code.wpS _ _ _ _ _ _
 refine wpS_of_wpN ?_
 have htr1:=htr.put (Nat.lt_of_lt_of_le hp1 hsz) hu
 have htr2:=htr1.put (p:=p2) (by rw [Array.size_setIfInBounds]; exact Nat.lt_of_lt_of_le hp2 hsz) hu
 refine den_sound hm fn2.ntmps c2 ac h2 ⟨fn2.ntmps,w.heap.size,none,[]⟩ ch.calm rfl hch _ h nx (catchK K) _ w r _ hk ⟨H,htr2,?_,⟨[],rfl,trivial,fun e=>(e rfl).elim⟩,hE,by show CurOk none ch.cur r; rw [hcur]; exact rfl,Nat.le_refl _⟩ (fun e tm' h' nx' r' a' w' hK hs ev=>?_) (CHq.of hch).goodP
 ·simp only [Act.put,Array.size_setIfInBounds]; exact hsz
 ·have key:∀ e:Exit,(e=.normal∨e=.ret)→K h' nx'→bodyPostC P fn2 c₀ cs (fun e u' w'=>(∃ v,e=.returned v)∧settle u'=.returning∧∃ h' nx' r',K h' nx'∧WR P w0 r' h' nx' w'∧Ev r h w r' h' w') e a' ({ c₀ with mode:=.panicking [{ v:=conc r u,recovered:=true }] } :: cs) w':=fun e he hK=>by
   obtain ⟨ds,d1,d2,-⟩:=hs.defers
   have d1:a'.defers=ds:=by rw [d1]; simp
   have h1:LeavesC P fn2 a'.tmps (.panicking [{ v:=conc r u,recovered:=true }]) (fun e u' w'=>(∃ v,e=.returned v)∧settle u'=.returning∧∃ h' nx' r',K h' nx'∧WR P w0 r' h' nx' w'∧Ev r h w r' h' w') a'.defers w':=by
    rw [d1]
    refine leavesC_marks H.below.size ds w' d2 hs.wr ev (Nat.le_refl _) fun w'' H'' e''=>⟨.tuple #[],by simp [results,hres],⟨_,rfl⟩,rfl,h',nx',r',hK,H'',e''⟩
   rcases he with rfl | rfl
   ·exact ⟨_,rfl,h1⟩
   ·exact ⟨_,rfl,h1⟩
  cases e with
  | exit id=>exact hK.elim
  | nrm=>exact key _ (.inl rfl) hK
  | ret=>exact key _ (.inr rfl) hK
end
end Go.Proofs.YtoijcpnfohjciaaGreatDoor.X

/- Functions that put off one closure, which catches what panics: told. -/
set_option maxRecDepth 100000
namespace Go.Proofs.YtoijcpnfohjciaaGreatDoor.X
open Go.RowKit
def watchA11:AC:=(.ops [⟨(some s2),(.v (.new [.nils] 25)),none⟩,⟨(some s3),(.v (.new [(.int .i64 (.ofNat 0))] 3)),none⟩,⟨(some s4),(.v (.new [(.int .i64 (.ofNat 0))] 26)),none⟩])
def watchB11:AC:=(.seq (.ops [⟨(some s6),(.v (.mv (.t s0))),none⟩,⟨(some s7),(.callv (.t s6) []),none⟩,⟨none,(.v (.st 1 (.t s2) (.t s7))),none⟩,⟨none,(.v (.st 1 (.t s3) (.c (.int .i64 (.ofNat 0))))),none⟩,⟨none,(.v (.st 1 (.t s4) (.c (.int .i64 (.ofNat 0))))),none⟩]) .ret)
def watchC11:AC:=(.seq (.ops [⟨(some s6),(.v (.mv (.t s3))),none⟩,⟨(some s7),(.v (.eq .i true (.t s6) (.c .nili))),none⟩]) (.cond (.t s7) (.seq (.ops [⟨(some s8),(.v (.mv (.t s3))),none⟩,⟨(some s9),(.call (.z (.o (.o (.z .e)))) [(.t s8)]),none⟩,⟨(some s4),(.v (.new [(.int .i64 (.ofNat 0)),(.int .i64 (.ofNat 0))] 71)),none⟩,⟨none,(.v (.st 2 (.t s4) (.t s9))),none⟩]) (.draw [(.n 0 [] s10 ⟨(some s10),(.v (.fa 0 (.t s4))),none⟩),(.n 1 [] s11 ⟨(some s11),(.v (.ld1 (.t s10))),none⟩),(.n 2 [] s12 ⟨(some s12),(.v (.fa 1 (.t s4))),none⟩),(.n 3 [] s13 ⟨(some s13),(.v (.ld1 (.t s12))),none⟩),(.e 4 [] [(s11,⟨(some s11),(.v (.ld1 (.t s10))),none⟩),(s13,⟨(some s13),(.v (.ld1 (.t s12))),none⟩)] ⟨none,(.v (.st 1 (.t s0) (.c .nils))),none⟩),(.e 5 [] [(s13,⟨(some s13),(.v (.ld1 (.t s12))),none⟩)] ⟨none,(.v (.st 1 (.t s1) (.t s11))),none⟩),(.e 6 [] [] ⟨none,(.v (.st 1 (.t s2) (.t s13))),none⟩)])) .skip))
def watchAF11:AF:=⟨watchF watchA11 s5 20 [(.t s2),(.t s3),(.t s4)] watchB11 (catchF s5 s3 (den watchC11)),[(.c1 s2),(.c1 s3),(.c1 s4)]⟩
theorem watch_idle11 (x y z:Value) (w:World):CallsD Tryz.prog 20 #[x,y,z] .returning w fun e u' w'=>(∃ v,e=.returned v)∧u'=.returning∧w'=w:=by
 refine callsD_of_wpS Tryz.func20 rfl fun c₀ cs hu=>?_
 apply wpS_seq
 apply wpS_region
 simp [wpOpsS,go_sem,recoverD,hu,Tryz.ntmps20,Exit.thenS]
 apply wpS_seq
 apply wpS_region
 simp [wpOpsS,go_sem,Exit.thenS]
 refine wpS_cond (t:=false) (by simp [Act.eval,Array.replicate]) ?_
 simp only [Bool.false_eq_true,if_false]
 refine wpS_of_wp (wp_skip ?_)
 cases c₀
 simp_all [bodyPostS,results,Tryz.results20]
theorem watch_ok11:FunSem Tryz.prog 11 watchAF11 :=
 watch_sem (by kernel_rfl) Tryz.func11 (by kernel_rfl) rfl Tryz.func20 (by kernel_rfl) rfl (by kernel_rfl) (by kernel_rfl) (by kernel_rfl) (by kernel_rfl) rfl rfl rfl (fun args w h=>by
  match args,h with
  | ⟨[x,y,z]⟩,_=>exact watch_idle11 x y z w)
  (catch_ok (by kernel_rfl) Tryz.func20 rfl (by kernel_rfl) Tryz.results20 (by rw [Tryz.ntmps20]; decide) (by rw [Tryz.ntmps20]; decide) (fun a c₀ cs w v Q hc h1 _ hQ=>by
   have h1:5<a.tmps.size:=h1
   show wpOpsS _ _ Q [0,1] a (c₀ :: cs) w
   simp [wpOpsS,go_sem,recoverD,hc,h1]
   exact hQ))
end Go.Proofs.YtoijcpnfohjciaaGreatDoor.X

/- An executor for closed calls, 45: errors.As told, where the target is package gram's refusal; what catches it; gram.answered told. -/
namespace Go.Proofs.YtoijcpnfohjciaaGreatDoor.X
open Go.RowKit
def asGF (x y:AV) (h:T AO) (nx:Pt) (K:AV→T AO→Pt→Prop):Prop:=match x,y with
 | .iface t (.agg [.int .i64 p,.int .i64 e]),.iface t' (.ptr k 0)=>Bool.rec (motive:=fun _=>Prop) False (h.getK k fun o=>match o with
   | .cells (.int .i64 _ :: .int .i64 _ :: rest) ty=>h.setK (.cells (.int .i64 p :: .int .i64 e :: rest) ty) k fun h=>K (.bool true) h nx
   | _=>False) (Nat.beq t 71&&Nat.beq t' 99)
 | _,_=>False
theorem asG_sem:FunSem Tryz.prog 42 (told2 asGF) :=
 told2_sem ⟨_,_,Tryz.func42,by kernel_rfl,rfl⟩ fun w0 w r h nx x y K R hG H hx hy hF hR=>by
  unfold asGF at hF
  split at hF
  ·rename_i t p e t' k
   obtain ⟨hb,hF⟩:=brec hF
   simp only [Bool.and_eq_true] at hb
   obtain rfl:=Nat.eq_of_beq_eq_true hb.1
   obtain rfl:=Nat.eq_of_beq_eq_true hb.2
   rw [T.getK_iff] at hF
   obtain ⟨o,ho,hF⟩:=hF
   split at hF
   ·rename_i o1 o2 rest ty
    rw [T.setK_iff] at hF
    obtain ⟨g1,g2,g3,rest',g4',g5⟩:=H.has k _ ho
    have g4:w.heap[r.blk k]?=some (.cells (.int .i64 o1 :: .int .i64 o2 :: (concL r rest ++ rest')).toArray ty (0,0)):=by rw [g4']; simp [concL,conc]
    have hcall:=as_any p e o1 o2 (r.blk k) w (concL r rest ++ rest') ty hG.et g4
    have ea:(#[conc r (.iface 71 (.agg [.int .i64 p,.int .i64 e])),conc r (.iface 99 (.ptr k 0))]:Array Value)=#[.iface 71 (.agg #[.int .i64 p,.int .i64 e]),.iface 99 (.pointer (some ⟨r.blk k,0,none⟩))]:=by
     simp [concL,conc]
    rw [ea]
    refine hcall.mono fun en w' hw'=>?_
    obtain ⟨rfl,W2,hB,rfl⟩:=hw'
    have hlt:=H.lt ho
    have hsz:(asPut W2 (r.blk k) p e (concL r rest ++ rest') ty).heap.size=W2.heap.size:=by simp [asPut]
    have hother:∀ b,b<w.heap.size→b≠r.blk k→(asPut W2 (r.blk k) p e (concL r rest ++ rest') ty).heap[b]?=w.heap[b]?:=fun b hb hne=>by
     show (W2.heap.setIfInBounds _ _)[b]?=_
     rw [Array.getElem?_setIfInBounds_ne (fun e=>hne e.symm)]
     exact hB.block b hb
    have hself:(asPut W2 (r.blk k) p e (concL r rest ++ rest') ty).heap[r.blk k]?=some (.cells (.int .i64 p :: .int .i64 e :: (concL r rest ++ rest')).toArray ty (0,0)):=by
     show (W2.heap.setIfInBounds _ _)[r.blk k]?=_
     exact Array.getElem?_setIfInBounds_self_of_lt (Nat.lt_of_lt_of_le hlt hB.size)
    have hBel:Below w0.heap.size w0 (asPut W2 (r.blk k) p e (concL r rest ++ rest') ty):=by
     refine ⟨hB.os.trans H.below.os,hB.tape.trans H.below.tape,hB.output.trans H.below.output,?_,fun b hb=>?_⟩
     ·rw [hsz]; exact Nat.le_trans H.below.size hB.size
     ·rw [hother b (Nat.lt_of_lt_of_le hb H.below.size) (by omega)]; exact H.below.block b hb
    have hok:okO r.has (.cells (.int .i64 p :: .int .i64 e :: rest) ty):=by
     have g3:okL r.has (.int .i64 o1 :: .int .i64 o2 :: rest):=g3
     show okL r.has (.int .i64 p :: .int .i64 e :: rest)
     simp only [okL,okV,true_and] at g3 ⊢
     exact g3
    have hWR:WR Tryz.prog w0 r (h.set (.cells (.int .i64 p :: .int .i64 e :: rest) ty) k) nx (asPut W2 (r.blk k) p e (concL r rest ++ rest') ty):=H.turn hBel fun k' o' hko=>by
     by_cases q:k'=k
     ·subst q
      rw [T.find_set] at hko; cases hko
      exact .inr ⟨⟨_,ho⟩,hok,rest',by rw [hself]; simp [concL,conc],g5⟩
     ·rw [T.find_set_ne _ _ _ _ q] at hko
      exact .inl ⟨hko,hother _ (H.lt hko) fun e=>q (H.apart k' k o' _ hko ho e)⟩
    have hEv:Ev r h w r (h.set (.cells (.int .i64 p :: .int .i64 e :: rest) ty) k) (asPut W2 (r.blk k) p e (concL r rest ++ rest') ty):=⟨.refl r,by rw [hsz]; exact hB.size,fun b hb hn=>hother b hb fun e=>hn k _ ho e.symm,fun k' o' hko=>by
     by_cases q:k'=k
     ·subst q; exact .inr ⟨k',_,ho,rfl⟩
     ·rw [T.find_set_ne _ _ _ _ q] at hko; exact .inr ⟨k',o',hko,rfl⟩⟩
    have:=hR (.bool true) _ nx r _ hF hWR hEv (by simp [okV])
    simpa [conc] using this
   ·exact hF.elim
  ·exact hF.elim
end Go.Proofs.YtoijcpnfohjciaaGreatDoor.X
