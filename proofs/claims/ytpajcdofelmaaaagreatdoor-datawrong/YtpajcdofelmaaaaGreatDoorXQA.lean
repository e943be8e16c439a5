/- An executor for closed calls, 29: a range over a function. -/
import Derived.Test.YtpajcdofelmaaaaGreatDoorXZD
namespace Go.Proofs.YtpajcdofelmaaaaGreatDoor.X
open Go.RowKit
section
variable {P:Program} {w0:World} {F:FR} {ch:CH} {m:Nat}
theorem curK_spec {c:Option Pt} {h:T AO} {k:Prop} (hk:curK c h k):k∧∀ p,c=some p→∃ st pe,h.find p=some (.loop st pe):=by
 unfold curK at hk
 split at hk
 ·exact ⟨hk,fun p e=>by cases e⟩
 ·rename_i p
  obtain ⟨o,ho,hk⟩:=(T.getK_iff _ _ _).1 hk
  split at hk
  ·rename_i st pe
   exact ⟨hk,fun q e=>by cases e; exact ⟨st,pe,ho⟩⟩
  ·exact hk.elim
theorem turnK_spec {k:Pt} {st st':LoopState} {pe:Option AE} {h:T AO} {c:T AO→Prop} (hk:turnK k st st' pe h c):h.find k=some (.loop st none)∧c (h.set (.loop st' pe) k):=by
 obtain ⟨o,ho,hk⟩:=(T.getK_iff _ _ _).1 (show h.getK k _ from hk)
 split at hk
 ·rename_i s
  obtain ⟨he,hk⟩:=brec hk
  rw [T.setK_iff] at hk
  refine ⟨?_,hk⟩
  split at he
  ·exact ho
  ·exact ho
  ·cases he
 ·exact hk.elim
theorem TR.par {r:Rho}:∀ {ts:List Nat} {ps:List Sl} {vs:List AV} {tm:S} {tv:Array Value} {c:S→Prop},compPs m ts=some ps→m≤tv.size→TR r tm tv→okL r.has vs→parK ps vs tm c →
  ts.length=vs.length∧∃ tm',c tm'∧TR r tm' ((ts.zip (concL r vs)).foldl (fun t (p,v)=>t.setIfInBounds p v) tv)∧tv.size=((ts.zip (concL r vs)).foldl (fun t (p,v)=>t.setIfInBounds p v) tv).size
 | [],ps,vs,tm,tv,c,hc,hm,ht,hv,hk=>by
  cases hc
  cases vs with
  | nil=>exact ⟨rfl,tm,hk,by simpa using ht,by simp⟩
  | cons v vs=>exact hk.elim
 | t :: ts,ps,vs,tm,tv,c,hc,hm,ht,hv,hk=>by
  obtain ⟨p,ps,h1,h2,rfl⟩:=mapO_cons hc
  cases vs with
  | nil=>exact hk.elim
  | cons v vs =>
   have hk:tm.setK v p fun tm=>parK ps vs tm c:=hk
   rw [S.setK_iff] at hk
   simp only [okL] at hv
   split at h1
   ·rename_i hlt
    cases h1
    have:=ht.put (p:=Sl.ofNat t) (v:=v) (by rw [Sl.toNat_ofNat]; omega) hv.1
    rw [Sl.toNat_ofNat] at this
    obtain ⟨g1,tm',g2,g3,g4⟩:=TR.par h2 (by simpa using hm) this hv.2 hk
    refine ⟨by simp [g1],tm',g2,?_,?_⟩
    ·simpa [concL] using g3
    ·simpa [concL] using g4
   ·cases h1
theorem round_sound (hch:CHok P w0 ch.call) {ps:Array Tmp} {ps':List Sl} (hps:compPs m ps.toList=some ps') {x y:Code} {x' y':D}
  (hx:∀ (F:FR) (ch:CH),F.m=m→CHok P w0 ch.call→Dok P w0 F ch x x') (hy:∀ (F:FR) (ch:CH),F.m=m→CHok P w0 ch.call→Dok P w0 F ch y y')
  {k:Pt} {r:Rho} {tm:S} {ts:Array Value} (hk1:r.has k) (hE:EnvOk P w0 ch.loops r) (ht:TR r tm ts) (hsz:m≤ts.size)
  (l1:(r.lp k).tmps=ts) (l2:(r.lp k).params=ps) (l3:(r.lp k).assign=x) (l4:(r.lp k).body=y) :
  ∀ r',r.Le r'→RSok P w0 k (roundK k ps' x' y' ch tm) r':=by
 intro r' hle args h nx K w R hk H hok hR
 obtain ⟨hk,hcur⟩:=curK_spec (show curK (some k) h _ from hk)
 obtain ⟨st,pe,hfk⟩:=hcur k rfl
 have hlp:r'.lp k=r.lp k:=hle.lp k hk1
 obtain ⟨g1,tm1,g2,g3,g4⟩:=TR.par hps hsz (ht.le hle) hok hk
 have hy1:=run_yield (P:=P) (args:=(concL r' args).toArray) (H.loopAt hfk) (by simp only [hlp,l2]; simp [concL_length,← g1])
 simp only [hlp,l1,l2,l3,l4] at hy1
 have hz:((ps.zip (concL r' args).toArray).foldl (fun tmps (x:Tmp × Value)=>tmps.setIfInBounds x.1 x.2) ts)=(ps.toList.zip (concL r' args)).foldl (fun t (p,v)=>t.setIfInBounds p v) ts:=by
  rw [← Array.foldl_toList]; simp
 refine ⟨_,_,_,_,hy1,?_⟩
 have hz':((ps.zip (concL r' args).toArray).foldl (fun tmps (t,a)=>tmps.setIfInBounds t a) ts)=(ps.toList.zip (concL r' args)).foldl (fun t (p,v)=>t.setIfInBounds p v) ts:=hz
 rw [hz']
 refine roundN ?_
 refine hx ⟨m,0,some (r'.blk k),[]⟩ ⟨ch.call,some k,ch.loops,fun _=>noP⟩ rfl hch tm1 h nx _ _ w r' _ g2 ⟨H,g3,by simp only; rw [← g4]; exact hsz,⟨[],rfl,trivial,fun _=>rfl⟩,hE.le hle,⟨hle.has k hk1,rfl⟩,Nat.zero_le _⟩ ?_ (fun _ _ _ _ _ _ _ hh=>hh.elim)
 intro e tm2 h2 nx2 r2 a2 w2 hK hs2 ev2
 cases e with
 | exit id=>exact hK.elim
 | goto l=>exact hK.elim
 | ret=>exact hK.elim
 | nrm =>
  obtain ⟨f2,hK⟩:=turnK_spec hK
  have hb2:r2.blk k=r'.blk k:=ev2.le.blk k (hle.has k hk1)
  have hl2:=hs2.wr.loopAt f2
  rw [hb2] at hl2
  refine ⟨_,run_beginRound hl2 rfl,?_⟩
  obtain ⟨wr3,ev3⟩:=hs2.wr.writeL f2 .busy none
  rw [hb2] at wr3 ev3
  refine hy ⟨m,0,some (r'.blk k),[]⟩ ⟨ch.call,some k,ch.loops,fun _=>noP⟩ rfl hch tm2 _ nx2 _ a2 _ r2 _ hK (hs2.on wr3 ev3 hs2.tr hs2.size rfl) ?_ (fun _ _ _ _ _ _ _ hh=>hh.elim)
  intro e tm4 h4 nx4 r4 a4 w4 hK4 hs4 ev4
  have hb4:r4.blk k=r'.blk k:=(ev4.le.blk k (ev2.le.has k (hle.has k hk1))).trans hb2
  have fin:∀ (st:LoopState) (pe:Option AE) (b:Bool),st=(if (pe.map AE.code).isNone then .ready else .done)→b=(pe.map AE.code).isNone→(turnK k .busy st pe h4 fun h=>K (.bool b) h nx4)→∃ v w',(Instr.endRound (r'.blk k) (pe.map AE.code)).run P w4=.ok v w'∧R (.returned v) w':=by
   intro st pe b e1 e2 hK4
   obtain ⟨f4,hK4⟩:=turnK_spec hK4
   have hl4:=hs4.wr.loopAt f4
   rw [hb4] at hl4
   obtain ⟨wr5,ev5⟩:=hs4.wr.writeL f4 st pe
   rw [hb4] at wr5 ev5
   refine ⟨_,_,run_endRound (pe.map AE.code) hl4,?_⟩
   have:=hR (.bool b) _ nx4 r4 _ hK4 wr5 (((ev2.trans ev3).trans ev4).trans ev5) (by simp [okV])
   simp only [conc] at this
   rw [e2,e1] at this
   exact this
  cases e with
  | nrm=>exact fin .ready none true rfl rfl hK4
  | ret=>exact fin .done (some .ret) false rfl rfl hK4
  | exit id=>exact fin .done (some (.exit id)) false rfl rfl hK4
  | goto l=>exact hK4.elim
theorem Ev.push {r:Rho} {h:T AO} {w:World} (obj:Obj):Ev r h w r h { w with heap:=w.heap.push obj } :=
 ⟨.refl r,by simp,fun b hb _=>by simp [Array.getElem?_push,Nat.ne_of_lt hb],fun k o hk=>.inr ⟨k,o,hk,rfl⟩⟩
theorem range_sound (hF:F.m=m) (hch:CHok P w0 ch.call) {g:Operand} {g':AX} (hgx:Cx g g') {ps:Array Tmp} {ps':List Sl} (hps:compPs m ps.toList=some ps') {x y:Code} {x' y':D}
  (hx:∀ (F:FR) (ch:CH),F.m=m→CHok P w0 ch.call→Dok P w0 F ch x x') (hy:∀ (F:FR) (ch:CH),F.m=m→CHok P w0 ch.call→Dok P w0 F ch y y'):Dok P w0 F ch (.rangeFunc g ps x y) (dRange g' ps' x' y'):=by
 intro tm h nx K a w r Q hk hs hg _
 obtain ⟨gv,k1,k2,k3⟩:=evK_spec hgx hs.tr (show evK tm g' _ from hk)
 obtain ⟨k1,hcur⟩:=curK_spec k1
 rw [T.setK_iff,succK_iff,T.setK_iff] at k1
 unfold fnK at k1
 split at k1
 ·rename_i f first caps _
  rw [forceP_iff] at k1
  obtain ⟨hpf,k1⟩:=brec k1
  have hpf:=Nat.eq_of_beq_eq_true hpf
  rw [forceL_iff] at k1
  simp only [okV] at k3
  refine WpN.of (wpIn_rangeFunc fun fn _=>?_)
  obtain ⟨L,l,w1,mark,hent,L1,L2,L3,L4,H1,E1,hl,hm⟩:∃ (L:Loop) (l:Nat) (w1:World) (mark:List Deferred),(Instr.enterLoop fn a.tmps ps x y F.ro).run P w=.ok (l,mark) w1∧L.tmps=a.tmps∧L.params=ps∧L.assign=x∧L.body=y ∧
    WR P w0 ((r.setL nx L).more nx l 0) (h.set (.loop .ready none) nx) nx.succ w1∧Ev r h w ((r.setL nx L).more nx l 0) (h.set (.loop .ready none) nx) w1∧True∧DefOk F ((r.setL nx L).more nx l 0) (h.set (.loop .ready none) nx) w1 (mark ++ a.defers):=by
   cases hc:ch.cur with
   | none =>
    have hro:F.ro=none:=by have:=hs.cur; rw [hc] at this; exact this
    rw [hro]
    obtain ⟨H1,E1⟩:=(hs.wr.push (.deferred (some []))).allocL { state:=.ready,pending:=none,fn,tmps:=a.tmps,params:=ps,assign:=x,body:=y,defers:=w.heap.size } .ready none
    have E1:=(Ev.push (r:=r) (h:=h) (w:=w) (.deferred (some []))).trans E1
    have hsz:({ w with heap:=w.heap.push (.deferred (some [])) }:World).heap.size=w.heap.size+1:=by simp
    rw [hsz] at H1 E1
    refine ⟨_,_,_,_,run_enterLoop_outer fn a.tmps ps x y,rfl,rfl,rfl,rfl,H1,E1,trivial,?_⟩
    obtain ⟨ds,d1,d2,d3⟩:=hs.defers
    refine ⟨{ target:=.collected w.heap.size,args:=#[] } :: ds,by rw [d1]; rfl,⟨⟨w.heap.size,rfl,hs.bnd,?_,fun k o hk=>?_,fun d' hd' e=>?_⟩,d2.ev E1⟩,fun e=>(e hro).elim⟩
    ·show ((w.heap.push _).push _)[w.heap.size]?=_
     simp [Array.getElem?_push]
    ·by_cases e:k=nx
     ·subst e; rw [Rho.more_blk]; omega
     ·rw [T.find_set_ne _ _ _ _ e] at hk
      have h1:=hs.wr.lt hk
      have h2:((r.setL nx _).more nx (w.heap.size+1) 0).blk k=r.blk k:=E1.le.blk k (hs.wr.has k o hk).1
      rw [h2]; omega
    ·clear d1 d3
     induction ds with
     | nil=>cases hd'
     | cons d0 ds ih =>
      obtain ⟨⟨b,rfl,-,h3,-,-⟩,d2⟩:=d2
      rcases List.mem_cons.1 hd' with rfl | hd'
      ·cases e
       have:=(Array.getElem?_eq_some_iff.1 h3).1
       omega
      ·exact ih d2 hd'
   | some p =>
    have hro:r.has p∧F.ro=some (r.blk p):=by have:=hs.cur; rw [hc] at this; exact this
    obtain ⟨st,pe,hfp⟩:=hcur p hc
    rw [hro.2]
    obtain ⟨H1,E1⟩:=hs.wr.allocL { state:=.ready,pending:=none,fn,tmps:=a.tmps,params:=ps,assign:=x,body:=y,defers:=(r.lp p).defers } .ready none
    refine ⟨_,_,_,_,run_enterLoop_inner (hs.wr.loopAt hfp) fn a.tmps ps x y,rfl,rfl,rfl,rfl,H1,E1,trivial,?_⟩
    exact hs.defers.ev E1
  have hlp:((r.setL nx L).more nx l 0).lp nx=L:=by simp [Rho.more,Rho.setL,eqP_refl]
  have hle:r.Le ((r.setL nx L).more nx l 0):=E1.le
  have hblk:((r.setL nx L).more nx l 0).blk nx=l:=Rho.more_blk ..
  have hhas:((r.setL nx L).more nx l 0).has nx:=.inl rfl
  generalize ((r.setL nx L).more nx l 0)=r1 at *
  have hE1:EnvOk P w0 (ch.loops.set (roundK nx ps' x' y' ch tm) nx) r1:=⟨hs.env.1,fun k rs hk=>by
   by_cases e:k=nx
   ·subst e
    rw [T.find_set] at hk; cases hk
    exact ⟨hhas,round_sound hch hps hx hy hhas (hs.env.le hle) (hs.tr.le hle) (hF ▸ hs.size) (by rw [hlp]; exact L1) (by rw [hlp]; exact L2) (by rw [hlp]; exact L3) (by rw [hlp]; exact L4)⟩
   ·rw [T.find_set_ne _ _ _ _ e] at hk
    exact (hs.env.le hle).2 k rs hk⟩
  have hargs:okL r1.has (first ++ [.yld nx] ++ caps):=okL_append.2 ⟨okL_append.2 ⟨okL.mono hle.has k3.1,by simp only [okL,okV,and_true]; exact hhas⟩,okL.mono hle.has k3.2⟩
  obtain ⟨⟨fn',c',f1,f2,f3⟩,hcall⟩:=hch _ _ _ _ _ _ _ r1 w1 (rangePost (Wr F.ro) 0 P l Q { a with defers:=mark ++ a.defers }) k1 hE1 H1 hargs (by
   intro v h' nx' r' w' hb H' E' hv
   have hb':r'.blk nx=l:=(E'.le.blk nx hhas).trans hblk
   obtain ⟨o,ho,hb⟩:=(T.getK_iff _ _ _).1 (show h'.getK nx _ from hb)
   have fin:∀ (st:LoopState) (pe:Option AE) (e:AE),h'.find nx=some (.loop st pe)→st≠.busy→K e tm (h'.set (.loop .exhausted pe) nx) nx'→∃ w4,(Instr.endLoop l).run P w'=.ok (pe.map AE.code) w4∧Q (toExit e) { a with defers:=mark ++ a.defers } w4:=by
    intro st pe e hf hst hK
    have hl:=H'.loopAt hf
    rw [hb'] at hl
    obtain ⟨wr4,ev4⟩:=H'.writeL hf .exhausted pe
    rw [hb'] at wr4 ev4
    refine ⟨_,run_endLoop hl hst,?_⟩
    have E4:=(E1.trans E').trans ev4
    exact hg e tm _ nx' r' _ _ hK ⟨wr4,hs.tr.le E4.le,hs.size,hm.ev (E'.trans ev4),hs.env.le E4.le,hs.cur.le E4.le,Nat.le_trans hs.bnd E4.size⟩ E4
   split at hb
   ·rw [T.setK_iff] at hb
    obtain ⟨w4,h1,h2⟩:=fin _ _ _ ho (by simp) hb
    exact ⟨_,w4,h1,h2⟩
   ·rw [T.setK_iff] at hb
    obtain ⟨w4,h1,h2⟩:=fin _ _ _ ho (by simp) hb
    exact ⟨_,w4,h1,wpIn_ret h2⟩
   ·rw [T.setK_iff] at hb
    obtain ⟨w4,h1,h2⟩:=fin _ _ _ ho (by simp) hb
    exact ⟨_,w4,h1,wpIn_exit h2⟩
   ·exact hb.elim) (fun _ _ _ _ _ hh=>hh.elim)
  have hca:(concL r1 first).toArray=(concL r first).toArray:=by rw [concL_le hle k3.1]
  have hcb:(concL r1 caps).toArray=(concL r caps).toArray:=by rw [concL_le hle k3.2]
  refine ⟨l,mark,w1,{ target:=.fn (.func f) (concL r caps).toArray,args:=(concL r first).toArray ++ #[.func (.yield l) #[] #[]] },w1,f,(concL r1 (first ++ [.yld nx] ++ caps)).toArray,w1,hent,?_,fun _ _=>trivial,?_,fun e=>by simp [Wr,Fence.wide] at e,?_⟩
  ·simp only [resolve,k2,conc]
   simp [go_sem]
  ·have e2:(invoke (.fn (.func f) (concL r caps).toArray) ((concL r first).toArray ++ #[.func (.yield l) #[] #[]]))=callFunc f (concL r1 (first ++ [.yld nx] ++ caps)).toArray:=by
    show callFunc f (((concL r first).toArray ++ #[.func (.yield l) #[] #[]]) ++ (concL r caps).toArray)=_
    rw [← hca,← hcb]
    simp [concL_append,concL,conc,hblk]
   rw [e2,← hpf]
   exact run_callFunc f1 f2 f3
  ·rw [← hpf]
   exact wr_calls hcall
 ·exact k1.elim
end
end Go.Proofs.YtpajcdofelmaaaaGreatDoor.X
