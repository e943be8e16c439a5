/- An executor for closed calls, 24: the drawn order catches up; it acts. -/
import Derived.Test.YtidggaoacldgkaaGreatDoorXW
namespace Go.Proofs.YtidggaoacldgkaaGreatDoor.X
open Go.RowKit
section
variable {P:Program} {w0:World} {m:Nat} {ops:Array Oper} {l:List It} {ch:CH} {K:S→T AO→Pt→Prop} {r0:Rho} {h0:T AO} {wS:World} {ds:List Deferred} {ro:Option Nat}
 {fuel:Nat} {listed:Array Bool} {a:Act} {w:World} {pre U rest:List It} {F:List Fl} {tm:S} {h hh:T AO} {nx:Pt} {r:Rho}
def without (U:List It) (i:Nat):List It:=U.filter fun u=>u.i != i
theorem mem_without {U:List It} {i:Nat} {u:It}:u ∈ without U i↔u ∈ U∧u.i≠i:=by
 unfold without
 rw [List.mem_filter]
 refine and_congr_right fun _=>?_
 simp
theorem length_without {i:Nat}:∀ {U:List It},(U.map It.i).Nodup→(∃ u ∈ U,u.i=i)→(without U i).length+1=U.length
 | [],_,h=>by obtain ⟨u,hu,_⟩:=h; cases hu
 | x :: U,hn,h=>by
  simp only [List.map_cons,List.nodup_cons,List.mem_map,not_exists,not_and] at hn
  by_cases e:x.i=i
  ·have:without (x :: U) i=U:=by
    unfold without
    rw [List.filter_cons,if_neg (by simp [e]),List.filter_eq_self]
    intro u hu
    simp only [bne_iff_ne,ne_eq]
    exact fun e'=>hn.1 u hu (e'.trans e.symm)
   rw [this]; rfl
  ·obtain ⟨u,hu,he⟩:=h
   rcases List.mem_cons.1 hu with rfl | hu
   ·exact absurd he e
   ·have:without (x :: U) i=x :: without U i:=by
     unfold without
     rw [List.filter_cons]
     simp [e]
    rw [this,List.length_cons,length_without hn.2 ⟨u,hu,he⟩]; rfl
theorem nodup_without {i:Nat} {U:List It} (h:(U.map It.i).Nodup):((without U i).map It.i).Nodup :=
 h.sublist (List.Sublist.map _ List.filter_sublist)
theorem Inv.listed' (I:Inv P w0 m ops l ch K r0 h0 wS ds fuel listed a w pre U rest F tm h hh nx r) (hp:Plan P m ops l) {x:It} (hxl:x ∈ l) {o:Oper} (ho:ops[x.i]?=some o) (hall:∀ e ∈ o.after,Region.binds .any e=true→listed.getD e.on false=true) :
  Closed ops (listed.setIfInBounds x.i true)∧(listed.setIfInBounds x.i true).size=ops.size∧∀ j,j<ops.size→((listed.setIfInBounds x.i true).getD j true=false↔j≠x.i∧listed.getD j true=false):=by
 have hlt:=lt_of_item hp hxl
 refine ⟨fun j oj hj hl e he hb=>?_,by simp [I.lsz],fun j hj=>?_⟩
 ·by_cases ej:x.i=j
  ·subst ej
   rw [ho] at hj; cases hj
   exact getD_set_true (hall e he hb)
  ·rw [getD_set_ne false ej] at hl
   exact getD_set_true (I.clo j oj hj hl e he hb)
 ·by_cases ej:x.i=j
  ·subst ej
   simp [I.lsz,hlt]
  ·rw [getD_set_ne true ej]
   exact ⟨fun h=>⟨fun e=>ej e.symm,h⟩,fun h=>h.2⟩
theorem compOper_dst {o:Oper} {x:AOper} (h:compOper P m ops o=some x):compD m o.dst=some x.dst:=by
 unfold compOper at h
 split at h
 ·rename_i k d g hk hd hg
  cases h; exact hd
 ·cases h
theorem compOper_op {o:Oper} {x:AOper} (h:compOper P m ops o=some x):compK P o.op=some x.op∧compG ops o.guard=some x.guard:=by
 unfold compOper at h
 split at h
 ·rename_i k d g hk hd hg
  cases h; exact ⟨hk,hg⟩
 ·cases h
theorem compD_some {t:Option Tmp} {p:Sl} (h:compD m t=some (some p)):t=some p.toNat∧p.toNat<m:=by
 cases t with
 | none=>cases h
 | some t =>
  simp only [compD] at h
  split at h
  ·rename_i ht
   cases h; rw [Sl.toNat_ofNat]; exact ⟨rfl,ht⟩
  ·cases h
theorem put_find {a:Act} {t:Nat} {v:Value} {q:Nat} (ht:t<a.tmps.size):(a.put (some t) v).tmps[q]?=if t=q then some v else a.tmps[q]?:=by
 simp only [Act.put]
 by_cases e:t=q
 ·subst e; simp [ht]
 ·rw [Array.getElem?_setIfInBounds_ne e,if_neg e]
theorem Inv.catchN (hch:CHq P w0 ch) (hE:EnvOk P w0 ch.loops r0) (hp:Plan P m ops l) (I:Inv P w0 m ops l ch K r0 h0 wS ds (fuel+1) listed a w pre U rest F tm h hh nx r) {i:Nat} {bs:List Nat} {p:Sl} {x:AOper} (hu:It.n i bs p x ∈ U) {o:Oper} (ho:ops[i]?=some o) (hall:∀ e ∈ o.after,Region.binds .any e=true→listed.getD e.on false=true)
  {Q:Exit→Act→World→Prop} {next:Act→World→Prop} (hn:∀ a' w' r',Inv P w0 m ops l ch K r0 h0 wS ds fuel (listed.setIfInBounds i true) a' w' pre (without U i) rest F tm h hh nx r'→next a' w'):wpOpIn (Wr ro) 0 P ops Q i next a w:=by
 have hul:=I.inl.2.1 _ hu
 obtain ⟨o',ho',hc,hd,hq⟩:=hp.item _ hul
 rw [ho] at ho'; cases ho'
 have hrd:=I.reads hp hul ho hall
 obtain ⟨h3,hl3,hf⟩:=I.factN i bs p x hu
 have hdone:∀ j ∈ bs,∀ u ∈ U,u.i≠j:=fun j hj u hu' e=>getD_ne ((I.lst u.i (lt_of_item hp (I.inl.2.1 u hu'))).2 (.inl ⟨u,hu',rfl⟩)) (by rw [e]; exact Anc.listed I.clo ho hall (hp.absN i bs p x hul j hj))
 have hsub3:∀ k o,h3.find k=some o→hh.find k=some o:=fun k o hk=>(I.hhI k o).2 ((hl3 k o hk).imp id fun ⟨f,hf,hb,e⟩=>⟨f,hf,hdone f.i hb,e⟩)
 have hk:nK x (tmU U tm) hh nx fun v=>tm.find p=some v:=nK_heap hq hsub3 (nK_congr (fun q hq'=>tmU_find (hrd q hq')) hf)
 refine eK_sound hch (hE.le I.ev.le) ho hc I.wr I.trU (nK_eK (ch:=ch) hq hk) ?_
 rintro v h' nx' r' w' ⟨hv,rfl,rfl⟩ H' hev hok
 obtain ⟨et,hpm⟩:=compD_some (by rw [← hd]; exact compOper_dst hc)
 obtain ⟨l1,l2,l3⟩:=I.listed' hp hul ho hall
 have l3:∀ j,j<ops.size→((listed.setIfInBounds i true).getD j true=false↔j≠i∧listed.getD j true=false):=l3
 refine hn _ w' r' ⟨I.split,fun u hu=>I.usub u (mem_without.1 hu).1,nodup_without I.und,?_,l2,?_,l1,H',?_,I.fi,I.fn,I.fd,I.fj,fun f hf u hu e=>hev.le.res _ (I.fres f hf u (mem_without.1 hu).1 e),I.f0,I.fnx,I.nx0,?_,fun j cs q y hy=>I.factN j cs q y (mem_without.1 hy).1,fun j q y hy=>I.factA j q y (mem_without.1 hy).1,?_,?_,I.ev.trans hev,I.run⟩
 ·have e1:(without U i).length+1=U.length:=length_without I.und ⟨_,hu,rfl⟩
  have e2:=I.fuel
  omega
 ·intro j hj
  rw [l3 j hj,I.lst j hj]
  constructor
  ·rintro ⟨hne,⟨u,hu,e⟩ | h⟩
   ·exact .inl ⟨u,mem_without.2 ⟨hu,fun e'=>hne (e.symm.trans e')⟩,e⟩
   ·exact .inr h
  ·rintro (⟨u,hu',e⟩ | ⟨y,hy,e⟩)
   ·exact ⟨fun e'=>(mem_without.1 hu').2 (e.trans e'),.inl ⟨u,(mem_without.1 hu').1,e⟩⟩
   ·refine ⟨fun e'=>?_,.inr ⟨y,hy,e⟩⟩
    have hn:=hp.nodup
    rw [I.split,List.map_append,List.nodup_append] at hn
    exact hn.2.2 _ (List.mem_map.2 ⟨_,(I.usub _ hu).1,rfl⟩) _ (List.mem_map.2 ⟨y,hy,rfl⟩) (e.trans e').symm
 ·intro k ob
  rw [I.hhI k ob]
  refine or_congr Iff.rfl (exists_congr fun f=>and_congr_right fun hf=>and_congr_left fun _=>⟨fun hU u hu=>hU u (mem_without.1 hu).1,fun hU u hu'=>?_⟩)
  by_cases e:u.i=i
  ·
   intro e2
   obtain ⟨y,hy,e3,e4⟩:=I.fi f hf
   have:=idx_inj hp (I.inl.1 y hy) hul (e3.trans (e2.symm.trans e))
   subst this
   cases e4
  ·exact hU u (mem_without.2 ⟨hu',e⟩)
 ·intro q u hqu hnu
  rw [et,put_find (Nat.lt_of_lt_of_le hpm I.size)]
  by_cases e:p.toNat=q.toNat
  ·have:=Sl.inj e
   subst this
   rw [if_pos rfl]
   rw [hv] at hqu; cases hqu
   exact ⟨rfl,hok⟩
  ·rw [if_neg e]
   have hb:=I.tr q u hqu fun y hy hd'=>by
    by_cases ei:y.i=i
    ·have:=idx_inj hp (I.inl.2.1 y hy) hul ei
     subst this
     cases hd'; exact e rfl
    ·exact hnu y (mem_without.2 ⟨hy,ei⟩) hd'
   exact ⟨by rw [conc_le hev.le hb.2]; exact hb.1,hb.2.mono hev.le.has⟩
 ·rw [et]; simp [Act.put]; exact I.size
 ·rw [et]; exact I.defers
theorem compK_v {op:Op} {o:AOp} (h:compK P op=some (.v o)):Co P op o:=by
 unfold compK at h
 split at h
 ·split at h <;> cases h
 ·split at h <;> cases h
 ·split at h <;> cases h
 ·split at h <;> cases h
 ·split at h <;> cases h
 ·split at h <;> cases h
 ·split at h
  ·rename_i o' ho
   cases h; exact compOp_spec ho
  ·cases h
theorem Inv.catchA (hp:Plan P m ops l) (I:Inv P w0 m ops l ch K r0 h0 wS ds (fuel+1) listed a w pre U rest F tm h hh nx r) {i:Nat} {p:Sl} {op:AOp} (hu:It.a i p op ∈ U) {o:Oper} (ho:ops[i]?=some o) (hall:∀ e ∈ o.after,Region.binds .any e=true→listed.getD e.on false=true)
  {Q:Exit→Act→World→Prop} {next:Act→World→Prop} (hn:∀ a' w' hh' r',Inv P w0 m ops l ch K r0 h0 wS ds fuel (listed.setIfInBounds i true) a' w' pre (without U i) rest F tm h hh' nx r'→next a' w'):wpOpIn (Wr ro) 0 P ops Q i next a w:=by
 have hul:=I.inl.2.1 _ hu
 obtain ⟨o',ho',hc⟩:=hp.item _ hul
 rw [ho] at ho'; cases ho'
 have hrd:=I.reads hp hul ho hall
 obtain ⟨f,hf,hfi,hfl⟩:=I.factA i p op hu
 have hres:r.res f.n:=I.fres f hf _ hu hfi.symm
 have hnh:¬ r.has f.n:=fun e=>I.wr.dis _ e hres
 have hfl:floatK op (tmU U tm) f.n fun v ob=>tm.find p=some v∧ob=f.ob:=floatK_congr (fun y hy=>valX_of fun q hq=>tmU_find (hrd q (List.mem_flatMap.2 ⟨y,hy,hq⟩))) hfl
 obtain ⟨v,ob,obj,ex,dr,⟨hv,rfl⟩,hrun,hbr,hoo,hov⟩:=float_sound (w:=w) I.trU hnh rfl (compK_v (compOper_op hc).1) hfl
 obtain ⟨et,hpm⟩:=compD_some (compOper_dst hc)
 obtain ⟨l1,l2,l3⟩:=I.listed' hp hul ho hall
 have l3:∀ j,j<ops.size→((listed.setIfInBounds i true).getD j true=false↔j≠i∧listed.getD j true=false):=l3
 have hle:=Rho.le_more hnh w.heap.size ex
 have H1:WR P w0 ((r.take f.n).more f.n w.heap.size ex) (hh.set f.ob f.n) nx { w with drawn:=dr,heap:=w.heap.push obj } :=
  (((I.wr.take f.n).drew dr).push obj).adopt (fun e=>hnh e) (fun e=>e.1 rfl) f.ob w.heap.size ex hoo (by
   have:BR P ((r.take f.n).more f.n w.heap.size ex) f.n f.ob (some obj):=hbr.take
   simpa using this) I.wr.below.size (fun k o hk=>Nat.ne_of_lt (I.wr.lt hk)) (I.fnx f hf) (Nat.le_refl _)
 have hcv:∀ u,conc ((r.take f.n).more f.n w.heap.size ex) u=conc (r.more f.n w.heap.size ex) u:=fun u=>conc_take (r.more f.n w.heap.size ex) f.n u
 simp only [wpOpIn,ho]
 rw [if_pos (wanted_none (compOper_op hc).2)]
 refine ⟨fun _ _=>trivial,?_⟩
 rw [Oper.semAt_eq _ _ _ (compK_defer (compOper_op hc).1),hrun]
 refine hn _ _ (hh.set f.ob f.n) ((r.take f.n).more f.n w.heap.size ex) ⟨I.split,fun u hu=>I.usub u (mem_without.1 hu).1,nodup_without I.und,?_,l2,?_,l1,H1,?_,I.fi,I.fn,I.fd,I.fj,?_,I.f0,I.fnx,I.nx0,?_,fun j cs q y hy=>I.factN j cs q y (mem_without.1 hy).1,fun j q y hy=>I.factA j q y (mem_without.1 hy).1,?_,?_,?_,I.run⟩
 ·have e1:(without U i).length+1=U.length:=length_without I.und ⟨_,hu,rfl⟩
  have e2:=I.fuel
  omega
 ·intro j hj
  rw [l3 j hj,I.lst j hj]
  constructor
  ·rintro ⟨hne,⟨u,hu,e⟩ | h⟩
   ·exact .inl ⟨u,mem_without.2 ⟨hu,fun e'=>hne (e.symm.trans e')⟩,e⟩
   ·exact .inr h
  ·rintro (⟨u,hu',e⟩ | ⟨y,hy,e⟩)
   ·exact ⟨fun e'=>(mem_without.1 hu').2 (e.trans e'),.inl ⟨u,(mem_without.1 hu').1,e⟩⟩
   ·refine ⟨fun e'=>?_,.inr ⟨y,hy,e⟩⟩
    have hn:=hp.nodup
    rw [I.split,List.map_append,List.nodup_append] at hn
    exact hn.2.2 _ (List.mem_map.2 ⟨_,(I.usub _ hu).1,rfl⟩) _ (List.mem_map.2 ⟨y,hy,rfl⟩) (e.trans e').symm
 ·intro k o'
  constructor
  ·intro hk
   by_cases e:k=f.n
   ·subst e
    rw [T.find_set] at hk; cases hk
    exact .inr ⟨f,hf,fun u hu' e=>(mem_without.1 hu').2 (e.trans hfi),rfl,rfl⟩
   ·rw [T.find_set_ne _ _ _ _ e] at hk
    rcases (I.hhI k o').1 hk with h1 | ⟨g,hg,hU,e⟩
    ·exact .inl h1
    ·exact .inr ⟨g,hg,fun u hu'=>hU u (mem_without.1 hu').1,e⟩
  ·rintro (h1 | ⟨g,hg,hU,rfl,rfl⟩)
   ·have e:k≠f.n:=fun e=>by have:=I.fn f hf; rw [← e,h1] at this; cases this
    rw [T.find_set_ne _ _ _ _ e]
    exact (I.hhI k o').2 (.inl h1)
   ·by_cases e:g=f
    ·subst e; rw [T.find_set]
    ·have e':g.n≠f.n:=fun h=>e (I.fd g hg f hf h)
     rw [T.find_set_ne _ _ _ _ e']
     refine (I.hhI _ _).2 (.inr ⟨g,hg,fun u hu' e2=>?_,rfl,rfl⟩)
     by_cases ei:u.i=i
     ·exact e (I.fj g hg f hf (e2.symm.trans (ei.trans hfi.symm)))
     ·exact hU u (mem_without.2 ⟨hu',ei⟩) e2
 ·intro g hg u hu' e
  refine ⟨fun e2=>?_,I.fres g hg u (mem_without.1 hu').1 e⟩
  have:=I.fd g hg f hf e2
  subst this
  exact (mem_without.1 hu').2 (e.trans hfi)
 ·intro q u hqu hnu
  rw [et,put_find (Nat.lt_of_lt_of_le hpm I.size)]
  rw [hcv]
  by_cases e:p.toNat=q.toNat
  ·have:=Sl.inj e
   subst this
   rw [if_pos rfl]
   rw [hv] at hqu; cases hqu
   exact ⟨rfl,hov⟩
  ·rw [if_neg e]
   have hb:=I.tr q u hqu fun y hy hd'=>by
    by_cases ei:y.i=i
    ·have:=idx_inj hp (I.inl.2.1 y hy) hul ei
     subst this
     cases hd'; exact e rfl
    ·exact hnu y (mem_without.2 ⟨hy,ei⟩) hd'
   exact ⟨by rw [conc_le hle hb.2]; exact hb.1,hb.2.mono hle.has⟩
 ·rw [et]; simp [Act.put]; exact I.size
 ·rw [et]; exact I.defers
 ·refine ⟨⟨fun k hk=>.inr (I.ev.le.has k hk),fun k hk=>⟨fun e=>I.f0 f hf (e ▸ hk),I.ev.le.res k hk⟩,fun k hk=>?_,fun k hk=>?_,fun k hk=>?_⟩,?_,fun b hb hn=>?_,fun k o' hk=>?_⟩
  ·exact (hle.blk k (I.ev.le.has k hk)).trans (I.ev.le.blk k hk)
  ·exact (hle.ext k (I.ev.le.has k hk)).trans (I.ev.le.ext k hk)
  ·exact (hle.lp k (I.ev.le.has k hk)).trans (I.ev.le.lp k hk)
  ·have:=I.ev.size
   simp; omega
  ·show (w.heap.push obj)[b]?=_
   have:=I.ev.size
   rw [Array.getElem?_push,if_neg (by omega)]
   exact I.ev.fr b hb hn
  ·by_cases e:k=f.n
   ·subst e
    rw [Rho.more_blk]
    exact .inl I.ev.size
   ·rw [T.find_set_ne _ _ _ _ e] at hk
    rcases I.ev.img k o' hk with h1 | ⟨j,oj,hj,he⟩
    ·exact .inl (by rw [show ((r.take f.n).more f.n w.heap.size ex).blk k=r.blk k from hle.blk k (I.wr.has k o' hk).1]; exact h1)
    ·exact .inr ⟨j,oj,hj,he.trans (hle.blk k (I.wr.has k o' hk).1).symm⟩
end
end Go.Proofs.YtidggaoacldgkaaGreatDoor.X

/- An executor for closed calls, 25: the drawn order acts; a script is right. -/
namespace Go.Proofs.YtidggaoacldgkaaGreatDoor.X
open Go.RowKit
section
variable {P:Program} {w0:World} {m:Nat} {ops:Array Oper} {l:List It} {ch:CH} {K:S→T AO→Pt→Prop} {r0:Rho} {h0:T AO} {wS:World} {ds:List Deferred} {ro:Option Nat}
 {fuel:Nat} {listed:Array Bool} {a:Act} {w:World} {pre U rest:List It} {F:List Fl} {tm:S} {h hh:T AO} {nx:Pt} {r:Rho}
theorem WR.backs {r:Rho} {h:T AO} {nx:Pt} {w:World} (H:WR P w0 r h nx w):∀ (G:List Fl),(∀ f ∈ G,r.has f.n∧okO r.has f.ob∧BR P r f.n f.ob (w.heap[r.blk f.n]?)∧w0.heap.size≤r.blk f.n) →
  (∀ f ∈ G,∀ k o,h.find k=some o→r.blk k≠r.blk f.n)→(∀ f ∈ G,∀ g ∈ G,r.blk f.n=r.blk g.n→f=g) →
  ∃ hh,WR P w0 r hh nx w∧∀ k o,hh.find k=some o↔h.find k=some o∨∃ f ∈ G,f.n=k∧f.ob=o
 | [],_,_,_=>⟨h,H,fun k o=>by simp⟩
 | f :: G,h1,h2,h3=>by
  obtain ⟨hh,g1,g2⟩:=WR.backs H G (fun g hg=>h1 g (List.mem_cons_of_mem _ hg)) (fun g hg=>h2 g (List.mem_cons_of_mem _ hg)) (fun g hg g' hg'=>h3 g (List.mem_cons_of_mem _ hg) g' (List.mem_cons_of_mem _ hg'))
  obtain ⟨e1,e2,e3,e4⟩:=h1 f (List.mem_cons_self ..)
  have hap:∀ k o,hh.find k=some o→r.blk k=r.blk f.n→k=f.n:=fun k o hk e=>by
   rcases (g2 k o).1 hk with h4 | ⟨g,hg,rfl,rfl⟩
   ·exact absurd e (h2 f (List.mem_cons_self ..) k o h4)
   ·rw [h3 g (List.mem_cons_of_mem _ hg) f (List.mem_cons_self ..) e]
  refine ⟨hh.set f.ob f.n,g1.back e1 e2 e3 e4 hap,fun k o=>?_⟩
  by_cases e:k=f.n
  ·subst e
   rw [T.find_set]
   constructor
   ·intro h4; cases h4; exact .inr ⟨f,List.mem_cons_self ..,rfl,rfl⟩
   ·rintro (h4 | ⟨g,hg,h5,rfl⟩)
    ·exact absurd rfl (h2 f (List.mem_cons_self ..) _ o h4)
    ·rw [h3 g hg f (List.mem_cons_self ..) (by rw [h5])]
  ·rw [T.find_set_ne _ _ _ _ e,g2 k o]
   refine or_congr Iff.rfl ⟨fun ⟨g,hg,h⟩=>⟨g,List.mem_cons_of_mem _ hg,h⟩,fun ⟨g,hg,h5,h6⟩=>?_⟩
   rcases List.mem_cons.1 hg with rfl | hg
   ·exact absurd h5.symm e
   ·exact ⟨g,hg,h5,h6⟩
theorem Inv.actE (hch:CHq P w0 ch) (hE:EnvOk P w0 ch.loops r0) (hp:Plan P m ops l) {i:Nat} {ab:List Nat} {rc:List (Sl × AOper)} {x:AOper} {rest:List It} (I:Inv P w0 m ops l ch K r0 h0 wS ds (fuel+1) listed a w pre U (.e i ab rc x :: rest) F tm h hh nx r) {o:Oper} (ho:ops[i]?=some o) (hall:∀ e ∈ o.after,Region.binds .any e=true→listed.getD e.on false=true)
  {Q:Exit→Act→World→Prop} {next:Act→World→Prop} (hn:∀ a' w' F' tm' h' hh' nx' r',Inv P w0 m ops l ch K r0 h0 wS ds fuel (listed.setIfInBounds i true) a' w' (pre ++ [.e i ab rc x]) U rest F' tm' h' hh' nx' r'→next a' w'):wpOpIn (Wr ro) 0 P ops Q i next a w:=by
 have hxl:It.e i ab rc x ∈ l:=I.inl.2.2 _ (List.mem_cons_self ..)
 obtain ⟨o',ho',hc,hrq⟩:=hp.item _ hxl
 rw [ho] at ho'; cases ho'
 have hrd:=I.reads hp hxl ho hall
 have hpre:=I.notU hp
 have hUi:∀ u ∈ U,u.i≠i:=fun u hu=>hpre u (I.usub u hu).1
 have hUun:∀ u ∈ U,listed.getD u.i true=false:=fun u hu=>(I.lst u.i (lt_of_item hp (I.inl.2.1 u hu))).2 (.inl ⟨u,hu,rfl⟩)
 have hanc:∀ j,Anc ops i j→∀ u ∈ U,u.i≠j:=fun j hj u hu e=>getD_ne (hUun u hu) (by rw [e]; exact Anc.listed I.clo ho hall hj)
 have hrun:absK (inB ab) F h [] fun F h=>eK x ch tm h nx fun v h nx=>rcK rc tm h nx (putD x.dst v tm fun tm=>denS rest F ch tm h nx K):=I.run
 obtain ⟨F',h1,hk1,hF',hh1⟩:=absK_spec hrun
 have hF'1:∀ f ∈ F',f ∈ F∧inB ab f.i=false:=fun f hf=>((hF' f).1 hf).resolve_left (by simp)
 have hsub:∀ k ob,h1.find k=some ob→hh.find k=some ob:=fun k ob hk=>by
  rcases hh1 k ob hk with h2 | ⟨f,hf,hb,e1,e2⟩
  ·exact (I.hhI k ob).2 (.inl h2)
  ·exact (I.hhI k ob).2 (.inr ⟨f,hf,hanc f.i (hp.abs i ab rc x hxl f.i (inB_iff.1 hb)),e1,e2⟩)
 have hnone:∀ f ∈ F',h1.find f.n=none:=fun f hf=>by
  cases hx:h1.find f.n with
  | none=>rfl
  | some ob =>
   exfalso
   obtain ⟨hf1,hf2⟩:=hF'1 f hf
   rcases hh1 _ _ hx with h2 | ⟨g,hg,hb,e1,-⟩
   ·rw [I.fn f hf1] at h2; cases h2
   ·rw [I.fd g hg f hf1 e1,hf2] at hb; cases hb
 have H1:WR P w0 r h1 nx w:=I.wr.sub hsub
 refine eK_sound hch (hE.le I.ev.le) ho hc H1 I.trU (eK_congr (hch.flat _ _) (fun q hq=>tmU_find (hrd q hq)) hk1) ?_
 intro v h' nx' r' w' hcv H' hev hok
 obtain ⟨hput,hrc⟩:=rcK_spec hrq hcv
 obtain ⟨l1,l2,l3⟩:=I.listed' hp hxl ho hall
 have l3:∀ j,j<ops.size→((listed.setIfInBounds i true).getD j true=false↔j≠i∧listed.getD j true=false):=l3
 have hex:∀ f ∈ F',(∀ u ∈ U,u.i≠f.i)→hh.find f.n=some f.ob:=fun f hf hU=>(I.hhI _ _).2 (.inr ⟨f,(hF'1 f hf).1,hU,rfl,rfl⟩)
 have himg:∀ f ∈ F',(∀ u ∈ U,u.i≠f.i)→∀ k ob,h1.find k=some ob→r.blk k≠r.blk f.n:=fun f hf hU k ob hk e=>by
  have:=I.wr.apart k f.n _ _ (hsub k ob hk) (hex f hf hU) e
  rw [this,hnone f hf] at hk; cases hk
 obtain ⟨hh',W,hhI'⟩:=WR.backs H' (F'.filter fun f=>U.all fun u=>u.i != f.i) (fun f hf=>by
   obtain ⟨hf,hU⟩:=List.mem_filter.1 hf
   have hU:∀ u ∈ U,u.i≠f.i:=by simpa using hU
   obtain ⟨e1,e2,e3,e4⟩:=I.wr.has _ _ (hex f hf hU)
   refine ⟨hev.le.has _ e1,e3.mono hev.le.has,?_,by rw [hev.le.blk _ e1]; exact e2⟩
   rw [hev.le.blk _ e1,hev.fr _ (I.wr.lt (hex f hf hU)) (fun k ob hk=>himg f hf hU k ob hk)]
   exact e4.le hev.le e1 e3) (fun f hf k ob hk e=>by
   obtain ⟨hf,hU⟩:=List.mem_filter.1 hf
   have hU:∀ u ∈ U,u.i≠f.i:=by simpa using hU
   have e1:=(I.wr.has _ _ (hex f hf hU)).1
   have hlt:=I.wr.lt (hex f hf hU)
   rw [hev.le.blk _ e1] at e
   rcases hev.img k ob hk with h2 | ⟨j,oj,hj,h2⟩
   ·omega
   ·exact himg f hf hU j oj hj (h2.trans e)) (fun f hf g hg e=>by
   obtain ⟨hf,hU⟩:=List.mem_filter.1 hf
   have hU:∀ u ∈ U,u.i≠f.i:=by simpa using hU
   obtain ⟨hg,hV⟩:=List.mem_filter.1 hg
   have hV:∀ u ∈ U,u.i≠g.i:=by simpa using hV
   rw [hev.le.blk _ (I.wr.has _ _ (hex f hf hU)).1,hev.le.blk _ (I.wr.has _ _ (hex g hg hV)).1] at e
   exact I.fd f (hF'1 f hf).1 g (hF'1 g hg).1 (I.wr.apart _ _ _ _ (hex f hf hU) (hex g hg hV) e))
 have hhI2:∀ k ob,hh'.find k=some ob↔h'.find k=some ob∨∃ f ∈ F',(∀ u ∈ U,u.i≠f.i)∧f.n=k∧f.ob=ob:=fun k ob=>by
  rw [hhI' k ob]
  refine or_congr Iff.rfl ⟨fun ⟨f,hf,e⟩=>?_,fun ⟨f,hf,hU,e⟩=>⟨f,List.mem_filter.2 ⟨hf,by simpa using hU⟩,e⟩⟩
  obtain ⟨hf,hU⟩:=List.mem_filter.1 hf
  exact ⟨f,hf,by simpa using hU,e⟩
 have hev2:Ev r hh w r' hh' w':=by
  refine ⟨hev.le,hev.size,fun b hb hnb=>hev.fr b hb fun k ob hk=>hnb k ob (hsub k ob hk),fun k ob hk=>?_⟩
  rcases (hhI2 k ob).1 hk with h2 | ⟨f,hf,hU,rfl,rfl⟩
  ·rcases hev.img k ob h2 with h3 | ⟨j,oj,hj,h3⟩
   ·exact .inl h3
   ·exact .inr ⟨j,oj,hsub j oj hj,h3⟩
  ·exact .inr ⟨f.n,f.ob,hex f hf hU,(hev.le.blk _ (I.wr.has _ _ (hex f hf hU)).1).symm⟩
 have hfe:∀ f ∈ F',(∃ u ∈ U,u.i=f.i)∨∀ u ∈ U,u.i≠f.i:=fun f _=>by
  by_cases e:∃ u ∈ U,u.i=f.i
  ·exact .inl e
  ·exact .inr fun u hu e'=>e ⟨u,hu,e'⟩
 have hfn:∀ f ∈ F',h'.find f.n=none:=fun f hf=>by
  cases hx:h'.find f.n with
  | none=>rfl
  | some ob =>
   exfalso
   rcases hfe f hf with ⟨u,hu,e⟩ | hU
   ·exact H'.dis _ (H'.has _ _ hx).1 (hev.le.res _ (I.fres f (hF'1 f hf).1 u hu e))
   ·have e1:=(I.wr.has _ _ (hex f hf hU)).1
    have hlt:=I.wr.lt (hex f hf hU)
    rcases hev.img _ _ hx with h2 | ⟨j,oj,hj,h2⟩
    ·rw [hev.le.blk _ e1] at h2; omega
    ·rw [hev.le.blk _ e1] at h2; exact himg f hf hU j oj hj h2
 have hstill:∀ j bs q y,It.n j bs q y ∈ U→∃ h3,Laid h' F' bs h3∧nK y tm h3 nx' fun v=>tm.find q=some v:=fun j bs q y hy=>by
  obtain ⟨_,_,_,_,hqy⟩:=hp.item _ (I.inl.2.1 _ hy)
  cases bs with
  | cons b bs=>exact absurd rfl (hanc j (hp.leans pre i ab rc x rest I.split j b bs q y (I.usub _ hy).1) _ hy)
  | nil =>
   refine ⟨h',Laid.none,?_⟩
   obtain ⟨h3,g1,g2⟩:=I.factN j [] q y hy
   cases hb:heapX y with
   | false=>exact nK_any hqy hb g2
   | true =>
    rcases hp.rck pre i ab rc x rest I.split j [] q y (I.usub _ hy).1 hb with h2 | h2
    ·exact absurd rfl (hanc j h2 _ hy)
    ·exact hrc _ h2.1
 have hfa:∀ j q op,It.a j q op ∈ U→∃ f ∈ F',f.i=j∧floatK op tm f.n fun v ob=>tm.find q=some v∧ob=f.ob:=fun j q op hy=>by
  obtain ⟨f,hf,e,hk⟩:=I.factA j q op hy
  refine ⟨f,(hF' f).2 (.inr ⟨hf,?_⟩),e,hk⟩
  cases hb:inB ab f.i with
  | false=>rfl
  | true=>exact absurd e.symm (hanc f.i (hp.abs i ab rc x hxl f.i (inB_iff.1 hb)) _ hy)
 have base:∀ tm2,denS rest F' ch tm2 h' nx' K→(∀ q u,tm2.find q=some u→(∀ y ∈ U,y.dst≠some q)→(a.put o.dst (conc r' v)).tmps[q.toNat]?=some (conc r' u)∧okV r'.has u) →
   (∀ j bs q y,It.n j bs q y ∈ U→∃ h3,Laid h' F' bs h3∧nK y tm2 h3 nx' fun v=>tm2.find q=some v)→(∀ j q op,It.a j q op ∈ U→∃ f ∈ F',f.i=j∧floatK op tm2 f.n fun v ob=>tm2.find q=some v∧ob=f.ob) →
   m≤(a.put o.dst (conc r' v)).tmps.size→(a.put o.dst (conc r' v)).defers=ds→next (a.put o.dst (conc r' v)) w':=fun tm2 g1 g2 g3 g4 g5 g6=>by
  refine hn _ w' F' tm2 h' hh' nx' r' ⟨by rw [I.split]; simp,fun u hu=>⟨List.mem_append.2 (.inl (I.usub u hu).1),(I.usub u hu).2⟩,I.und,?_,l2,?_,l1,W,hhI2,?_,hfn,fun f hf g hg=>I.fd f (hF'1 f hf).1 g (hF'1 g hg).1,fun f hf g hg=>I.fj f (hF'1 f hf).1 g (hF'1 g hg).1,fun f hf u hu e=>hev.le.res _ (I.fres f (hF'1 f hf).1 u hu e),fun f hf=>I.f0 f (hF'1 f hf).1,?_,fun k hk=>H'.dom k (.inr (hev.le.res _ (I.ev.le.res k hk))),g2,g3,g4,g5,g6,I.ev.trans hev2,g1⟩
  ·have:=I.fuel
   simp at this; omega
  ·intro j hj
   rw [l3 j hj,I.lst j hj]
   constructor
   ·rintro ⟨hne,⟨u,hu,e⟩ | ⟨y,hy,e⟩⟩
    ·exact .inl ⟨u,hu,e⟩
    ·rcases List.mem_cons.1 hy with rfl | hy
     ·exact absurd e.symm hne
     ·exact .inr ⟨y,hy,e⟩
   ·rintro (⟨u,hu,e⟩ | ⟨y,hy,e⟩)
    ·exact ⟨fun e'=>hUi u hu (e.trans e'),.inl ⟨u,hu,e⟩⟩
    ·refine ⟨fun e'=>?_,.inr ⟨y,List.mem_cons_of_mem _ hy,e⟩⟩
     have hnd:=hp.nodup
     rw [I.split,List.map_append,List.nodup_append] at hnd
     have:=hnd.2.1
     simp only [List.map_cons,List.nodup_cons,List.mem_map,not_exists,not_and] at this
     exact this.1 y hy (e.trans e')
  ·intro f hf
   obtain ⟨y,hy,e⟩:=I.fi f (hF'1 f hf).1
   exact ⟨y,List.mem_append.2 (.inl hy),e⟩
  ·intro f hf
   rcases hfe f hf with ⟨u,hu,e⟩ | hU
   ·exact H'.dom _ (.inr (hev.le.res _ (I.fres f (hF'1 f hf).1 u hu e)))
   ·exact H'.dom _ (.inl (hev.le.has _ (I.wr.has _ _ (hex f hf hU)).1))
 have hcd:=compOper_dst hc
 cases hxd:x.dst with
 | none =>
  rw [hxd] at hput hcd
  have hod:o.dst=none:=by
   cases ho':o.dst with
   | none=>rfl
   | some t=>rw [ho'] at hcd; simp only [compD] at hcd; split at hcd <;> cases hcd
  refine base tm hput (fun q u hq hU=>?_) hstill hfa ?_ ?_
  ·have hb:=I.tr q u hq hU
   rw [hod]
   exact ⟨by rw [conc_le hev.le hb.2]; exact hb.1,hb.2.mono hev.le.has⟩
  ·rw [hod]; exact I.size
  ·rw [hod]; exact I.defers
 | some p =>
  rw [hxd] at hput hcd
  obtain ⟨et,hpm⟩:=compD_some hcd
  have hput:tm.setK v p fun tm=>denS rest F' ch tm h' nx' K:=hput
  rw [S.setK_iff] at hput
  have hxp:(It.e i ab rc x).dst=some p:=hxd
  have hne:∀ u ∈ U,∀ q,u.dst=some q→q≠p:=fun u hu q hq e=>hp.dst _ hxl u (I.inl.2.1 u hu) (fun e=>hUi u hu e.symm) p hxp (e ▸ hq)
  have hnr:∀ u ∈ U,p ∉ u.rd:=fun u hu hr=>hanc u.i (hp.rdE pre _ rest I.split rfl u (I.usub u hu).1 (I.usub u hu).2 p hxp hr) u hu rfl
  refine base (tm.set v p) hput (fun q u hq hU=>?_) (fun j bs q y hy=>?_) (fun j q op hy=>?_) ?_ ?_
  ·rw [et,put_find (Nat.lt_of_lt_of_le hpm I.size)]
   by_cases e:p.toNat=q.toNat
   ·have:=Sl.inj e
    subst this
    rw [S.find_set] at hq; cases hq
    rw [if_pos rfl]; exact ⟨rfl,hok⟩
   ·rw [if_neg e]
    rw [S.find_set_ne _ _ _ _ (fun e'=>e (by rw [e']))] at hq
    have hb:=I.tr q u hq hU
    exact ⟨by rw [conc_le hev.le hb.2]; exact hb.1,hb.2.mono hev.le.has⟩
  ·obtain ⟨_,_,_,_,hqy⟩:=hp.item _ (I.inl.2.1 _ hy)
   obtain ⟨h3,g1,g2⟩:=hstill j bs q y hy
   exact ⟨h3,g1,factN_set hqy (hnr _ hy) (hne _ hy q rfl) g2⟩
  ·obtain ⟨f,hf,e,hk⟩:=hfa j q op hy
   exact ⟨f,hf,e,factA_set (hnr _ hy) (hne _ hy q rfl) hk⟩
  ·rw [et]; simp [Act.put]; exact I.size
  ·rw [et]; exact I.defers
end
end Go.Proofs.YtidggaoacldgkaaGreatDoor.X

/- An executor for closed calls, 26: a region that draws its order. -/
namespace Go.Proofs.YtidggaoacldgkaaGreatDoor.X
open Go.RowKit
section
variable {P:Program} {w0:World} {m:Nat} {ops:Array Oper} {l:List It} {ch:CH} {K:S→T AO→Pt→Prop} {r0:Rho} {h0:T AO} {wS:World} {ds:List Deferred} {ro:Option Nat}
theorem first_of {α:Type} {p:α→Prop}:∀ {l:List α},(∃ x ∈ l,p x)→∃ s x t,l=s ++ x :: t∧p x∧∀ y ∈ s,¬ p y
 | [],h=>by obtain ⟨x,hx,-⟩:=h; cases hx
 | z :: l,h=>by
  by_cases e:p z
  ·exact ⟨[],z,l,rfl,e,fun y hy=>by cases hy⟩
  ·obtain ⟨x,hx,hpx⟩:=h
   rcases List.mem_cons.1 hx with rfl | hx
   ·exact absurd hpx e
   ·obtain ⟨s,x,t,h1,h2,h3⟩:=first_of ⟨x,hx,hpx⟩
    refine ⟨z :: s,x,t,by rw [h1]; rfl,h2,fun y hy=>?_⟩
    rcases List.mem_cons.1 hy with rfl | hy
    ·exact e
    ·exact h3 y hy
theorem draw_real (hch:CHq P w0 ch) (hE:EnvOk P w0 ch.loops r0) (hp:Plan P m ops l) {Q:Exit→Act→World→Prop} (hQ:∀ tm' h' nx' r' a' w',K tm' h' nx'→WR P w0 r' h' nx' w'→TR r' tm' a'.tmps→m≤a'.tmps.size→a'.defers=ds→Ev r0 h0 wS r' h' w'→Q .normal a' w')
  {fuel:Nat} {listed:Array Bool} {a:Act} {w:World} {pre U rest:List It} {F:List Fl} {tm:S} {h hh:T AO} {nx:Pt} {r:Rho} (I:Inv P w0 m ops l ch K r0 h0 wS ds fuel listed a w pre U rest F tm h hh nx r)
  (hr:∀ y rest',rest=y :: rest'→y.isE=true)
  (ih:∀ fuel',fuel=fuel'+1→∀ rest listed a w pre U F tm h hh nx r,Inv P w0 m ops l ch K r0 h0 wS ds fuel' listed a w pre U rest F tm h hh nx r→wpAnyIn (Wr ro) 0 P .any ops Q fuel' listed a w):wpAnyIn (Wr ro) 0 P .any ops Q fuel listed a w:=by
 cases fuel with
 | zero =>
  have hf:=I.fuel
  have hU:U=[]:=List.length_eq_zero_iff.1 (by omega)
  have hR:rest=[]:=List.length_eq_zero_iff.1 (by omega)
  subst hU; subst hR
  refine ⟨?_,?_⟩
  ·refine List.eq_nil_iff_forall_not_mem.2 fun i hi=>?_
   obtain ⟨h1,o,ho,-⟩:=mem_ready.1 hi
   rcases (I.lst i (Array.getElem?_eq_some_iff.1 ho).1).1 h1 with ⟨u,hu,-⟩ | ⟨u,hu,-⟩ <;> cases hu
  ·have hrun:absK (fun _=>true) F h [] fun _ h=>K tm h nx:=I.run
   obtain ⟨F',h',k1,-,k3⟩:=absK_spec hrun
   have hs:∀ k o,h'.find k=some o→hh.find k=some o:=fun k o hk=>by
    refine (I.hhI k o).2 ?_
    rcases k3 k o hk with h1 | ⟨f,hf,-,e⟩
    ·exact .inl h1
    ·exact .inr ⟨f,hf,fun u hu=>(by cases hu),e⟩
   exact hQ tm h' nx r a w k1 (I.wr.sub hs) (fun p v hv=>I.tr p v hv fun u hu=>(by cases hu)) I.size I.defers (I.ev.trans (Ev.sub hs))
 | succ fuel =>
  refine ⟨fun hempty=>?_,fun i hi=>?_⟩
  ·exfalso
   have hex:∃ x ∈ l,listed.getD x.i true=false:=by
    have hf:=I.fuel
    cases U with
    | cons u U=>exact ⟨u,I.inl.2.1 u (List.mem_cons_self ..),(I.lst u.i (lt_of_item hp (I.inl.2.1 u (List.mem_cons_self ..)))).2 (.inl ⟨u,List.mem_cons_self ..,rfl⟩)⟩
    | nil=>cases rest with
     | cons u rest=>exact ⟨u,I.inl.2.2 u (List.mem_cons_self ..),(I.lst u.i (lt_of_item hp (I.inl.2.2 u (List.mem_cons_self ..)))).2 (.inr ⟨u,List.mem_cons_self ..,rfl⟩)⟩
     | nil=>simp at hf
   obtain ⟨s,x,t,e,h1,h2⟩:=first_of hex
   have hxl:x ∈ l:=by rw [e]; simp
   have hlt:=lt_of_item hp hxl
   have hmem:x.i ∈ Region.ready .any ops listed:=by
    refine mem_ready.2 ⟨h1,ops[x.i],by simp [hlt],fun d hd hb=>?_⟩
    obtain ⟨y,hy,ey⟩:=hp.order s x t e ops[x.i] (by simp [hlt]) d hd hb
    have hyl:y ∈ l:=by rw [e]; simp [hy]
    have:=h2 y hy
    rw [← ey]
    exact getD_or (by rw [I.lsz]; exact lt_of_item hp hyl) this
   rw [hempty] at hmem
   cases hmem
  ·obtain ⟨hun,o,ho,hall⟩:=mem_ready.1 hi
   have hi':i<ops.size:=(Array.getElem?_eq_some_iff.1 ho).1
   rcases (I.lst i hi').1 hun with ⟨u,hu,e⟩ | ⟨y,hy,e⟩
   ·subst e
    cases u with
    | n j bs p x=>exact I.catchN hch hE hp hu ho hall fun a' w' r' I'=>ih fuel rfl _ _ _ _ _ _ _ _ _ _ _ _ I'
    | a j p op=>exact I.catchA hp hu ho hall fun a' w' hh' r' I'=>ih fuel rfl _ _ _ _ _ _ _ _ _ _ _ _ I'
    | e j ab rc x=>exact absurd (I.usub _ hu).2 (by simp [It.isE])
   ·cases rest with
    | nil=>cases hy
    | cons z rest' =>
     have hz:=hr z rest' rfl
     cases z with
     | n j bs p x=>cases hz
     | a j p op=>cases hz
     | e j ab rc x =>
      rcases List.mem_cons.1 hy with rfl | hy'
      ·subst e
       exact I.actE hch hE hp ho hall fun a' w' F' tm' h' hh' nx' r' I'=>ih fuel rfl _ _ _ _ _ _ _ _ _ _ _ _ I'
      ·exfalso
       have hj:listed.getD j true=false:=(I.lst j (lt_of_item hp (I.inl.2.2 _ (List.mem_cons_self ..)))).2 (.inr ⟨_,List.mem_cons_self ..,rfl⟩)
       have ha:=hp.chain pre _ rest' I.split rfl y hy'
       rw [e] at ha
       exact getD_ne hj (Anc.listed I.clo ho hall ha)
theorem draw_main (hch:CHq P w0 ch) (hE:EnvOk P w0 ch.loops r0) (hp:Plan P m ops l) {Q:Exit→Act→World→Prop} (hQ:∀ tm' h' nx' r' a' w',K tm' h' nx'→WR P w0 r' h' nx' w'→TR r' tm' a'.tmps→m≤a'.tmps.size→a'.defers=ds→Ev r0 h0 wS r' h' w'→Q .normal a' w') :
  ∀ (fuel:Nat) (rest:List It) (listed:Array Bool) (a:Act) (w:World) (pre U:List It) (F:List Fl) (tm:S) (h hh:T AO) (nx:Pt) (r:Rho),Inv P w0 m ops l ch K r0 h0 wS ds fuel listed a w pre U rest F tm h hh nx r→wpAnyIn (Wr ro) 0 P .any ops Q fuel listed a w:=by
 intro fuel
 induction fuel with
 | zero =>
  intro rest
  induction rest with
  | nil=>intro listed a w pre U F tm h hh nx r I; exact draw_real hch hE hp hQ I (fun y r e=>by cases e) fun f e=>by cases e
  | cons z rest ihr =>
   intro listed a w pre U F tm h hh nx r I
   have:=I.fuel
   simp at this
 | succ fuel ih =>
  intro rest
  induction rest with
  | nil=>intro listed a w pre U F tm h hh nx r I; exact draw_real hch hE hp hQ I (fun y r e=>by cases e) fun f e=>by cases e; exact ih
  | cons z rest ihr =>
   intro listed a w pre U F tm h hh nx r I
   cases z with
   | n i bs p x =>
    obtain ⟨tm',I'⟩:=I.lookN hp
    exact ihr _ _ _ _ _ _ _ _ _ _ _ I'
   | a i p op =>
    obtain ⟨tm',F',nx',r',I'⟩:=I.makeA hp
    exact ihr _ _ _ _ _ _ _ _ _ _ _ I'
   | e i ab rc x=>exact draw_real hch hE hp hQ I (fun y r e=>by cases e; rfl) fun f e=>by cases e; exact ih
theorem draw_sound {F:FR} (hch:CHok P w0 ch.call) (hm:P.follows .mixedOrders=true) (hp:Plan P F.m ops l) (id:Nat):Dok P w0 F ch (.region id ops true) (den (.draw l)):=by
 intro tm h nx K a w r Q hk hs hg _
 refine WpN.of (wpIn_region_any hm ?_)
 have hk:denS l [] ch.calm tm h nx (K .nrm):=hk
 refine draw_main (K:=K .nrm) (r0:=r) (h0:=h) (wS:={ w with drawn:=w.drawn+1 }) (ds:=a.defers) (ch:=ch.calm) (CHq.of hch) hs.env hp (fun tm' h' nx' r' a' w' k1 k2 k3 k4 k5 k6=>hg .nrm tm' h' nx' r' a' w' k1 (hs.on k2 ((Ev.drew _).trans k6) k3 k4 k5) ((Ev.drew _).trans k6)) ops.size l _ a _ [] [] [] tm h h nx r ?_
 refine ⟨rfl,fun u hu=>(by cases hu),by simp,by rw [hp.len]; simp,by simp,fun i hi=>?_,fun i o ho hl=>?_,hs.wr.drew _,fun k o=>?_,fun f hf=>(by cases hf),fun f hf=>(by cases hf),fun f hf=>(by cases hf),fun f hf=>(by cases hf),fun f hf=>(by cases hf),fun f hf=>(by cases hf),fun f hf=>(by cases hf),fun k hk=>hs.wr.dom k (.inr hk),fun p v hv _=>hs.tr p v hv,fun i bs p x hu=>(by cases hu),fun i p x hu=>(by cases hu),hs.size,rfl,.refl _ _ _,hk⟩
 ·constructor
  ·intro _; exact .inr (hp.cover i hi)
  ·intro _; simp [hi]
 ·exfalso
  have hi:i<ops.size:=(Array.getElem?_eq_some_iff.1 ho).1
  simp [hi] at hl
 ·simp
end
end Go.Proofs.YtidggaoacldgkaaGreatDoor.X
