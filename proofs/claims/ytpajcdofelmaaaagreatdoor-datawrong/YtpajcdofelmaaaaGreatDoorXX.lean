/- An executor for closed calls, 24: the drawn order catches up; it acts. -/
import Derived.Test.YtpajcdofelmaaaaGreatDoorXW
namespace Go.Proofs.YtpajcdofelmaaaaGreatDoor.X
open Go.RowKit
section
variable {P:Program} {w0:World} {m:Nat} {ops:Array Oper} {l:List It} {ch:CH} {K:S→T AO→Pt→Prop} {r0:Rho} {h0:T AO} {wS:World} {ds:List Deferred} {ro:Option Nat}
 {fuel:Nat} {listed:Array Bool} {a:Act} {w:World} {pre U rest:List It} {F:List Fl} {tm:S} {h hh:T AO} {nx:Pt} {r:Rho}
def without (U:List It) (i:Nat):List It:=U.filter fun u=>u.i != i
theorem mem_without {U:List It} {i:Nat} {u:It}:u ∈ without U i↔u ∈ U∧u.i≠i:=by
 unfold without
 rw [List.mem_filter]
 refine and_congr_right fun _=>?_
 simp
theorem length_without {i:Nat}:∀ {U:List It},(U.map It.i).Nodup→(∃ u ∈ U,u.i=i)→(without U i).length+1=U.length
 | [],_,h=>by obtain ⟨u,hu,_⟩:=h; cases hu
 | x :: U,hn,h=>by
  simp only [List.map_cons,List.nodup_cons,List.mem_map,not_exists,not_and] at hn
  by_cases e:x.i=i
  ·have:without (x :: U) i=U:=by
    unfold without
    rw [List.filter_cons,if_neg (by simp [e]),List.filter_eq_self]
    intro u hu
    simp only [bne_iff_ne,ne_eq]
    exact fun e'=>hn.1 u hu (e'.trans e.symm)
   rw [this]; rfl
  ·obtain ⟨u,hu,he⟩:=h
   rcases List.mem_cons.1 hu with rfl | hu
   ·exact absurd he e
   ·have:without (x :: U) i=x :: without U i:=by
     unfold without
     rw [List.filter_cons]
     simp [e]
    rw [this,List.length_cons,length_without hn.2 ⟨u,hu,he⟩]; rfl
theorem nodup_without {i:Nat} {U:List It} (h:(U.map It.i).Nodup):((without U i).map It.i).Nodup :=
 h.sublist (List.Sublist.map _ List.filter_sublist)
theorem Inv.listed' (I:Inv P w0 m ops l ch K r0 h0 wS ds fuel listed a w pre U rest F tm h hh nx r) (hp:Plan P m ops l) {x:It} (hxl:x ∈ l) {o:Oper} (ho:ops[x.i]?=some o) (hall:∀ e ∈ o.after,Region.binds .any e=true→listed.getD e.on false=true) :
  Closed ops (listed.setIfInBounds x.i true)∧(listed.setIfInBounds x.i true).size=ops.size∧∀ j,j<ops.size→((listed.setIfInBounds x.i true).getD j true=false↔j≠x.i∧listed.getD j true=false):=by
 have hlt:=lt_of_item hp hxl
 refine ⟨fun j oj hj hl e he hb=>?_,by simp [I.lsz],fun j hj=>?_⟩
 ·by_cases ej:x.i=j
  ·subst ej
   rw [ho] at hj; cases hj
   exact getD_set_true (hall e he hb)
  ·rw [getD_set_ne false ej] at hl
   exact getD_set_true (I.clo j oj hj hl e he hb)
 ·by_cases ej:x.i=j
  ·subst ej
   simp [I.lsz,hlt]
  ·rw [getD_set_ne true ej]
   exact ⟨fun h=>⟨fun e=>ej e.symm,h⟩,fun h=>h.2⟩
theorem compOper_dst {o:Oper} {x:AOper} (h:compOper P m ops o=some x):compD m o.dst=some x.dst:=by
 unfold compOper at h
 split at h
 ·rename_i k d g hk hd hg
  cases h; exact hd
 ·cases h
theorem compOper_op {o:Oper} {x:AOper} (h:compOper P m ops o=some x):compK P o.op=some x.op∧compG ops o.guard=some x.guard:=by
 unfold compOper at h
 split at h
 ·rename_i k d g hk hd hg
  cases h; exact ⟨hk,hg⟩
 ·cases h
theorem compD_some {t:Option Tmp} {p:Sl} (h:compD m t=some (some p)):t=some p.toNat∧p.toNat<m:=by
 cases t with
 | none=>cases h
 | some t =>
  simp only [compD] at h
  split at h
  ·rename_i ht
   cases h; rw [Sl.toNat_ofNat]; exact ⟨rfl,ht⟩
  ·cases h
theorem put_find {a:Act} {t:Nat} {v:Value} {q:Nat} (ht:t<a.tmps.size):(a.put (some t) v).tmps[q]?=if t=q then some v else a.tmps[q]?:=by
 simp only [Act.put]
 by_cases e:t=q
 ·subst e; simp [ht]
 ·rw [Array.getElem?_setIfInBounds_ne e,if_neg e]
theorem Inv.catchN (hch:CHq P w0 ch) (hE:EnvOk P w0 ch.loops r0) (hp:Plan P m ops l) (I:Inv P w0 m ops l ch K r0 h0 wS ds (fuel+1) listed a w pre U rest F tm h hh nx r) {i:Nat} {bs:List Nat} {p:Sl} {x:AOper} (hu:It.n i bs p x ∈ U) {o:Oper} (ho:ops[i]?=some o) (hall:∀ e ∈ o.after,Region.binds .any e=true→listed.getD e.on false=true)
  {Q:Exit→Act→World→Prop} {next:Act→World→Prop} (hn:∀ a' w' r',Inv P w0 m ops l ch K r0 h0 wS ds fuel (listed.setIfInBounds i true) a' w' pre (without U i) rest F tm h hh nx r'→next a' w'):wpOpIn (Wr ro) 0 P ops Q i next a w:=by
 have hul:=I.inl.2.1 _ hu
 obtain ⟨o',ho',hc,hd,hq⟩:=hp.item _ hul
 rw [ho] at ho'; cases ho'
 have hrd:=I.reads hp hul ho hall
 obtain ⟨h3,hl3,hf⟩:=I.factN i bs p x hu
 have hdone:∀ j ∈ bs,∀ u ∈ U,u.i≠j:=fun j hj u hu' e=>getD_ne ((I.lst u.i (lt_of_item hp (I.inl.2.1 u hu'))).2 (.inl ⟨u,hu',rfl⟩)) (by rw [e]; exact Anc.listed I.clo ho hall (hp.absN i bs p x hul j hj))
 have hsub3:∀ k o,h3.find k=some o→hh.find k=some o:=fun k o hk=>(I.hhI k o).2 ((hl3 k o hk).imp id fun ⟨f,hf,hb,e⟩=>⟨f,hf,hdone f.i hb,e⟩)
 have hk:nK x (tmU U tm) hh nx fun v=>tm.find p=some v:=nK_heap hq hsub3 (nK_congr (fun q hq'=>tmU_find (hrd q hq')) hf)
 refine eK_sound hch (hE.le I.ev.le) ho hc I.wr I.trU (nK_eK (ch:=ch) hq hk) ?_
 rintro v h' nx' r' w' ⟨hv,rfl,rfl⟩ H' hev hok
 obtain ⟨et,hpm⟩:=compD_some (by rw [← hd]; exact compOper_dst hc)
 obtain ⟨l1,l2,l3⟩:=I.listed' hp hul ho hall
 have l3:∀ j,j<ops.size→((listed.setIfInBounds i true).getD j true=false↔j≠i∧listed.getD j true=false):=l3
 refine hn _ w' r' ⟨I.split,fun u hu=>I.usub u (mem_without.1 hu).1,nodup_without I.und,?_,l2,?_,l1,H',?_,I.fi,I.fn,I.fd,I.fj,fun f hf u hu e=>hev.le.res _ (I.fres f hf u (mem_without.1 hu).1 e),I.f0,I.fnx,I.nx0,?_,fun j cs q y hy=>I.factN j cs q y (mem_without.1 hy).1,fun j q y hy=>I.factA j q y (mem_without.1 hy).1,?_,?_,I.ev.trans hev,I.run⟩
 ·have e1:(without U i).length+1=U.length:=length_without I.und ⟨_,hu,rfl⟩
  have e2:=I.fuel
  omega
 ·intro j hj
  rw [l3 j hj,I.lst j hj]
  constructor
  ·rintro ⟨hne,⟨u,hu,e⟩ | h⟩
   ·exact .inl ⟨u,mem_without.2 ⟨hu,fun e'=>hne (e.symm.trans e')⟩,e⟩
   ·exact .inr h
  ·rintro (⟨u,hu',e⟩ | ⟨y,hy,e⟩)
   ·exact ⟨fun e'=>(mem_without.1 hu').2 (e.trans e'),.inl ⟨u,(mem_without.1 hu').1,e⟩⟩
   ·refine ⟨fun e'=>?_,.inr ⟨y,hy,e⟩⟩
    have hn:=hp.nodup
    rw [I.split,List.map_append,List.nodup_append] at hn
    exact hn.2.2 _ (List.mem_map.2 ⟨_,(I.usub _ hu).1,rfl⟩) _ (List.mem_map.2 ⟨y,hy,rfl⟩) (e.trans e').symm
 ·intro k ob
  rw [I.hhI k ob]
  refine or_congr Iff.rfl (exists_congr fun f=>and_congr_right fun hf=>and_congr_left fun _=>⟨fun hU u hu=>hU u (mem_without.1 hu).1,fun hU u hu'=>?_⟩)
  by_cases e:u.i=i
  ·
   intro e2
   obtain ⟨y,hy,e3,e4⟩:=I.fi f hf
   have:=idx_inj hp (I.inl.1 y hy) hul (e3.trans (e2.symm.trans e))
   subst this
   cases e4
  ·exact hU u (mem_without.2 ⟨hu',e⟩)
 ·intro q u hqu hnu
  rw [et,put_find (Nat.lt_of_lt_of_le hpm I.size)]
  by_cases e:p.toNat=q.toNat
  ·have:=Sl.inj e
   subst this
   rw [if_pos rfl]
   rw [hv] at hqu; cases hqu
   exact ⟨rfl,hok⟩
  ·rw [if_neg e]
   have hb:=I.tr q u hqu fun y hy hd'=>by
    by_cases ei:y.i=i
    ·have:=idx_inj hp (I.inl.2.1 y hy) hul ei
     subst this
     cases hd'; exact e rfl
    ·exact hnu y (mem_without.2 ⟨hy,ei⟩) hd'
   exact ⟨by rw [conc_le hev.le hb.2]; exact hb.1,hb.2.mono hev.le.has⟩
 ·rw [et]; simp [Act.put]; exact I.size
 ·rw [et]; exact I.defers
theorem compK_v {op:Op} {o:AOp} (h:compK P op=some (.v o)):Co P op o:=by
 unfold compK at h
 split at h
 ·split at h <;> cases h
 ·split at h <;> cases h
 ·split at h <;> cases h
 ·split at h <;> cases h
 ·split at h <;> cases h
 ·split at h <;> cases h
 ·split at h
  ·rename_i o' ho
   cases h; exact compOp_spec ho
  ·cases h
theorem Inv.catchA (hp:Plan P m ops l) (I:Inv P w0 m ops l ch K r0 h0 wS ds (fuel+1) listed a w pre U rest F tm h hh nx r) {i:Nat} {p:Sl} {op:AOp} (hu:It.a i p op ∈ U) {o:Oper} (ho:ops[i]?=some o) (hall:∀ e ∈ o.after,Region.binds .any e=true→listed.getD e.on false=true)
  {Q:Exit→Act→World→Prop} {next:Act→World→Prop} (hn:∀ a' w' hh' r',Inv P w0 m ops l ch K r0 h0 wS ds fuel (listed.setIfInBounds i true) a' w' pre (without U i) rest F tm h hh' nx r'→next a' w'):wpOpIn (Wr ro) 0 P ops Q i next a w:=by
 have hul:=I.inl.2.1 _ hu
 obtain ⟨o',ho',hc⟩:=hp.item _ hul
 rw [ho] at ho'; cases ho'
 have hrd:=I.reads hp hul ho hall
 obtain ⟨f,hf,hfi,hfl⟩:=I.factA i p op hu
 have hres:r.res f.n:=I.fres f hf _ hu hfi.symm
 have hnh:¬ r.has f.n:=fun e=>I.wr.dis _ e hres
 have hfl:floatK op (tmU U tm) f.n fun v ob=>tm.find p=some v∧ob=f.ob:=floatK_congr (fun y hy=>valX_of fun q hq=>tmU_find (hrd q (List.mem_flatMap.2 ⟨y,hy,hq⟩))) hfl
 obtain ⟨v,ob,obj,ex,dr,⟨hv,rfl⟩,hrun,hbr,hoo,hov⟩:=float_sound (w:=w) I.trU hnh rfl (compK_v (compOper_op hc).1) hfl
 obtain ⟨et,hpm⟩:=compD_some (compOper_dst hc)
 obtain ⟨l1,l2,l3⟩:=I.listed' hp hul ho hall
 have l3:∀ j,j<ops.size→((listed.setIfInBounds i true).getD j true=false↔j≠i∧listed.getD j true=false):=l3
 have hle:=Rho.le_more hnh w.heap.size ex
 have H1:WR P w0 ((r.take f.n).more f.n w.heap.size ex) (hh.set f.ob f.n) nx { w with drawn:=dr,heap:=w.heap.push obj } :=
  (((I.wr.take f.n).drew dr).push obj).adopt (fun e=>hnh e) (fun e=>e.1 rfl) f.ob w.heap.size ex hoo (by
   have:BR P ((r.take f.n).more f.n w.heap.size ex) f.n f.ob (some obj):=hbr.take
   simpa using this) I.wr.below.size (fun k o hk=>Nat.ne_of_lt (I.wr.lt hk)) (I.fnx f hf) (Nat.le_refl _)
 have hcv:∀ u,conc ((r.take f.n).more f.n w.heap.size ex) u=conc (r.more f.n w.heap.size ex) u:=fun u=>conc_take (r.more f.n w.heap.size ex) f.n u
 simp only [wpOpIn,ho]
 rw [if_pos (wanted_none (compOper_op hc).2)]
 refine ⟨fun _ _=>trivial,?_⟩
 rw [Oper.semAt_eq _ _ _ (compK_defer (compOper_op hc).1),hrun]
 refine hn _ _ (hh.set f.ob f.n) ((r.take f.n).more f.n w.heap.size ex) ⟨I.split,fun u hu=>I.usub u (mem_without.1 hu).1,nodup_without I.und,?_,l2,?_,l1,H1,?_,I.fi,I.fn,I.fd,I.fj,?_,I.f0,I.fnx,I.nx0,?_,fun j cs q y hy=>I.factN j cs q y (mem_without.1 hy).1,fun j q y hy=>I.factA j q y (mem_without.1 hy).1,?_,?_,?_,I.run⟩
 ·have e1:(without U i).length+1=U.length:=length_without I.und ⟨_,hu,rfl⟩
  have e2:=I.fuel
  omega
 ·intro j hj
  rw [l3 j hj,I.lst j hj]
  constructor
  ·rintro ⟨hne,⟨u,hu,e⟩ | h⟩
   ·exact .inl ⟨u,mem_without.2 ⟨hu,fun e'=>hne (e.symm.trans e')⟩,e⟩
   ·exact .inr h
  ·rintro (⟨u,hu',e⟩ | ⟨y,hy,e⟩)
   ·exact ⟨fun e'=>(mem_without.1 hu').2 (e.trans e'),.inl ⟨u,(mem_without.1 hu').1,e⟩⟩
   ·refine ⟨fun e'=>?_,.inr ⟨y,hy,e⟩⟩
    have hn:=hp.nodup
    rw [I.split,List.map_append,List.nodup_append] at hn
    exact hn.2.2 _ (List.mem_map.2 ⟨_,(I.usub _ hu).1,rfl⟩) _ (List.mem_map.2 ⟨y,hy,rfl⟩) (e.trans e').symm
 ·intro k o'
  constructor
  ·intro hk
   by_cases e:k=f.n
   ·subst e
    rw [T.find_set] at hk; cases hk
    exact .inr ⟨f,hf,fun u hu' e=>(mem_without.1 hu').2 (e.trans hfi),rfl,rfl⟩
   ·rw [T.find_set_ne _ _ _ _ e] at hk
    rcases (I.hhI k o').1 hk with h1 | ⟨g,hg,hU,e⟩
    ·exact .inl h1
    ·exact .inr ⟨g,hg,fun u hu'=>hU u (mem_without.1 hu').1,e⟩
  ·rintro (h1 | ⟨g,hg,hU,rfl,rfl⟩)
   ·have e:k≠f.n:=fun e=>by have:=I.fn f hf; rw [← e,h1] at this; cases this
    rw [T.find_set_ne _ _ _ _ e]
    exact (I.hhI k o').2 (.inl h1)
   ·by_cases e:g=f
    ·subst e; rw [T.find_set]
    ·have e':g.n≠f.n:=fun h=>e (I.fd g hg f hf h)
     rw [T.find_set_ne _ _ _ _ e']
     refine (I.hhI _ _).2 (.inr ⟨g,hg,fun u hu' e2=>?_,rfl,rfl⟩)
     by_cases ei:u.i=i
     ·exact e (I.fj g hg f hf (e2.symm.trans (ei.trans hfi.symm)))
     ·exact hU u (mem_without.2 ⟨hu',ei⟩) e2
 ·intro g hg u hu' e
  refine ⟨fun e2=>?_,I.fres g hg u (mem_without.1 hu').1 e⟩
  have:=I.fd g hg f hf e2
  subst this
  exact (mem_without.1 hu').2 (e.trans hfi)
 ·intro q u hqu hnu
  rw [et,put_find (Nat.lt_of_lt_of_le hpm I.size)]
  rw [hcv]
  by_cases e:p.toNat=q.toNat
  ·have:=Sl.inj e
   subst this
   rw [if_pos rfl]
   rw [hv] at hqu; cases hqu
   exact ⟨rfl,hov⟩
  ·rw [if_neg e]
   have hb:=I.tr q u hqu fun y hy hd'=>by
    by_cases ei:y.i=i
    ·have:=idx_inj hp (I.inl.2.1 y hy) hul ei
     subst this
     cases hd'; exact e rfl
    ·exact hnu y (mem_without.2 ⟨hy,ei⟩) hd'
   exact ⟨by rw [conc_le hle hb.2]; exact hb.1,hb.2.mono hle.has⟩
 ·rw [et]; simp [Act.put]; exact I.size
 ·rw [et]; exact I.defers
 ·refine ⟨⟨fun k hk=>.inr (I.ev.le.has k hk),fun k hk=>⟨fun e=>I.f0 f hf (e ▸ hk),I.ev.le.res k hk⟩,fun k hk=>?_,fun k hk=>?_,fun k hk=>?_⟩,?_,fun b hb hn=>?_,fun k o' hk=>?_⟩
  ·exact (hle.blk k (I.ev.le.has k hk)).trans (I.ev.le.blk k hk)
  ·exact (hle.ext k (I.ev.le.has k hk)).trans (I.ev.le.ext k hk)
  ·exact (hle.lp k (I.ev.le.has k hk)).trans (I.ev.le.lp k hk)
  ·have:=I.ev.size
   simp; omega
  ·show (w.heap.push obj)[b]?=_
   have:=I.ev.size
   rw [Array.getElem?_push,if_neg (by omega)]
   exact I.ev.fr b hb hn
  ·by_cases e:k=f.n
   ·subst e
    rw [Rho.more_blk]
    exact .inl I.ev.size
   ·rw [T.find_set_ne _ _ _ _ e] at hk
    rcases I.ev.img k o' hk with h1 | ⟨j,oj,hj,he⟩
    ·exact .inl (by rw [show ((r.take f.n).more f.n w.heap.size ex).blk k=r.blk k from hle.blk k (I.wr.has k o' hk).1]; exact h1)
    ·exact .inr ⟨j,oj,hj,he.trans (hle.blk k (I.wr.has k o' hk).1).symm⟩
end
end Go.Proofs.YtpajcdofelmaaaaGreatDoor.X
