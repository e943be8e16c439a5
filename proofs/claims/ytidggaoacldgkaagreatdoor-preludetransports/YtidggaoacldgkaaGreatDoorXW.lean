/- An executor for closed calls, 23: a script is right for every order that may be drawn. -/
import Derived.Test.YtidggaoacldgkaaGreatDoorXV
namespace Go.Proofs.YtidggaoacldgkaaGreatDoor.X
open Go.RowKit
def It.isA:It→Bool
 | .a _ _ _=>true
 | _=>false
def delL (ps:List Sl) (tm:S):S:=ps.foldl S.del tm
theorem delL_sub {p:Sl} {v:AV}:∀ {ps:List Sl} {tm:S},(delL ps tm).find p=some v→tm.find p=some v∧p ∉ ps
 | [],tm,h=>⟨h,by simp⟩
 | q :: ps,tm,h=>by
  obtain ⟨h1,h2⟩:=delL_sub (ps:=ps) (tm:=tm.del q) h
  by_cases e:p=q
  ·subst e; rw [S.find_del] at h1; cases h1
  ·rw [S.find_del_ne _ _ _ e] at h1
   exact ⟨h1,by simp only [List.mem_cons,not_or]; exact ⟨e,h2⟩⟩
theorem delL_out {p:Sl}:∀ {ps:List Sl} {tm:S},p ∉ ps→(delL ps tm).find p=tm.find p
 | [],_,_=>rfl
 | q :: ps,tm,h=>by
  simp only [List.mem_cons,not_or] at h
  show (delL ps (tm.del q)).find p=_
  rw [delL_out h.2,S.find_del_ne _ _ _ h.1]
theorem step_any {o:AOp} (hq:quietB o=true) (hh:heapX ⟨none,.v o,none⟩=false) {tm:S} {h h2:T AO} {nx nx2:Pt} {C:AV→Prop} (hk:stepV o tm h nx fun v _ _=>C v):stepV o tm h2 nx2 fun v _ _=>C v:=by
 cases o with
 | new vs e=>cases hq
 | box e x=>cases hq
 | buildS e n z ps=>cases hq
 | st n x y=>cases hq
 | mkS e n z l c=>cases hq
 | app e n x y=>cases hq
 | mkM=>cases hq
 | rng x=>cases hq
 | nxt x=>cases hq
 | ld1 x=>cases hh
 | ldN n x=>cases hh
 | lenM x=>cases hh
 | lenC x=>cases hh
 | mkC x=>cases hq
 | lk z ok x k=>cases hh
 | up x k v=>cases hq
 | lkA n z ok x k=>cases hh
 | upA n x k v=>cases hq
 | cvB e x=>cases hq
 | clr z x=>cases hq
 | cvT x=>cases hh
 | eq ek neg x y=>cases hh
 | _=>exact hk
theorem nK_any {x:AOper} (hq:quietX x=true) (hh:heapX x=false) {tm:S} {h h2:T AO} {nx nx2:Pt} {c:AV→Prop} (hk:nK x tm h nx c):nK x tm h2 nx2 c:=by
 unfold nK at hk ⊢
 unfold quietX at hq
 unfold heapX at hh
 split
 ·rename_i o ho
  simp only [ho] at hk hq hh
  split
  ·rename_i hg
   simp only [hg] at hk
   exact step_any hq hh hk
  ·rename_i g b hg
   simp only [hg] at hk
   exact wantK_congr rfl (step_any hq hh) id hk
 ·rename_i hne
  split at hk
  ·rename_i o ho; exact absurd ho (hne o)
  ·exact hk
def ItOk (P:Program) (m:Nat) (ops:Array Oper):It→Prop
 | .n i _ p x=>∃ o,ops[i]?=some o∧compOper P m ops o=some x∧x.dst=some p∧quietX x=true
 | .a i p op=>∃ o,ops[i]?=some o∧compOper P m ops o=some ⟨some p,.v op,none⟩
 | .e i _ rc x=>∃ o,ops[i]?=some o∧compOper P m ops o=some x∧∀ q ∈ rc,quietX q.2=true
structure Plan (P:Program) (m:Nat) (ops:Array Oper) (l:List It):Prop where
 item:∀ it ∈ l,ItOk P m ops it
 len:l.length=ops.size
 nodup:(l.map It.i).Nodup
 cover:∀ i,i<ops.size→∃ it ∈ l,it.i=i
 order:∀ pre it post,l=pre ++ it :: post→∀ o,ops[it.i]?=some o→∀ e ∈ o.after,Region.binds .any e=true→∃ y ∈ pre,y.i=e.on
 chain:∀ pre it post,l=pre ++ it :: post→it.isE=true→∀ y ∈ post,Anc ops y.i it.i
 dst:∀ x ∈ l,∀ y ∈ l,x.i≠y.i→∀ p,x.dst=some p→y.dst≠some p
 self:∀ x ∈ l,x.isE=false→∀ p,x.dst=some p→p ∉ x.rd
 rdN:∀ x ∈ l,∀ y ∈ l,x.i≠y.i→y.isE=false→∀ p,y.dst=some p→p ∈ x.rd→Anc ops x.i y.i
 rdL:∀ pre x post,l=pre ++ x :: post→∀ y ∈ post,y.isE=false→∀ p,y.dst=some p→p ∉ x.rd
 rdE:∀ pre x post,l=pre ++ x :: post→x.isE=true→∀ y ∈ pre,y.isE=false→∀ p,x.dst=some p→p ∈ y.rd→Anc ops x.i y.i
 abs:∀ i ab rc x,It.e i ab rc x ∈ l→∀ j ∈ ab,Anc ops i j
 rck:∀ pre i ab rc x post,l=pre ++ .e i ab rc x :: post→∀ j bs p y,It.n j bs p y ∈ pre→heapX y=true→Anc ops i j∨((p,y) ∈ rc∧bs=[])
 absN:∀ i bs p x,It.n i bs p x ∈ l→∀ j ∈ bs,Anc ops i j
 leans:∀ pre i ab rc x post,l=pre ++ .e i ab rc x :: post→∀ j b bs p y,It.n j (b :: bs) p y ∈ pre→Anc ops i j
def Laid (h:T AO) (F:List Fl) (bs:List Nat) (h':T AO):Prop:=∀ k o,h'.find k=some o→h.find k=some o∨∃ f ∈ F,f.i ∈ bs∧f.n=k∧f.ob=o
theorem Laid.none {h:T AO} {F:List Fl} {bs:List Nat}:Laid h F bs h:=fun _ _ hk=>.inl hk
theorem Laid.mono {h h':T AO} {F F':List Fl} {bs:List Nat} (hl:Laid h F bs h') (hF:∀ f ∈ F,f ∈ F'):Laid h F' bs h':=fun k o hk=>(hl k o hk).imp id fun ⟨f,hf,e⟩=>⟨f,hF f hf,e⟩
theorem Laid.nil {h h':T AO} {F:List Fl} (hl:Laid h F [] h'):∀ k o,h'.find k=some o→h.find k=some o:=fun k o hk=>(hl k o hk).resolve_right fun ⟨_,_,e,_⟩=>by cases e
structure Inv (P:Program) (w0:World) (m:Nat) (ops:Array Oper) (l:List It) (ch:CH) (K:S→T AO→Pt→Prop) (r0:Rho) (h0:T AO) (wS:World) (ds:List Deferred)
  (fuel:Nat) (listed:Array Bool) (a:Act) (w:World) (pre U rest:List It) (F:List Fl) (tm:S) (h hh:T AO) (nx:Pt) (r:Rho):Prop where
 split:l=pre ++ rest
 usub:∀ u ∈ U,u ∈ pre∧u.isE=false
 und:(U.map It.i).Nodup
 fuel:fuel=U.length+rest.length
 lsz:listed.size=ops.size
 lst:∀ i,i<ops.size→(listed.getD i true=false↔(∃ u ∈ U,u.i=i)∨∃ y ∈ rest,y.i=i)
 clo:Closed ops listed
 wr:WR P w0 r hh nx w
 hhI:∀ k o,hh.find k=some o↔h.find k=some o∨∃ f ∈ F,(∀ u ∈ U,u.i≠f.i)∧f.n=k∧f.ob=o
 fi:∀ f ∈ F,∃ y ∈ pre,y.i=f.i∧y.isA=true
 fn:∀ f ∈ F,h.find f.n=none
 fd:∀ f ∈ F,∀ g ∈ F,f.n=g.n→f=g
 fj:∀ f ∈ F,∀ g ∈ F,f.i=g.i→f=g
 fres:∀ f ∈ F,∀ u ∈ U,u.i=f.i→r.res f.n
 f0:∀ f ∈ F,¬ r0.res f.n
 fnx:∀ f ∈ F,f.n.toNat<nx.toNat
 nx0:∀ k,r0.res k→k.toNat<nx.toNat
 tr:∀ p v,tm.find p=some v→(∀ u ∈ U,u.dst≠some p)→a.tmps[p.toNat]?=some (conc r v)∧okV r.has v
 factN:∀ i bs p x,It.n i bs p x ∈ U→∃ h',Laid h F bs h'∧nK x tm h' nx fun v=>tm.find p=some v
 factA:∀ i p op,It.a i p op ∈ U→∃ f ∈ F,f.i=i∧floatK op tm f.n fun v ob=>tm.find p=some v∧ob=f.ob
 size:m≤a.tmps.size
 defers:a.defers=ds
 ev:Ev r0 h0 wS r hh w
 run:denS rest F ch tm h nx K
section
variable {P:Program} {w0:World} {m:Nat} {ops:Array Oper} {l:List It} {ch:CH} {K:S→T AO→Pt→Prop} {r0:Rho} {h0:T AO} {wS:World} {ds:List Deferred} {ro:Option Nat}
 {fuel:Nat} {listed:Array Bool} {a:Act} {w:World} {pre U rest:List It} {F:List Fl} {tm:S} {h hh:T AO} {nx:Pt} {r:Rho}
theorem idx_inj (hp:Plan P m ops l) {x y:It} (hx:x ∈ l) (hy:y ∈ l) (e:x.i=y.i):x=y:=by
 have hn:=hp.nodup
 clear hp
 induction l with
 | nil=>cases hx
 | cons z l ih =>
  simp only [List.map_cons,List.nodup_cons,List.mem_map,not_exists,not_and] at hn
  rcases List.mem_cons.1 hx with ex | hx1
  ·rcases List.mem_cons.1 hy with ey | hy1
   ·rw [ex,ey]
   ·exact absurd (e.symm.trans (by rw [ex])) (hn.1 y hy1)
  ·rcases List.mem_cons.1 hy with ey | hy1
   ·exact absurd (e.trans (by rw [ey])) (hn.1 x hx1)
   ·exact ih hx1 hy1 hn.2
theorem lt_of_item (hp:Plan P m ops l) {x:It} (hx:x ∈ l):x.i<ops.size:=by
 have:=hp.item x hx
 cases x <;> (obtain ⟨o,ho,-⟩:=this; exact (Array.getElem?_eq_some_iff.1 ho).1)
theorem getD_ne {b:Array Bool} {i:Nat} (h1:b.getD i true=false) (h2:b.getD i false=true):False:=by
 rcases Nat.lt_or_ge i b.size with h' | h'
 ·simp [h'] at h1 h2; rw [h1] at h2; cases h2
 ·simp [Array.getElem?_eq_none h'] at h2
theorem getD_or {b:Array Bool} {i:Nat} (hi:i<b.size) (h1:¬ b.getD i true=false):b.getD i false=true:=by
 simp [hi] at h1 ⊢; exact h1
theorem Inv.reads (I:Inv P w0 m ops l ch K r0 h0 wS ds fuel listed a w pre U rest F tm h hh nx r) (hp:Plan P m ops l) {x:It} (hx:x ∈ l) {o:Oper} (ho:ops[x.i]?=some o) (hall:∀ e ∈ o.after,Region.binds .any e=true→listed.getD e.on false=true)
  : ∀ p ∈ x.rd,∀ u ∈ U,u.dst≠some p:=by
 intro p hpr u hu hd
 have hul:u ∈ l:=by rw [I.split]; exact List.mem_append.2 (.inl (I.usub u hu).1)
 have hun:listed.getD u.i true=false:=(I.lst u.i (lt_of_item hp hul)).2 (.inl ⟨u,hu,rfl⟩)
 by_cases e:x.i=u.i
 ·have:=idx_inj hp hx hul e
  subst this
  exact hp.self x hx (I.usub x hu).2 p hd hpr
 ·exact getD_ne hun (Anc.listed I.clo ho hall (hp.rdN x hx u hul e (I.usub u hu).2 p hd hpr))
def tmU (U:List It) (tm:S):S:=delL (U.filterMap It.dst) tm
theorem tmU_find {p:Sl} (h:∀ u ∈ U,u.dst≠some p):(tmU U tm).find p=tm.find p:=delL_out fun hm=>by
 obtain ⟨u,hu,hd⟩:=List.mem_filterMap.1 hm
 exact h u hu hd
theorem Inv.trU (I:Inv P w0 m ops l ch K r0 h0 wS ds fuel listed a w pre U rest F tm h hh nx r):TR r (tmU U tm) a.tmps:=fun p v hv=>by
 obtain ⟨h1,h2⟩:=delL_sub hv
 exact I.tr p v h1 fun u hu hd=>h2 (List.mem_filterMap.2 ⟨u,hu,hd⟩)
theorem factN_set {x:AOper} (hq:quietX x=true) {p p':Sl} {v:AV} (hr:p ∉ rdX x) (hne:p'≠p) (hk:nK x tm h nx fun v=>tm.find p'=some v):nK x (tm.set v p) h nx fun u=>(tm.set v p).find p'=some u :=
 nK_congr (fun q hq'=>S.find_set_ne _ _ _ _ fun e=>hr (e ▸ hq')) (nK_imp hq (fun u hu=>by rw [S.find_set_ne _ _ _ _ hne]; exact hu) hk)
theorem floatK_imp {op:AOp} {n:Pt} {c c':AV→AO→Prop} (hc:∀ v o,c v o→c' v o) (hk:floatK op tm n c):floatK op tm n c':=by
 cases op with
 | new vs e=>exact hc _ _ hk
 | box e x=>exact evK_imp (fun v hv=>hc _ _ hv) hk
 | buildS e k z ps =>
  obtain ⟨vs,g1,g2⟩:=fillK_val hk
  rw [forceL_iff] at g1
  exact g2 _ ((forceL_iff _ _).2 (hc _ _ g1))
 | mkM=>exact hc _ _ hk
 | cvB e x =>
  refine evK_imp (fun v hv=>?_) hk
  split at hv
  ·rw [forceL_iff,forceN_iff] at hv
   show forceL _ _
   rw [forceL_iff,forceN_iff]
   exact hc _ _ hv
  ·exact hv.elim
 | mkS e k z l m =>
  refine evK_imp (fun v hv=>evK_imp (fun u hu=>?_) hv) hk
  split at hu
  ·obtain ⟨hb,hu⟩:=brec hu
   rw [forceL_iff] at hu
   rename_i k1 l1 k2 m1 _
   show Bool.rec (motive:=fun _=>Prop) False (forceL _ _) (Nat.ble l1 m1&&_)
   rw [hb]
   exact (forceL_iff _ _).2 (hc _ _ hu)
  ·exact hu.elim
 | _=>exact hk.elim
theorem factA_set {op:AOp} {n:Pt} {p p':Sl} {ob:AO} {v:AV} (hr:p ∉ (opX op).flatMap axP) (hne:p'≠p) (hk:floatK op tm n fun v o=>tm.find p'=some v∧o=ob):floatK op (tm.set v p) n fun u o=>(tm.set v p).find p'=some u∧o=ob :=
 floatK_congr (fun y hy=>valX_of fun q hq=>S.find_set_ne _ _ _ _ fun e=>hr (e ▸ List.mem_flatMap.2 ⟨y,hy,hq⟩)) (floatK_imp (fun u o hu=>⟨by rw [S.find_set_ne _ _ _ _ hne]; exact hu.1,hu.2⟩) hk)
theorem Inv.notU (hp:Plan P m ops l) {it:It} {rest:List It} (I:Inv P w0 m ops l ch K r0 h0 wS ds fuel listed a w pre U (it :: rest) F tm h hh nx r):∀ y ∈ pre,y.i≠it.i:=fun u hu e=>by
 have hn:=hp.nodup
 rw [I.split,List.map_append,List.nodup_append] at hn
 exact hn.2.2 _ (List.mem_map.2 ⟨u,hu,rfl⟩) _ (List.mem_map.2 ⟨it,List.mem_cons_self ..,rfl⟩) e
theorem Inv.ahead (hp:Plan P m ops l) {it:It} {rest:List It} (I:Inv P w0 m ops l ch K r0 h0 wS ds fuel listed a w pre U (it :: rest) F tm h hh nx r) (hE:it.isE=false) {p:Sl} (hd:it.dst=some p):∀ y ∈ pre,p ∉ y.rd:=fun y hy=>by
 obtain ⟨s,t,rfl⟩:=List.append_of_mem hy
 exact hp.rdL s y (t ++ it :: rest) (by rw [I.split]; simp) it (by simp) hE p hd
theorem Inv.inl (I:Inv P w0 m ops l ch K r0 h0 wS ds fuel listed a w pre U rest F tm h hh nx r):(∀ y ∈ pre,y ∈ l)∧(∀ u ∈ U,u ∈ l)∧∀ y ∈ rest,y ∈ l:=by
 refine ⟨fun y hy=>?_,fun u hu=>?_,fun y hy=>?_⟩
 ·rw [I.split]; exact List.mem_append.2 (.inl hy)
 ·rw [I.split]; exact List.mem_append.2 (.inl (I.usub u hu).1)
 ·rw [I.split]; exact List.mem_append.2 (.inr hy)
theorem Inv.lookN (hp:Plan P m ops l) {i:Nat} {bs:List Nat} {p:Sl} {x:AOper} {rest:List It} (I:Inv P w0 m ops l ch K r0 h0 wS ds fuel listed a w pre U (.n i bs p x :: rest) F tm h hh nx r) :
  ∃ tm',Inv P w0 m ops l ch K r0 h0 wS ds fuel listed a w (pre ++ [.n i bs p x]) (U ++ [.n i bs p x]) rest F tm' h hh nx r:=by
 have hxl:It.n i bs p x ∈ l:=I.inl.2.2 _ (List.mem_cons_self ..)
 obtain ⟨o,ho,hc,hd,hq⟩:=hp.item _ hxl
 have hrun:∃ h',Laid h F bs h'∧nK x tm h' nx fun v=>tm.setK v p fun tm=>denS rest F ch tm h nx K:=by
  have hr:sN bs p x (denS rest) F ch tm h nx K:=I.run
  cases bs with
  | nil=>exact ⟨h,Laid.none,hr⟩
  | cons j bs =>
   have hr:absK (inB (j :: bs)) F h [] fun _ h'=>nK x tm h' nx fun v=>tm.setK v p fun tm=>denS rest F ch tm h nx K:=hr
   obtain ⟨-,h',k1,-,k3⟩:=absK_spec hr
   exact ⟨h',fun k o hk=>(k3 k o hk).imp id fun ⟨f,hf,hb,e⟩=>⟨f,hf,inB_iff.1 hb,e⟩,k1⟩
 obtain ⟨h2',hlaid,hrun⟩:=hrun
 obtain ⟨v,h1,h2⟩:=nK_val hq hrun
 rw [S.setK_iff] at h1
 have hpre:=I.notU hp
 have hah:=I.ahead hp rfl rfl
 have hUi:∀ u ∈ U,u.i≠i:=fun u hu=>hpre u (I.usub u hu).1
 have hUd:∀ u ∈ U,u.dst≠some p:=fun u hu=>hp.dst _ hxl u (I.inl.2.1 u hu) (fun e=>hUi u hu e.symm) p rfl
 have hFi:∀ f ∈ F,f.i≠i:=fun f hf e=>by obtain ⟨y,hy,h,-⟩:=I.fi f hf; exact hpre y hy (h.trans e)
 refine ⟨tm.set v p,⟨by rw [I.split]; simp,?_,?_,?_,I.lsz,?_,I.clo,I.wr,?_,?_,I.fn,I.fd,I.fj,?_,I.f0,I.fnx,I.nx0,?_,?_,?_,I.size,I.defers,I.ev,h1⟩⟩
 ·intro u hu
  rcases List.mem_append.1 hu with hu | hu
  ·exact ⟨List.mem_append.2 (.inl (I.usub u hu).1),(I.usub u hu).2⟩
  ·rw [List.mem_singleton.1 hu]; exact ⟨by simp,rfl⟩
 ·rw [List.map_append,List.nodup_append]
  refine ⟨I.und,by simp,fun a ha b hb e=>?_⟩
  obtain ⟨u,hu,rfl⟩:=List.mem_map.1 ha
  simp only [List.map_cons,List.map_nil,List.mem_singleton] at hb
  exact hUi u hu (e.trans hb)
 ·rw [I.fuel]; simp; omega
 ·intro j hj
  rw [I.lst j hj]
  simp only [List.mem_append,List.mem_cons,List.not_mem_nil,or_false]
  constructor
  ·rintro (⟨u,hu,e⟩ | ⟨y,rfl | hy,e⟩)
   ·exact .inl ⟨u,.inl hu,e⟩
   ·exact .inl ⟨_,.inr rfl,e⟩
   ·exact .inr ⟨y,hy,e⟩
  ·rintro (⟨u,hu | rfl,e⟩ | ⟨y,hy,e⟩)
   ·exact .inl ⟨u,hu,e⟩
   ·exact .inr ⟨_,.inl rfl,e⟩
   ·exact .inr ⟨y,.inr hy,e⟩
 ·intro k o
  rw [I.hhI k o]
  refine or_congr Iff.rfl (exists_congr fun f=>and_congr_right fun hf=>and_congr_left fun _=>⟨fun hU u hu=>?_,fun hU u hu=>hU u (List.mem_append.2 (.inl hu))⟩)
  rcases List.mem_append.1 hu with hu | hu
  ·exact hU u hu
  ·rw [List.mem_singleton.1 hu]; exact fun e=>hFi f hf e.symm
 ·intro f hf
  obtain ⟨y,hy,e⟩:=I.fi f hf
  exact ⟨y,List.mem_append.2 (.inl hy),e⟩
 ·intro f hf u hu e
  rcases List.mem_append.1 hu with hu | hu
  ·exact I.fres f hf u hu e
  ·rw [List.mem_singleton.1 hu] at e; exact absurd e.symm (hFi f hf)
 ·intro q u hu hn
  have hqp:q≠p:=fun e=>hn (.n i bs p x) (by simp) (by rw [e]; rfl)
  rw [S.find_set_ne _ _ _ _ hqp] at hu
  exact I.tr q u hu fun y hy=>hn y (List.mem_append.2 (.inl hy))
 ·intro j cs q y hy
  rcases List.mem_append.1 hy with hy | hy
  ·have hyl:=I.inl.2.1 _ hy
   obtain ⟨_,_,_,_,hqy⟩:=hp.item _ hyl
   obtain ⟨h3,g1,g2⟩:=I.factN j cs q y hy
   exact ⟨h3,g1,factN_set hqy (hah _ (I.usub _ hy).1) (fun e=>hUd _ hy (by rw [← e]; rfl)) g2⟩
  ·cases List.mem_singleton.1 hy
   refine ⟨h2',hlaid,?_⟩
   exact nK_congr (fun q hq'=>S.find_set_ne _ _ _ _ fun e=>hp.self _ hxl rfl p rfl (by rw [← e]; exact hq')) (nK_imp hq (fun u hu=>by rw [hu,S.find_set]) h2)
 ·intro j q op hy
  rcases List.mem_append.1 hy with hy | hy
  ·obtain ⟨f,hf,e,hk⟩:=I.factA j q op hy
   exact ⟨f,hf,e,factA_set (hah _ (I.usub _ hy).1) (fun e=>hUd _ hy (by rw [← e]; rfl)) hk⟩
  ·cases List.mem_singleton.1 hy
theorem Inv.makeA (hp:Plan P m ops l) {i:Nat} {p:Sl} {op:AOp} {rest:List It} (I:Inv P w0 m ops l ch K r0 h0 wS ds fuel listed a w pre U (.a i p op :: rest) F tm h hh nx r) :
  ∃ tm' F' nx' r',Inv P w0 m ops l ch K r0 h0 wS ds fuel listed a w (pre ++ [.a i p op]) (U ++ [.a i p op]) rest F' tm' h hh nx' r':=by
 have hxl:It.a i p op ∈ l:=I.inl.2.2 _ (List.mem_cons_self ..)
 obtain ⟨o,ho,hc⟩:=hp.item _ hxl
 have hrun:floatK op tm nx fun v ob=>tm.setK v p fun tm=>succK nx fun nx'=>denS rest (⟨i,nx,ob⟩ :: F) ch tm h nx' K:=I.run
 obtain ⟨v,ob,h1,h2⟩:=floatK_val hrun
 rw [S.setK_iff,succK_iff] at h1
 have hpre:=I.notU hp
 have hah:=I.ahead hp rfl rfl
 have hUi:∀ u ∈ U,u.i≠i:=fun u hu=>hpre u (I.usub u hu).1
 have hUd:∀ u ∈ U,u.dst≠some p:=fun u hu=>hp.dst _ hxl u (I.inl.2.1 u hu) (fun e=>hUi u hu e.symm) p rfl
 have hFi:∀ f ∈ F,f.i≠i:=fun f hf e=>by obtain ⟨y,hy,h,-⟩:=I.fi f hf; exact hpre y hy (h.trans e)
 have hnone:∀ k o,h.find k=some o→k≠nx:=fun k o hk e=>by
  have:=(I.wr.has k o ((I.hhI k o).2 (.inl hk))).1
  exact I.wr.fresh (e ▸ this)
 have hFn:∀ f ∈ F,f.n≠nx:=fun f hf e=>by have:=I.fnx f hf; rw [e] at this; omega
 refine ⟨tm.set v p,⟨i,nx,ob⟩ :: F,nx.succ,r.aside nx,⟨by rw [I.split]; simp,?_,?_,?_,I.lsz,?_,I.clo,I.wr.aside,?_,?_,?_,?_,?_,?_,?_,?_,?_,?_,?_,?_,I.size,I.defers,⟨I.ev.le.trans (r.le_aside nx),I.ev.size,I.ev.fr,I.ev.img⟩,h1⟩⟩
 ·intro u hu
  rcases List.mem_append.1 hu with hu | hu
  ·exact ⟨List.mem_append.2 (.inl (I.usub u hu).1),(I.usub u hu).2⟩
  ·rw [List.mem_singleton.1 hu]; exact ⟨by simp,rfl⟩
 ·rw [List.map_append,List.nodup_append]
  refine ⟨I.und,by simp,fun a ha b hb e=>?_⟩
  obtain ⟨u,hu,rfl⟩:=List.mem_map.1 ha
  simp only [List.map_cons,List.map_nil,List.mem_singleton] at hb
  exact hUi u hu (e.trans hb)
 ·rw [I.fuel]; simp; omega
 ·intro j hj
  rw [I.lst j hj]
  simp only [List.mem_append,List.mem_cons,List.not_mem_nil,or_false]
  constructor
  ·rintro (⟨u,hu,e⟩ | ⟨y,rfl | hy,e⟩)
   ·exact .inl ⟨u,.inl hu,e⟩
   ·exact .inl ⟨_,.inr rfl,e⟩
   ·exact .inr ⟨y,hy,e⟩
  ·rintro (⟨u,hu | rfl,e⟩ | ⟨y,hy,e⟩)
   ·exact .inl ⟨u,hu,e⟩
   ·exact .inr ⟨_,.inl rfl,e⟩
   ·exact .inr ⟨y,.inr hy,e⟩
 ·intro k o
  rw [I.hhI k o]
  refine or_congr Iff.rfl ⟨?_,?_⟩
  ·rintro ⟨f,hf,hU,e⟩
   refine ⟨f,List.mem_cons_of_mem _ hf,fun u hu=>?_,e⟩
   rcases List.mem_append.1 hu with hu | hu
   ·exact hU u hu
   ·rw [List.mem_singleton.1 hu]; exact fun e=>hFi f hf e.symm
  ·rintro ⟨f,hf,hU,e⟩
   rcases List.mem_cons.1 hf with rfl | hf
   ·exact absurd rfl (hU (.a i p op) (by simp))
   ·exact ⟨f,hf,fun u hu=>hU u (List.mem_append.2 (.inl hu)),e⟩
 ·intro f hf
  rcases List.mem_cons.1 hf with rfl | hf
  ·exact ⟨.a i p op,by simp,rfl,rfl⟩
  ·obtain ⟨y,hy,e⟩:=I.fi f hf
   exact ⟨y,List.mem_append.2 (.inl hy),e⟩
 ·intro f hf
  rcases List.mem_cons.1 hf with rfl | hf
  ·cases hx:h.find nx with
   | none=>rfl
   | some o=>exact absurd rfl (hnone nx o hx)
  ·exact I.fn f hf
 ·intro f hf g hg e
  rcases List.mem_cons.1 hf with rfl | hf
  ·rcases List.mem_cons.1 hg with rfl | hg
   ·rfl
   ·exact absurd e.symm (hFn g hg)
  ·rcases List.mem_cons.1 hg with rfl | hg
   ·exact absurd e (hFn f hf)
   ·exact I.fd f hf g hg e
 ·intro f hf g hg e
  rcases List.mem_cons.1 hf with rfl | hf
  ·rcases List.mem_cons.1 hg with rfl | hg
   ·rfl
   ·exact absurd e.symm (hFi g hg)
  ·rcases List.mem_cons.1 hg with rfl | hg
   ·exact absurd e (hFi f hf)
   ·exact I.fj f hf g hg e
 ·intro f hf u hu e
  rcases List.mem_cons.1 hf with rfl | hf
  ·exact Or.inl rfl
  ·rcases List.mem_append.1 hu with hu | hu
   ·exact Or.inr (I.fres f hf u hu e)
   ·rw [List.mem_singleton.1 hu] at e; exact absurd e.symm (hFi f hf)
 ·intro f hf
  rcases List.mem_cons.1 hf with rfl | hf
  ·intro hr
   have:=I.nx0 _ hr
   exact Nat.lt_irrefl _ this
  ·exact I.f0 f hf
 ·intro f hf
  rw [Pt.toNat_succ]
  rcases List.mem_cons.1 hf with rfl | hf
  ·exact Nat.lt_succ_self _
  ·exact Nat.lt_succ_of_lt (I.fnx f hf)
 ·intro k hk
  rw [Pt.toNat_succ]
  exact Nat.lt_succ_of_lt (I.nx0 k hk)
 ·intro q u hu hn
  have hqp:q≠p:=fun e=>hn (.a i p op) (by simp) (by rw [e]; rfl)
  rw [S.find_set_ne _ _ _ _ hqp] at hu
  rw [conc_aside]
  exact I.tr q u hu fun y hy=>hn y (List.mem_append.2 (.inl hy))
 ·intro j cs q y hy
  rcases List.mem_append.1 hy with hy | hy
  ·have hyl:=I.inl.2.1 _ hy
   obtain ⟨_,_,_,_,hqy⟩:=hp.item _ hyl
   obtain ⟨h3,g1,g2⟩:=I.factN j cs q y hy
   exact ⟨h3,g1.mono fun f hf=>List.mem_cons_of_mem _ hf,nK_heap hqy (fun _ _ h=>h) (factN_set hqy (hah _ (I.usub _ hy).1) (fun e=>hUd _ hy (by rw [← e]; rfl)) g2)⟩
  ·cases List.mem_singleton.1 hy
 ·intro j q op' hy
  rcases List.mem_append.1 hy with hy | hy
  ·obtain ⟨f,hf,e,hk⟩:=I.factA j q op' hy
   exact ⟨f,List.mem_cons_of_mem _ hf,e,factA_set (hah _ (I.usub _ hy).1) (fun e=>hUd _ hy (by rw [← e]; rfl)) hk⟩
  ·cases List.mem_singleton.1 hy
   refine ⟨⟨i,nx,ob⟩,List.mem_cons_self ..,rfl,?_⟩
   exact floatK_congr (fun y hy=>valX_of fun q hq'=>S.find_set_ne _ _ _ _ fun e=>hp.self _ hxl rfl p rfl (by rw [← e]; exact List.mem_flatMap.2 ⟨y,hy,hq'⟩)) (floatK_imp (fun u o hu=>⟨by rw [hu.1,S.find_set],hu.2⟩) h2)
end
end Go.Proofs.YtidggaoacldgkaaGreatDoor.X
