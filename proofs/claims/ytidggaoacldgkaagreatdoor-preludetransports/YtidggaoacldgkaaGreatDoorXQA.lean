/- An executor for closed calls, 31: the look and the two writes at the end of a drawn region. -/
import Derived.Test.YtidggaoacldgkaaGreatDoorXZC
namespace Go.Proofs.YtidggaoacldgkaaGreatDoor.X
open Go.RowKit
section
variable {P:Program} {w0:World} {F:FR} {ch:CH} {ops:Array Oper} {n0:Nat} {tm:S} {h:T AO} {nx:Pt} {r:Rho} {a:Act} {w:World}
def vaX (tm:S) (x:AX) (v:AV):Prop:=evK tm x fun u=>u=v
theorem evK_ex {x:AX} {c:AV→Prop}:evK tm x c↔∃ v,vaX tm x v∧c v:=by
 cases x with
 | t p =>
  show tm.getK p c↔∃ v,(tm.getK p fun u=>u=v)∧c v
  rw [S.getK_iff]
  constructor
  ·rintro ⟨v,h1,h2⟩; exact ⟨v,(S.getK_iff _ _ _).2 ⟨v,h1,rfl⟩,h2⟩
  ·rintro ⟨v,h1,h2⟩
   obtain ⟨u,h3,rfl⟩:=(S.getK_iff _ _ _).1 h1
   exact ⟨u,h3,h2⟩
 | c v=>exact ⟨fun h=>⟨v,rfl,h⟩,fun ⟨u,h1,h2⟩=>by cases (show v=u from h1); exact h2⟩
theorem vaX_set {x:AX} {v u:AV} {p:Sl} (hx:eqX x (.t p)=false):vaX (tm.set u p) x v↔vaX tm x v:=by
 cases x with
 | c v=>exact Iff.rfl
 | t q =>
  have hq:q≠p:=fun e=>by subst e; simp [eqX,eqS_refl] at hx
  show ((tm.set u p).getK q fun u=>u=v)↔tm.getK q fun u=>u=v
  rw [S.getK_iff,S.getK_iff,S.find_set_ne _ _ _ _ hq]
def Wrote (tm:S) (n:Nat) (k:Pt) (o:Nat) (x:AX) (h h':T AO):Prop:=∃ v vs e,vaX tm x v∧h.find k=some (.cells vs e)∧(Nat.beq (cellsA v).length n&&Nat.ble (o+n) vs.length&&flatB (cellsA v))=true∧h'=h.set (.cells (putL vs o (cellsA v)) e) k
theorem oSt_iff {n:Nat} {b x:AX} {K:AV→T AO→Pt→Prop}:oSt n b x tm h nx K↔∃ k o h',vaX tm b (.ptr k o)∧Wrote tm n k o x h h'∧K (.tup []) h' nx:=by
 unfold oSt
 rw [evK_ex]
 constructor
 ·rintro ⟨v,h1,h2⟩
  split at h2
  ·rename_i k o
   rw [evK_ex] at h2
   obtain ⟨u,h3,h4⟩:=h2
   obtain ⟨ob,h5,h6⟩:=(T.getK_iff _ _ _).1 h4
   split at h6
   ·rename_i vs e
    obtain ⟨h7,h8⟩:=brec h6
    rw [forceL_iff,T.setK_iff] at h8
    exact ⟨k,o,_,h1,⟨u,vs,e,h3,h5,h7,rfl⟩,h8⟩
   ·exact h6.elim
  ·exact h2.elim
 ·rintro ⟨k,o,h',h1,⟨u,vs,e,h3,h5,h7,rfl⟩,h8⟩
  refine ⟨_,h1,?_⟩
  show evK tm x _
  rw [evK_ex]
  refine ⟨u,h3,(T.getK_iff _ _ _).2 ⟨_,h5,?_⟩⟩
  show Bool.rec (motive:=fun _=>Prop) False _ _
  rw [h7]
  show forceL _ _
  rw [forceL_iff,T.setK_iff]
  exact h8
theorem Wrote.swap {n1 n2:Nat} {k1 k2:Pt} {o1 o2:Nat} {x1 x2:AX} {h h1 h2:T AO} (hne:k1≠k2) (a:Wrote tm n1 k1 o1 x1 h h1) (b:Wrote tm n2 k2 o2 x2 h1 h2) :
  ∃ h1' h2',Wrote tm n2 k2 o2 x2 h h1'∧Wrote tm n1 k1 o1 x1 h1' h2'∧∀ k,h2'.find k=h2.find k:=by
 obtain ⟨v1,vs1,e1,a1,a2,a3,rfl⟩:=a
 obtain ⟨v2,vs2,e2,b1,b2,b3,rfl⟩:=b
 rw [T.find_set_ne _ _ _ _ hne.symm] at b2
 refine ⟨_,_,⟨v2,vs2,e2,b1,b2,b3,rfl⟩,⟨v1,vs1,e1,a1,by rw [T.find_set_ne _ _ _ _ hne]; exact a2,a3,rfl⟩,fun k=>?_⟩
 by_cases hk1:k=k1
 ·subst hk1
  rw [T.find_set,T.find_set_ne _ _ _ _ hne,T.find_set]
 ·rw [T.find_set_ne _ _ _ _ hk1]
  by_cases hk2:k=k2
  ·subst hk2; rw [T.find_set,T.find_set]
  ·rw [T.find_set_ne _ _ _ _ hk2,T.find_set_ne _ _ _ _ hk2,T.find_set_ne _ _ _ _ hk1]
theorem Wrote.tms {tm':S} {n:Nat} {k:Pt} {o:Nat} {x:AX} {h h':T AO} (e:∀ v,vaX tm x v→vaX tm' x v) (a:Wrote tm n k o x h h'):Wrote tm' n k o x h h':=by
 obtain ⟨v,vs,e',a1,a2⟩:=a
 exact ⟨v,vs,e',e v a1,a2⟩
def Un (n0:Nat) (L:Array Bool) (u:Nat→Prop):Prop:=L.size=n0+3∧∀ i,i<n0+3→(L.getD i true=false↔u i)
theorem Un.set {L:Array Bool} {u:Nat→Prop} (hu:Un n0 L u) (i:Nat):Un n0 (L.setIfInBounds i true) (fun j=>u j∧j≠i):=by
 refine ⟨by simpa using hu.1,fun j hj=>?_⟩
 have hs:=hu.1
 by_cases e:j=i
 ·subst e
  simp [show j<L.size by omega]
 ·have:(L.setIfInBounds i true).getD j true=L.getD j true:=by
   simp only [Array.getD_eq_getD_getElem?]
   rw [Array.getElem?_setIfInBounds_ne (fun h=>e h.symm)]
  rw [this,hu.2 j hj]
  simp [e]
theorem stage {G:Fence} {n fuel:Nat} {L:Array Bool} {u:Nat→Prop} {Q:Exit→Act→World→Prop} (hu:Un n0 L u) (hsz:ops.size=n0+3) (j:Nat) (hj:u j∧j<n0+3∧∀ o,ops[j]?=some o→∀ e ∈ o.after,Region.binds .any e=true→e.on<n0+3∧¬ u e.on)
  (hd:∀ i,u i→i<n0+3→(∀ o,ops[i]?=some o→∀ e ∈ o.after,Region.binds .any e=true→e.on<n0+3→¬ u e.on)→wpOpIn G n P ops Q i (wpAnyIn G n P .any ops Q fuel (L.setIfInBounds i true)) a w):wpAnyIn G n P .any ops Q (fuel+1) L a w:=by
 refine ⟨fun e=>?_,fun i hi=>?_⟩
 ·exfalso
  have:j ∈ Region.ready .any ops L:=by
   have hlt:j<ops.size:=by omega
   refine mem_ready.2 ⟨(hu.2 j hj.2.1).2 hj.1,ops[j],by simp [hlt],fun e he hb=>?_⟩
   obtain ⟨h1,h2⟩:=hj.2.2 ops[j] (by simp [hlt]) e he hb
   exact getD_or (by rw [hu.1]; exact h1) fun h3=>h2 ((hu.2 _ h1).1 h3)
  rw [e] at this; cases this
 ·obtain ⟨h1,o,ho,hall⟩:=mem_ready.1 hi
  have hlt:i<n0+3:=by have:=(Array.getElem?_eq_some_iff.1 ho).1; omega
  refine hd i ((hu.2 i hlt).1 h1) hlt fun o' ho' e he hb h2 h3=>?_
  rw [ho] at ho'; cases ho'
  exact getD_ne ((hu.2 _ h2).2 h3) (hall e he hb)
theorem done {G:Fence} {n:Nat} {L:Array Bool} {u:Nat→Prop} {Q:Exit→Act→World→Prop} (hu:Un n0 L u) (hsz:ops.size=n0+3) (hn:∀ i,¬ u i) (hq:Q .normal a w):wpAnyIn G n P .any ops Q 0 L a w:=by
 refine ⟨List.eq_nil_iff_forall_not_mem.2 fun i hi=>?_,hq⟩
 obtain ⟨h1,o,ho,-⟩:=mem_ready.1 hi
 have hlt:i<n0+3:=by have:=(Array.getElem?_eq_some_iff.1 ho).1; omega
 exact hn i ((hu.2 i hlt).1 h1)
def Looks (tm:S) (n:Nat) (x i:AX) (k:Pt) (o:Nat):Prop:=∃ o0 l c op ik j,vaX tm x (.sl k o0 l c op)∧vaX tm i (.int ik (.ofNat j))∧Nat.blt j l=true∧o=o0+j*n
theorem oIa_iff {n:Nat} {x i:AX} {K:AV→T AO→Pt→Prop}:oIa n x i tm h nx K↔∃ k o,Looks tm n x i k o∧K (.ptr k o) h nx:=by
 unfold oIa
 rw [evK_ex]
 constructor
 ·rintro ⟨v,h1,h2⟩
  split at h2
  ·rename_i k o l c op
   rw [evK_ex] at h2
   obtain ⟨i',h3,h4⟩:=h2
   unfold atK at h4
   split at h4
   ·rename_i ik j
    obtain ⟨h5,h6⟩:=brec h4
    rw [forceN_iff] at h6
    exact ⟨k,_,⟨o,l,c,op,ik,j,h1,h3,h5,rfl⟩,h6⟩
   ·exact h4.elim
  ·exact h2.elim
 ·rintro ⟨k,o,⟨o0,l,c,op,ik,j,h1,h3,h5,rfl⟩,h6⟩
  refine ⟨_,h1,?_⟩
  show evK tm i _
  rw [evK_ex]
  refine ⟨_,h3,?_⟩
  show Bool.rec (motive:=fun _=>Prop) False _ _
  rw [h5]
  show forceN _ _
  rw [forceN_iff]
  exact h6
theorem tail_any (TT:TailOk ops n0) (hch:CHq P w0 ch) {pq p2:Sl} {nq n1 n2:Nat} {xq iq x1 x2:AX} {q s1 s2:Oper} (hq:ops[n0]?=some q) (hs1:ops[n0+1]?=some s1) (hs2:ops[n0+2]?=some s2)
  (cq:compOper P F.m ops q=some ⟨some pq,.v (.ia nq xq iq),none⟩) (c1:compOper P F.m ops s1=some ⟨none,.v (.st n1 (.t pq) x1),none⟩) (c2:compOper P F.m ops s2=some ⟨none,.v (.st n2 (.t p2) x2),none⟩)
  (np:eqX (.t p2) (.t pq)=false) (nx2:eqX x2 (.t pq)=false) {K:S→T AO→Pt→Prop} {Q:Exit→Act→World→Prop} (hs:St P w0 F ch r tm h nx a w) (hk:tailK pq nq xq iq n1 x1 p2 n2 x2 tm h nx K)
  (hQ:∀ tm' h' nx' r' a' w',K tm' h' nx'→St P w0 F ch r' tm' h' nx' a' w'→Ev r h w r' h' w'→Q .normal a' w'):wpAnyIn (Wr F.ro) 0 P .any ops Q 3 (Array.replicate n0 true ++ #[false,false,false]) a w:=by
 obtain ⟨k1,o1,hl,hk⟩:=oIa_iff.1 (show oIa nq xq iq tm h nx _ from hk)
 rw [S.setK_iff] at hk
 obtain ⟨v2,hv2,hk⟩:=(S.getK_iff _ _ _).1 (show (tm.set _ pq).getK p2 _ from hk)
 split at hk
 ·rename_i k2 o2
  have hne:eqP k1 k2=false:=by
   cases e:eqP k1 k2 with
   | false=>rfl
   | true=>rw [e] at hk; exact hk.elim
  rw [hne] at hk
  obtain ⟨k1',o1',hA,e1,w1,hk⟩:=oSt_iff.1 (show oSt n1 (.t pq) x1 (tm.set _ pq) h nx _ from hk)
  obtain ⟨k2',o2',hB,e2,w2,hk⟩:=oSt_iff.1 hk
  have e1':AV.ptr k1 o1=AV.ptr k1' o1':=by
   obtain ⟨u,h1,h2⟩:=(S.getK_iff _ _ _).1 (show (tm.set _ pq).getK pq _ from e1)
   rw [S.find_set] at h1; cases h1; exact h2
  cases e1'
  have e2':AV.ptr k2 o2=AV.ptr k2' o2':=by
   obtain ⟨u,h1,h2⟩:=(S.getK_iff _ _ _).1 (show (tm.set _ pq).getK p2 _ from e2)
   rw [hv2] at h1; cases h1; exact h2
  cases e2'
  have hne':k1≠k2:=fun e=>by rw [e,eqP_refl] at hne; cases hne
  obtain ⟨hC,hD,w2',w1',hfind⟩:=w1.swap hne' w2
  have e2t:vaX tm (.t p2) (.ptr k2 o2):=(vaX_set np).1 e2
  have w2t:Wrote tm n2 k2 o2 x2 h hC:=w2'.tms fun v hv=>(vaX_set nx2).1 hv
  have fin:∀ {r':Rho} {h':T AO} {a':Act} {w':World},(∀ k,h'.find k=hB.find k)→St P w0 F ch r' (tm.set (.ptr k1 o1) pq) h' nx a' w'→Ev r h w r' h' w'→Q .normal a' w':=by
   intro r' h' a' w' hf hs' ev'
   have hsub:∀ k o,hB.find k=some o→h'.find k=some o:=fun k o hk=>by rw [hf k]; exact hk
   exact hQ _ hB nx r' a' w' hk (hs'.on (hs'.wr.sub hsub) (Ev.sub hsub) hs'.tr hs'.size rfl) (ev'.trans (Ev.sub hsub))
  have hU0:Un n0 (Array.replicate n0 true ++ #[false,false,false]) (fun i=>n0≤i∧i<n0+3):=by
   refine ⟨by simp,fun i hi=>?_⟩
   rw [getD_app]
   by_cases hlt:i<n0
   ·simp [hlt]; omega
   ·simp [hlt]
    have:i - n0=0∨i - n0=1∨i - n0=2:=by omega
    rcases this with e | e | e <;> simp [e] <;> omega
  have hsz:=TT.size
  have dq:=TT.q q hq
  have d1:=TT.s1 s1 hs1
  have d2:=TT.s2 s2 hs2
  have stepQ:∀ {r':Rho} {h':T AO} {a':Act} {w':World} {next:Act→World→Prop},St P w0 F ch r' tm h' nx a' w'→(∀ r'' a'' w'',St P w0 F ch r'' (tm.set (.ptr k1 o1) pq) h' nx a'' w''→Ev r' h' w' r'' h' w''→next a'' w'')→wpOpIn (Wr F.ro) 0 P ops Q n0 next a' w':=by
   intro r' h' a' w' next hs' hn
   refine op_sound (rest:=dE) (K:=fun tm' h'' nx'=>tm'=tm.set (.ptr k1 o1) pq∧h''=h'∧nx'=nx) hch.call hq cq rfl hs' ?_ ?_ hch.goodP
   ·refine (oIa_iff (K:=fun v h'' nx''=>tm.setK v pq fun tm'=>tm'=tm.set (.ptr k1 o1) pq∧h''=h'∧nx''=nx)).2 ⟨k1,o1,hl,?_⟩
    rw [S.setK_iff]
    exact ⟨rfl,rfl,rfl⟩
   ·rintro tm' h'' nx' r'' a'' w'' ⟨rfl,rfl,rfl⟩ g1 g2
    exact hn r'' a'' w'' g1 g2
  have stepS:∀ {n:Nat} {b x:AX} {k:Pt} {o i:Nat} {op:Oper} {tm:S} {r':Rho} {h' h2:T AO} {a':Act} {w':World} {next:Act→World→Prop},ops[i]?=some op→compOper P F.m ops op=some ⟨none,.v (.st n b x),none⟩→vaX tm b (.ptr k o)→Wrote tm n k o x h' h2→St P w0 F ch r' tm h' nx a' w' →
    (∀ r'' a'' w'',St P w0 F ch r'' tm h2 nx a'' w''→Ev r' h' w' r'' h2 w''→next a'' w'')→wpOpIn (Wr F.ro) 0 P ops Q i next a' w':=by
   intro n b x k o i op tm r' h' h2 a' w' next hi hc hb hw hs' hn
   refine op_sound (rest:=dE) (K:=fun tm' h'' nx'=>tm'=tm∧h''=h2∧nx'=nx) hch.call hi hc rfl hs' ?_ ?_ hch.goodP
   ·exact (oSt_iff (K:=fun _ h'' nx''=>tm=tm∧h''=h2∧nx''=nx)).2 ⟨k,o,h2,hb,hw,rfl,rfl,rfl⟩
   ·rintro tm' h'' nx' r'' a'' w'' ⟨rfl,rfl,rfl⟩ g1 g2
    exact hn r'' a'' w'' g1 g2
  have three:∀ i,n0≤i∧i<n0+3→i=n0∨i=n0+1∨i=n0+2:=fun i hi=>by omega
  have rq:∀ {u:Nat→Prop},(∀ i,u i→n0≤i)→∀ o,ops[n0]?=some o→∀ e ∈ o.after,Region.binds .any e=true→e.on<n0+3∧¬ u e.on:=fun hu o ho e he hb=>by
   rw [hq] at ho; cases ho
   have:=dq e he hb
   exact ⟨by omega,fun h=>by have:=hu _ h; omega⟩
  have r2:∀ {u:Nat→Prop},(∀ i,u i→n0≤i)→∀ o,ops[n0+2]?=some o→∀ e ∈ o.after,Region.binds .any e=true→e.on<n0+3∧¬ u e.on:=fun hu o ho e he hb=>by
   rw [hs2] at ho; cases ho
   have:=d2 e he hb
   exact ⟨by omega,fun h=>by have:=hu _ h; omega⟩
  have r1:∀ {u:Nat→Prop},(∀ i,u i→n0<i)→∀ o,ops[n0+1]?=some o→∀ e ∈ o.after,Region.binds .any e=true→e.on<n0+3∧¬ u e.on:=fun hu o ho e he hb=>by
   rw [hs1] at ho; cases ho
   have:=d1.1 e he hb
   exact ⟨by omega,fun h=>by have:=hu _ h; omega⟩
  have not1:∀ {u:Nat→Prop},u n0→(∀ o,ops[n0+1]?=some o→∀ e ∈ o.after,Region.binds .any e=true→e.on<n0+3→¬ u e.on)→False:=fun hu h=>by
   obtain ⟨e,he,hb,hon⟩:=d1.2
   exact h s1 hs1 e he hb (by omega) (by rw [hon]; exact hu)
  refine stage hU0 hsz n0 ⟨⟨Nat.le_refl _,by omega⟩,by omega,by exact rq (u:=fun i=>n0≤i∧i<n0+3) (fun i h=>h.1)⟩ fun i hu hlt hdep=>?_
  rcases three i hu with rfl | rfl | rfl
  ·refine stepQ hs fun ra aa wa sa ea=>?_
   refine stage (hU0.set i) hsz (i+1) ⟨⟨⟨by omega,by omega⟩,by omega⟩,by omega,by exact r1 (u:=fun j=>(i≤j∧j<i+3)∧j≠i) (fun j h=>by have:=h.1.1; have:=h.2; omega)⟩ fun j hj hjl hjd=>?_
   have:j=i+1∨j=i+2:=by have:=three j hj.1; have:=hj.2; omega
   rcases this with rfl | rfl
   ·refine stepS hs1 c1 e1 w1 sa fun rb ab wb sb eb=>?_
    refine stage ((hU0.set i).set (i+1)) hsz (i+2) ⟨⟨⟨⟨by omega,by omega⟩,by omega⟩,by omega⟩,by omega,by exact r2 (u:=fun j=>((i≤j∧j<i+3)∧j≠i)∧j≠i+1) (fun j h=>h.1.1.1)⟩ fun j hj hjl hjd=>?_
    have:j=i+2:=by have:=three j hj.1.1; have:=hj.1.2; have:=hj.2; omega
    subst this
    refine stepS hs2 c2 e2 w2 sb fun rc ac wc sc ec=>?_
    exact done (((hU0.set i).set (i+1)).set (i+2)) hsz (fun j hj=>by have:=three j hj.1.1.1; have:=hj.1.1.2; have:=hj.1.2; have:=hj.2; omega) (fin (fun _=>rfl) sc (ea.trans (eb.trans ec)))
   ·refine stepS hs2 c2 e2 w2' sa fun rb ab wb sb eb=>?_
    refine stage ((hU0.set i).set (i+2)) hsz (i+1) ⟨⟨⟨⟨by omega,by omega⟩,by omega⟩,by omega⟩,by omega,by exact r1 (u:=fun j=>((i≤j∧j<i+3)∧j≠i)∧j≠i+2) (fun j h=>by have:=h.1.1.1; have:=h.1.2; omega)⟩ fun j hj hjl hjd=>?_
    have:j=i+1:=by have:=three j hj.1.1; have:=hj.1.2; have:=hj.2; omega
    subst this
    refine stepS hs1 c1 e1 w1' sb fun rc ac wc sc ec=>?_
    exact done (((hU0.set i).set (i+2)).set (i+1)) hsz (fun j hj=>by have:=three j hj.1.1.1; have:=hj.1.1.2; have:=hj.1.2; have:=hj.2; omega) (fin hfind sc (ea.trans (eb.trans ec)))
  ·exact (not1 (u:=fun i=>n0≤i∧i<n0+3) ⟨Nat.le_refl _,by omega⟩ hdep).elim
  ·refine stepS hs2 c2 e2t w2t hs fun ra aa wa sa ea=>?_
   refine stage (hU0.set (n0+2)) hsz n0 ⟨⟨⟨by omega,by omega⟩,by omega⟩,by omega,by exact rq (u:=fun j=>(n0≤j∧j<n0+3)∧j≠n0+2) (fun j h=>h.1.1)⟩ fun j hj hjl hjd=>?_
   have:j=n0∨j=n0+1:=by have:=three j hj.1; have:=hj.2; omega
   rcases this with rfl | rfl
   ·refine stepQ sa fun rb ab wb sb eb=>?_
    refine stage ((hU0.set (j+2)).set j) hsz (j+1) ⟨⟨⟨⟨by omega,by omega⟩,by omega⟩,by omega⟩,by omega,by exact r1 (u:=fun i=>((j≤i∧i<j+3)∧i≠j+2)∧i≠j) (fun j h=>by have:=h.1.1.1; have:=h.2; omega)⟩ fun i hi hil hid=>?_
    have:i=j+1:=by have:=three i hi.1.1; have:=hi.1.2; have:=hi.2; omega
    subst this
    refine stepS hs1 c1 e1 w1' sb fun rc ac wc sc ec=>?_
    exact done (((hU0.set (j+2)).set j).set (j+1)) hsz (fun i hi=>by have:=three i hi.1.1.1; have:=hi.1.1.2; have:=hi.1.2; have:=hi.2; omega) (fin hfind sc (ea.trans (eb.trans ec)))
   ·exact (not1 (u:=fun j=>(n0≤j∧j<n0+3)∧j≠n0+2) ⟨⟨Nat.le_refl _,by omega⟩,by omega⟩ hjd).elim
 ·exact hk.elim
theorem draw2_sound (hch:CHok P w0 ch.call) (hm:P.follows .mixedOrders=true) {ac:AC} (hp:plan2 P F.m ops=some ac) (id:Nat):Dok P w0 F ch (.region id ops true) (den ac):=by
 unfold plan2 at hp
 split at hp
 ·rename_i q s1 s2 hq hs1 hs2
  split at hp
  ·rename_i pq nq xq iq n1 a1 x1 n2 p2 x2 cq c1 c2
   split at hp
   ·rename_i hb
    split at hp
    ·rename_i l hl
     cases hp
     simp only [Bool.and_eq_true,Bool.not_eq_true'] at hb
     obtain ⟨⟨⟨b1,b2⟩,b3⟩,b4⟩:=hb
     have TT:=tailB_spec b1
     have ha1:a1=.t pq:=by
      cases a1 with
      | t p=>rw [eqS_spec (show eqS p pq=true from b2)]
      | c v=>cases b2
     subst ha1
     have hp:=plan_ok hl
     intro tm h nx K a w r Q hk hs hg _
     have hk:denS l [] ch.calm tm h nx fun tm h nx=>tailK pq nq xq iq n1 x1 p2 n2 x2 tm h nx (K .nrm):=hk
     refine WpN.of (wpIn_region_any hm ?_)
     have hsz:=TT.size
     have hn1:(ops1 ops (ops.size - 3)).size=ops.size - 3:=ops1_size (by omega)
     have hrep:Array.replicate ops.size false=Array.replicate (ops.size - 3) false ++ #[false,false,false]:=by
      apply Array.ext'
      have:ops.size=(ops.size - 3)+3:=hsz
      simp only [Array.toList_replicate,Array.toList_append]
      conv=>lhs; rw [this,← List.replicate_append_replicate]
      rfl
     have hgo:=any_split (F:=Wr F.ro) (n:=0) (P:=P) TT (Q:=Q) (ops.size - 3) (Array.replicate (ops.size - 3) false) a { w with drawn:=w.drawn+1 } (by simp) (by simp) ?_
     ·rw [← hrep] at hgo
      rw [show ops.size - 3+3=ops.size by omega] at hgo
      exact hgo
     have hmain:=draw_main (ro:=F.ro) (K:=fun tm h nx=>tailK pq nq xq iq n1 x1 p2 n2 x2 tm h nx (K .nrm)) (r0:=r) (h0:=h) (wS:={ w with drawn:=w.drawn+1 }) (ds:=a.defers) (ch:=ch.calm) (CHq.of hch) hs.env hp
      (Q:=Qx (wpAnyIn (Wr F.ro) 0 P .any ops Q 3 (Array.replicate (ops.size - 3) true ++ #[false,false,false])) Q)
      (fun tm' h' nx' r' a' w' k1 k2 k3 k4 k5 k6=>?_) (ops1 ops (ops.size - 3)).size l (Array.replicate (ops1 ops (ops.size - 3)).size false) a { w with drawn:=w.drawn+1 } [] [] [] tm h h nx r ?_
     ·rw [hn1] at hmain; exact hmain
     ·have hs':=hs.on k2 ((Ev.drew _).trans k6) k3 k4 k5
      exact tail_any TT (CHq.of hch) hq hs1 hs2 cq c1 c2 b3 b4 hs'.calm k1 fun tm'' h'' nx'' r'' a'' w'' g1 g2 g3=>hg .nrm tm'' h'' nx'' r'' a'' w'' g1 g2.loud (((Ev.drew _).trans k6).trans g3)
     ·refine ⟨rfl,fun u hu=>(by cases hu),by simp,by rw [hp.len]; simp,by simp,fun i hi=>?_,fun i o ho hl=>?_,hs.wr.drew _,fun k o=>?_,fun f hf=>(by cases hf),fun f hf=>(by cases hf),fun f hf=>(by cases hf),fun f hf=>(by cases hf),fun f hf=>(by cases hf),fun f hf=>(by cases hf),fun f hf=>(by cases hf),fun k hk=>hs.wr.dom k (.inr hk),fun p v hv _=>hs.tr p v hv,fun i bs p x hu=>(by cases hu),fun i p x hu=>(by cases hu),hs.size,rfl,.refl _ _ _,hk⟩
      ·constructor
       ·intro _; exact .inr (hp.cover i hi)
       ·intro _; simp [hi]
      ·exfalso
       have hi:i<(ops1 ops (ops.size - 3)).size:=(Array.getElem?_eq_some_iff.1 ho).1
       simp [hi] at hl
      ·simp
    ·cases hp
   ·cases hp
  ·cases hp
 ·cases hp
end
end Go.Proofs.YtidggaoacldgkaaGreatDoor.X

/- An executor for closed calls, 29: a range over a function. -/
namespace Go.Proofs.YtidggaoacldgkaaGreatDoor.X
open Go.RowKit
section
variable {P:Program} {w0:World} {F:FR} {ch:CH} {m:Nat}
theorem curK_spec {c:Option Pt} {h:T AO} {k:Prop} (hk:curK c h k):k∧∀ p,c=some p→∃ st pe,h.find p=some (.loop st pe):=by
 unfold curK at hk
 split at hk
 ·exact ⟨hk,fun p e=>by cases e⟩
 ·rename_i p
  obtain ⟨o,ho,hk⟩:=(T.getK_iff _ _ _).1 hk
  split at hk
  ·rename_i st pe
   exact ⟨hk,fun q e=>by cases e; exact ⟨st,pe,ho⟩⟩
  ·exact hk.elim
theorem turnK_spec {k:Pt} {st st':LoopState} {pe:Option AE} {h:T AO} {c:T AO→Prop} (hk:turnK k st st' pe h c):h.find k=some (.loop st none)∧c (h.set (.loop st' pe) k):=by
 obtain ⟨o,ho,hk⟩:=(T.getK_iff _ _ _).1 (show h.getK k _ from hk)
 split at hk
 ·rename_i s
  obtain ⟨he,hk⟩:=brec hk
  rw [T.setK_iff] at hk
  refine ⟨?_,hk⟩
  split at he
  ·exact ho
  ·exact ho
  ·cases he
 ·exact hk.elim
theorem TR.par {r:Rho}:∀ {ts:List Nat} {ps:List Sl} {vs:List AV} {tm:S} {tv:Array Value} {c:S→Prop},compPs m ts=some ps→m≤tv.size→TR r tm tv→okL r.has vs→parK ps vs tm c →
  ts.length=vs.length∧∃ tm',c tm'∧TR r tm' ((ts.zip (concL r vs)).foldl (fun t (p,v)=>t.setIfInBounds p v) tv)∧tv.size=((ts.zip (concL r vs)).foldl (fun t (p,v)=>t.setIfInBounds p v) tv).size
 | [],ps,vs,tm,tv,c,hc,hm,ht,hv,hk=>by
  cases hc
  cases vs with
  | nil=>exact ⟨rfl,tm,hk,by simpa using ht,by simp⟩
  | cons v vs=>exact hk.elim
 | t :: ts,ps,vs,tm,tv,c,hc,hm,ht,hv,hk=>by
  obtain ⟨p,ps,h1,h2,rfl⟩:=mapO_cons hc
  cases vs with
  | nil=>exact hk.elim
  | cons v vs =>
   have hk:tm.setK v p fun tm=>parK ps vs tm c:=hk
   rw [S.setK_iff] at hk
   simp only [okL] at hv
   split at h1
   ·rename_i hlt
    cases h1
    have:=ht.put (p:=Sl.ofNat t) (v:=v) (by rw [Sl.toNat_ofNat]; omega) hv.1
    rw [Sl.toNat_ofNat] at this
    obtain ⟨g1,tm',g2,g3,g4⟩:=TR.par h2 (by simpa using hm) this hv.2 hk
    refine ⟨by simp [g1],tm',g2,?_,?_⟩
    ·simpa [concL] using g3
    ·simpa [concL] using g4
   ·cases h1
theorem round_sound (hch:CHok P w0 ch.call) {ps:Array Tmp} {ps':List Sl} (hps:compPs m ps.toList=some ps') {x y:Code} {x' y':D}
  (hx:∀ (F:FR) (ch:CH),F.m=m→CHok P w0 ch.call→Dok P w0 F ch x x') (hy:∀ (F:FR) (ch:CH),F.m=m→CHok P w0 ch.call→Dok P w0 F ch y y')
  {k:Pt} {r:Rho} {tm:S} {ts:Array Value} (hk1:r.has k) (hE:EnvOk P w0 ch.loops r) (ht:TR r tm ts) (hsz:m≤ts.size)
  (l1:(r.lp k).tmps=ts) (l2:(r.lp k).params=ps) (l3:(r.lp k).assign=x) (l4:(r.lp k).body=y) :
  ∀ r',r.Le r'→RSok P w0 k (roundK k ps' x' y' ch tm) r':=by
 intro r' hle args h nx K w R hk H hok hR
 obtain ⟨hk,hcur⟩:=curK_spec (show curK (some k) h _ from hk)
 obtain ⟨st,pe,hfk⟩:=hcur k rfl
 have hlp:r'.lp k=r.lp k:=hle.lp k hk1
 obtain ⟨g1,tm1,g2,g3,g4⟩:=TR.par hps hsz (ht.le hle) hok hk
 have hy1:=run_yield (P:=P) (args:=(concL r' args).toArray) (H.loopAt hfk) (by simp only [hlp,l2]; simp [concL_length,← g1])
 simp only [hlp,l1,l2,l3,l4] at hy1
 have hz:((ps.zip (concL r' args).toArray).foldl (fun tmps (x:Tmp × Value)=>tmps.setIfInBounds x.1 x.2) ts)=(ps.toList.zip (concL r' args)).foldl (fun t (p,v)=>t.setIfInBounds p v) ts:=by
  rw [← Array.foldl_toList]; simp
 refine ⟨_,_,_,_,hy1,?_⟩
 have hz':((ps.zip (concL r' args).toArray).foldl (fun tmps (t,a)=>tmps.setIfInBounds t a) ts)=(ps.toList.zip (concL r' args)).foldl (fun t (p,v)=>t.setIfInBounds p v) ts:=hz
 rw [hz']
 refine roundN ?_
 refine hx ⟨m,0,some (r'.blk k),[]⟩ ⟨ch.call,some k,ch.loops,fun _=>noP⟩ rfl hch tm1 h nx _ _ w r' _ g2 ⟨H,g3,by simp only; rw [← g4]; exact hsz,⟨[],rfl,trivial,fun _=>rfl⟩,hE.le hle,⟨hle.has k hk1,rfl⟩,Nat.zero_le _⟩ ?_ (fun _ _ _ _ _ _ _ hh=>hh.elim)
 intro e tm2 h2 nx2 r2 a2 w2 hK hs2 ev2
 cases e with
 | exit id=>exact hK.elim
 | goto l=>exact hK.elim
 | ret=>exact hK.elim
 | nrm =>
  obtain ⟨f2,hK⟩:=turnK_spec hK
  have hb2:r2.blk k=r'.blk k:=ev2.le.blk k (hle.has k hk1)
  have hl2:=hs2.wr.loopAt f2
  rw [hb2] at hl2
  refine ⟨_,run_beginRound hl2 rfl,?_⟩
  obtain ⟨wr3,ev3⟩:=hs2.wr.writeL f2 .busy none
  rw [hb2] at wr3 ev3
  refine hy ⟨m,0,some (r'.blk k),[]⟩ ⟨ch.call,some k,ch.loops,fun _=>noP⟩ rfl hch tm2 _ nx2 _ a2 _ r2 _ hK (hs2.on wr3 ev3 hs2.tr hs2.size rfl) ?_ (fun _ _ _ _ _ _ _ hh=>hh.elim)
  intro e tm4 h4 nx4 r4 a4 w4 hK4 hs4 ev4
  have hb4:r4.blk k=r'.blk k:=(ev4.le.blk k (ev2.le.has k (hle.has k hk1))).trans hb2
  have fin:∀ (st:LoopState) (pe:Option AE) (b:Bool),st=(if (pe.map AE.code).isNone then .ready else .done)→b=(pe.map AE.code).isNone→(turnK k .busy st pe h4 fun h=>K (.bool b) h nx4)→∃ v w',(Instr.endRound (r'.blk k) (pe.map AE.code)).run P w4=.ok v w'∧R (.returned v) w':=by
   intro st pe b e1 e2 hK4
   obtain ⟨f4,hK4⟩:=turnK_spec hK4
   have hl4:=hs4.wr.loopAt f4
   rw [hb4] at hl4
   obtain ⟨wr5,ev5⟩:=hs4.wr.writeL f4 st pe
   rw [hb4] at wr5 ev5
   refine ⟨_,_,run_endRound (pe.map AE.code) hl4,?_⟩
   have:=hR (.bool b) _ nx4 r4 _ hK4 wr5 (((ev2.trans ev3).trans ev4).trans ev5) (by simp [okV])
   simp only [conc] at this
   rw [e2,e1] at this
   exact this
  cases e with
  | nrm=>exact fin .ready none true rfl rfl hK4
  | ret=>exact fin .done (some .ret) false rfl rfl hK4
  | exit id=>exact fin .done (some (.exit id)) false rfl rfl hK4
  | goto l=>exact hK4.elim
theorem Ev.push {r:Rho} {h:T AO} {w:World} (obj:Obj):Ev r h w r h { w with heap:=w.heap.push obj } :=
 ⟨.refl r,by simp,fun b hb _=>by simp [Array.getElem?_push,Nat.ne_of_lt hb],fun k o hk=>.inr ⟨k,o,hk,rfl⟩⟩
theorem range_sound (hF:F.m=m) (hch:CHok P w0 ch.call) {g:Operand} {g':AX} (hgx:Cx g g') {ps:Array Tmp} {ps':List Sl} (hps:compPs m ps.toList=some ps') {x y:Code} {x' y':D}
  (hx:∀ (F:FR) (ch:CH),F.m=m→CHok P w0 ch.call→Dok P w0 F ch x x') (hy:∀ (F:FR) (ch:CH),F.m=m→CHok P w0 ch.call→Dok P w0 F ch y y'):Dok P w0 F ch (.rangeFunc g ps x y) (dRange g' ps' x' y'):=by
 intro tm h nx K a w r Q hk hs hg _
 obtain ⟨gv,k1,k2,k3⟩:=evK_spec hgx hs.tr (show evK tm g' _ from hk)
 obtain ⟨k1,hcur⟩:=curK_spec k1
 rw [T.setK_iff,succK_iff,T.setK_iff] at k1
 unfold fnK at k1
 split at k1
 ·rename_i f first caps _
  rw [forceP_iff] at k1
  obtain ⟨hpf,k1⟩:=brec k1
  have hpf:=Nat.eq_of_beq_eq_true hpf
  rw [forceL_iff] at k1
  simp only [okV] at k3
  refine WpN.of (wpIn_rangeFunc fun fn _=>?_)
  obtain ⟨L,l,w1,mark,hent,L1,L2,L3,L4,H1,E1,hl,hm⟩:∃ (L:Loop) (l:Nat) (w1:World) (mark:List Deferred),(Instr.enterLoop fn a.tmps ps x y F.ro).run P w=.ok (l,mark) w1∧L.tmps=a.tmps∧L.params=ps∧L.assign=x∧L.body=y ∧
    WR P w0 ((r.setL nx L).more nx l 0) (h.set (.loop .ready none) nx) nx.succ w1∧Ev r h w ((r.setL nx L).more nx l 0) (h.set (.loop .ready none) nx) w1∧True∧DefOk F ((r.setL nx L).more nx l 0) (h.set (.loop .ready none) nx) w1 (mark ++ a.defers):=by
   cases hc:ch.cur with
   | none =>
    have hro:F.ro=none:=by have:=hs.cur; rw [hc] at this; exact this
    rw [hro]
    obtain ⟨H1,E1⟩:=(hs.wr.push (.deferred (some []))).allocL { state:=.ready,pending:=none,fn,tmps:=a.tmps,params:=ps,assign:=x,body:=y,defers:=w.heap.size } .ready none
    have E1:=(Ev.push (r:=r) (h:=h) (w:=w) (.deferred (some []))).trans E1
    have hsz:({ w with heap:=w.heap.push (.deferred (some [])) }:World).heap.size=w.heap.size+1:=by simp
    rw [hsz] at H1 E1
    refine ⟨_,_,_,_,run_enterLoop_outer fn a.tmps ps x y,rfl,rfl,rfl,rfl,H1,E1,trivial,?_⟩
    obtain ⟨ds,d1,d2,d3⟩:=hs.defers
    refine ⟨{ target:=.collected w.heap.size,args:=#[] } :: ds,by rw [d1]; rfl,⟨⟨w.heap.size,rfl,hs.bnd,?_,fun k o hk=>?_,fun d' hd' e=>?_⟩,d2.ev E1⟩,fun e=>(e hro).elim⟩
    ·show ((w.heap.push _).push _)[w.heap.size]?=_
     simp [Array.getElem?_push]
    ·by_cases e:k=nx
     ·subst e; rw [Rho.more_blk]; omega
     ·rw [T.find_set_ne _ _ _ _ e] at hk
      have h1:=hs.wr.lt hk
      have h2:((r.setL nx _).more nx (w.heap.size+1) 0).blk k=r.blk k:=E1.le.blk k (hs.wr.has k o hk).1
      rw [h2]; omega
    ·clear d1 d3
     induction ds with
     | nil=>cases hd'
     | cons d0 ds ih =>
      obtain ⟨⟨b,rfl,-,h3,-,-⟩,d2⟩:=d2
      rcases List.mem_cons.1 hd' with rfl | hd'
      ·cases e
       have:=(Array.getElem?_eq_some_iff.1 h3).1
       omega
      ·exact ih d2 hd'
   | some p =>
    have hro:r.has p∧F.ro=some (r.blk p):=by have:=hs.cur; rw [hc] at this; exact this
    obtain ⟨st,pe,hfp⟩:=hcur p hc
    rw [hro.2]
    obtain ⟨H1,E1⟩:=hs.wr.allocL { state:=.ready,pending:=none,fn,tmps:=a.tmps,params:=ps,assign:=x,body:=y,defers:=(r.lp p).defers } .ready none
    refine ⟨_,_,_,_,run_enterLoop_inner (hs.wr.loopAt hfp) fn a.tmps ps x y,rfl,rfl,rfl,rfl,H1,E1,trivial,?_⟩
    exact hs.defers.ev E1
  have hlp:((r.setL nx L).more nx l 0).lp nx=L:=by simp [Rho.more,Rho.setL,eqP_refl]
  have hle:r.Le ((r.setL nx L).more nx l 0):=E1.le
  have hblk:((r.setL nx L).more nx l 0).blk nx=l:=Rho.more_blk ..
  have hhas:((r.setL nx L).more nx l 0).has nx:=.inl rfl
  generalize ((r.setL nx L).more nx l 0)=r1 at *
  have hE1:EnvOk P w0 (ch.loops.set (roundK nx ps' x' y' ch tm) nx) r1:=⟨hs.env.1,fun k rs hk=>by
   by_cases e:k=nx
   ·subst e
    rw [T.find_set] at hk; cases hk
    exact ⟨hhas,round_sound hch hps hx hy hhas (hs.env.le hle) (hs.tr.le hle) (hF ▸ hs.size) (by rw [hlp]; exact L1) (by rw [hlp]; exact L2) (by rw [hlp]; exact L3) (by rw [hlp]; exact L4)⟩
   ·rw [T.find_set_ne _ _ _ _ e] at hk
    exact (hs.env.le hle).2 k rs hk⟩
  have hargs:okL r1.has (first ++ [.yld nx] ++ caps):=okL_append.2 ⟨okL_append.2 ⟨okL.mono hle.has k3.1,by simp only [okL,okV,and_true]; exact hhas⟩,okL.mono hle.has k3.2⟩
  obtain ⟨⟨fn',c',f1,f2,f3⟩,hcall⟩:=hch _ _ _ _ _ _ _ r1 w1 (rangePost (Wr F.ro) 0 P l Q { a with defers:=mark ++ a.defers }) k1 hE1 H1 hargs (by
   intro v h' nx' r' w' hb H' E' hv
   have hb':r'.blk nx=l:=(E'.le.blk nx hhas).trans hblk
   obtain ⟨o,ho,hb⟩:=(T.getK_iff _ _ _).1 (show h'.getK nx _ from hb)
   have fin:∀ (st:LoopState) (pe:Option AE) (e:AE),h'.find nx=some (.loop st pe)→st≠.busy→K e tm (h'.set (.loop .exhausted pe) nx) nx'→∃ w4,(Instr.endLoop l).run P w'=.ok (pe.map AE.code) w4∧Q (toExit e) { a with defers:=mark ++ a.defers } w4:=by
    intro st pe e hf hst hK
    have hl:=H'.loopAt hf
    rw [hb'] at hl
    obtain ⟨wr4,ev4⟩:=H'.writeL hf .exhausted pe
    rw [hb'] at wr4 ev4
    refine ⟨_,run_endLoop hl hst,?_⟩
    have E4:=(E1.trans E').trans ev4
    exact hg e tm _ nx' r' _ _ hK ⟨wr4,hs.tr.le E4.le,hs.size,hm.ev (E'.trans ev4),hs.env.le E4.le,hs.cur.le E4.le,Nat.le_trans hs.bnd E4.size⟩ E4
   split at hb
   ·rw [T.setK_iff] at hb
    obtain ⟨w4,h1,h2⟩:=fin _ _ _ ho (by simp) hb
    exact ⟨_,w4,h1,h2⟩
   ·rw [T.setK_iff] at hb
    obtain ⟨w4,h1,h2⟩:=fin _ _ _ ho (by simp) hb
    exact ⟨_,w4,h1,wpIn_ret h2⟩
   ·rw [T.setK_iff] at hb
    obtain ⟨w4,h1,h2⟩:=fin _ _ _ ho (by simp) hb
    exact ⟨_,w4,h1,wpIn_exit h2⟩
   ·exact hb.elim) (fun _ _ _ _ _ hh=>hh.elim)
  have hca:(concL r1 first).toArray=(concL r first).toArray:=by rw [concL_le hle k3.1]
  have hcb:(concL r1 caps).toArray=(concL r caps).toArray:=by rw [concL_le hle k3.2]
  refine ⟨l,mark,w1,{ target:=.fn (.func f) (concL r caps).toArray,args:=(concL r first).toArray ++ #[.func (.yield l) #[] #[]] },w1,f,(concL r1 (first ++ [.yld nx] ++ caps)).toArray,w1,hent,?_,fun _ _=>trivial,?_,fun e=>by simp [Wr,Fence.wide] at e,?_⟩
  ·simp only [resolve,k2,conc]
   simp [go_sem]
  ·have e2:(invoke (.fn (.func f) (concL r caps).toArray) ((concL r first).toArray ++ #[.func (.yield l) #[] #[]]))=callFunc f (concL r1 (first ++ [.yld nx] ++ caps)).toArray:=by
    show callFunc f (((concL r first).toArray ++ #[.func (.yield l) #[] #[]]) ++ (concL r caps).toArray)=_
    rw [← hca,← hcb]
    simp [concL_append,concL,conc,hblk]
   rw [e2,← hpf]
   exact run_callFunc f1 f2 f3
  ·rw [← hpf]
   exact wr_calls hcall
 ·exact k1.elim
end
end Go.Proofs.YtidggaoacldgkaaGreatDoor.X
