/- An executor for closed calls, 31: the look and the two writes at the end of a drawn region. -/
import Derived.Test.YtpajcdofelmaaaaGreatDoorXZC
namespace Go.Proofs.YtpajcdofelmaaaaGreatDoor.X
open Go.RowKit
section
variable {P:Program} {w0:World} {F:FR} {ch:CH} {ops:Array Oper} {n0:Nat} {tm:S} {h:T AO} {nx:Pt} {r:Rho} {a:Act} {w:World}
def vaX (tm:S) (x:AX) (v:AV):Prop:=evK tm x fun u=>u=v
theorem evK_ex {x:AX} {c:AV→Prop}:evK tm x c↔∃ v,vaX tm x v∧c v:=by
 cases x with
 | t p =>
  show tm.getK p c↔∃ v,(tm.getK p fun u=>u=v)∧c v
  rw [S.getK_iff]
  constructor
  ·rintro ⟨v,h1,h2⟩; exact ⟨v,(S.getK_iff _ _ _).2 ⟨v,h1,rfl⟩,h2⟩
  ·rintro ⟨v,h1,h2⟩
   obtain ⟨u,h3,rfl⟩:=(S.getK_iff _ _ _).1 h1
   exact ⟨u,h3,h2⟩
 | c v=>exact ⟨fun h=>⟨v,rfl,h⟩,fun ⟨u,h1,h2⟩=>by cases (show v=u from h1); exact h2⟩
theorem vaX_set {x:AX} {v u:AV} {p:Sl} (hx:eqX x (.t p)=false):vaX (tm.set u p) x v↔vaX tm x v:=by
 cases x with
 | c v=>exact Iff.rfl
 | t q =>
  have hq:q≠p:=fun e=>by subst e; simp [eqX,eqS_refl] at hx
  show ((tm.set u p).getK q fun u=>u=v)↔tm.getK q fun u=>u=v
  rw [S.getK_iff,S.getK_iff,S.find_set_ne _ _ _ _ hq]
def Wrote (tm:S) (n:Nat) (k:Pt) (o:Nat) (x:AX) (h h':T AO):Prop:=∃ v vs e,vaX tm x v∧h.find k=some (.cells vs e)∧(Nat.beq (cellsA v).length n&&Nat.ble (o+n) vs.length&&flatB (cellsA v))=true∧h'=h.set (.cells (putL vs o (cellsA v)) e) k
theorem oSt_iff {n:Nat} {b x:AX} {K:AV→T AO→Pt→Prop}:oSt n b x tm h nx K↔∃ k o h',vaX tm b (.ptr k o)∧Wrote tm n k o x h h'∧K (.tup []) h' nx:=by
 unfold oSt
 rw [evK_ex]
 constructor
 ·rintro ⟨v,h1,h2⟩
  split at h2
  ·rename_i k o
   rw [evK_ex] at h2
   obtain ⟨u,h3,h4⟩:=h2
   obtain ⟨ob,h5,h6⟩:=(T.getK_iff _ _ _).1 h4
   split at h6
   ·rename_i vs e
    obtain ⟨h7,h8⟩:=brec h6
    rw [forceL_iff,T.setK_iff] at h8
    exact ⟨k,o,_,h1,⟨u,vs,e,h3,h5,h7,rfl⟩,h8⟩
   ·exact h6.elim
  ·exact h2.elim
 ·rintro ⟨k,o,h',h1,⟨u,vs,e,h3,h5,h7,rfl⟩,h8⟩
  refine ⟨_,h1,?_⟩
  show evK tm x _
  rw [evK_ex]
  refine ⟨u,h3,(T.getK_iff _ _ _).2 ⟨_,h5,?_⟩⟩
  show Bool.rec (motive:=fun _=>Prop) False _ _
  rw [h7]
  show forceL _ _
  rw [forceL_iff,T.setK_iff]
  exact h8
theorem Wrote.swap {n1 n2:Nat} {k1 k2:Pt} {o1 o2:Nat} {x1 x2:AX} {h h1 h2:T AO} (hne:k1≠k2) (a:Wrote tm n1 k1 o1 x1 h h1) (b:Wrote tm n2 k2 o2 x2 h1 h2) :
  ∃ h1' h2',Wrote tm n2 k2 o2 x2 h h1'∧Wrote tm n1 k1 o1 x1 h1' h2'∧∀ k,h2'.find k=h2.find k:=by
 obtain ⟨v1,vs1,e1,a1,a2,a3,rfl⟩:=a
 obtain ⟨v2,vs2,e2,b1,b2,b3,rfl⟩:=b
 rw [T.find_set_ne _ _ _ _ hne.symm] at b2
 refine ⟨_,_,⟨v2,vs2,e2,b1,b2,b3,rfl⟩,⟨v1,vs1,e1,a1,by rw [T.find_set_ne _ _ _ _ hne]; exact a2,a3,rfl⟩,fun k=>?_⟩
 by_cases hk1:k=k1
 ·subst hk1
  rw [T.find_set,T.find_set_ne _ _ _ _ hne,T.find_set]
 ·rw [T.find_set_ne _ _ _ _ hk1]
  by_cases hk2:k=k2
  ·subst hk2; rw [T.find_set,T.find_set]
  ·rw [T.find_set_ne _ _ _ _ hk2,T.find_set_ne _ _ _ _ hk2,T.find_set_ne _ _ _ _ hk1]
theorem Wrote.tms {tm':S} {n:Nat} {k:Pt} {o:Nat} {x:AX} {h h':T AO} (e:∀ v,vaX tm x v→vaX tm' x v) (a:Wrote tm n k o x h h'):Wrote tm' n k o x h h':=by
 obtain ⟨v,vs,e',a1,a2⟩:=a
 exact ⟨v,vs,e',e v a1,a2⟩
def Un (n0:Nat) (L:Array Bool) (u:Nat→Prop):Prop:=L.size=n0+3∧∀ i,i<n0+3→(L.getD i true=false↔u i)
theorem Un.set {L:Array Bool} {u:Nat→Prop} (hu:Un n0 L u) (i:Nat):Un n0 (L.setIfInBounds i true) (fun j=>u j∧j≠i):=by
 refine ⟨by simpa using hu.1,fun j hj=>?_⟩
 have hs:=hu.1
 by_cases e:j=i
 ·subst e
  simp [show j<L.size by omega]
 ·have:(L.setIfInBounds i true).getD j true=L.getD j true:=by
   simp only [Array.getD_eq_getD_getElem?]
   rw [Array.getElem?_setIfInBounds_ne (fun h=>e h.symm)]
  rw [this,hu.2 j hj]
  simp [e]
theorem stage {G:Fence} {n fuel:Nat} {L:Array Bool} {u:Nat→Prop} {Q:Exit→Act→World→Prop} (hu:Un n0 L u) (hsz:ops.size=n0+3) (j:Nat) (hj:u j∧j<n0+3∧∀ o,ops[j]?=some o→∀ e ∈ o.after,Region.binds .any e=true→e.on<n0+3∧¬ u e.on)
  (hd:∀ i,u i→i<n0+3→(∀ o,ops[i]?=some o→∀ e ∈ o.after,Region.binds .any e=true→e.on<n0+3→¬ u e.on)→wpOpIn G n P ops Q i (wpAnyIn G n P .any ops Q fuel (L.setIfInBounds i true)) a w):wpAnyIn G n P .any ops Q (fuel+1) L a w:=by
 refine ⟨fun e=>?_,fun i hi=>?_⟩
 ·exfalso
  have:j ∈ Region.ready .any ops L:=by
   have hlt:j<ops.size:=by omega
   refine mem_ready.2 ⟨(hu.2 j hj.2.1).2 hj.1,ops[j],by simp [hlt],fun e he hb=>?_⟩
   obtain ⟨h1,h2⟩:=hj.2.2 ops[j] (by simp [hlt]) e he hb
   exact getD_or (by rw [hu.1]; exact h1) fun h3=>h2 ((hu.2 _ h1).1 h3)
  rw [e] at this; cases this
 ·obtain ⟨h1,o,ho,hall⟩:=mem_ready.1 hi
  have hlt:i<n0+3:=by have:=(Array.getElem?_eq_some_iff.1 ho).1; omega
  refine hd i ((hu.2 i hlt).1 h1) hlt fun o' ho' e he hb h2 h3=>?_
  rw [ho] at ho'; cases ho'
  exact getD_ne ((hu.2 _ h2).2 h3) (hall e he hb)
theorem done {G:Fence} {n:Nat} {L:Array Bool} {u:Nat→Prop} {Q:Exit→Act→World→Prop} (hu:Un n0 L u) (hsz:ops.size=n0+3) (hn:∀ i,¬ u i) (hq:Q .normal a w):wpAnyIn G n P .any ops Q 0 L a w:=by
 refine ⟨List.eq_nil_iff_forall_not_mem.2 fun i hi=>?_,hq⟩
 obtain ⟨h1,o,ho,-⟩:=mem_ready.1 hi
 have hlt:i<n0+3:=by have:=(Array.getElem?_eq_some_iff.1 ho).1; omega
 exact hn i ((hu.2 i hlt).1 h1)
def Looks (tm:S) (n:Nat) (x i:AX) (k:Pt) (o:Nat):Prop:=∃ o0 l c op ik j,vaX tm x (.sl k o0 l c op)∧vaX tm i (.int ik (.ofNat j))∧Nat.blt j l=true∧o=o0+j*n
theorem oIa_iff {n:Nat} {x i:AX} {K:AV→T AO→Pt→Prop}:oIa n x i tm h nx K↔∃ k o,Looks tm n x i k o∧K (.ptr k o) h nx:=by
 unfold oIa
 rw [evK_ex]
 constructor
 ·rintro ⟨v,h1,h2⟩
  split at h2
  ·rename_i k o l c op
   rw [evK_ex] at h2
   obtain ⟨i',h3,h4⟩:=h2
   unfold atK at h4
   split at h4
   ·rename_i ik j
    obtain ⟨h5,h6⟩:=brec h4
    rw [forceN_iff] at h6
    exact ⟨k,_,⟨o,l,c,op,ik,j,h1,h3,h5,rfl⟩,h6⟩
   ·exact h4.elim
  ·exact h2.elim
 ·rintro ⟨k,o,⟨o0,l,c,op,ik,j,h1,h3,h5,rfl⟩,h6⟩
  refine ⟨_,h1,?_⟩
  show evK tm i _
  rw [evK_ex]
  refine ⟨_,h3,?_⟩
  show Bool.rec (motive:=fun _=>Prop) False _ _
  rw [h5]
  show forceN _ _
  rw [forceN_iff]
  exact h6
theorem tail_any (TT:TailOk ops n0) (hch:CHq P w0 ch) {pq p2:Sl} {nq n1 n2:Nat} {xq iq x1 x2:AX} {q s1 s2:Oper} (hq:ops[n0]?=some q) (hs1:ops[n0+1]?=some s1) (hs2:ops[n0+2]?=some s2)
  (cq:compOper P F.m ops q=some ⟨some pq,.v (.ia nq xq iq),none⟩) (c1:compOper P F.m ops s1=some ⟨none,.v (.st n1 (.t pq) x1),none⟩) (c2:compOper P F.m ops s2=some ⟨none,.v (.st n2 (.t p2) x2),none⟩)
  (np:eqX (.t p2) (.t pq)=false) (nx2:eqX x2 (.t pq)=false) {K:S→T AO→Pt→Prop} {Q:Exit→Act→World→Prop} (hs:St P w0 F ch r tm h nx a w) (hk:tailK pq nq xq iq n1 x1 p2 n2 x2 tm h nx K)
  (hQ:∀ tm' h' nx' r' a' w',K tm' h' nx'→St P w0 F ch r' tm' h' nx' a' w'→Ev r h w r' h' w'→Q .normal a' w'):wpAnyIn (Wr F.ro) 0 P .any ops Q 3 (Array.replicate n0 true ++ #[false,false,false]) a w:=by
 obtain ⟨k1,o1,hl,hk⟩:=oIa_iff.1 (show oIa nq xq iq tm h nx _ from hk)
 rw [S.setK_iff] at hk
 obtain ⟨v2,hv2,hk⟩:=(S.getK_iff _ _ _).1 (show (tm.set _ pq).getK p2 _ from hk)
 split at hk
 ·rename_i k2 o2
  have hne:eqP k1 k2=false:=by
   cases e:eqP k1 k2 with
   | false=>rfl
   | true=>rw [e] at hk; exact hk.elim
  rw [hne] at hk
  obtain ⟨k1',o1',hA,e1,w1,hk⟩:=oSt_iff.1 (show oSt n1 (.t pq) x1 (tm.set _ pq) h nx _ from hk)
  obtain ⟨k2',o2',hB,e2,w2,hk⟩:=oSt_iff.1 hk
  have e1':AV.ptr k1 o1=AV.ptr k1' o1':=by
   obtain ⟨u,h1,h2⟩:=(S.getK_iff _ _ _).1 (show (tm.set _ pq).getK pq _ from e1)
   rw [S.find_set] at h1; cases h1; exact h2
  cases e1'
  have e2':AV.ptr k2 o2=AV.ptr k2' o2':=by
   obtain ⟨u,h1,h2⟩:=(S.getK_iff _ _ _).1 (show (tm.set _ pq).getK p2 _ from e2)
   rw [hv2] at h1; cases h1; exact h2
  cases e2'
  have hne':k1≠k2:=fun e=>by rw [e,eqP_refl] at hne; cases hne
  obtain ⟨hC,hD,w2',w1',hfind⟩:=w1.swap hne' w2
  have e2t:vaX tm (.t p2) (.ptr k2 o2):=(vaX_set np).1 e2
  have w2t:Wrote tm n2 k2 o2 x2 h hC:=w2'.tms fun v hv=>(vaX_set nx2).1 hv
  have fin:∀ {r':Rho} {h':T AO} {a':Act} {w':World},(∀ k,h'.find k=hB.find k)→St P w0 F ch r' (tm.set (.ptr k1 o1) pq) h' nx a' w'→Ev r h w r' h' w'→Q .normal a' w':=by
   intro r' h' a' w' hf hs' ev'
   have hsub:∀ k o,hB.find k=some o→h'.find k=some o:=fun k o hk=>by rw [hf k]; exact hk
   exact hQ _ hB nx r' a' w' hk (hs'.on (hs'.wr.sub hsub) (Ev.sub hsub) hs'.tr hs'.size rfl) (ev'.trans (Ev.sub hsub))
  have hU0:Un n0 (Array.replicate n0 true ++ #[false,false,false]) (fun i=>n0≤i∧i<n0+3):=by
   refine ⟨by simp,fun i hi=>?_⟩
   rw [getD_app]
   by_cases hlt:i<n0
   ·simp [hlt]; omega
   ·simp [hlt]
    have:i - n0=0∨i - n0=1∨i - n0=2:=by omega
    rcases this with e | e | e <;> simp [e] <;> omega
  have hsz:=TT.size
  have dq:=TT.q q hq
  have d1:=TT.s1 s1 hs1
  have d2:=TT.s2 s2 hs2
  have stepQ:∀ {r':Rho} {h':T AO} {a':Act} {w':World} {next:Act→World→Prop},St P w0 F ch r' tm h' nx a' w'→(∀ r'' a'' w'',St P w0 F ch r'' (tm.set (.ptr k1 o1) pq) h' nx a'' w''→Ev r' h' w' r'' h' w''→next a'' w'')→wpOpIn (Wr F.ro) 0 P ops Q n0 next a' w':=by
   intro r' h' a' w' next hs' hn
   refine op_sound (rest:=dE) (K:=fun tm' h'' nx'=>tm'=tm.set (.ptr k1 o1) pq∧h''=h'∧nx'=nx) hch.call hq cq rfl hs' ?_ ?_ hch.goodP
   ·refine (oIa_iff (K:=fun v h'' nx''=>tm.setK v pq fun tm'=>tm'=tm.set (.ptr k1 o1) pq∧h''=h'∧nx''=nx)).2 ⟨k1,o1,hl,?_⟩
    rw [S.setK_iff]
    exact ⟨rfl,rfl,rfl⟩
   ·rintro tm' h'' nx' r'' a'' w'' ⟨rfl,rfl,rfl⟩ g1 g2
    exact hn r'' a'' w'' g1 g2
  have stepS:∀ {n:Nat} {b x:AX} {k:Pt} {o i:Nat} {op:Oper} {tm:S} {r':Rho} {h' h2:T AO} {a':Act} {w':World} {next:Act→World→Prop},ops[i]?=some op→compOper P F.m ops op=some ⟨none,.v (.st n b x),none⟩→vaX tm b (.ptr k o)→Wrote tm n k o x h' h2→St P w0 F ch r' tm h' nx a' w' →
    (∀ r'' a'' w'',St P w0 F ch r'' tm h2 nx a'' w''→Ev r' h' w' r'' h2 w''→next a'' w'')→wpOpIn (Wr F.ro) 0 P ops Q i next a' w':=by
   intro n b x k o i op tm r' h' h2 a' w' next hi hc hb hw hs' hn
   refine op_sound (rest:=dE) (K:=fun tm' h'' nx'=>tm'=tm∧h''=h2∧nx'=nx) hch.call hi hc rfl hs' ?_ ?_ hch.goodP
   ·exact (oSt_iff (K:=fun _ h'' nx''=>tm=tm∧h''=h2∧nx''=nx)).2 ⟨k,o,h2,hb,hw,rfl,rfl,rfl⟩
   ·rintro tm' h'' nx' r'' a'' w'' ⟨rfl,rfl,rfl⟩ g1 g2
    exact hn r'' a'' w'' g1 g2
  have three:∀ i,n0≤i∧i<n0+3→i=n0∨i=n0+1∨i=n0+2:=fun i hi=>by omega
  have rq:∀ {u:Nat→Prop},(∀ i,u i→n0≤i)→∀ o,ops[n0]?=some o→∀ e ∈ o.after,Region.binds .any e=true→e.on<n0+3∧¬ u e.on:=fun hu o ho e he hb=>by
   rw [hq] at ho; cases ho
   have:=dq e he hb
   exact ⟨by omega,fun h=>by have:=hu _ h; omega⟩
  have r2:∀ {u:Nat→Prop},(∀ i,u i→n0≤i)→∀ o,ops[n0+2]?=some o→∀ e ∈ o.after,Region.binds .any e=true→e.on<n0+3∧¬ u e.on:=fun hu o ho e he hb=>by
   rw [hs2] at ho; cases ho
   have:=d2 e he hb
   exact ⟨by omega,fun h=>by have:=hu _ h; omega⟩
  have r1:∀ {u:Nat→Prop},(∀ i,u i→n0<i)→∀ o,ops[n0+1]?=some o→∀ e ∈ o.after,Region.binds .any e=true→e.on<n0+3∧¬ u e.on:=fun hu o ho e he hb=>by
   rw [hs1] at ho; cases ho
   have:=d1.1 e he hb
   exact ⟨by omega,fun h=>by have:=hu _ h; omega⟩
  have not1:∀ {u:Nat→Prop},u n0→(∀ o,ops[n0+1]?=some o→∀ e ∈ o.after,Region.binds .any e=true→e.on<n0+3→¬ u e.on)→False:=fun hu h=>by
   obtain ⟨e,he,hb,hon⟩:=d1.2
   exact h s1 hs1 e he hb (by omega) (by rw [hon]; exact hu)
  refine stage hU0 hsz n0 ⟨⟨Nat.le_refl _,by omega⟩,by omega,by exact rq (u:=fun i=>n0≤i∧i<n0+3) (fun i h=>h.1)⟩ fun i hu hlt hdep=>?_
  rcases three i hu with rfl | rfl | rfl
  ·refine stepQ hs fun ra aa wa sa ea=>?_
   refine stage (hU0.set i) hsz (i+1) ⟨⟨⟨by omega,by omega⟩,by omega⟩,by omega,by exact r1 (u:=fun j=>(i≤j∧j<i+3)∧j≠i) (fun j h=>by have:=h.1.1; have:=h.2; omega)⟩ fun j hj hjl hjd=>?_
   have:j=i+1∨j=i+2:=by have:=three j hj.1; have:=hj.2; omega
   rcases this with rfl | rfl
   ·refine stepS hs1 c1 e1 w1 sa fun rb ab wb sb eb=>?_
    refine stage ((hU0.set i).set (i+1)) hsz (i+2) ⟨⟨⟨⟨by omega,by omega⟩,by omega⟩,by omega⟩,by omega,by exact r2 (u:=fun j=>((i≤j∧j<i+3)∧j≠i)∧j≠i+1) (fun j h=>h.1.1.1)⟩ fun j hj hjl hjd=>?_
    have:j=i+2:=by have:=three j hj.1.1; have:=hj.1.2; have:=hj.2; omega
    subst this
    refine stepS hs2 c2 e2 w2 sb fun rc ac wc sc ec=>?_
    exact done (((hU0.set i).set (i+1)).set (i+2)) hsz (fun j hj=>by have:=three j hj.1.1.1; have:=hj.1.1.2; have:=hj.1.2; have:=hj.2; omega) (fin (fun _=>rfl) sc (ea.trans (eb.trans ec)))
   ·refine stepS hs2 c2 e2 w2' sa fun rb ab wb sb eb=>?_
    refine stage ((hU0.set i).set (i+2)) hsz (i+1) ⟨⟨⟨⟨by omega,by omega⟩,by omega⟩,by omega⟩,by omega,by exact r1 (u:=fun j=>((i≤j∧j<i+3)∧j≠i)∧j≠i+2) (fun j h=>by have:=h.1.1.1; have:=h.1.2; omega)⟩ fun j hj hjl hjd=>?_
    have:j=i+1:=by have:=three j hj.1.1; have:=hj.1.2; have:=hj.2; omega
    subst this
    refine stepS hs1 c1 e1 w1' sb fun rc ac wc sc ec=>?_
    exact done (((hU0.set i).set (i+2)).set (i+1)) hsz (fun j hj=>by have:=three j hj.1.1.1; have:=hj.1.1.2; have:=hj.1.2; have:=hj.2; omega) (fin hfind sc (ea.trans (eb.trans ec)))
  ·exact (not1 (u:=fun i=>n0≤i∧i<n0+3) ⟨Nat.le_refl _,by omega⟩ hdep).elim
  ·refine stepS hs2 c2 e2t w2t hs fun ra aa wa sa ea=>?_
   refine stage (hU0.set (n0+2)) hsz n0 ⟨⟨⟨by omega,by omega⟩,by omega⟩,by omega,by exact rq (u:=fun j=>(n0≤j∧j<n0+3)∧j≠n0+2) (fun j h=>h.1.1)⟩ fun j hj hjl hjd=>?_
   have:j=n0∨j=n0+1:=by have:=three j hj.1; have:=hj.2; omega
   rcases this with rfl | rfl
   ·refine stepQ sa fun rb ab wb sb eb=>?_
    refine stage ((hU0.set (j+2)).set j) hsz (j+1) ⟨⟨⟨⟨by omega,by omega⟩,by omega⟩,by omega⟩,by omega,by exact r1 (u:=fun i=>((j≤i∧i<j+3)∧i≠j+2)∧i≠j) (fun j h=>by have:=h.1.1.1; have:=h.2; omega)⟩ fun i hi hil hid=>?_
    have:i=j+1:=by have:=three i hi.1.1; have:=hi.1.2; have:=hi.2; omega
    subst this
    refine stepS hs1 c1 e1 w1' sb fun rc ac wc sc ec=>?_
    exact done (((hU0.set (j+2)).set j).set (j+1)) hsz (fun i hi=>by have:=three i hi.1.1.1; have:=hi.1.1.2; have:=hi.1.2; have:=hi.2; omega) (fin hfind sc (ea.trans (eb.trans ec)))
   ·exact (not1 (u:=fun j=>(n0≤j∧j<n0+3)∧j≠n0+2) ⟨⟨Nat.le_refl _,by omega⟩,by omega⟩ hjd).elim
 ·exact hk.elim
theorem draw2_sound (hch:CHok P w0 ch.call) (hm:P.follows .mixedOrders=true) {ac:AC} (hp:plan2 P F.m ops=some ac) (id:Nat):Dok P w0 F ch (.region id ops true) (den ac):=by
 unfold plan2 at hp
 split at hp
 ·rename_i q s1 s2 hq hs1 hs2
  split at hp
  ·rename_i pq nq xq iq n1 a1 x1 n2 p2 x2 cq c1 c2
   split at hp
   ·rename_i hb
    split at hp
    ·rename_i l hl
     cases hp
     simp only [Bool.and_eq_true,Bool.not_eq_true'] at hb
     obtain ⟨⟨⟨b1,b2⟩,b3⟩,b4⟩:=hb
     have TT:=tailB_spec b1
     have ha1:a1=.t pq:=by
      cases a1 with
      | t p=>rw [eqS_spec (show eqS p pq=true from b2)]
      | c v=>cases b2
     subst ha1
     have hp:=plan_ok hl
     intro tm h nx K a w r Q hk hs hg _
     have hk:denS l [] ch.calm tm h nx fun tm h nx=>tailK pq nq xq iq n1 x1 p2 n2 x2 tm h nx (K .nrm):=hk
     refine WpN.of (wpIn_region_any hm ?_)
     have hsz:=TT.size
     have hn1:(ops1 ops (ops.size - 3)).size=ops.size - 3:=ops1_size (by omega)
     have hrep:Array.replicate ops.size false=Array.replicate (ops.size - 3) false ++ #[false,false,false]:=by
      apply Array.ext'
      have:ops.size=(ops.size - 3)+3:=hsz
      simp only [Array.toList_replicate,Array.toList_append]
      conv=>lhs; rw [this,← List.replicate_append_replicate]
      rfl
     have hgo:=any_split (F:=Wr F.ro) (n:=0) (P:=P) TT (Q:=Q) (ops.size - 3) (Array.replicate (ops.size - 3) false) a { w with drawn:=w.drawn+1 } (by simp) (by simp) ?_
     ·rw [← hrep] at hgo
      rw [show ops.size - 3+3=ops.size by omega] at hgo
      exact hgo
     have hmain:=draw_main (ro:=F.ro) (K:=fun tm h nx=>tailK pq nq xq iq n1 x1 p2 n2 x2 tm h nx (K .nrm)) (r0:=r) (h0:=h) (wS:={ w with drawn:=w.drawn+1 }) (ds:=a.defers) (ch:=ch.calm) (CHq.of hch) hs.env hp
      (Q:=Qx (wpAnyIn (Wr F.ro) 0 P .any ops Q 3 (Array.replicate (ops.size - 3) true ++ #[false,false,false])) Q)
      (fun tm' h' nx' r' a' w' k1 k2 k3 k4 k5 k6=>?_) (ops1 ops (ops.size - 3)).size l (Array.replicate (ops1 ops (ops.size - 3)).size false) a { w with drawn:=w.drawn+1 } [] [] [] tm h h nx r ?_
     ·rw [hn1] at hmain; exact hmain
     ·have hs':=hs.on k2 ((Ev.drew _).trans k6) k3 k4 k5
      exact tail_any TT (CHq.of hch) hq hs1 hs2 cq c1 c2 b3 b4 hs'.calm k1 fun tm'' h'' nx'' r'' a'' w'' g1 g2 g3=>hg .nrm tm'' h'' nx'' r'' a'' w'' g1 g2.loud (((Ev.drew _).trans k6).trans g3)
     ·refine ⟨rfl,fun u hu=>(by cases hu),by simp,by rw [hp.len]; simp,by simp,fun i hi=>?_,fun i o ho hl=>?_,hs.wr.drew _,fun k o=>?_,fun f hf=>(by cases hf),fun f hf=>(by cases hf),fun f hf=>(by cases hf),fun f hf=>(by cases hf),fun f hf=>(by cases hf),fun f hf=>(by cases hf),fun f hf=>(by cases hf),fun k hk=>hs.wr.dom k (.inr hk),fun p v hv _=>hs.tr p v hv,fun i bs p x hu=>(by cases hu),fun i p x hu=>(by cases hu),hs.size,rfl,.refl _ _ _,hk⟩
      ·constructor
       ·intro _; exact .inr (hp.cover i hi)
       ·intro _; simp [hi]
      ·exfalso
       have hi:i<(ops1 ops (ops.size - 3)).size:=(Array.getElem?_eq_some_iff.1 ho).1
       simp [hi] at hl
      ·simp
    ·cases hp
   ·cases hp
  ·cases hp
 ·cases hp
end
end Go.Proofs.YtpajcdofelmaaaaGreatDoor.X
