/- An executor for closed calls, 22: memory with blocks that nothing has acted on; what waits for what. -/
import Derived.Test.YtcakhpfonailhaaGreatDoorXU
namespace Go.Proofs.YtcakhpfonailhaaGreatDoor.X
open Go.RowKit
section
variable {P:Program} {w0:World} {r:Rho} {nx:Pt} {w:World}
theorem WR.sub {h1 h2:T AO} (H:WR P w0 r h2 nx w) (hs:∀ k o,h1.find k=some o→h2.find k=some o):WR P w0 r h1 nx w :=
 ⟨H.dom,H.dis,H.below,fun k o hk=>H.has k o (hs k o hk),fun i j oi oj hi hj=>H.apart i j oi oj (hs i oi hi) (hs j oj hj)⟩
theorem Ev.sub {h1 h2:T AO} (hs:∀ k o,h1.find k=some o→h2.find k=some o):Ev r h2 w r h1 w :=
 ⟨.refl r,Nat.le_refl _,fun _ _ _=>rfl,fun k o hk=>.inr ⟨k,o,hs k o hk,rfl⟩⟩
theorem WR.later {h:T AO} {nx':Pt} (H:WR P w0 r h nx w) (hx:nx.toNat≤nx'.toNat):WR P w0 r h nx' w :=
 ⟨fun k hk=>Nat.lt_of_lt_of_le (H.dom k hk) hx,H.dis,H.below,H.has,H.apart⟩
def Rho.aside (r:Rho) (n:Pt):Rho:=⟨r.has,fun k=>k=n∨r.res k,r.blk,r.ext,r.lp⟩
theorem Rho.le_aside (r:Rho) (n:Pt):r.Le (r.aside n):=⟨fun _ h=>h,fun _ h=>.inr h,fun _ _=>rfl,fun _ _=>rfl,fun _ _=>rfl⟩
mutual
theorem conc_aside (r:Rho) (n:Pt):∀ v,conc (r.aside n) v=conc r v
 | .bool _=>by simp only [conc]
 | .int _ _=>by simp only [conc]
 | .str _=>by simp only [conc]
 | .nilp=>by simp only [conc]
 | .ptr _ _=>by simp only [conc,Rho.aside]
 | .nils=>by simp only [conc]
 | .sl _ _ _ _ _=>by simp only [conc,Rho.aside]
 | .slz _ _ _=>by simp only [conc,Rho.aside]; rfl
 | .nilm=>by simp only [conc]
 | .map _=>by simp only [conc,Rho.aside]
 | .fn _ a b=>by simp only [conc,concL_aside r n a,concL_aside r n b]
 | .yld _=>by simp only [conc,Rho.aside]
 | .chan _=>by simp only [conc,Rho.aside]
 | .nilc=>by simp only [conc]
 | .nilf=>by simp only [conc]
 | .iface _ v=>by simp only [conc,conc_aside r n v]
 | .nili=>by simp only [conc]
 | .agg a=>by simp only [conc,concL_aside r n a]
 | .tup a=>by simp only [conc,concL_aside r n a]
theorem concL_aside (r:Rho) (n:Pt):∀ l,concL (r.aside n) l=concL r l
 | []=>by simp only [concL]
 | v :: l=>by simp only [concL,conc_aside r n v,concL_aside r n l]
end
theorem BR.aside {n k:Pt} {o:AO} {x:Option Obj} (hb:BR P r k o x):BR P (r.aside n) k o x:=by
 cases o with
 | cells vs e =>
  obtain ⟨rest,h1,h2⟩:=hb
  exact ⟨rest,by rw [concL_aside]; exact h1,h2⟩
 | frz vs e =>
  obtain ⟨rest,z,h1,h2⟩:=hb
  exact ⟨rest,z,by rw [concL_aside]; exact h1,h2⟩
 | loop st pe=>exact hb
 | chan cap buf =>
  obtain ⟨sent,rcvd,hx⟩:=hb
  exact ⟨sent,rcvd,by rw [concL_aside]; exact hx⟩
 | iter s rest pos=>exact hb
 | mapK m es =>
  obtain ⟨L,c,hx,M⟩:=hb
  refine ⟨L,c,hx,⟨?_,M.nodup,M.ints⟩⟩
  rw [M.ent]
  exact List.map_congr_left fun y _=>by simp only [conc_aside]
 | map es c =>
  obtain ⟨es',c',h1,M,Bi⟩:=hb
  refine ⟨es',c',?_,M,Bi⟩
  have:es'.map (concE (r.aside n))=es'.map (concE r):=List.map_congr_left fun y hy=>by simp only [concE,conc_aside]
  rw [this]
  exact h1
theorem WR.aside {h:T AO} (H:WR P w0 r h nx w):WR P w0 (r.aside nx) h nx.succ w:=by
 refine ⟨fun k hk=>?_,fun k hk hr=>?_,H.below,fun k o hk=>?_,H.apart⟩
 ·rw [Pt.toNat_succ]
  rcases hk with hk | rfl | hk
  ·exact Nat.lt_succ_of_lt (H.dom k (.inl hk))
  ·exact Nat.lt_succ_self _
  ·exact Nat.lt_succ_of_lt (H.dom k (.inr hk))
 ·rcases hr with rfl | hr
  ·exact H.fresh hk
  ·exact H.dis k hk hr
 ·obtain ⟨h1,h2,h3,h4⟩:=H.has k o hk
  exact ⟨h1,h2,h3,h4.aside⟩
def Rho.take (r:Rho) (n:Pt):Rho:=⟨r.has,fun k=>k≠n∧r.res k,r.blk,r.ext,r.lp⟩
mutual
theorem conc_take (r:Rho) (n:Pt):∀ v,conc (r.take n) v=conc r v
 | .bool _=>by simp only [conc]
 | .int _ _=>by simp only [conc]
 | .str _=>by simp only [conc]
 | .nilp=>by simp only [conc]
 | .ptr _ _=>by simp only [conc,Rho.take]
 | .nils=>by simp only [conc]
 | .sl _ _ _ _ _=>by simp only [conc,Rho.take]
 | .slz _ _ _=>by simp only [conc,Rho.take]; rfl
 | .nilm=>by simp only [conc]
 | .map _=>by simp only [conc,Rho.take]
 | .fn _ a b=>by simp only [conc,concL_take r n a,concL_take r n b]
 | .yld _=>by simp only [conc,Rho.take]
 | .chan _=>by simp only [conc,Rho.take]
 | .nilc=>by simp only [conc]
 | .nilf=>by simp only [conc]
 | .iface _ v=>by simp only [conc,conc_take r n v]
 | .nili=>by simp only [conc]
 | .agg a=>by simp only [conc,concL_take r n a]
 | .tup a=>by simp only [conc,concL_take r n a]
theorem concL_take (r:Rho) (n:Pt):∀ l,concL (r.take n) l=concL r l
 | []=>by simp only [concL]
 | v :: l=>by simp only [concL,conc_take r n v,concL_take r n l]
end
theorem BR.take {n k:Pt} {o:AO} {x:Option Obj} (hb:BR P r k o x):BR P (r.take n) k o x:=by
 cases o with
 | cells vs e =>
  obtain ⟨rest,h1,h2⟩:=hb
  exact ⟨rest,by rw [concL_take]; exact h1,h2⟩
 | frz vs e =>
  obtain ⟨rest,z,h1,h2⟩:=hb
  exact ⟨rest,z,by rw [concL_take]; exact h1,h2⟩
 | loop st pe=>exact hb
 | chan cap buf =>
  obtain ⟨sent,rcvd,hx⟩:=hb
  exact ⟨sent,rcvd,by rw [concL_take]; exact hx⟩
 | iter s rest pos=>exact hb
 | mapK m es =>
  obtain ⟨L,c,hx,M⟩:=hb
  refine ⟨L,c,hx,⟨?_,M.nodup,M.ints⟩⟩
  rw [M.ent]
  exact List.map_congr_left fun y _=>by simp only [conc_take]
 | map es c =>
  obtain ⟨es',c',h1,M,Bi⟩:=hb
  refine ⟨es',c',?_,M,Bi⟩
  have:es'.map (concE (r.take n))=es'.map (concE r):=List.map_congr_left fun y hy=>by simp only [concE,conc_take]
  rw [this]
  exact h1
theorem WR.take {h:T AO} (n:Pt) (H:WR P w0 r h nx w):WR P w0 (r.take n) h nx w :=
 ⟨fun k hk=>H.dom k (hk.imp id And.right),fun k hk hr=>H.dis k hk hr.2,H.below,fun k o hk=>by
  obtain ⟨h1,h2,h3,h4⟩:=H.has k o hk
  exact ⟨h1,h2,h3,h4.take⟩,H.apart⟩
theorem WR.back {h:T AO} (H:WR P w0 r h nx w) {n:Pt} {ob:AO} (hn:r.has n) (ho:okO r.has ob) (hb:BR P r n ob (w.heap[r.blk n]?)) (h0:w0.heap.size≤r.blk n) (hap:∀ k o,h.find k=some o→r.blk k=r.blk n→k=n):WR P w0 r (h.set ob n) nx w:=by
 refine ⟨H.dom,H.dis,H.below,fun k o hk=>?_,fun i j oi oj hi hj e=>?_⟩
 ·by_cases e:k=n
  ·subst e
   rw [T.find_set] at hk; cases hk
   exact ⟨hn,h0,ho,hb⟩
  ·rw [T.find_set_ne _ _ _ _ e] at hk; exact H.has k o hk
 ·by_cases ei:i=n
  ·by_cases ej:j=n
   ·rw [ei,ej]
   ·rw [T.find_set_ne _ _ _ _ ej] at hj
    subst ei
    exact (hap j oj hj e.symm).symm
  ·rw [T.find_set_ne _ _ _ _ ei] at hi
   by_cases ej:j=n
   ·subst ej; exact hap i oi hi e
   ·rw [T.find_set_ne _ _ _ _ ej] at hj
    exact H.apart i j oi oj hi hj e
end
theorem absK_spec {pr:Nat→Bool}:∀ {F:List Fl} {h:T AO} {acc:List Fl} {c:List Fl→T AO→Prop},absK pr F h acc c →
  ∃ F' h',c F' h'∧(∀ f,f ∈ F'↔f ∈ acc∨f ∈ F∧pr f.i=false)∧∀ k o,h'.find k=some o→h.find k=some o∨∃ f ∈ F,pr f.i=true∧f.n=k∧f.ob=o
 | [],h,acc,c,hk=>⟨acc,h,hk,fun f=>by simp,fun k o hk=>.inl hk⟩
 | f :: F,h,acc,c,hk=>by
  have hk:Bool.rec (motive:=fun _=>Prop) (absK pr F h (f :: acc) c) (h.setK f.ob f.n fun h=>absK pr F h acc c) (pr f.i):=hk
  cases hp:pr f.i with
  | false =>
   rw [hp] at hk
   obtain ⟨F',h',h1,h2,h3⟩:=absK_spec hk
   refine ⟨F',h',h1,fun g=>?_,fun k o hk=>?_⟩
   ·rw [h2 g]
    simp only [List.mem_cons]
    constructor
    ·rintro ((rfl | h) | h)
     ·exact .inr ⟨.inl rfl,hp⟩
     ·exact .inl h
     ·exact .inr ⟨.inr h.1,h.2⟩
    ·rintro (h | ⟨rfl | h,h'⟩)
     ·exact .inl (.inr h)
     ·exact .inl (.inl rfl)
     ·exact .inr ⟨h,h'⟩
   ·rcases h3 k o hk with h4 | ⟨g,h4,h5⟩
    ·exact .inl h4
    ·exact .inr ⟨g,List.mem_cons_of_mem _ h4,h5⟩
  | true =>
   rw [hp] at hk
   have hk:h.setK f.ob f.n fun h=>absK pr F h acc c:=hk
   rw [T.setK_iff] at hk
   obtain ⟨F',h',h1,h2,h3⟩:=absK_spec hk
   refine ⟨F',h',h1,fun g=>?_,fun k o hk=>?_⟩
   ·rw [h2 g]
    simp only [List.mem_cons]
    constructor
    ·rintro (h | h)
     ·exact .inl h
     ·exact .inr ⟨.inr h.1,h.2⟩
    ·rintro (h | ⟨rfl | h,h'⟩)
     ·exact .inl h
     ·rw [hp] at h'; cases h'
     ·exact .inr ⟨h,h'⟩
   ·rcases h3 k o hk with h4 | ⟨g,h4,h5⟩
    ·by_cases e:k=f.n
     ·subst e
      rw [T.find_set] at h4; cases h4
      exact .inr ⟨f,List.mem_cons_self ..,hp,rfl,rfl⟩
     ·rw [T.find_set_ne _ _ _ _ e] at h4; exact .inl h4
    ·exact .inr ⟨g,List.mem_cons_of_mem _ h4,h5⟩
theorem rcK_spec {tm:S} {h:T AO} {nx:Pt} {k:Prop}:∀ {rc:List (Sl × AOper)},(∀ q ∈ rc,quietX q.2=true)→rcK rc tm h nx k→k∧∀ q ∈ rc,nK q.2 tm h nx fun v=>tm.find q.1=some v
 | [],_,hk=>⟨hk,fun q hq=>by cases hq⟩
 | q :: rc,hq,hk=>by
  have hk:nK q.2 tm h nx fun v=>tm.getK q.1 fun u=>Bool.rec (motive:=fun _=>Prop) False (rcK rc tm h nx k) (eqV v u):=hk
  have hqq:=hq q (List.mem_cons_self ..)
  obtain ⟨v,h1,h2⟩:=nK_val hqq hk
  obtain ⟨u,h3,h4⟩:=(S.getK_iff _ _ _).1 h1
  obtain ⟨h5,h6⟩:=brec h4
  obtain ⟨h7,h8⟩:=rcK_spec (fun x hx=>hq x (List.mem_cons_of_mem _ hx)) h6
  refine ⟨h7,fun x hx=>?_⟩
  rcases List.mem_cons.1 hx with rfl | hx
  ·exact nK_imp hqq (fun v' hv'=>by rw [hv',eqV_eq h5]; exact h3) h2
  ·exact h8 x hx
theorem inB_iff:∀ {l:List Nat} {i:Nat},inB l i=true↔i ∈ l
 | [],i=>by simp [inB]
 | j :: l,i=>by simp [inB,inB_iff (l:=l)]
def anc (ops:Array Oper):Nat→Nat→Nat→Bool
 | 0,_,_=>false
 | f+1,i,j=>match ops[i]? with
  | none=>false
  | some o=>o.after.toList.any fun e=>Region.binds .any e&&(Nat.beq e.on j||anc ops f e.on j)
def Closed (ops:Array Oper) (listed:Array Bool):Prop:=∀ i o,ops[i]?=some o→listed.getD i false=true→∀ e ∈ o.after,Region.binds .any e=true→listed.getD e.on false=true
theorem anc_listed {ops:Array Oper} {listed:Array Bool} (hc:Closed ops listed):∀ {f i j:Nat} {o:Oper},ops[i]?=some o→(∀ e ∈ o.after,Region.binds .any e=true→listed.getD e.on false=true)→anc ops f i j=true→listed.getD j false=true
 | 0,_,_,_,_,_,h=>by cases h
 | f+1,i,j,o,ho,hall,h=>by
  unfold anc at h
  rw [ho] at h
  simp only [List.any_eq_true,Bool.and_eq_true,Bool.or_eq_true] at h
  obtain ⟨e,he,hb,h⟩:=h
  have hl:=hall e (Array.mem_toList_iff.1 he) hb
  rcases h with h | h
  ·rw [← Nat.eq_of_beq_eq_true h]; exact hl
  ·cases hoe:ops[e.on]? with
   | none =>
    cases f with
    | zero=>cases h
    | succ f=>unfold anc at h; rw [hoe] at h; cases h
   | some o'=>exact anc_listed hc hoe (hc e.on o' hoe hl) h
def Anc (ops:Array Oper) (i j:Nat):Prop:=∃ f,anc ops f i j=true
theorem Anc.listed {ops:Array Oper} {listed:Array Bool} (hc:Closed ops listed) {i j:Nat} {o:Oper} (ho:ops[i]?=some o) (hall:∀ e ∈ o.after,Region.binds .any e=true→listed.getD e.on false=true) (h:Anc ops i j):listed.getD j false=true:=by
 obtain ⟨f,h⟩:=h
 exact anc_listed hc ho hall h
end Go.Proofs.YtcakhpfonailhaaGreatDoor.X

/- An executor for closed calls, 23: a script is right for every order that may be drawn. -/
namespace Go.Proofs.YtcakhpfonailhaaGreatDoor.X
open Go.RowKit
def It.isA:It→Bool
 | .a _ _ _=>true
 | _=>false
def delL (ps:List Sl) (tm:S):S:=ps.foldl S.del tm
theorem delL_sub {p:Sl} {v:AV}:∀ {ps:List Sl} {tm:S},(delL ps tm).find p=some v→tm.find p=some v∧p ∉ ps
 | [],tm,h=>⟨h,by simp⟩
 | q :: ps,tm,h=>by
  obtain ⟨h1,h2⟩:=delL_sub (ps:=ps) (tm:=tm.del q) h
  by_cases e:p=q
  ·subst e; rw [S.find_del] at h1; cases h1
  ·rw [S.find_del_ne _ _ _ e] at h1
   exact ⟨h1,by simp only [List.mem_cons,not_or]; exact ⟨e,h2⟩⟩
theorem delL_out {p:Sl}:∀ {ps:List Sl} {tm:S},p ∉ ps→(delL ps tm).find p=tm.find p
 | [],_,_=>rfl
 | q :: ps,tm,h=>by
  simp only [List.mem_cons,not_or] at h
  show (delL ps (tm.del q)).find p=_
  rw [delL_out h.2,S.find_del_ne _ _ _ h.1]
theorem step_any {o:AOp} (hq:quietB o=true) (hh:heapX ⟨none,.v o,none⟩=false) {tm:S} {h h2:T AO} {nx nx2:Pt} {C:AV→Prop} (hk:stepV o tm h nx fun v _ _=>C v):stepV o tm h2 nx2 fun v _ _=>C v:=by
 cases o with
 | new vs e=>cases hq
 | box e x=>cases hq
 | buildS e n z ps=>cases hq
 | st n x y=>cases hq
 | mkS e n z l c=>cases hq
 | app e n x y=>cases hq
 | mkM=>cases hq
 | rng x=>cases hq
 | nxt x=>cases hq
 | ld1 x=>cases hh
 | ldN n x=>cases hh
 | lenM x=>cases hh
 | lenC x=>cases hh
 | mkC x=>cases hq
 | lk z ok x k=>cases hh
 | up x k v=>cases hq
 | lkA n z ok x k=>cases hh
 | upA n x k v=>cases hq
 | cvB e x=>cases hq
 | clr z x=>cases hq
 | cvT x=>cases hh
 | eq ek neg x y=>cases hh
 | _=>exact hk
theorem nK_any {x:AOper} (hq:quietX x=true) (hh:heapX x=false) {tm:S} {h h2:T AO} {nx nx2:Pt} {c:AV→Prop} (hk:nK x tm h nx c):nK x tm h2 nx2 c:=by
 unfold nK at hk ⊢
 unfold quietX at hq
 unfold heapX at hh
 split
 ·rename_i o ho
  simp only [ho] at hk hq hh
  split
  ·rename_i hg
   simp only [hg] at hk
   exact step_any hq hh hk
  ·rename_i g b hg
   simp only [hg] at hk
   exact wantK_congr rfl (step_any hq hh) id hk
 ·rename_i hne
  split at hk
  ·rename_i o ho; exact absurd ho (hne o)
  ·exact hk
def ItOk (P:Program) (m:Nat) (ops:Array Oper):It→Prop
 | .n i p x=>∃ o,ops[i]?=some o∧compOper P m ops o=some x∧x.dst=some p∧quietX x=true
 | .a i p op=>∃ o,ops[i]?=some o∧compOper P m ops o=some ⟨some p,.v op,none⟩
 | .e i _ rc x=>∃ o,ops[i]?=some o∧compOper P m ops o=some x∧∀ q ∈ rc,quietX q.2=true
structure Plan (P:Program) (m:Nat) (ops:Array Oper) (l:List It):Prop where
 item:∀ it ∈ l,ItOk P m ops it
 len:l.length=ops.size
 nodup:(l.map It.i).Nodup
 cover:∀ i,i<ops.size→∃ it ∈ l,it.i=i
 order:∀ pre it post,l=pre ++ it :: post→∀ o,ops[it.i]?=some o→∀ e ∈ o.after,Region.binds .any e=true→∃ y ∈ pre,y.i=e.on
 chain:∀ pre it post,l=pre ++ it :: post→it.isE=true→∀ y ∈ post,Anc ops y.i it.i
 dst:∀ x ∈ l,∀ y ∈ l,x.i≠y.i→∀ p,x.dst=some p→y.dst≠some p
 self:∀ x ∈ l,x.isE=false→∀ p,x.dst=some p→p ∉ x.rd
 rdN:∀ x ∈ l,∀ y ∈ l,x.i≠y.i→y.isE=false→∀ p,y.dst=some p→p ∈ x.rd→Anc ops x.i y.i
 rdL:∀ pre x post,l=pre ++ x :: post→∀ y ∈ post,y.isE=false→∀ p,y.dst=some p→p ∉ x.rd
 rdE:∀ pre x post,l=pre ++ x :: post→x.isE=true→∀ y ∈ pre,y.isE=false→∀ p,x.dst=some p→p ∈ y.rd→Anc ops x.i y.i
 abs:∀ i ab rc x,It.e i ab rc x ∈ l→∀ j ∈ ab,Anc ops i j
 rck:∀ pre i ab rc x post,l=pre ++ .e i ab rc x :: post→∀ j p y,It.n j p y ∈ pre→heapX y=true→Anc ops i j∨(p,y) ∈ rc
structure Inv (P:Program) (w0:World) (m:Nat) (ops:Array Oper) (l:List It) (ch:CH) (K:S→T AO→Pt→Prop) (r0:Rho) (h0:T AO) (wS:World) (ds:List Deferred)
  (fuel:Nat) (listed:Array Bool) (a:Act) (w:World) (pre U rest:List It) (F:List Fl) (tm:S) (h hh:T AO) (nx:Pt) (r:Rho):Prop where
 split:l=pre ++ rest
 usub:∀ u ∈ U,u ∈ pre∧u.isE=false
 und:(U.map It.i).Nodup
 fuel:fuel=U.length+rest.length
 lsz:listed.size=ops.size
 lst:∀ i,i<ops.size→(listed.getD i true=false↔(∃ u ∈ U,u.i=i)∨∃ y ∈ rest,y.i=i)
 clo:Closed ops listed
 wr:WR P w0 r hh nx w
 hhI:∀ k o,hh.find k=some o↔h.find k=some o∨∃ f ∈ F,(∀ u ∈ U,u.i≠f.i)∧f.n=k∧f.ob=o
 fi:∀ f ∈ F,∃ y ∈ pre,y.i=f.i∧y.isA=true
 fn:∀ f ∈ F,h.find f.n=none
 fd:∀ f ∈ F,∀ g ∈ F,f.n=g.n→f=g
 fj:∀ f ∈ F,∀ g ∈ F,f.i=g.i→f=g
 fres:∀ f ∈ F,∀ u ∈ U,u.i=f.i→r.res f.n
 f0:∀ f ∈ F,¬ r0.res f.n
 fnx:∀ f ∈ F,f.n.toNat<nx.toNat
 nx0:∀ k,r0.res k→k.toNat<nx.toNat
 tr:∀ p v,tm.find p=some v→(∀ u ∈ U,u.dst≠some p)→a.tmps[p.toNat]?=some (conc r v)∧okV r.has v
 factN:∀ i p x,It.n i p x ∈ U→nK x tm h nx fun v=>tm.find p=some v
 factA:∀ i p op,It.a i p op ∈ U→∃ f ∈ F,f.i=i∧floatK op tm f.n fun v ob=>tm.find p=some v∧ob=f.ob
 size:m≤a.tmps.size
 defers:a.defers=ds
 ev:Ev r0 h0 wS r hh w
 run:denS rest F ch tm h nx K
section
variable {P:Program} {w0:World} {m:Nat} {ops:Array Oper} {l:List It} {ch:CH} {K:S→T AO→Pt→Prop} {r0:Rho} {h0:T AO} {wS:World} {ds:List Deferred} {ro:Option Nat}
 {fuel:Nat} {listed:Array Bool} {a:Act} {w:World} {pre U rest:List It} {F:List Fl} {tm:S} {h hh:T AO} {nx:Pt} {r:Rho}
theorem idx_inj (hp:Plan P m ops l) {x y:It} (hx:x ∈ l) (hy:y ∈ l) (e:x.i=y.i):x=y:=by
 have hn:=hp.nodup
 clear hp
 induction l with
 | nil=>cases hx
 | cons z l ih =>
  simp only [List.map_cons,List.nodup_cons,List.mem_map,not_exists,not_and] at hn
  rcases List.mem_cons.1 hx with ex | hx1
  ·rcases List.mem_cons.1 hy with ey | hy1
   ·rw [ex,ey]
   ·exact absurd (e.symm.trans (by rw [ex])) (hn.1 y hy1)
  ·rcases List.mem_cons.1 hy with ey | hy1
   ·exact absurd (e.trans (by rw [ey])) (hn.1 x hx1)
   ·exact ih hx1 hy1 hn.2
theorem lt_of_item (hp:Plan P m ops l) {x:It} (hx:x ∈ l):x.i<ops.size:=by
 have:=hp.item x hx
 cases x <;> (obtain ⟨o,ho,-⟩:=this; exact (Array.getElem?_eq_some_iff.1 ho).1)
theorem getD_ne {b:Array Bool} {i:Nat} (h1:b.getD i true=false) (h2:b.getD i false=true):False:=by
 rcases Nat.lt_or_ge i b.size with h' | h'
 ·simp [h'] at h1 h2; rw [h1] at h2; cases h2
 ·simp [Array.getElem?_eq_none h'] at h2
theorem getD_or {b:Array Bool} {i:Nat} (hi:i<b.size) (h1:¬ b.getD i true=false):b.getD i false=true:=by
 simp [hi] at h1 ⊢; exact h1
theorem Inv.reads (I:Inv P w0 m ops l ch K r0 h0 wS ds fuel listed a w pre U rest F tm h hh nx r) (hp:Plan P m ops l) {x:It} (hx:x ∈ l) {o:Oper} (ho:ops[x.i]?=some o) (hall:∀ e ∈ o.after,Region.binds .any e=true→listed.getD e.on false=true)
  : ∀ p ∈ x.rd,∀ u ∈ U,u.dst≠some p:=by
 intro p hpr u hu hd
 have hul:u ∈ l:=by rw [I.split]; exact List.mem_append.2 (.inl (I.usub u hu).1)
 have hun:listed.getD u.i true=false:=(I.lst u.i (lt_of_item hp hul)).2 (.inl ⟨u,hu,rfl⟩)
 by_cases e:x.i=u.i
 ·have:=idx_inj hp hx hul e
  subst this
  exact hp.self x hx (I.usub x hu).2 p hd hpr
 ·exact getD_ne hun (Anc.listed I.clo ho hall (hp.rdN x hx u hul e (I.usub u hu).2 p hd hpr))
def tmU (U:List It) (tm:S):S:=delL (U.filterMap It.dst) tm
theorem tmU_find {p:Sl} (h:∀ u ∈ U,u.dst≠some p):(tmU U tm).find p=tm.find p:=delL_out fun hm=>by
 obtain ⟨u,hu,hd⟩:=List.mem_filterMap.1 hm
 exact h u hu hd
theorem Inv.trU (I:Inv P w0 m ops l ch K r0 h0 wS ds fuel listed a w pre U rest F tm h hh nx r):TR r (tmU U tm) a.tmps:=fun p v hv=>by
 obtain ⟨h1,h2⟩:=delL_sub hv
 exact I.tr p v h1 fun u hu hd=>h2 (List.mem_filterMap.2 ⟨u,hu,hd⟩)
theorem factN_set {x:AOper} (hq:quietX x=true) {p p':Sl} {v:AV} (hr:p ∉ rdX x) (hne:p'≠p) (hk:nK x tm h nx fun v=>tm.find p'=some v):nK x (tm.set v p) h nx fun u=>(tm.set v p).find p'=some u :=
 nK_congr (fun q hq'=>S.find_set_ne _ _ _ _ fun e=>hr (e ▸ hq')) (nK_imp hq (fun u hu=>by rw [S.find_set_ne _ _ _ _ hne]; exact hu) hk)
theorem floatK_imp {op:AOp} {n:Pt} {c c':AV→AO→Prop} (hc:∀ v o,c v o→c' v o) (hk:floatK op tm n c):floatK op tm n c':=by
 cases op with
 | new vs e=>exact hc _ _ hk
 | box e x=>exact evK_imp (fun v hv=>hc _ _ hv) hk
 | buildS e k z ps =>
  obtain ⟨vs,g1,g2⟩:=fillK_val hk
  rw [forceL_iff] at g1
  exact g2 _ ((forceL_iff _ _).2 (hc _ _ g1))
 | mkM=>exact hc _ _ hk
 | cvB e x =>
  refine evK_imp (fun v hv=>?_) hk
  split at hv
  ·rw [forceL_iff,forceN_iff] at hv
   show forceL _ _
   rw [forceL_iff,forceN_iff]
   exact hc _ _ hv
  ·exact hv.elim
 | _=>exact hk.elim
theorem factA_set {op:AOp} {n:Pt} {p p':Sl} {ob:AO} {v:AV} (hr:p ∉ (opX op).flatMap axP) (hne:p'≠p) (hk:floatK op tm n fun v o=>tm.find p'=some v∧o=ob):floatK op (tm.set v p) n fun u o=>(tm.set v p).find p'=some u∧o=ob :=
 floatK_congr (fun y hy=>valX_of fun q hq=>S.find_set_ne _ _ _ _ fun e=>hr (e ▸ List.mem_flatMap.2 ⟨y,hy,hq⟩)) (floatK_imp (fun u o hu=>⟨by rw [S.find_set_ne _ _ _ _ hne]; exact hu.1,hu.2⟩) hk)
theorem Inv.notU (hp:Plan P m ops l) {it:It} {rest:List It} (I:Inv P w0 m ops l ch K r0 h0 wS ds fuel listed a w pre U (it :: rest) F tm h hh nx r):∀ y ∈ pre,y.i≠it.i:=fun u hu e=>by
 have hn:=hp.nodup
 rw [I.split,List.map_append,List.nodup_append] at hn
 exact hn.2.2 _ (List.mem_map.2 ⟨u,hu,rfl⟩) _ (List.mem_map.2 ⟨it,List.mem_cons_self ..,rfl⟩) e
theorem Inv.ahead (hp:Plan P m ops l) {it:It} {rest:List It} (I:Inv P w0 m ops l ch K r0 h0 wS ds fuel listed a w pre U (it :: rest) F tm h hh nx r) (hE:it.isE=false) {p:Sl} (hd:it.dst=some p):∀ y ∈ pre,p ∉ y.rd:=fun y hy=>by
 obtain ⟨s,t,rfl⟩:=List.append_of_mem hy
 exact hp.rdL s y (t ++ it :: rest) (by rw [I.split]; simp) it (by simp) hE p hd
theorem Inv.inl (I:Inv P w0 m ops l ch K r0 h0 wS ds fuel listed a w pre U rest F tm h hh nx r):(∀ y ∈ pre,y ∈ l)∧(∀ u ∈ U,u ∈ l)∧∀ y ∈ rest,y ∈ l:=by
 refine ⟨fun y hy=>?_,fun u hu=>?_,fun y hy=>?_⟩
 ·rw [I.split]; exact List.mem_append.2 (.inl hy)
 ·rw [I.split]; exact List.mem_append.2 (.inl (I.usub u hu).1)
 ·rw [I.split]; exact List.mem_append.2 (.inr hy)
theorem Inv.lookN (hp:Plan P m ops l) {i:Nat} {p:Sl} {x:AOper} {rest:List It} (I:Inv P w0 m ops l ch K r0 h0 wS ds fuel listed a w pre U (.n i p x :: rest) F tm h hh nx r) :
  ∃ tm',Inv P w0 m ops l ch K r0 h0 wS ds fuel listed a w (pre ++ [.n i p x]) (U ++ [.n i p x]) rest F tm' h hh nx r:=by
 have hxl:It.n i p x ∈ l:=I.inl.2.2 _ (List.mem_cons_self ..)
 obtain ⟨o,ho,hc,hd,hq⟩:=hp.item _ hxl
 have hrun:nK x tm h nx fun v=>tm.setK v p fun tm=>denS rest F ch tm h nx K:=I.run
 obtain ⟨v,h1,h2⟩:=nK_val hq hrun
 rw [S.setK_iff] at h1
 have hpre:=I.notU hp
 have hah:=I.ahead hp rfl rfl
 have hUi:∀ u ∈ U,u.i≠i:=fun u hu=>hpre u (I.usub u hu).1
 have hUd:∀ u ∈ U,u.dst≠some p:=fun u hu=>hp.dst _ hxl u (I.inl.2.1 u hu) (fun e=>hUi u hu e.symm) p rfl
 have hFi:∀ f ∈ F,f.i≠i:=fun f hf e=>by obtain ⟨y,hy,h,-⟩:=I.fi f hf; exact hpre y hy (h.trans e)
 refine ⟨tm.set v p,⟨by rw [I.split]; simp,?_,?_,?_,I.lsz,?_,I.clo,I.wr,?_,?_,I.fn,I.fd,I.fj,?_,I.f0,I.fnx,I.nx0,?_,?_,?_,I.size,I.defers,I.ev,h1⟩⟩
 ·intro u hu
  rcases List.mem_append.1 hu with hu | hu
  ·exact ⟨List.mem_append.2 (.inl (I.usub u hu).1),(I.usub u hu).2⟩
  ·rw [List.mem_singleton.1 hu]; exact ⟨by simp,rfl⟩
 ·rw [List.map_append,List.nodup_append]
  refine ⟨I.und,by simp,fun a ha b hb e=>?_⟩
  obtain ⟨u,hu,rfl⟩:=List.mem_map.1 ha
  simp only [List.map_cons,List.map_nil,List.mem_singleton] at hb
  exact hUi u hu (e.trans hb)
 ·rw [I.fuel]; simp; omega
 ·intro j hj
  rw [I.lst j hj]
  simp only [List.mem_append,List.mem_cons,List.not_mem_nil,or_false]
  constructor
  ·rintro (⟨u,hu,e⟩ | ⟨y,rfl | hy,e⟩)
   ·exact .inl ⟨u,.inl hu,e⟩
   ·exact .inl ⟨_,.inr rfl,e⟩
   ·exact .inr ⟨y,hy,e⟩
  ·rintro (⟨u,hu | rfl,e⟩ | ⟨y,hy,e⟩)
   ·exact .inl ⟨u,hu,e⟩
   ·exact .inr ⟨_,.inl rfl,e⟩
   ·exact .inr ⟨y,.inr hy,e⟩
 ·intro k o
  rw [I.hhI k o]
  refine or_congr Iff.rfl (exists_congr fun f=>and_congr_right fun hf=>and_congr_left fun _=>⟨fun hU u hu=>?_,fun hU u hu=>hU u (List.mem_append.2 (.inl hu))⟩)
  rcases List.mem_append.1 hu with hu | hu
  ·exact hU u hu
  ·rw [List.mem_singleton.1 hu]; exact fun e=>hFi f hf e.symm
 ·intro f hf
  obtain ⟨y,hy,e⟩:=I.fi f hf
  exact ⟨y,List.mem_append.2 (.inl hy),e⟩
 ·intro f hf u hu e
  rcases List.mem_append.1 hu with hu | hu
  ·exact I.fres f hf u hu e
  ·rw [List.mem_singleton.1 hu] at e; exact absurd e.symm (hFi f hf)
 ·intro q u hu hn
  have hqp:q≠p:=fun e=>hn (.n i p x) (by simp) (by rw [e]; rfl)
  rw [S.find_set_ne _ _ _ _ hqp] at hu
  exact I.tr q u hu fun y hy=>hn y (List.mem_append.2 (.inl hy))
 ·intro j q y hy
  rcases List.mem_append.1 hy with hy | hy
  ·have hyl:=I.inl.2.1 _ hy
   obtain ⟨_,_,_,_,hqy⟩:=hp.item _ hyl
   exact factN_set hqy (hah _ (I.usub _ hy).1) (fun e=>hUd _ hy (by rw [← e]; rfl)) (I.factN j q y hy)
  ·cases List.mem_singleton.1 hy
   exact nK_congr (fun q hq'=>S.find_set_ne _ _ _ _ fun e=>hp.self _ hxl rfl p rfl (by rw [← e]; exact hq')) (nK_imp hq (fun u hu=>by rw [hu,S.find_set]) h2)
 ·intro j q op hy
  rcases List.mem_append.1 hy with hy | hy
  ·obtain ⟨f,hf,e,hk⟩:=I.factA j q op hy
   exact ⟨f,hf,e,factA_set (hah _ (I.usub _ hy).1) (fun e=>hUd _ hy (by rw [← e]; rfl)) hk⟩
  ·cases List.mem_singleton.1 hy
theorem Inv.makeA (hp:Plan P m ops l) {i:Nat} {p:Sl} {op:AOp} {rest:List It} (I:Inv P w0 m ops l ch K r0 h0 wS ds fuel listed a w pre U (.a i p op :: rest) F tm h hh nx r) :
  ∃ tm' F' nx' r',Inv P w0 m ops l ch K r0 h0 wS ds fuel listed a w (pre ++ [.a i p op]) (U ++ [.a i p op]) rest F' tm' h hh nx' r':=by
 have hxl:It.a i p op ∈ l:=I.inl.2.2 _ (List.mem_cons_self ..)
 obtain ⟨o,ho,hc⟩:=hp.item _ hxl
 have hrun:floatK op tm nx fun v ob=>tm.setK v p fun tm=>succK nx fun nx'=>denS rest (⟨i,nx,ob⟩ :: F) ch tm h nx' K:=I.run
 obtain ⟨v,ob,h1,h2⟩:=floatK_val hrun
 rw [S.setK_iff,succK_iff] at h1
 have hpre:=I.notU hp
 have hah:=I.ahead hp rfl rfl
 have hUi:∀ u ∈ U,u.i≠i:=fun u hu=>hpre u (I.usub u hu).1
 have hUd:∀ u ∈ U,u.dst≠some p:=fun u hu=>hp.dst _ hxl u (I.inl.2.1 u hu) (fun e=>hUi u hu e.symm) p rfl
 have hFi:∀ f ∈ F,f.i≠i:=fun f hf e=>by obtain ⟨y,hy,h,-⟩:=I.fi f hf; exact hpre y hy (h.trans e)
 have hnone:∀ k o,h.find k=some o→k≠nx:=fun k o hk e=>by
  have:=(I.wr.has k o ((I.hhI k o).2 (.inl hk))).1
  exact I.wr.fresh (e ▸ this)
 have hFn:∀ f ∈ F,f.n≠nx:=fun f hf e=>by have:=I.fnx f hf; rw [e] at this; omega
 refine ⟨tm.set v p,⟨i,nx,ob⟩ :: F,nx.succ,r.aside nx,⟨by rw [I.split]; simp,?_,?_,?_,I.lsz,?_,I.clo,I.wr.aside,?_,?_,?_,?_,?_,?_,?_,?_,?_,?_,?_,?_,I.size,I.defers,⟨I.ev.le.trans (r.le_aside nx),I.ev.size,I.ev.fr,I.ev.img⟩,h1⟩⟩
 ·intro u hu
  rcases List.mem_append.1 hu with hu | hu
  ·exact ⟨List.mem_append.2 (.inl (I.usub u hu).1),(I.usub u hu).2⟩
  ·rw [List.mem_singleton.1 hu]; exact ⟨by simp,rfl⟩
 ·rw [List.map_append,List.nodup_append]
  refine ⟨I.und,by simp,fun a ha b hb e=>?_⟩
  obtain ⟨u,hu,rfl⟩:=List.mem_map.1 ha
  simp only [List.map_cons,List.map_nil,List.mem_singleton] at hb
  exact hUi u hu (e.trans hb)
 ·rw [I.fuel]; simp; omega
 ·intro j hj
  rw [I.lst j hj]
  simp only [List.mem_append,List.mem_cons,List.not_mem_nil,or_false]
  constructor
  ·rintro (⟨u,hu,e⟩ | ⟨y,rfl | hy,e⟩)
   ·exact .inl ⟨u,.inl hu,e⟩
   ·exact .inl ⟨_,.inr rfl,e⟩
   ·exact .inr ⟨y,hy,e⟩
  ·rintro (⟨u,hu | rfl,e⟩ | ⟨y,hy,e⟩)
   ·exact .inl ⟨u,hu,e⟩
   ·exact .inr ⟨_,.inl rfl,e⟩
   ·exact .inr ⟨y,.inr hy,e⟩
 ·intro k o
  rw [I.hhI k o]
  refine or_congr Iff.rfl ⟨?_,?_⟩
  ·rintro ⟨f,hf,hU,e⟩
   refine ⟨f,List.mem_cons_of_mem _ hf,fun u hu=>?_,e⟩
   rcases List.mem_append.1 hu with hu | hu
   ·exact hU u hu
   ·rw [List.mem_singleton.1 hu]; exact fun e=>hFi f hf e.symm
  ·rintro ⟨f,hf,hU,e⟩
   rcases List.mem_cons.1 hf with rfl | hf
   ·exact absurd rfl (hU (.a i p op) (by simp))
   ·exact ⟨f,hf,fun u hu=>hU u (List.mem_append.2 (.inl hu)),e⟩
 ·intro f hf
  rcases List.mem_cons.1 hf with rfl | hf
  ·exact ⟨.a i p op,by simp,rfl,rfl⟩
  ·obtain ⟨y,hy,e⟩:=I.fi f hf
   exact ⟨y,List.mem_append.2 (.inl hy),e⟩
 ·intro f hf
  rcases List.mem_cons.1 hf with rfl | hf
  ·cases hx:h.find nx with
   | none=>rfl
   | some o=>exact absurd rfl (hnone nx o hx)
  ·exact I.fn f hf
 ·intro f hf g hg e
  rcases List.mem_cons.1 hf with rfl | hf
  ·rcases List.mem_cons.1 hg with rfl | hg
   ·rfl
   ·exact absurd e.symm (hFn g hg)
  ·rcases List.mem_cons.1 hg with rfl | hg
   ·exact absurd e (hFn f hf)
   ·exact I.fd f hf g hg e
 ·intro f hf g hg e
  rcases List.mem_cons.1 hf with rfl | hf
  ·rcases List.mem_cons.1 hg with rfl | hg
   ·rfl
   ·exact absurd e.symm (hFi g hg)
  ·rcases List.mem_cons.1 hg with rfl | hg
   ·exact absurd e (hFi f hf)
   ·exact I.fj f hf g hg e
 ·intro f hf u hu e
  rcases List.mem_cons.1 hf with rfl | hf
  ·exact Or.inl rfl
  ·rcases List.mem_append.1 hu with hu | hu
   ·exact Or.inr (I.fres f hf u hu e)
   ·rw [List.mem_singleton.1 hu] at e; exact absurd e.symm (hFi f hf)
 ·intro f hf
  rcases List.mem_cons.1 hf with rfl | hf
  ·intro hr
   have:=I.nx0 _ hr
   exact Nat.lt_irrefl _ this
  ·exact I.f0 f hf
 ·intro f hf
  rw [Pt.toNat_succ]
  rcases List.mem_cons.1 hf with rfl | hf
  ·exact Nat.lt_succ_self _
  ·exact Nat.lt_succ_of_lt (I.fnx f hf)
 ·intro k hk
  rw [Pt.toNat_succ]
  exact Nat.lt_succ_of_lt (I.nx0 k hk)
 ·intro q u hu hn
  have hqp:q≠p:=fun e=>hn (.a i p op) (by simp) (by rw [e]; rfl)
  rw [S.find_set_ne _ _ _ _ hqp] at hu
  rw [conc_aside]
  exact I.tr q u hu fun y hy=>hn y (List.mem_append.2 (.inl hy))
 ·intro j q y hy
  rcases List.mem_append.1 hy with hy | hy
  ·have hyl:=I.inl.2.1 _ hy
   obtain ⟨_,_,_,_,hqy⟩:=hp.item _ hyl
   exact nK_heap hqy (fun _ _ h=>h) (factN_set hqy (hah _ (I.usub _ hy).1) (fun e=>hUd _ hy (by rw [← e]; rfl)) (I.factN j q y hy))
  ·cases List.mem_singleton.1 hy
 ·intro j q op' hy
  rcases List.mem_append.1 hy with hy | hy
  ·obtain ⟨f,hf,e,hk⟩:=I.factA j q op' hy
   exact ⟨f,List.mem_cons_of_mem _ hf,e,factA_set (hah _ (I.usub _ hy).1) (fun e=>hUd _ hy (by rw [← e]; rfl)) hk⟩
  ·cases List.mem_singleton.1 hy
   refine ⟨⟨i,nx,ob⟩,List.mem_cons_self ..,rfl,?_⟩
   exact floatK_congr (fun y hy=>valX_of fun q hq'=>S.find_set_ne _ _ _ _ fun e=>hp.self _ hxl rfl p rfl (by rw [← e]; exact List.mem_flatMap.2 ⟨y,hy,hq'⟩)) (floatK_imp (fun u o hu=>⟨by rw [hu.1,S.find_set],hu.2⟩) h2)
end
end Go.Proofs.YtcakhpfonailhaaGreatDoor.X
