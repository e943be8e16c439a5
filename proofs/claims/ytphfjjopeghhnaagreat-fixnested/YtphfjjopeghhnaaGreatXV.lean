/- An executor for closed calls, 22: memory with blocks that nothing has acted on; what waits for what. -/
import Derived.Test.YtphfjjopeghhnaaGreatXU
namespace Go.Proofs.YtphfjjopeghhnaaGreat.X
open Go.RowKit
section
variable {P:Program} {w0:World} {r:Rho} {nx:Pt} {w:World}
theorem WR.sub {h1 h2:T AO} (H:WR P w0 r h2 nx w) (hs:∀ k o,h1.find k=some o→h2.find k=some o):WR P w0 r h1 nx w :=
 ⟨H.dom,H.dis,H.below,fun k o hk=>H.has k o (hs k o hk),fun i j oi oj hi hj=>H.apart i j oi oj (hs i oi hi) (hs j oj hj)⟩
theorem Ev.sub {h1 h2:T AO} (hs:∀ k o,h1.find k=some o→h2.find k=some o):Ev r h2 w r h1 w :=
 ⟨.refl r,Nat.le_refl _,fun _ _ _=>rfl,fun k o hk=>.inr ⟨k,o,hs k o hk,rfl⟩⟩
theorem WR.later {h:T AO} {nx':Pt} (H:WR P w0 r h nx w) (hx:nx.toNat≤nx'.toNat):WR P w0 r h nx' w :=
 ⟨fun k hk=>Nat.lt_of_lt_of_le (H.dom k hk) hx,H.dis,H.below,H.has,H.apart⟩
def Rho.aside (r:Rho) (n:Pt):Rho:=⟨r.has,fun k=>k=n∨r.res k,r.blk,r.ext,r.lp⟩
theorem Rho.le_aside (r:Rho) (n:Pt):r.Le (r.aside n):=⟨fun _ h=>h,fun _ h=>.inr h,fun _ _=>rfl,fun _ _=>rfl,fun _ _=>rfl⟩
mutual
theorem conc_aside (r:Rho) (n:Pt):∀ v,conc (r.aside n) v=conc r v
 | .bool _=>by simp only [conc]
 | .int _ _=>by simp only [conc]
 | .str _=>by simp only [conc]
 | .nilp=>by simp only [conc]
 | .ptr _ _=>by simp only [conc,Rho.aside]
 | .nils=>by simp only [conc]
 | .sl _ _ _ _ _=>by simp only [conc,Rho.aside]
 | .slz _ _ _=>by simp only [conc,Rho.aside]; rfl
 | .nilm=>by simp only [conc]
 | .map _=>by simp only [conc,Rho.aside]
 | .fn _ a b=>by simp only [conc,concL_aside r n a,concL_aside r n b]
 | .yld _=>by simp only [conc,Rho.aside]
 | .chan _=>by simp only [conc,Rho.aside]
 | .nilc=>by simp only [conc]
 | .nilf=>by simp only [conc]
 | .iface _ v=>by simp only [conc,conc_aside r n v]
 | .nili=>by simp only [conc]
 | .agg a=>by simp only [conc,concL_aside r n a]
 | .tup a=>by simp only [conc,concL_aside r n a]
theorem concL_aside (r:Rho) (n:Pt):∀ l,concL (r.aside n) l=concL r l
 | []=>by simp only [concL]
 | v :: l=>by simp only [concL,conc_aside r n v,concL_aside r n l]
end
theorem BR.aside {n k:Pt} {o:AO} {x:Option Obj} (hb:BR P r k o x):BR P (r.aside n) k o x:=by
 cases o with
 | cells vs e =>
  obtain ⟨rest,h1,h2⟩:=hb
  exact ⟨rest,by rw [concL_aside]; exact h1,h2⟩
 | frz vs e =>
  obtain ⟨rest,z,h1,h2⟩:=hb
  exact ⟨rest,z,by rw [concL_aside]; exact h1,h2⟩
 | loop st pe=>exact hb
 | chan cap buf =>
  obtain ⟨sent,rcvd,hx⟩:=hb
  exact ⟨sent,rcvd,by rw [concL_aside]; exact hx⟩
 | iter s rest pos=>exact hb
 | mapK m es =>
  obtain ⟨es,L,c,hx,M,I⟩:=hb
  refine ⟨es,L,c,hx,⟨?_,M.nodup,M.ints⟩,I⟩
  rw [M.ent]
  exact List.map_congr_left fun y _=>by simp only [conc_aside]
 | map es c =>
  obtain ⟨es',c',h1,M,Bi⟩:=hb
  refine ⟨es',c',?_,M,Bi⟩
  have:es'.map (concE (r.aside n))=es'.map (concE r):=List.map_congr_left fun y hy=>by simp only [concE,conc_aside]
  rw [this]
  exact h1
theorem WR.aside {h:T AO} (H:WR P w0 r h nx w):WR P w0 (r.aside nx) h nx.succ w:=by
 refine ⟨fun k hk=>?_,fun k hk hr=>?_,H.below,fun k o hk=>?_,H.apart⟩
 ·rw [Pt.toNat_succ]
  rcases hk with hk | rfl | hk
  ·exact Nat.lt_succ_of_lt (H.dom k (.inl hk))
  ·exact Nat.lt_succ_self _
  ·exact Nat.lt_succ_of_lt (H.dom k (.inr hk))
 ·rcases hr with rfl | hr
  ·exact H.fresh hk
  ·exact H.dis k hk hr
 ·obtain ⟨h1,h2,h3,h4⟩:=H.has k o hk
  exact ⟨h1,h2,h3,h4.aside⟩
def Rho.take (r:Rho) (n:Pt):Rho:=⟨r.has,fun k=>k≠n∧r.res k,r.blk,r.ext,r.lp⟩
mutual
theorem conc_take (r:Rho) (n:Pt):∀ v,conc (r.take n) v=conc r v
 | .bool _=>by simp only [conc]
 | .int _ _=>by simp only [conc]
 | .str _=>by simp only [conc]
 | .nilp=>by simp only [conc]
 | .ptr _ _=>by simp only [conc,Rho.take]
 | .nils=>by simp only [conc]
 | .sl _ _ _ _ _=>by simp only [conc,Rho.take]
 | .slz _ _ _=>by simp only [conc,Rho.take]; rfl
 | .nilm=>by simp only [conc]
 | .map _=>by simp only [conc,Rho.take]
 | .fn _ a b=>by simp only [conc,concL_take r n a,concL_take r n b]
 | .yld _=>by simp only [conc,Rho.take]
 | .chan _=>by simp only [conc,Rho.take]
 | .nilc=>by simp only [conc]
 | .nilf=>by simp only [conc]
 | .iface _ v=>by simp only [conc,conc_take r n v]
 | .nili=>by simp only [conc]
 | .agg a=>by simp only [conc,concL_take r n a]
 | .tup a=>by simp only [conc,concL_take r n a]
theorem concL_take (r:Rho) (n:Pt):∀ l,concL (r.take n) l=concL r l
 | []=>by simp only [concL]
 | v :: l=>by simp only [concL,conc_take r n v,concL_take r n l]
end
theorem BR.take {n k:Pt} {o:AO} {x:Option Obj} (hb:BR P r k o x):BR P (r.take n) k o x:=by
 cases o with
 | cells vs e =>
  obtain ⟨rest,h1,h2⟩:=hb
  exact ⟨rest,by rw [concL_take]; exact h1,h2⟩
 | frz vs e =>
  obtain ⟨rest,z,h1,h2⟩:=hb
  exact ⟨rest,z,by rw [concL_take]; exact h1,h2⟩
 | loop st pe=>exact hb
 | chan cap buf =>
  obtain ⟨sent,rcvd,hx⟩:=hb
  exact ⟨sent,rcvd,by rw [concL_take]; exact hx⟩
 | iter s rest pos=>exact hb
 | mapK m es =>
  obtain ⟨es,L,c,hx,M,I⟩:=hb
  refine ⟨es,L,c,hx,⟨?_,M.nodup,M.ints⟩,I⟩
  rw [M.ent]
  exact List.map_congr_left fun y _=>by simp only [conc_take]
 | map es c =>
  obtain ⟨es',c',h1,M,Bi⟩:=hb
  refine ⟨es',c',?_,M,Bi⟩
  have:es'.map (concE (r.take n))=es'.map (concE r):=List.map_congr_left fun y hy=>by simp only [concE,conc_take]
  rw [this]
  exact h1
theorem WR.take {h:T AO} (n:Pt) (H:WR P w0 r h nx w):WR P w0 (r.take n) h nx w :=
 ⟨fun k hk=>H.dom k (hk.imp id And.right),fun k hk hr=>H.dis k hk hr.2,H.below,fun k o hk=>by
  obtain ⟨h1,h2,h3,h4⟩:=H.has k o hk
  exact ⟨h1,h2,h3,h4.take⟩,H.apart⟩
theorem WR.back {h:T AO} (H:WR P w0 r h nx w) {n:Pt} {ob:AO} (hn:r.has n) (ho:okO r.has ob) (hb:BR P r n ob (w.heap[r.blk n]?)) (h0:w0.heap.size≤r.blk n) (hap:∀ k o,h.find k=some o→r.blk k=r.blk n→k=n):WR P w0 r (h.set ob n) nx w:=by
 refine ⟨H.dom,H.dis,H.below,fun k o hk=>?_,fun i j oi oj hi hj e=>?_⟩
 ·by_cases e:k=n
  ·subst e
   rw [T.find_set] at hk; cases hk
   exact ⟨hn,h0,ho,hb⟩
  ·rw [T.find_set_ne _ _ _ _ e] at hk; exact H.has k o hk
 ·by_cases ei:i=n
  ·by_cases ej:j=n
   ·rw [ei,ej]
   ·rw [T.find_set_ne _ _ _ _ ej] at hj
    subst ei
    exact (hap j oj hj e.symm).symm
  ·rw [T.find_set_ne _ _ _ _ ei] at hi
   by_cases ej:j=n
   ·subst ej; exact hap i oi hi e
   ·rw [T.find_set_ne _ _ _ _ ej] at hj
    exact H.apart i j oi oj hi hj e
end
theorem absK_spec {pr:Nat→Bool}:∀ {F:List Fl} {h:T AO} {acc:List Fl} {c:List Fl→T AO→Prop},absK pr F h acc c →
  ∃ F' h',c F' h'∧(∀ f,f ∈ F'↔f ∈ acc∨f ∈ F∧pr f.i=false)∧∀ k o,h'.find k=some o→h.find k=some o∨∃ f ∈ F,pr f.i=true∧f.n=k∧f.ob=o
 | [],h,acc,c,hk=>⟨acc,h,hk,fun f=>by simp,fun k o hk=>.inl hk⟩
 | f :: F,h,acc,c,hk=>by
  have hk:Bool.rec (motive:=fun _=>Prop) (absK pr F h (f :: acc) c) (h.setK f.ob f.n fun h=>absK pr F h acc c) (pr f.i):=hk
  cases hp:pr f.i with
  | false =>
   rw [hp] at hk
   obtain ⟨F',h',h1,h2,h3⟩:=absK_spec hk
   refine ⟨F',h',h1,fun g=>?_,fun k o hk=>?_⟩
   ·rw [h2 g]
    simp only [List.mem_cons]
    constructor
    ·rintro ((rfl | h) | h)
     ·exact .inr ⟨.inl rfl,hp⟩
     ·exact .inl h
     ·exact .inr ⟨.inr h.1,h.2⟩
    ·rintro (h | ⟨rfl | h,h'⟩)
     ·exact .inl (.inr h)
     ·exact .inl (.inl rfl)
     ·exact .inr ⟨h,h'⟩
   ·rcases h3 k o hk with h4 | ⟨g,h4,h5⟩
    ·exact .inl h4
    ·exact .inr ⟨g,List.mem_cons_of_mem _ h4,h5⟩
  | true =>
   rw [hp] at hk
   have hk:h.setK f.ob f.n fun h=>absK pr F h acc c:=hk
   rw [T.setK_iff] at hk
   obtain ⟨F',h',h1,h2,h3⟩:=absK_spec hk
   refine ⟨F',h',h1,fun g=>?_,fun k o hk=>?_⟩
   ·rw [h2 g]
    simp only [List.mem_cons]
    constructor
    ·rintro (h | h)
     ·exact .inl h
     ·exact .inr ⟨.inr h.1,h.2⟩
    ·rintro (h | ⟨rfl | h,h'⟩)
     ·exact .inl h
     ·rw [hp] at h'; cases h'
     ·exact .inr ⟨h,h'⟩
   ·rcases h3 k o hk with h4 | ⟨g,h4,h5⟩
    ·by_cases e:k=f.n
     ·subst e
      rw [T.find_set] at h4; cases h4
      exact .inr ⟨f,List.mem_cons_self ..,hp,rfl,rfl⟩
     ·rw [T.find_set_ne _ _ _ _ e] at h4; exact .inl h4
    ·exact .inr ⟨g,List.mem_cons_of_mem _ h4,h5⟩
theorem rcK_spec {tm:S} {h:T AO} {nx:Pt} {k:Prop}:∀ {rc:List (Sl × AOper)},(∀ q ∈ rc,quietX q.2=true)→rcK rc tm h nx k→k∧∀ q ∈ rc,nK q.2 tm h nx fun v=>tm.find q.1=some v
 | [],_,hk=>⟨hk,fun q hq=>by cases hq⟩
 | q :: rc,hq,hk=>by
  have hk:nK q.2 tm h nx fun v=>tm.getK q.1 fun u=>Bool.rec (motive:=fun _=>Prop) False (rcK rc tm h nx k) (eqV v u):=hk
  have hqq:=hq q (List.mem_cons_self ..)
  obtain ⟨v,h1,h2⟩:=nK_val hqq hk
  obtain ⟨u,h3,h4⟩:=(S.getK_iff _ _ _).1 h1
  obtain ⟨h5,h6⟩:=brec h4
  obtain ⟨h7,h8⟩:=rcK_spec (fun x hx=>hq x (List.mem_cons_of_mem _ hx)) h6
  refine ⟨h7,fun x hx=>?_⟩
  rcases List.mem_cons.1 hx with rfl | hx
  ·exact nK_imp hqq (fun v' hv'=>by rw [hv',eqV_eq h5]; exact h3) h2
  ·exact h8 x hx
theorem inB_iff:∀ {l:List Nat} {i:Nat},inB l i=true↔i ∈ l
 | [],i=>by simp [inB]
 | j :: l,i=>by simp [inB,inB_iff (l:=l)]
def anc (ops:Array Oper):Nat→Nat→Nat→Bool
 | 0,_,_=>false
 | f+1,i,j=>match ops[i]? with
  | none=>false
  | some o=>o.after.toList.any fun e=>Region.binds .any e&&(Nat.beq e.on j||anc ops f e.on j)
def Closed (ops:Array Oper) (listed:Array Bool):Prop:=∀ i o,ops[i]?=some o→listed.getD i false=true→∀ e ∈ o.after,Region.binds .any e=true→listed.getD e.on false=true
theorem anc_listed {ops:Array Oper} {listed:Array Bool} (hc:Closed ops listed):∀ {f i j:Nat} {o:Oper},ops[i]?=some o→(∀ e ∈ o.after,Region.binds .any e=true→listed.getD e.on false=true)→anc ops f i j=true→listed.getD j false=true
 | 0,_,_,_,_,_,h=>by cases h
 | f+1,i,j,o,ho,hall,h=>by
  unfold anc at h
  rw [ho] at h
  simp only [List.any_eq_true,Bool.and_eq_true,Bool.or_eq_true] at h
  obtain ⟨e,he,hb,h⟩:=h
  have hl:=hall e (Array.mem_toList_iff.1 he) hb
  rcases h with h | h
  ·rw [← Nat.eq_of_beq_eq_true h]; exact hl
  ·cases hoe:ops[e.on]? with
   | none =>
    cases f with
    | zero=>cases h
    | succ f=>unfold anc at h; rw [hoe] at h; cases h
   | some o'=>exact anc_listed hc hoe (hc e.on o' hoe hl) h
def Anc (ops:Array Oper) (i j:Nat):Prop:=∃ f,anc ops f i j=true
theorem Anc.listed {ops:Array Oper} {listed:Array Bool} (hc:Closed ops listed) {i j:Nat} {o:Oper} (ho:ops[i]?=some o) (hall:∀ e ∈ o.after,Region.binds .any e=true→listed.getD e.on false=true) (h:Anc ops i j):listed.getD j false=true:=by
 obtain ⟨f,h⟩:=h
 exact anc_listed hc ho hall h
end Go.Proofs.YtphfjjopeghhnaaGreat.X
