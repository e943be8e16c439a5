/- An executor for closed calls, 2: memory: what a trie of blocks says of a world, and what loads, stores and new blocks do to it. -/
import Derived.Test.YtpajcdofelmaaaaGreatDoorXGW
namespace Go.Proofs.YtpajcdofelmaaaaGreatDoor.X
open Go.RowKit
inductive AE where
 | nrm
 | exit (id:Nat)
 | ret
 | goto (l:Nat)
def AE.code:AE→Code
 | .nrm=>.skip
 | .goto l=>.goto l
 | .exit id=>.exit id
 | .ret=>.ret
inductive AO where
 | cells (vs:List AV) (e:TypeId)
 | map (es:List (AV × AV × Nat)) (clock:Nat)
 | frz (vs:List AV) (e:TypeId)
 | loop (st:LoopState) (pe:Option AE)
 | chan (cap:Nat) (buf:List AV)
 | mapK (n:Nat) (ix:T (List Int × AV))
 | iter (s rest:List Nat) (pos:Nat)
def okO (n:Pt→Prop):AO→Prop
 | .cells vs _=>okL n vs
 | .map es _=>∀ x ∈ es,okV n x.1∧okV n x.2.1
 | .frz vs _=>okL n vs
 | .loop _ _=>True
 | .chan _ buf=>okL n buf
 | .mapK _ ix=>∀ k y,ix.find k=some y→okV n y.2
 | .iter s rest pos=>rest=s.drop pos∧∀ b ∈ s,b<256
theorem okO.mono {n m:Pt→Prop} (h:∀ k,n k→m k):∀ {o:AO},okO n o→okO m o
 | .cells _ _,g=>okL.mono h g
 | .map _ _,g=>fun x hx=>⟨okV.mono h (g x hx).1,okV.mono h (g x hx).2⟩
 | .frz _ _,g=>okL.mono h g
 | .loop _ _,_=>trivial
 | .chan _ _,g=>okL.mono h g
 | .mapK _ _,g=>fun k y hy=>okV.mono h (g k y hy)
 | .iter _ _ _,g=>g
def sizeT (P:Program) (t:TypeId):Nat:=((P.info? t).map (·.size)).getD 0
def concE (r:Rho) (x:AV × AV × Nat):MapEntry:=⟨conc r x.1,conc r x.2.1,x.2.2⟩
def KV (e:AV × AV × Nat):AV × AV:=(e.1,e.2.1)
structure MapS (es es':List (AV × AV × Nat)):Prop where
 perm:(es.map KV).Perm (es'.map KV)
 nodup:(es.map Prod.fst).Nodup
 str:∀ e ∈ es,∃ s,e.1=.str s
theorem MapS.mem {es es':List (AV × AV × Nat)} (M:MapS es es') {e':AV × AV × Nat} (he:e' ∈ es'):∃ e ∈ es,e.1=e'.1∧e.2.1=e'.2.1:=by
 have:=M.perm.mem_iff.2 (List.mem_map.2 ⟨e',he,rfl⟩)
 obtain ⟨e,h1,h2⟩:=List.mem_map.1 this
 simp only [KV,Prod.mk.injEq] at h2
 exact ⟨e,h1,h2.1,h2.2⟩
def Births (es:List (AV × AV × Nat)) (c:Nat):Prop:=(es.map (·.2.2)).Nodup∧∀ e ∈ es,e.2.2<c
theorem Births.nil:Births [] 0:=⟨.nil,fun _ h=>by cases h⟩
theorem MapS.nil:MapS [] []:=⟨.refl _,.nil,fun _ h=>by cases h⟩
def inI:Int→Bool
 | .ofNat m=>Nat.blt m 9223372036854775808
 | .negSucc m=>Nat.blt m 9223372036854775808
def keyI (s:List Int):Value:=.agg (s.map (Value.int .i64)).toArray
structure MapI (r:Rho) (n:Nat) (es:List (List Int × AV)) (L:List MapEntry):Prop where
 ent:L.map (fun e=>(e.key,e.val))=es.map (fun y=>(keyI y.1,conc r y.2))
 nodup:(es.map Prod.fst).Nodup
 ints:∀ y ∈ es,y.1.length=n∧∀ x ∈ y.1,inI x=true
noncomputable def pairN (a b:Nat):Nat:=Nat.add (Nat.mul (Nat.add a b) (Nat.add a b)) a
noncomputable def accI (l:List Int):Nat→Nat:=List.rec (motive:=fun _=>Nat→Nat) (fun acc=>acc) (fun a _ ih acc=>ih (pairN acc a.toNat)) l
noncomputable def codeI (s:List Int):Nat:=List.rec (motive:=fun _=>Nat) 0 (fun a l _=>accI l a.toNat) s
noncomputable def ptN (n:Nat):Nat→Pt:=Nat.rec (motive:=fun _=>Nat→Pt) (fun _=>.e) (fun _ ih k=>Bool.rec (motive:=fun _=>Pt) (Bool.rec (motive:=fun _=>Pt) (.z (ih (Nat.div k 2))) (.o (ih (Nat.div k 2))) (Nat.beq (Nat.mod k 2) 1)) .e (Nat.beq k 0)) n
noncomputable def encI (s:List Int):Pt:=ptN 64 (codeI s)
structure Ix (es:List (List Int × AV)) (ix:T (List Int × AV)):Prop where
 to:∀ y ∈ es,ix.find (encI y.1)=some y
 fro:∀ k y,ix.find k=some y→y ∈ es∧k=encI y.1
theorem Ix.nil:Ix [] .l:=⟨fun _ h=>(by cases h),fun k y h=>(by rw [T.find_l] at h; cases h)⟩
def NoF (z:Nat × Nat) (n:Nat):Prop:=∀ i,i<n→¬ (z.1≤i∧i<z.2)
def BR (P:Program) (r:Rho) (k:Pt):AO→Option Obj→Prop
 | .cells vs e,x=>∃ rest:List Value,x=some (.cells (concL r vs ++ rest).toArray e (0,0))∧rest.length=r.ext k*sizeT P e
 | .map es _,x=>∃ es' c,x=some (.map (es'.map (concE r)).toArray c)∧MapS es es'∧Births es' c
 | .frz vs e,x=>∃ (rest:List Value) (z:Nat × Nat),x=some (.cells (concL r vs ++ rest).toArray e z)∧rest.length=r.ext k*sizeT P e∧NoF z (vs.length+rest.length)
 | .loop st pe,x=>x=some (.loop { r.lp k with state:=st,pending:=pe.map AE.code })
 | .chan cap buf,x=>∃ sent rcvd,x=some (.chan cap (concL r buf).toArray false sent rcvd false)
 | .mapK n ix,x=>∃ (es:List (List Int × AV)) (L:List MapEntry) (c:Nat),x=some (.map L.toArray c)∧MapI r n es L∧Ix es ix
 | .iter s _ pos,x=>x=some (.stringIter (bytesOf s) pos)
theorem BR.le {P:Program} {r s:Rho} (h:r.Le s) {k:Pt} {o:AO} {x:Option Obj} (hk:r.has k) (ho:okO r.has o) (g:BR P r k o x):BR P s k o x:=by
 cases o with
 | cells vs e =>
  obtain ⟨rest,hx,hl⟩:=g
  exact ⟨rest,by rw [concL_le h ho]; exact hx,by rw [h.ext k hk]; exact hl⟩
 | frz vs e =>
  obtain ⟨rest,z,hx,hl,hz⟩:=g
  exact ⟨rest,z,by rw [concL_le h ho]; exact hx,by rw [h.ext k hk]; exact hl,hz⟩
 | loop st pe =>
  show x=_
  rw [show x=_ from g,h.lp k hk]
 | chan cap buf =>
  obtain ⟨sent,rcvd,hx⟩:=g
  exact ⟨sent,rcvd,by rw [concL_le h ho]; exact hx⟩
 | iter s rest pos=>exact g
 | mapK n ix =>
  obtain ⟨es,L,c,hx,M,I⟩:=g
  have ho:∀ y ∈ es,okV r.has y.2:=fun y hy=>ho _ y (I.to y hy)
  refine ⟨es,L,c,hx,⟨?_,M.nodup,M.ints⟩,I⟩
  rw [M.ent]
  exact List.map_congr_left fun y hy=>by rw [conc_le h (ho y hy)]
 | map es clock =>
  obtain ⟨es',c,hx,M,Bi⟩:=g
  refine ⟨es',c,?_,M,Bi⟩
  have:es'.map (concE s)=es'.map (concE r):=List.map_congr_left fun y hy=>by
   obtain ⟨e,he,e1,e2⟩:=M.mem hy
   have:=ho e he
   rw [e1,e2] at this
   simp only [concE,conc_le h this.1,conc_le h this.2]
  rw [this]
  exact hx
structure WR (P:Program) (w0:World) (r:Rho) (h:T AO) (nx:Pt) (w:World):Prop where
 dom:∀ k,r.has k∨r.res k→k.toNat<nx.toNat
 dis:∀ k,r.has k→¬ r.res k
 below:Below w0.heap.size w0 w
 has:∀ k o,h.find k=some o→r.has k∧w0.heap.size≤r.blk k∧okO r.has o∧BR P r k o (w.heap[r.blk k]?)
 apart:∀ j k oj ok,h.find j=some oj→h.find k=some ok→r.blk j=r.blk k→j=k
structure Ev (r:Rho) (h:T AO) (w:World) (r':Rho) (h':T AO) (w':World):Prop where
 le:r.Le r'
 size:w.heap.size≤w'.heap.size
 fr:∀ b,b<w.heap.size→(∀ k o,h.find k=some o→r.blk k≠b)→w'.heap[b]?=w.heap[b]?
 img:∀ k o,h'.find k=some o→w.heap.size≤r'.blk k∨∃ j oj,h.find j=some oj∧r.blk j=r'.blk k
theorem Ev.refl (r:Rho) (h:T AO) (w:World):Ev r h w r h w :=
 ⟨.refl r,Nat.le_refl _,fun _ _ _=>rfl,fun k o hk=>.inr ⟨k,o,hk,rfl⟩⟩
theorem Ev.trans {r r1 r2:Rho} {h h1 h2:T AO} {w w1 w2:World} (a:Ev r h w r1 h1 w1) (b:Ev r1 h1 w1 r2 h2 w2):Ev r h w r2 h2 w2:=by
 refine ⟨a.le.trans b.le,Nat.le_trans a.size b.size,fun i hi hn=>?_,fun k o hk=>?_⟩
 ·rw [b.fr i (Nat.lt_of_lt_of_le hi a.size) ?_,a.fr i hi hn]
  intro k o hk e
  rcases a.img k o hk with h1 | ⟨j,oj,hj,he⟩
  ·omega
  ·exact hn j oj hj (he.trans e)
 ·rcases b.img k o hk with h1 | ⟨j,oj,hj,he⟩
  ·exact .inl (Nat.le_trans a.size h1)
  ·rcases a.img j oj hj with h1 | ⟨i,oi,hi,he'⟩
   ·exact .inl (by omega)
   ·exact .inr ⟨i,oi,hi,he'.trans he⟩
theorem WR.drew {P:Program} {w0:World} {r:Rho} {h:T AO} {nx:Pt} {w:World} (H:WR P w0 r h nx w) (n:Nat):WR P w0 r h nx { w with drawn:=n } :=
 ⟨H.dom,H.dis,⟨H.below.os,H.below.tape,H.below.output,H.below.size,H.below.block⟩,H.has,H.apart⟩
theorem Ev.drew {r:Rho} {h:T AO} {w:World} (n:Nat):Ev r h w r h { w with drawn:=n } :=
 ⟨.refl r,Nat.le_refl _,fun _ _ _=>rfl,fun k o hk=>.inr ⟨k,o,hk,rfl⟩⟩
theorem WR.del {P:Program} {w0:World} {r:Rho} {h:T AO} {nx:Pt} {w:World} (H:WR P w0 r h nx w) (k:Pt):WR P w0 r (h.del k) nx w:=by
 have key:∀ j o,(h.del k).find j=some o→h.find j=some o:=fun j o hj=>by
  by_cases e:j=k
  ·subst e; rw [T.find_del] at hj; cases hj
  ·rwa [T.find_del_ne _ _ _ e] at hj
 exact ⟨H.dom,H.dis,H.below,fun j o hj=>H.has j o (key j o hj),fun i j oi oj hi hj=>H.apart i j oi oj (key i oi hi) (key j oj hj)⟩
theorem Ev.del {r:Rho} {h:T AO} {w:World} (k:Pt):Ev r h w r (h.del k) w:=by
 refine ⟨.refl r,Nat.le_refl _,fun _ _ _=>rfl,fun j o hj=>.inr ⟨j,o,?_,rfl⟩⟩
 by_cases e:j=k
 ·subst e; rw [T.find_del] at hj; cases hj
 ·rwa [T.find_del_ne _ _ _ e] at hj
def Rho.more (r:Rho) (n:Pt) (b x:Nat):Rho :=
 ⟨fun k=>k=n∨r.has k,r.res,fun k=>if eqP k n then b else r.blk k,fun k=>if eqP k n then x else r.ext k,r.lp⟩
theorem Rho.le_more {r:Rho} {n:Pt} (h:¬ r.has n) (b x:Nat):r.Le (r.more n b x):=by
 have e:∀ k,r.has k→eqP k n=false:=fun k hk=>eqP_ne fun e=>h (e ▸ hk)
 exact ⟨fun k hk=>.inr hk,fun k hk=>hk,fun k hk=>by simp [Rho.more,e k hk],fun k hk=>by simp [Rho.more,e k hk],fun _ _=>rfl⟩
theorem Rho.more_blk (r:Rho) (n:Pt) (b x:Nat):(r.more n b x).blk n=b:=by simp [Rho.more,eqP_refl]
theorem Rho.more_ext (r:Rho) (n:Pt) (b x:Nat):(r.more n b x).ext n=x:=by simp [Rho.more,eqP_refl]
theorem WR.fresh {P:Program} {w0:World} {r:Rho} {h:T AO} {nx:Pt} {w:World} (H:WR P w0 r h nx w):¬ r.has nx:=fun e=>Nat.lt_irrefl _ (H.dom nx (.inl e))
theorem WR.unset {P:Program} {w0:World} {r:Rho} {h:T AO} {nx:Pt} {w:World} (H:WR P w0 r h nx w):¬ r.res nx:=fun e=>Nat.lt_irrefl _ (H.dom nx (.inr e))
theorem WR.lt {P:Program} {w0:World} {r:Rho} {h:T AO} {nx:Pt} {w:World} (H:WR P w0 r h nx w) {k:Pt} {o:AO} (hk:h.find k=some o):r.blk k<w.heap.size:=by
 have hb:=(H.has k o hk).2.2.2
 rcases Nat.lt_or_ge (r.blk k) w.heap.size with h1 | h1
 ·exact h1
 ·rw [Array.getElem?_eq_none h1] at hb
  cases o with
  | cells vs e=>obtain ⟨_,h2,_⟩:=hb; cases h2
  | map es c=>obtain ⟨_,_,h2,_⟩:=hb; cases h2
  | frz vs e=>obtain ⟨_,_,h2,_⟩:=hb; cases h2
  | loop st pe=>cases hb
  | chan cap buf=>obtain ⟨_,_,h2⟩:=hb; cases h2
  | mapK n es=>obtain ⟨_,_,_,h2,_⟩:=hb; cases h2
  | iter s rest pos=>cases hb
theorem WR.adopt {P:Program} {w0:World} {r:Rho} {h:T AO} {nx nx':Pt} {w:World} (H:WR P w0 r h nx w) {n:Pt} (hn:¬ r.has n) (hr:¬ r.res n) (o:AO) (b x:Nat) (ho:okO (r.more n b x).has o) (hb:BR P (r.more n b x) n o (w.heap[b]?)) (hb0:w0.heap.size≤b)
  (hap:∀ k o,h.find k=some o→r.blk k≠b) (hx:n.toNat<nx'.toNat) (hle:nx.toNat≤nx'.toNat):WR P w0 (r.more n b x) (h.set o n) nx' w:=by
 have hl:=Rho.le_more hn b x
 have hnx:(r.more n b x).blk n=b:=r.more_blk _ _ _
 have hold:∀ k o,h.find k=some o→(r.more n b x).blk k=r.blk k:=fun k o hk=>hl.blk k (H.has k o hk).1
 refine ⟨fun k hk=>?_,fun k hk=>?_,H.below,fun k o' hk=>?_,fun j k oj ok hj hk e=>?_⟩
 ·rcases hk with (rfl | hk) | hk
  ·exact hx
  ·exact Nat.lt_of_lt_of_le (H.dom k (.inl hk)) hle
  ·exact Nat.lt_of_lt_of_le (H.dom k (.inr hk)) hle
 ·rcases hk with rfl | hk
  ·exact hr
  ·exact H.dis k hk
 ·by_cases e:k=n
  ·subst e
   rw [T.find_set] at hk; cases hk
   refine ⟨.inl rfl,?_,ho,?_⟩
   ·rw [hnx]; exact hb0
   ·rw [hnx]; exact hb
  ·rw [T.find_set_ne _ _ _ _ e] at hk
   obtain ⟨h1,h2,h3,h4⟩:=H.has k o' hk
   refine ⟨.inr h1,by rw [hold k o' hk]; exact h2,h3.mono hl.has,?_⟩
   rw [hold k o' hk]
   exact h4.le hl h1 h3
 ·by_cases ej:j=n
  ·by_cases ek:k=n
   ·rw [ej,ek]
   ·exfalso
    subst ej
    rw [T.find_set_ne _ _ _ _ ek] at hk
    rw [hnx,hold k ok hk] at e
    exact hap k ok hk e.symm
  ·rw [T.find_set_ne _ _ _ _ ej] at hj
   by_cases ek:k=n
   ·exfalso
    subst ek
    rw [hnx,hold j oj hj] at e
    exact hap j oj hj e
   ·rw [T.find_set_ne _ _ _ _ ek] at hk
    rw [hold j oj hj,hold k ok hk] at e
    exact H.apart j k oj ok hj hk e
theorem WR.push {P:Program} {w0:World} {r:Rho} {h:T AO} {nx:Pt} {w:World} (H:WR P w0 r h nx w) (obj:Obj):WR P w0 r h nx { w with heap:=w.heap.push obj }:=by
 refine ⟨H.dom,H.dis,H.below.trans ⟨rfl,rfl,rfl,by simp,fun k hk=>?_⟩,fun k o hk=>?_,H.apart⟩
 ·have:=H.below.size
  rw [Array.getElem?_push]
  simp [show k≠w.heap.size by omega]
 ·obtain ⟨h1,h2,h3,h4⟩:=H.has k o hk
  refine ⟨h1,h2,h3,?_⟩
  have hl:=H.lt hk
  show BR P r k o ((w.heap.push obj)[r.blk k]?)
  rw [Array.getElem?_push]
  simp only [show ¬ r.blk k=w.heap.size by omega,if_false]
  exact h4
theorem WR.alloc {P:Program} {w0:World} {r:Rho} {h:T AO} {nx:Pt} {w:World} (H:WR P w0 r h nx w) (o:AO) (x:Nat) (obj:Obj) (ho:okO (r.more nx w.heap.size x).has o) (hb:BR P (r.more nx w.heap.size x) nx o (some obj)) :
  WR P w0 (r.more nx w.heap.size x) (h.set o nx) nx.succ { w with heap:=w.heap.push obj }∧Ev r h w (r.more nx w.heap.size x) (h.set o nx) { w with heap:=w.heap.push obj }:=by
 have hle:=Rho.le_more H.fresh w.heap.size x
 refine ⟨(H.push obj).adopt H.fresh H.unset o w.heap.size x ho (by simpa using hb) H.below.size (fun k o hk=>Nat.ne_of_lt (H.lt hk)) (by rw [Pt.toNat_succ]; omega) (by rw [Pt.toNat_succ]; omega),⟨hle,by simp,fun b hb _=>?_,fun k o' hk=>?_⟩⟩
 ·show (w.heap.push obj)[b]?=_
  rw [Array.getElem?_push]; simp [show b≠w.heap.size by omega]
 ·by_cases e:k=nx
  ·subst e; rw [r.more_blk]; exact .inl (Nat.le_refl _)
  ·rw [T.find_set_ne _ _ _ _ e] at hk
   exact .inr ⟨k,o',hk,(hle.blk k (H.has k o' hk).1).symm⟩
theorem WR.write {P:Program} {w0:World} {r:Rho} {h:T AO} {nx:Pt} {w:World} (H:WR P w0 r h nx w) {k:Pt} {o:AO} (hk:h.find k=some o) (o':AO) (obj:Obj) (ho:okO r.has o') (hb:BR P r k o' (some obj)) :
  WR P w0 r (h.set o' k) nx { w with heap:=w.heap.setIfInBounds (r.blk k) obj }∧Ev r h w r (h.set o' k) { w with heap:=w.heap.setIfInBounds (r.blk k) obj }:=by
 have hl:=H.lt hk
 obtain ⟨h1,h2,-,-⟩:=H.has k o hk
 refine ⟨⟨H.dom,H.dis,H.below.trans ⟨rfl,rfl,rfl,by simp,fun i hi=>?_⟩,?_,?_⟩,⟨.refl r,by simp,fun b hb hn=>?_,fun j oj hj=>?_⟩⟩
 ·exact Array.getElem?_setIfInBounds_ne (by omega)
 ·intro j oj hj
  by_cases e:j=k
  ·subst e
   rw [T.find_set] at hj; cases hj
   exact ⟨h1,h2,ho,by simp [hl]; exact hb⟩
  ·rw [T.find_set_ne _ _ _ _ e] at hj
   obtain ⟨g1,g2,g3,g4⟩:=H.has j oj hj
   refine ⟨g1,g2,g3,?_⟩
   show BR P r j oj ((w.heap.setIfInBounds (r.blk k) obj)[r.blk j]?)
   rw [Array.getElem?_setIfInBounds_ne (fun e'=>e (H.apart k j o oj hk hj e').symm)]
   exact g4
 ·intro i j oi oj hi hj e
  have key:∀ i oi,(h.set o' k).find i=some oi→∃ x,h.find i=some x:=fun i oi hi=>by
   by_cases e:i=k
   ·subst e; exact ⟨o,hk⟩
   ·rw [T.find_set_ne _ _ _ _ e] at hi; exact ⟨oi,hi⟩
  obtain ⟨x,hx⟩:=key i oi hi
  obtain ⟨y,hy⟩:=key j oj hj
  exact H.apart i j x y hx hy e
 ·exact Array.getElem?_setIfInBounds_ne (fun e=>hn k o hk e)
 ·by_cases e:j=k
  ·subst e; exact .inr ⟨j,o,hk,rfl⟩
  ·rw [T.find_set_ne _ _ _ _ e] at hj; exact .inr ⟨j,oj,hj,rfl⟩
def Rho.setL (r:Rho) (n:Pt) (L:Loop):Rho:=⟨r.has,r.res,r.blk,r.ext,fun k=>if eqP k n then L else r.lp k⟩
theorem Rho.le_setL {r:Rho} {n:Pt} (h:¬ r.has n) (L:Loop):r.Le (r.setL n L) :=
 ⟨fun _ h=>h,fun _ h=>h,fun _ _=>rfl,fun _ _=>rfl,fun k hk=>by simp [Rho.setL,eqP_ne (p:=k) (q:=n) fun e=>h (e ▸ hk)]⟩
theorem WR.setL {P:Program} {w0:World} {r:Rho} {h:T AO} {nx:Pt} {w:World} (H:WR P w0 r h nx w) (L:Loop):WR P w0 (r.setL nx L) h nx w :=
 ⟨H.dom,H.dis,H.below,fun k o hk=>let ⟨h1,h2,h3,h4⟩:=H.has k o hk; ⟨h1,h2,h3,h4.le (Rho.le_setL H.fresh L) h1 h3⟩,H.apart⟩
theorem Ev.setL {r:Rho} {h:T AO} {nx:Pt} {w:World} (hn:¬ r.has nx) (L:Loop):Ev r h w (r.setL nx L) h w :=
 ⟨Rho.le_setL hn L,Nat.le_refl _,fun _ _ _=>rfl,fun k o hk=>.inr ⟨k,o,hk,rfl⟩⟩
theorem WR.allocL {P:Program} {w0:World} {r:Rho} {h:T AO} {nx:Pt} {w:World} (H:WR P w0 r h nx w) (L:Loop) (st:LoopState) (pe:Option AE) :
  WR P w0 ((r.setL nx L).more nx w.heap.size 0) (h.set (.loop st pe) nx) nx.succ { w with heap:=w.heap.push (.loop { L with state:=st,pending:=pe.map AE.code }) }∧Ev r h w ((r.setL nx L).more nx w.heap.size 0) (h.set (.loop st pe) nx) { w with heap:=w.heap.push (.loop { L with state:=st,pending:=pe.map AE.code }) }:=by
 obtain ⟨h1,h2⟩:=(H.setL L).alloc (.loop st pe) 0 (.loop { L with state:=st,pending:=pe.map AE.code }) trivial (by show some _=some _; simp [Rho.more,Rho.setL,eqP_refl])
 exact ⟨h1,(Ev.setL H.fresh L).trans h2⟩
theorem WR.loopAt {P:Program} {w0:World} {r:Rho} {h:T AO} {nx:Pt} {w:World} (H:WR P w0 r h nx w) {k:Pt} {st:LoopState} {pe:Option AE} (hk:h.find k=some (.loop st pe)) :
  w.heap[r.blk k]?=some (.loop { r.lp k with state:=st,pending:=pe.map AE.code }):=(H.has k _ hk).2.2.2
theorem WR.writeL {P:Program} {w0:World} {r:Rho} {h:T AO} {nx:Pt} {w:World} (H:WR P w0 r h nx w) {k:Pt} {o:AO} (hk:h.find k=some o) (st:LoopState) (pe:Option AE) :
  WR P w0 r (h.set (.loop st pe) k) nx { w with heap:=w.heap.setIfInBounds (r.blk k) (.loop { r.lp k with state:=st,pending:=pe.map AE.code }) }∧Ev r h w r (h.set (.loop st pe) k) { w with heap:=w.heap.setIfInBounds (r.blk k) (.loop { r.lp k with state:=st,pending:=pe.map AE.code }) } :=
 H.write hk (.loop st pe) _ trivial rfl
def Marks (B:Nat) (r:Rho) (h:T AO) (w:World):List Deferred→Prop
 | []=>True
 | d :: ds=>(∃ b,d={ target:=.collected b,args:=#[] }∧B≤b∧w.heap[b]?=some (.deferred (some []))∧(∀ k o,h.find k=some o→r.blk k≠b)∧∀ d' ∈ ds,d'.target≠.collected b)∧Marks B r h w ds
theorem Marks.ev {B:Nat} {r r':Rho} {h h':T AO} {w w':World} (e:Ev r h w r' h' w'):∀ {ds:List Deferred},Marks B r h w ds→Marks B r' h' w' ds
 | [],_=>trivial
 | d :: ds,⟨⟨b,h1,h2,h3,h4,h5⟩,g⟩=>by
  have hlt:b<w.heap.size:=(Array.getElem?_eq_some_iff.1 h3).1
  refine ⟨⟨b,h1,h2,(e.fr b hlt h4).trans h3,fun k o hk eb=>?_,h5⟩,Marks.ev e g⟩
  rcases e.img k o hk with h6 | ⟨j,oj,hj,he⟩
  ·omega
  ·exact h4 j oj hj (he.trans eb)
theorem WR.other {P:Program} {w0:World} {r:Rho} {h:T AO} {nx:Pt} {w:World} (H:WR P w0 r h nx w) {b:Nat} (hb:w0.heap.size≤b) (hn:∀ k o,h.find k=some o→r.blk k≠b) (obj:Obj) :
  WR P w0 r h nx { w with heap:=w.heap.setIfInBounds b obj }:=by
 refine ⟨H.dom,H.dis,H.below.trans ⟨rfl,rfl,rfl,by simp,fun i hi=>?_⟩,fun k o hk=>?_,H.apart⟩
 ·exact Array.getElem?_setIfInBounds_ne (by omega)
 ·obtain ⟨h1,h2,h3,h4⟩:=H.has k o hk
  refine ⟨h1,h2,h3,?_⟩
  show BR P r k o ((w.heap.setIfInBounds b obj)[r.blk k]?)
  rw [Array.getElem?_setIfInBounds_ne (fun e=>hn k o hk e.symm)]
  exact h4
theorem Ev.other {r r':Rho} {h h':T AO} {w w':World} (e:Ev r h w r' h' w') {b:Nat} (hb:w.heap.size≤b) (obj:Obj):Ev r h w r' h' { w' with heap:=w'.heap.setIfInBounds b obj } :=
 ⟨e.le,by simpa using e.size,fun i hi hn=>by rw [← e.fr i hi hn]; exact Array.getElem?_setIfInBounds_ne (by omega),e.img⟩
end Go.Proofs.YtpajcdofelmaaaaGreatDoor.X
