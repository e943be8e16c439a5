/- An executor for closed calls, 2: memory: what a trie of blocks says of a world, and what loads, stores and new blocks do to it. -/
import Derived.Test.YtidggaoacldgkaaGreatDoorXGW
namespace Go.Proofs.YtidggaoacldgkaaGreatDoor.X
open Go.RowKit
inductive AE where
 | nrm
 | exit (id:Nat)
 | ret
 | goto (l:Nat)
def AE.code:AE→Code
 | .nrm=>.skip
 | .goto l=>.goto l
 | .exit id=>.exit id
 | .ret=>.ret
inductive AO where
 | cells (vs:List AV) (e:TypeId)
 | map (es:List (AV × AV × Nat)) (clock:Nat)
 | frz (vs:List AV) (e:TypeId)
 | loop (st:LoopState) (pe:Option AE)
 | chan (cap:Nat) (buf:List AV)
 | mapK (n:Nat) (ix:T (List Int × AV))
 | iter (s rest:List Nat) (pos:Nat)
def okO (n:Pt→Prop):AO→Prop
 | .cells vs _=>okL n vs
 | .map es _=>∀ x ∈ es,okV n x.1∧okV n x.2.1
 | .frz vs _=>okL n vs
 | .loop _ _=>True
 | .chan _ buf=>okL n buf
 | .mapK _ ix=>∀ k y,ix.find k=some y→okV n y.2
 | .iter s rest pos=>rest=s.drop pos∧∀ b ∈ s,b<256
theorem okO.mono {n m:Pt→Prop} (h:∀ k,n k→m k):∀ {o:AO},okO n o→okO m o
 | .cells _ _,g=>okL.mono h g
 | .map _ _,g=>fun x hx=>⟨okV.mono h (g x hx).1,okV.mono h (g x hx).2⟩
 | .frz _ _,g=>okL.mono h g
 | .loop _ _,_=>trivial
 | .chan _ _,g=>okL.mono h g
 | .mapK _ _,g=>fun k y hy=>okV.mono h (g k y hy)
 | .iter _ _ _,g=>g
def sizeT (P:Program) (t:TypeId):Nat:=((P.info? t).map (·.size)).getD 0
def concE (r:Rho) (x:AV × AV × Nat):MapEntry:=⟨conc r x.1,conc r x.2.1,x.2.2⟩
def KV (e:AV × AV × Nat):AV × AV:=(e.1,e.2.1)
structure MapS (es es':List (AV × AV × Nat)):Prop where
 perm:(es.map KV).Perm (es'.map KV)
 nodup:(es.map Prod.fst).Nodup
 str:∀ e ∈ es,∃ s,e.1=.str s
theorem MapS.mem {es es':List (AV × AV × Nat)} (M:MapS es es') {e':AV × AV × Nat} (he:e' ∈ es'):∃ e ∈ es,e.1=e'.1∧e.2.1=e'.2.1:=by
 have:=M.perm.mem_iff.2 (List.mem_map.2 ⟨e',he,rfl⟩)
 obtain ⟨e,h1,h2⟩:=List.mem_map.1 this
 simp only [KV,Prod.mk.injEq] at h2
 exact ⟨e,h1,h2.1,h2.2⟩
def Births (es:List (AV × AV × Nat)) (c:Nat):Prop:=(es.map (·.2.2)).Nodup∧∀ e ∈ es,e.2.2<c
theorem Births.nil:Births [] 0:=⟨.nil,fun _ h=>by cases h⟩
theorem MapS.nil:MapS [] []:=⟨.refl _,.nil,fun _ h=>by cases h⟩
def inI:Int→Bool
 | .ofNat m=>Nat.blt m 9223372036854775808
 | .negSucc m=>Nat.blt m 9223372036854775808
def keyI (s:List Int):Value:=.agg (s.map (Value.int .i64)).toArray
structure MapI (r:Rho) (n:Nat) (es:List (List Int × AV)) (L:List MapEntry):Prop where
 ent:L.map (fun e=>(e.key,e.val))=es.map (fun y=>(keyI y.1,conc r y.2))
 nodup:(es.map Prod.fst).Nodup
 ints:∀ y ∈ es,y.1.length=n∧∀ x ∈ y.1,inI x=true
noncomputable def pairN (a b:Nat):Nat:=Nat.add (Nat.mul (Nat.add a b) (Nat.add a b)) a
noncomputable def accI (l:List Int):Nat→Nat:=List.rec (motive:=fun _=>Nat→Nat) (fun acc=>acc) (fun a _ ih acc=>ih (pairN acc a.toNat)) l
noncomputable def codeI (s:List Int):Nat:=List.rec (motive:=fun _=>Nat) 0 (fun a l _=>accI l a.toNat) s
noncomputable def ptN (n:Nat):Nat→Pt:=Nat.rec (motive:=fun _=>Nat→Pt) (fun _=>.e) (fun _ ih k=>Bool.rec (motive:=fun _=>Pt) (Bool.rec (motive:=fun _=>Pt) (.z (ih (Nat.div k 2))) (.o (ih (Nat.div k 2))) (Nat.beq (Nat.mod k 2) 1)) .e (Nat.beq k 0)) n
noncomputable def encI (s:List Int):Pt:=ptN 64 (codeI s)
structure Ix (es:List (List Int × AV)) (ix:T (List Int × AV)):Prop where
 to:∀ y ∈ es,ix.find (encI y.1)=some y
 fro:∀ k y,ix.find k=some y→y ∈ es∧k=encI y.1
theorem Ix.nil:Ix [] .l:=⟨fun _ h=>(by cases h),fun k y h=>(by rw [T.find_l] at h; cases h)⟩
def NoF (z:Nat × Nat) (n:Nat):Prop:=∀ i,i<n→¬ (z.1≤i∧i<z.2)
def BR (P:Program) (r:Rho) (k:Pt):AO→Option Obj→Prop
 | .cells vs e,x=>∃ rest:List Value,x=some (.cells (concL r vs ++ rest).toArray e (0,0))∧rest.length=r.ext k*sizeT P e
 | .map es _,x=>∃ es' c,x=some (.map (es'.map (concE r)).toArray c)∧MapS es es'∧Births es' c
 | .frz vs e,x=>∃ (rest:List Value) (z:Nat × Nat),x=some (.cells (concL r vs ++ rest).toArray e z)∧rest.length=r.ext k*sizeT P e∧NoF z (vs.length+rest.length)
 | .loop st pe,x=>x=some (.loop { r.lp k with state:=st,pending:=pe.map AE.code })
 | .chan cap buf,x=>∃ sent rcvd,x=some (.chan cap (concL r buf).toArray false sent rcvd false)
 | .mapK n ix,x=>∃ (es:List (List Int × AV)) (L:List MapEntry) (c:Nat),x=some (.map L.toArray c)∧MapI r n es L∧Ix es ix
 | .iter s _ pos,x=>x=some (.stringIter (bytesOf s) pos)
theorem BR.le {P:Program} {r s:Rho} (h:r.Le s) {k:Pt} {o:AO} {x:Option Obj} (hk:r.has k) (ho:okO r.has o) (g:BR P r k o x):BR P s k o x:=by
 cases o with
 | cells vs e =>
  obtain ⟨rest,hx,hl⟩:=g
  exact ⟨rest,by rw [concL_le h ho]; exact hx,by rw [h.ext k hk]; exact hl⟩
 | frz vs e =>
  obtain ⟨rest,z,hx,hl,hz⟩:=g
  exact ⟨rest,z,by rw [concL_le h ho]; exact hx,by rw [h.ext k hk]; exact hl,hz⟩
 | loop st pe =>
  show x=_
  rw [show x=_ from g,h.lp k hk]
 | chan cap buf =>
  obtain ⟨sent,rcvd,hx⟩:=g
  exact ⟨sent,rcvd,by rw [concL_le h ho]; exact hx⟩
 | iter s rest pos=>exact g
 | mapK n ix =>
  obtain ⟨es,L,c,hx,M,I⟩:=g
  have ho:∀ y ∈ es,okV r.has y.2:=fun y hy=>ho _ y (I.to y hy)
  refine ⟨es,L,c,hx,⟨?_,M.nodup,M.ints⟩,I⟩
  rw [M.ent]
  exact List.map_congr_left fun y hy=>by rw [conc_le h (ho y hy)]
 | map es clock =>
  obtain ⟨es',c,hx,M,Bi⟩:=g
  refine ⟨es',c,?_,M,Bi⟩
  have:es'.map (concE s)=es'.map (concE r):=List.map_congr_left fun y hy=>by
   obtain ⟨e,he,e1,e2⟩:=M.mem hy
   have:=ho e he
   rw [e1,e2] at this
   simp only [concE,conc_le h this.1,conc_le h this.2]
  rw [this]
  exact hx
structure WR (P:Program) (w0:World) (r:Rho) (h:T AO) (nx:Pt) (w:World):Prop where
 dom:∀ k,r.has k∨r.res k→k.toNat<nx.toNat
 dis:∀ k,r.has k→¬ r.res k
 below:Below w0.heap.size w0 w
 has:∀ k o,h.find k=some o→r.has k∧w0.heap.size≤r.blk k∧okO r.has o∧BR P r k o (w.heap[r.blk k]?)
 apart:∀ j k oj ok,h.find j=some oj→h.find k=some ok→r.blk j=r.blk k→j=k
structure Ev (r:Rho) (h:T AO) (w:World) (r':Rho) (h':T AO) (w':World):Prop where
 le:r.Le r'
 size:w.heap.size≤w'.heap.size
 fr:∀ b,b<w.heap.size→(∀ k o,h.find k=some o→r.blk k≠b)→w'.heap[b]?=w.heap[b]?
 img:∀ k o,h'.find k=some o→w.heap.size≤r'.blk k∨∃ j oj,h.find j=some oj∧r.blk j=r'.blk k
theorem Ev.refl (r:Rho) (h:T AO) (w:World):Ev r h w r h w :=
 ⟨.refl r,Nat.le_refl _,fun _ _ _=>rfl,fun k o hk=>.inr ⟨k,o,hk,rfl⟩⟩
theorem Ev.trans {r r1 r2:Rho} {h h1 h2:T AO} {w w1 w2:World} (a:Ev r h w r1 h1 w1) (b:Ev r1 h1 w1 r2 h2 w2):Ev r h w r2 h2 w2:=by
 refine ⟨a.le.trans b.le,Nat.le_trans a.size b.size,fun i hi hn=>?_,fun k o hk=>?_⟩
 ·rw [b.fr i (Nat.lt_of_lt_of_le hi a.size) ?_,a.fr i hi hn]
  intro k o hk e
  rcases a.img k o hk with h1 | ⟨j,oj,hj,he⟩
  ·omega
  ·exact hn j oj hj (he.trans e)
 ·rcases b.img k o hk with h1 | ⟨j,oj,hj,he⟩
  ·exact .inl (Nat.le_trans a.size h1)
  ·rcases a.img j oj hj with h1 | ⟨i,oi,hi,he'⟩
   ·exact .inl (by omega)
   ·exact .inr ⟨i,oi,hi,he'.trans he⟩
theorem WR.drew {P:Program} {w0:World} {r:Rho} {h:T AO} {nx:Pt} {w:World} (H:WR P w0 r h nx w) (n:Nat):WR P w0 r h nx { w with drawn:=n } :=
 ⟨H.dom,H.dis,⟨H.below.os,H.below.tape,H.below.output,H.below.size,H.below.block⟩,H.has,H.apart⟩
theorem Ev.drew {r:Rho} {h:T AO} {w:World} (n:Nat):Ev r h w r h { w with drawn:=n } :=
 ⟨.refl r,Nat.le_refl _,fun _ _ _=>rfl,fun k o hk=>.inr ⟨k,o,hk,rfl⟩⟩
theorem WR.del {P:Program} {w0:World} {r:Rho} {h:T AO} {nx:Pt} {w:World} (H:WR P w0 r h nx w) (k:Pt):WR P w0 r (h.del k) nx w:=by
 have key:∀ j o,(h.del k).find j=some o→h.find j=some o:=fun j o hj=>by
  by_cases e:j=k
  ·subst e; rw [T.find_del] at hj; cases hj
  ·rwa [T.find_del_ne _ _ _ e] at hj
 exact ⟨H.dom,H.dis,H.below,fun j o hj=>H.has j o (key j o hj),fun i j oi oj hi hj=>H.apart i j oi oj (key i oi hi) (key j oj hj)⟩
theorem Ev.del {r:Rho} {h:T AO} {w:World} (k:Pt):Ev r h w r (h.del k) w:=by
 refine ⟨.refl r,Nat.le_refl _,fun _ _ _=>rfl,fun j o hj=>.inr ⟨j,o,?_,rfl⟩⟩
 by_cases e:j=k
 ·subst e; rw [T.find_del] at hj; cases hj
 ·rwa [T.find_del_ne _ _ _ e] at hj
def Rho.more (r:Rho) (n:Pt) (b x:Nat):Rho :=
 ⟨fun k=>k=n∨r.has k,r.res,fun k=>if eqP k n then b else r.blk k,fun k=>if eqP k n then x else r.ext k,r.lp⟩
theorem Rho.le_more {r:Rho} {n:Pt} (h:¬ r.has n) (b x:Nat):r.Le (r.more n b x):=by
 have e:∀ k,r.has k→eqP k n=false:=fun k hk=>eqP_ne fun e=>h (e ▸ hk)
 exact ⟨fun k hk=>.inr hk,fun k hk=>hk,fun k hk=>by simp [Rho.more,e k hk],fun k hk=>by simp [Rho.more,e k hk],fun _ _=>rfl⟩
theorem Rho.more_blk (r:Rho) (n:Pt) (b x:Nat):(r.more n b x).blk n=b:=by simp [Rho.more,eqP_refl]
theorem Rho.more_ext (r:Rho) (n:Pt) (b x:Nat):(r.more n b x).ext n=x:=by simp [Rho.more,eqP_refl]
theorem WR.fresh {P:Program} {w0:World} {r:Rho} {h:T AO} {nx:Pt} {w:World} (H:WR P w0 r h nx w):¬ r.has nx:=fun e=>Nat.lt_irrefl _ (H.dom nx (.inl e))
theorem WR.unset {P:Program} {w0:World} {r:Rho} {h:T AO} {nx:Pt} {w:World} (H:WR P w0 r h nx w):¬ r.res nx:=fun e=>Nat.lt_irrefl _ (H.dom nx (.inr e))
theorem WR.lt {P:Program} {w0:World} {r:Rho} {h:T AO} {nx:Pt} {w:World} (H:WR P w0 r h nx w) {k:Pt} {o:AO} (hk:h.find k=some o):r.blk k<w.heap.size:=by
 have hb:=(H.has k o hk).2.2.2
 rcases Nat.lt_or_ge (r.blk k) w.heap.size with h1 | h1
 ·exact h1
 ·rw [Array.getElem?_eq_none h1] at hb
  cases o with
  | cells vs e=>obtain ⟨_,h2,_⟩:=hb; cases h2
  | map es c=>obtain ⟨_,_,h2,_⟩:=hb; cases h2
  | frz vs e=>obtain ⟨_,_,h2,_⟩:=hb; cases h2
  | loop st pe=>cases hb
  | chan cap buf=>obtain ⟨_,_,h2⟩:=hb; cases h2
  | mapK n es=>obtain ⟨_,_,_,h2,_⟩:=hb; cases h2
  | iter s rest pos=>cases hb
theorem WR.adopt {P:Program} {w0:World} {r:Rho} {h:T AO} {nx nx':Pt} {w:World} (H:WR P w0 r h nx w) {n:Pt} (hn:¬ r.has n) (hr:¬ r.res n) (o:AO) (b x:Nat) (ho:okO (r.more n b x).has o) (hb:BR P (r.more n b x) n o (w.heap[b]?)) (hb0:w0.heap.size≤b)
  (hap:∀ k o,h.find k=some o→r.blk k≠b) (hx:n.toNat<nx'.toNat) (hle:nx.toNat≤nx'.toNat):WR P w0 (r.more n b x) (h.set o n) nx' w:=by
 have hl:=Rho.le_more hn b x
 have hnx:(r.more n b x).blk n=b:=r.more_blk _ _ _
 have hold:∀ k o,h.find k=some o→(r.more n b x).blk k=r.blk k:=fun k o hk=>hl.blk k (H.has k o hk).1
 refine ⟨fun k hk=>?_,fun k hk=>?_,H.below,fun k o' hk=>?_,fun j k oj ok hj hk e=>?_⟩
 ·rcases hk with (rfl | hk) | hk
  ·exact hx
  ·exact Nat.lt_of_lt_of_le (H.dom k (.inl hk)) hle
  ·exact Nat.lt_of_lt_of_le (H.dom k (.inr hk)) hle
 ·rcases hk with rfl | hk
  ·exact hr
  ·exact H.dis k hk
 ·by_cases e:k=n
  ·subst e
   rw [T.find_set] at hk; cases hk
   refine ⟨.inl rfl,?_,ho,?_⟩
   ·rw [hnx]; exact hb0
   ·rw [hnx]; exact hb
  ·rw [T.find_set_ne _ _ _ _ e] at hk
   obtain ⟨h1,h2,h3,h4⟩:=H.has k o' hk
   refine ⟨.inr h1,by rw [hold k o' hk]; exact h2,h3.mono hl.has,?_⟩
   rw [hold k o' hk]
   exact h4.le hl h1 h3
 ·by_cases ej:j=n
  ·by_cases ek:k=n
   ·rw [ej,ek]
   ·exfalso
    subst ej
    rw [T.find_set_ne _ _ _ _ ek] at hk
    rw [hnx,hold k ok hk] at e
    exact hap k ok hk e.symm
  ·rw [T.find_set_ne _ _ _ _ ej] at hj
   by_cases ek:k=n
   ·exfalso
    subst ek
    rw [hnx,hold j oj hj] at e
    exact hap j oj hj e
   ·rw [T.find_set_ne _ _ _ _ ek] at hk
    rw [hold j oj hj,hold k ok hk] at e
    exact H.apart j k oj ok hj hk e
theorem WR.push {P:Program} {w0:World} {r:Rho} {h:T AO} {nx:Pt} {w:World} (H:WR P w0 r h nx w) (obj:Obj):WR P w0 r h nx { w with heap:=w.heap.push obj }:=by
 refine ⟨H.dom,H.dis,H.below.trans ⟨rfl,rfl,rfl,by simp,fun k hk=>?_⟩,fun k o hk=>?_,H.apart⟩
 ·have:=H.below.size
  rw [Array.getElem?_push]
  simp [show k≠w.heap.size by omega]
 ·obtain ⟨h1,h2,h3,h4⟩:=H.has k o hk
  refine ⟨h1,h2,h3,?_⟩
  have hl:=H.lt hk
  show BR P r k o ((w.heap.push obj)[r.blk k]?)
  rw [Array.getElem?_push]
  simp only [show ¬ r.blk k=w.heap.size by omega,if_false]
  exact h4
theorem WR.alloc {P:Program} {w0:World} {r:Rho} {h:T AO} {nx:Pt} {w:World} (H:WR P w0 r h nx w) (o:AO) (x:Nat) (obj:Obj) (ho:okO (r.more nx w.heap.size x).has o) (hb:BR P (r.more nx w.heap.size x) nx o (some obj)) :
  WR P w0 (r.more nx w.heap.size x) (h.set o nx) nx.succ { w with heap:=w.heap.push obj }∧Ev r h w (r.more nx w.heap.size x) (h.set o nx) { w with heap:=w.heap.push obj }:=by
 have hle:=Rho.le_more H.fresh w.heap.size x
 refine ⟨(H.push obj).adopt H.fresh H.unset o w.heap.size x ho (by simpa using hb) H.below.size (fun k o hk=>Nat.ne_of_lt (H.lt hk)) (by rw [Pt.toNat_succ]; omega) (by rw [Pt.toNat_succ]; omega),⟨hle,by simp,fun b hb _=>?_,fun k o' hk=>?_⟩⟩
 ·show (w.heap.push obj)[b]?=_
  rw [Array.getElem?_push]; simp [show b≠w.heap.size by omega]
 ·by_cases e:k=nx
  ·subst e; rw [r.more_blk]; exact .inl (Nat.le_refl _)
  ·rw [T.find_set_ne _ _ _ _ e] at hk
   exact .inr ⟨k,o',hk,(hle.blk k (H.has k o' hk).1).symm⟩
theorem WR.write {P:Program} {w0:World} {r:Rho} {h:T AO} {nx:Pt} {w:World} (H:WR P w0 r h nx w) {k:Pt} {o:AO} (hk:h.find k=some o) (o':AO) (obj:Obj) (ho:okO r.has o') (hb:BR P r k o' (some obj)) :
  WR P w0 r (h.set o' k) nx { w with heap:=w.heap.setIfInBounds (r.blk k) obj }∧Ev r h w r (h.set o' k) { w with heap:=w.heap.setIfInBounds (r.blk k) obj }:=by
 have hl:=H.lt hk
 obtain ⟨h1,h2,-,-⟩:=H.has k o hk
 refine ⟨⟨H.dom,H.dis,H.below.trans ⟨rfl,rfl,rfl,by simp,fun i hi=>?_⟩,?_,?_⟩,⟨.refl r,by simp,fun b hb hn=>?_,fun j oj hj=>?_⟩⟩
 ·exact Array.getElem?_setIfInBounds_ne (by omega)
 ·intro j oj hj
  by_cases e:j=k
  ·subst e
   rw [T.find_set] at hj; cases hj
   exact ⟨h1,h2,ho,by simp [hl]; exact hb⟩
  ·rw [T.find_set_ne _ _ _ _ e] at hj
   obtain ⟨g1,g2,g3,g4⟩:=H.has j oj hj
   refine ⟨g1,g2,g3,?_⟩
   show BR P r j oj ((w.heap.setIfInBounds (r.blk k) obj)[r.blk j]?)
   rw [Array.getElem?_setIfInBounds_ne (fun e'=>e (H.apart k j o oj hk hj e').symm)]
   exact g4
 ·intro i j oi oj hi hj e
  have key:∀ i oi,(h.set o' k).find i=some oi→∃ x,h.find i=some x:=fun i oi hi=>by
   by_cases e:i=k
   ·subst e; exact ⟨o,hk⟩
   ·rw [T.find_set_ne _ _ _ _ e] at hi; exact ⟨oi,hi⟩
  obtain ⟨x,hx⟩:=key i oi hi
  obtain ⟨y,hy⟩:=key j oj hj
  exact H.apart i j x y hx hy e
 ·exact Array.getElem?_setIfInBounds_ne (fun e=>hn k o hk e)
 ·by_cases e:j=k
  ·subst e; exact .inr ⟨j,o,hk,rfl⟩
  ·rw [T.find_set_ne _ _ _ _ e] at hj; exact .inr ⟨j,oj,hj,rfl⟩
def Rho.setL (r:Rho) (n:Pt) (L:Loop):Rho:=⟨r.has,r.res,r.blk,r.ext,fun k=>if eqP k n then L else r.lp k⟩
theorem Rho.le_setL {r:Rho} {n:Pt} (h:¬ r.has n) (L:Loop):r.Le (r.setL n L) :=
 ⟨fun _ h=>h,fun _ h=>h,fun _ _=>rfl,fun _ _=>rfl,fun k hk=>by simp [Rho.setL,eqP_ne (p:=k) (q:=n) fun e=>h (e ▸ hk)]⟩
theorem WR.setL {P:Program} {w0:World} {r:Rho} {h:T AO} {nx:Pt} {w:World} (H:WR P w0 r h nx w) (L:Loop):WR P w0 (r.setL nx L) h nx w :=
 ⟨H.dom,H.dis,H.below,fun k o hk=>let ⟨h1,h2,h3,h4⟩:=H.has k o hk; ⟨h1,h2,h3,h4.le (Rho.le_setL H.fresh L) h1 h3⟩,H.apart⟩
theorem Ev.setL {r:Rho} {h:T AO} {nx:Pt} {w:World} (hn:¬ r.has nx) (L:Loop):Ev r h w (r.setL nx L) h w :=
 ⟨Rho.le_setL hn L,Nat.le_refl _,fun _ _ _=>rfl,fun k o hk=>.inr ⟨k,o,hk,rfl⟩⟩
theorem WR.allocL {P:Program} {w0:World} {r:Rho} {h:T AO} {nx:Pt} {w:World} (H:WR P w0 r h nx w) (L:Loop) (st:LoopState) (pe:Option AE) :
  WR P w0 ((r.setL nx L).more nx w.heap.size 0) (h.set (.loop st pe) nx) nx.succ { w with heap:=w.heap.push (.loop { L with state:=st,pending:=pe.map AE.code }) }∧Ev r h w ((r.setL nx L).more nx w.heap.size 0) (h.set (.loop st pe) nx) { w with heap:=w.heap.push (.loop { L with state:=st,pending:=pe.map AE.code }) }:=by
 obtain ⟨h1,h2⟩:=(H.setL L).alloc (.loop st pe) 0 (.loop { L with state:=st,pending:=pe.map AE.code }) trivial (by show some _=some _; simp [Rho.more,Rho.setL,eqP_refl])
 exact ⟨h1,(Ev.setL H.fresh L).trans h2⟩
theorem WR.loopAt {P:Program} {w0:World} {r:Rho} {h:T AO} {nx:Pt} {w:World} (H:WR P w0 r h nx w) {k:Pt} {st:LoopState} {pe:Option AE} (hk:h.find k=some (.loop st pe)) :
  w.heap[r.blk k]?=some (.loop { r.lp k with state:=st,pending:=pe.map AE.code }):=(H.has k _ hk).2.2.2
theorem WR.writeL {P:Program} {w0:World} {r:Rho} {h:T AO} {nx:Pt} {w:World} (H:WR P w0 r h nx w) {k:Pt} {o:AO} (hk:h.find k=some o) (st:LoopState) (pe:Option AE) :
  WR P w0 r (h.set (.loop st pe) k) nx { w with heap:=w.heap.setIfInBounds (r.blk k) (.loop { r.lp k with state:=st,pending:=pe.map AE.code }) }∧Ev r h w r (h.set (.loop st pe) k) { w with heap:=w.heap.setIfInBounds (r.blk k) (.loop { r.lp k with state:=st,pending:=pe.map AE.code }) } :=
 H.write hk (.loop st pe) _ trivial rfl
def Marks (B:Nat) (r:Rho) (h:T AO) (w:World):List Deferred→Prop
 | []=>True
 | d :: ds=>(∃ b,d={ target:=.collected b,args:=#[] }∧B≤b∧w.heap[b]?=some (.deferred (some []))∧(∀ k o,h.find k=some o→r.blk k≠b)∧∀ d' ∈ ds,d'.target≠.collected b)∧Marks B r h w ds
theorem Marks.ev {B:Nat} {r r':Rho} {h h':T AO} {w w':World} (e:Ev r h w r' h' w'):∀ {ds:List Deferred},Marks B r h w ds→Marks B r' h' w' ds
 | [],_=>trivial
 | d :: ds,⟨⟨b,h1,h2,h3,h4,h5⟩,g⟩=>by
  have hlt:b<w.heap.size:=(Array.getElem?_eq_some_iff.1 h3).1
  refine ⟨⟨b,h1,h2,(e.fr b hlt h4).trans h3,fun k o hk eb=>?_,h5⟩,Marks.ev e g⟩
  rcases e.img k o hk with h6 | ⟨j,oj,hj,he⟩
  ·omega
  ·exact h4 j oj hj (he.trans eb)
theorem WR.other {P:Program} {w0:World} {r:Rho} {h:T AO} {nx:Pt} {w:World} (H:WR P w0 r h nx w) {b:Nat} (hb:w0.heap.size≤b) (hn:∀ k o,h.find k=some o→r.blk k≠b) (obj:Obj) :
  WR P w0 r h nx { w with heap:=w.heap.setIfInBounds b obj }:=by
 refine ⟨H.dom,H.dis,H.below.trans ⟨rfl,rfl,rfl,by simp,fun i hi=>?_⟩,fun k o hk=>?_,H.apart⟩
 ·exact Array.getElem?_setIfInBounds_ne (by omega)
 ·obtain ⟨h1,h2,h3,h4⟩:=H.has k o hk
  refine ⟨h1,h2,h3,?_⟩
  show BR P r k o ((w.heap.setIfInBounds b obj)[r.blk k]?)
  rw [Array.getElem?_setIfInBounds_ne (fun e=>hn k o hk e.symm)]
  exact h4
theorem Ev.other {r r':Rho} {h h':T AO} {w w':World} (e:Ev r h w r' h' w') {b:Nat} (hb:w.heap.size≤b) (obj:Obj):Ev r h w r' h' { w' with heap:=w'.heap.setIfInBounds b obj } :=
 ⟨e.le,by simpa using e.size,fun i hi hn=>by rw [← e.fr i hi hn]; exact Array.getElem?_setIfInBounds_ne (by omega),e.img⟩
end Go.Proofs.YtidggaoacldgkaaGreatDoor.X

/- An executor for closed calls, 3: what loads, stores and the making of blocks come to in a world that a trie tells. -/
namespace Go.Proofs.YtidggaoacldgkaaGreatDoor.X
open Go.RowKit
theorem add_none (b o n:Nat):(⟨b,o,none⟩:Addr).add n=⟨b,o+n,none⟩:=by
 unfold Addr.add
 split
 ·next h=>subst h; rfl
 ·rfl
theorem run_bind {α β:Type} (P:Program) (s:Sem α) (f:α→Sem β) (w:World) :
  (s >>= f).run P w=match s.run P w with
   | .ok a w'=>(f a).run P w'
   | .halt h w'=>.halt h w':=by
 show (s.bind f).run P w=_
 induction s generalizing w with
 | pure a=>rfl
 | load m a k ih =>
  simp only [Sem.bind,Sem.run]
  cases w.cell? a with
  | some v=>exact ih v w
  | none =>
   simp only []
   cases w.farLoad P a (m == .atomic) with
   | ok r=>exact ih r.1 w
   | error h=>rfl
 | store m a v k ih =>
  cases v <;> simp only [Sem.bind,Sem.run] <;> (
   cases w.cell? a with
   | some v =>
    simp only []
    split
    ·rfl
    ·exact ih _
   | none =>
    simp only []
    split
    ·exact ih _
    ·rfl)
 | new o k ih=>exact ih _ _
 | shape r k ih=>exact ih _ _
 | freeze a n k ih=>exact ih _
 | frozen a k ih=>exact ih _ _
 | getObj r k ih =>
  simp only [Sem.bind,Sem.run]
  split
  ·rfl
  ·exact ih _ _
  ·rfl
 | setObj r o k ih =>
  simp only [Sem.bind,Sem.run]
  split
  ·rfl
  ·exact ih _
  ·rfl
 | choose q k ih =>
  simp only [Sem.bind,Sem.run]
  split
  ·exact ih _ _
  ·exact ih _ _
 | sys c k ih=>exact ih _ _
 | program k ih=>exact ih _ _
 | mark m k ih=>exact ih _
 | halt h=>rfl
theorem run_pure {α:Type} (P:Program) (a:α) (w:World):(pure a:Sem α).run P w=.ok a w:=rfl
theorem run_ok_bind {α β:Type} {P:Program} {s:Sem α} {f:α→Sem β} {w w':World} {a:α} (h:s.run P w=.ok a w'):(s >>= f).run P w=(f a).run P w':=by
 rw [run_bind,h]
theorem WR.block {P:Program} {w0:World} {r:Rho} {h:T AO} {nx:Pt} {w:World} (H:WR P w0 r h nx w) {k:Pt} {vs:List AV} {e:TypeId} (hk:h.find k=some (.cells vs e)) :
  ∃ rest:List Value,w.heap[r.blk k]?=some (.cells (concL r vs ++ rest).toArray e (0,0))∧rest.length=r.ext k*sizeT P e:=(H.has k _ hk).2.2.2
theorem cell_of {w:World} {b:Nat} {c:List Value} {e:TypeId} {z:Nat × Nat} (hb:w.heap[b]?=some (.cells c.toArray e z)) (i:Nat):w.cell? ⟨b,i,none⟩=c[i]?:=by
 simp [World.cell?,hb]
theorem run_load {P:Program} {w:World} {a:Addr} {v:Value} (h:w.cell? a=some v):(load a).run P w=.ok v w:=by
 simp [load,Sem.run,h]
theorem run_loadCellsFrom {P:Program} {w:World} {b:Nat} {c:List Value} {e:TypeId} {z:Nat × Nat} (hb:w.heap[b]?=some (.cells c.toArray e z)) (o:Nat) :
  ∀ (n i:Nat) (acc:Array Value),o+i+n≤c.length→(loadCellsFrom ⟨b,o,none⟩ i n acc).run P w=.ok (acc ++ ((c.drop (o+i)).take n).toArray) w
 | 0,i,acc,_=>by simp [loadCellsFrom]
 | n+1,i,acc,h=>by
  have hlt:o+i<c.length:=by omega
  have hc:w.cell? ((⟨b,o,none⟩:Addr).add i)=some c[o+i]:=by
   rw [add_none,cell_of hb]; simp [hlt]
  rw [loadCellsFrom,run_ok_bind (run_load hc),run_loadCellsFrom hb o n (i+1) _ (by omega)]
  congr 1
  rw [List.drop_eq_getElem_cons hlt]
  simp [List.take_succ_cons,Nat.add_assoc]
theorem run_loadCells {P:Program} {w:World} {b:Nat} {c:List Value} {e:TypeId} {z:Nat × Nat} (hb:w.heap[b]?=some (.cells c.toArray e z)) (o n:Nat) (h:o+n≤c.length) :
  (loadCells ⟨b,o,none⟩ n).run P w=.ok ((c.drop o).take n).toArray w:=by
 rw [loadCells,run_loadCellsFrom hb o n 0 #[] (by omega)]; simp
def flat:AV→Prop
 | .agg _=>False
 | .tup _=>False
 | _=>True
def flatL:List AV→Prop
 | []=>True
 | v :: vs=>flat v∧flatL vs
theorem run_store {P:Program} {w:World} {b i:Nat} {c:List Value} {e:TypeId} {r:Rho} {v:AV} (hv:flat v) (hb:w.heap[b]?=some (.cells c.toArray e (0,0))) (hi:i<c.length) :
  (store ⟨b,i,none⟩ (conc r v)).run P w=.ok () { w with heap:=w.heap.setIfInBounds b (.cells (c.set i (conc r v)).toArray e (0,0)) }:=by
 have hc:w.cell? ⟨b,i,none⟩=some c[i]:=by rw [cell_of hb]; simp [hi]
 have hf:w.frozen? ⟨b,i,none⟩=false:=by simp [World.frozen?,hb]
 have hs:w.setCell ⟨b,i,none⟩ (conc r v)={ w with heap:=w.heap.setIfInBounds b (.cells (c.set i (conc r v)).toArray e (0,0)) }:=by
  have hlt:b<w.heap.size:=(Array.getElem?_eq_some_iff.1 hb).1
  have hg:w.heap[b]=.cells c.toArray e (0,0):=(Array.getElem?_eq_some_iff.1 hb).2
  unfold World.setCell
  congr 1
  apply Array.ext_getElem?
  intro j
  rw [Array.getElem?_modify]
  by_cases hj:j=b
  ·subst hj; simp only [if_true,Array.getElem?_eq_getElem hlt,hg,Array.getElem?_setIfInBounds_self_of_lt hlt]; simp
  ·rw [Array.getElem?_setIfInBounds_ne (fun h=>hj h.symm)]; simp [show ¬ b=j from fun h=>hj h.symm]
 cases v <;> first
  | exact (show False from hv).elim
  | (simp only [conc] at hs ⊢; simp only [store,Sem.run,hc,hf,hs,Bool.false_eq_true,if_false])
def putL {α:Type}:List α→Nat→List α→List α
 | l,_,[]=>l
 | l,o,x :: xs=>putL (l.set o x) (o+1) xs
theorem putL_length {α:Type}:∀ (xs l:List α) (o:Nat),(putL l o xs).length=l.length
 | [],_,_=>rfl
 | _ :: xs,l,o=>by rw [putL,putL_length xs]; simp
theorem run_storeCells {P:Program} {b:Nat} {e:TypeId} {r:Rho} (o:Nat) :
  ∀ (xs:List AV) (w:World) (c:List Value) (i:Nat),flatL xs→w.heap[b]?=some (.cells c.toArray e (0,0))→o+i+xs.length≤c.length →
   (storeCells ⟨b,o,none⟩ (concL r xs) i).run P w=.ok () { w with heap:=w.heap.setIfInBounds b (.cells (putL c (o+i) (concL r xs)).toArray e (0,0)) }
 | [],w,c,i,_,hb,_=>by
  have hlt:b<w.heap.size:=(Array.getElem?_eq_some_iff.1 hb).1
  have hg:w.heap[b]=.cells c.toArray e (0,0):=(Array.getElem?_eq_some_iff.1 hb).2
  simp only [concL,storeCells,run_pure,putL]
  congr 1
  rw [← hg]
  simp [Array.setIfInBounds,hlt]
 | x :: xs,w,c,i,hf,hb,hl=>by
  have hlt:b<w.heap.size:=(Array.getElem?_eq_some_iff.1 hb).1
  simp only [List.length_cons] at hl
  simp only [concL,storeCells]
  rw [add_none,run_ok_bind (run_store hf.1 hb (by omega))]
  rw [run_storeCells (e:=e) o xs _ (c.set (o+i) (conc r x)) (i+1) hf.2 (by simp [hlt]) (by simp; omega)]
  congr 1
  simp [putL,Nat.add_assoc]
theorem run_storeZ {z:Nat × Nat} {P:Program} {w:World} {b i:Nat} {c:List Value} {e:TypeId} {r:Rho} {v:AV} (hv:flat v) (hb:w.heap[b]?=some (.cells c.toArray e z)) (hi:i<c.length) (hz:¬ (z.1≤i∧i<z.2)) :
  (store ⟨b,i,none⟩ (conc r v)).run P w=.ok () { w with heap:=w.heap.setIfInBounds b (.cells (c.set i (conc r v)).toArray e z) }:=by
 have hc:w.cell? ⟨b,i,none⟩=some c[i]:=by rw [cell_of hb]; simp [hi]
 have hf:w.frozen? ⟨b,i,none⟩=false:=by simp only [World.frozen?,hb]; simpa using hz
 have hs:w.setCell ⟨b,i,none⟩ (conc r v)={ w with heap:=w.heap.setIfInBounds b (.cells (c.set i (conc r v)).toArray e z) }:=by
  have hlt:b<w.heap.size:=(Array.getElem?_eq_some_iff.1 hb).1
  have hg:w.heap[b]=.cells c.toArray e z:=(Array.getElem?_eq_some_iff.1 hb).2
  unfold World.setCell
  congr 1
  apply Array.ext_getElem?
  intro j
  rw [Array.getElem?_modify]
  by_cases hj:j=b
  ·subst hj; simp only [if_true,Array.getElem?_eq_getElem hlt,hg,Array.getElem?_setIfInBounds_self_of_lt hlt]; simp
  ·rw [Array.getElem?_setIfInBounds_ne (fun h=>hj h.symm)]; simp [show ¬ b=j from fun h=>hj h.symm]
 cases v <;> first
  | exact (show False from hv).elim
  | (simp only [conc] at hs ⊢; simp only [store,Sem.run,hc,hf,hs,Bool.false_eq_true,if_false])
theorem run_storeCellsZ {z:Nat × Nat} {P:Program} {b:Nat} {e:TypeId} {r:Rho} (o:Nat) :
  ∀ (xs:List AV) (w:World) (c:List Value) (i:Nat),flatL xs→w.heap[b]?=some (.cells c.toArray e z)→o+i+xs.length≤c.length→NoF z c.length →
   (storeCells ⟨b,o,none⟩ (concL r xs) i).run P w=.ok () { w with heap:=w.heap.setIfInBounds b (.cells (putL c (o+i) (concL r xs)).toArray e z) }
 | [],w,c,i,_,hb,_,_=>by
  have hlt:b<w.heap.size:=(Array.getElem?_eq_some_iff.1 hb).1
  have hg:w.heap[b]=.cells c.toArray e z:=(Array.getElem?_eq_some_iff.1 hb).2
  simp only [concL,storeCells,run_pure,putL]
  congr 1
  rw [← hg]
  simp [Array.setIfInBounds,hlt]
 | x :: xs,w,c,i,hf,hb,hl,hz=>by
  have hlt:b<w.heap.size:=(Array.getElem?_eq_some_iff.1 hb).1
  simp only [List.length_cons] at hl
  simp only [concL,storeCells]
  rw [add_none,run_ok_bind (run_storeZ hf.1 hb (by omega) (hz _ (by omega)))]
  rw [run_storeCellsZ (z:=z) (e:=e) o xs _ (c.set (o+i) (conc r x)) (i+1) hf.2 (by simp [hlt]) (by simp; omega) (by rw [List.length_set]; exact hz)]
  congr 1
  simp [putL,Nat.add_assoc]
theorem concL_set (r:Rho):∀ (l:List AV) (o:Nat) (x:AV),concL r (l.set o x)=(concL r l).set o (conc r x):=by
 intro l o x; simp only [concL_map,List.map_set]
theorem concL_put (r:Rho):∀ (xs l:List AV) (o:Nat),concL r (putL l o xs)=putL (concL r l) o (concL r xs)
 | [],_,_=>by simp only [putL,concL]
 | x :: xs,l,o=>by simp only [putL,concL]; rw [concL_put r xs,concL_set]
theorem putL_append {α:Type}:∀ (xs a b:List α) (o:Nat),o+xs.length≤a.length→putL (a ++ b) o xs=putL a o xs ++ b
 | [],_,_,_,_=>rfl
 | x :: xs,a,b,o,h=>by
  simp only [List.length_cons] at h
  simp only [putL]
  rw [List.set_append_left _ _ (by omega),putL_append xs _ b (o+1) (by simp; omega)]
theorem okL_set {n:Pt→Prop} {l:List AV} {i:Nat} {x:AV} (h:okL n l) (hx:okV n x):okL n (l.set i x):=by
 rw [okL_iff] at h ⊢
 intro v hv
 rcases List.mem_or_eq_of_mem_set hv with h1 | h1
 ·exact h v h1
 ·exact h1 ▸ hx
theorem okL_put {n:Pt→Prop}:∀ {xs l:List AV} {o:Nat},okL n l→okL n xs→okL n (putL l o xs)
 | [],_,_,h,_=>h
 | x :: xs,l,o,h,g=>by rw [putL]; exact okL_put (okL_set h g.1) g.2
theorem okL_drop {n:Pt→Prop} {l:List AV} (h:okL n l) (i:Nat):okL n (l.drop i):=by
 rw [okL_iff] at h ⊢; exact fun v hv=>h v (List.mem_of_mem_drop hv)
theorem okL_take {n:Pt→Prop} {l:List AV} (h:okL n l) (i:Nat):okL n (l.take i):=by
 rw [okL_iff] at h ⊢; exact fun v hv=>h v (List.mem_of_mem_take hv)
theorem WR.loadCells {P:Program} {w0:World} {r:Rho} {h:T AO} {nx:Pt} {w:World} (H:WR P w0 r h nx w) {k:Pt} {vs:List AV} {e:TypeId} (hk:h.find k=some (.cells vs e)) (o n:Nat) (hl:o+n≤vs.length) :
  (Go.loadCells ⟨r.blk k,o,none⟩ n).run P w=.ok (concL r ((vs.drop o).take n)).toArray w:=by
 obtain ⟨rest,hb,-⟩:=H.block hk
 rw [run_loadCells hb o n (by simp [concL_length]; omega)]
 congr 2
 rw [List.drop_append_of_le_length (by rw [concL_length]; omega),List.take_append_of_le_length (by simp [concL_length]; omega)]
 simp only [concL_map,List.map_take,List.map_drop]
theorem WR.loadCellsF {P:Program} {w0:World} {r:Rho} {h:T AO} {nx:Pt} {w:World} (H:WR P w0 r h nx w) {k:Pt} {vs:List AV} {e:TypeId} (hk:h.find k=some (.frz vs e)) (o n:Nat) (hl:o+n≤vs.length) :
  (Go.loadCells ⟨r.blk k,o,none⟩ n).run P w=.ok (concL r ((vs.drop o).take n)).toArray w:=by
 obtain ⟨rest,z,hb,-⟩:=(H.has k _ hk).2.2.2
 rw [run_loadCells hb o n (by simp [concL_length]; omega)]
 congr 2
 rw [List.drop_append_of_le_length (by rw [concL_length]; omega),List.take_append_of_le_length (by simp [concL_length]; omega)]
 simp only [concL_map,List.map_take,List.map_drop]
theorem WR.loadOne {P:Program} {w0:World} {r:Rho} {h:T AO} {nx:Pt} {w:World} (H:WR P w0 r h nx w) {k:Pt} {vs:List AV} {e:TypeId} (hk:h.find k=some (.cells vs e)) {o:Nat} {v:AV} (hv:vs[o]?=some v) :
  (Go.load ⟨r.blk k,o,none⟩).run P w=.ok (conc r v) w:=by
 obtain ⟨rest,hb,-⟩:=H.block hk
 refine run_load ?_
 rw [cell_of hb]
 have hlt:o<vs.length:=(List.getElem?_eq_some_iff.1 hv).1
 rw [List.getElem?_append_left (by rw [concL_length]; exact hlt),concL_get,hv]; rfl
theorem WR.storeCells {P:Program} {w0:World} {r:Rho} {h:T AO} {nx:Pt} {w:World} (H:WR P w0 r h nx w) {k:Pt} {vs:List AV} {e:TypeId} (hk:h.find k=some (.cells vs e)) (o:Nat) (xs:List AV) (hf:flatL xs) (hx:okL r.has xs) (hl:o+xs.length≤vs.length) :
  ∃ w',(Go.storeCells ⟨r.blk k,o,none⟩ (concL r xs)).run P w=.ok () w'∧WR P w0 r (h.set (.cells (putL vs o xs) e) k) nx w'∧Ev r h w r (h.set (.cells (putL vs o xs) e) k) w':=by
 obtain ⟨rest,hb,hr⟩:=H.block hk
 refine ⟨_,run_storeCells o xs w _ 0 hf hb (by simp [concL_length]; omega),?_⟩
 refine H.write hk _ _ (okL_put (H.has k _ hk).2.2.1 hx) ⟨rest,?_,hr⟩
 rw [concL_put,Nat.add_zero,putL_append _ _ _ _ (by simp [concL_length]; omega)]
theorem run_new {α:Type} {P:Program} (o:Obj) (f:Nat→Sem α) (w:World):(newObj o >>= f).run P w=(f w.heap.size).run P { w with heap:=w.heap.push o }:=rfl
theorem WR.newRow {P:Program} {w0:World} {r:Rho} {h:T AO} {nx:Pt} {w:World} (H:WR P w0 r h nx w) (vs:List AV) (e:TypeId) (hv:okL r.has vs) :
  ∃ w',(Go.newRow e (concL r vs).toArray).run P w=.ok ⟨(r.more nx w.heap.size 0).blk nx,0,none⟩ w'∧WR P w0 (r.more nx w.heap.size 0) (h.set (.cells vs e) nx) nx.succ w'∧Ev r h w (r.more nx w.heap.size 0) (h.set (.cells vs e) nx) w':=by
 have hle:=Rho.le_more H.fresh w.heap.size 0
 have hok:okO (r.more nx w.heap.size 0).has (.cells vs e):=okL.mono hle.has hv
 refine ⟨_,?_,H.alloc (.cells vs e) 0 (.cells (concL r vs).toArray e (0,0)) hok ⟨[],?_,?_⟩⟩
 ·rw [r.more_blk]; rfl
 ·rw [concL_le hle hv]; simp
 ·rw [r.more_ext]; simp
end Go.Proofs.YtidggaoacldgkaaGreatDoor.X
