/- The contracts of the reader of package bytes, where what is read was written: several, level. -/
import Derived.Test.YtgfgpjcnfnopnaaGreatEH
import Derived.Test.YtgfgpjcnfnopnaaGreatKE
import Derived.Test.YtgfgpjcnfnopnaaGreatFE
import Derived.Recover
import Derived.Defers
namespace Go.Proofs.YtgfgpjcnfnopnaaGreat
open Go.RowKit Go.Sort Go.Lib
def oldB (w:World) (k:Nat):Bool:=decide (k<w.heap.size)
theorem oldB_no {w:World}{k:Nat}(h:oldB w k=false):w.heap.size≤k:=by unfold oldB at h;simpa using h
theorem oldB_new {w:World}{k:Nat}(h:w.heap.size≤k):oldB w k=false:=by unfold oldB;simpa using h
theorem owns_move {w w':World}{B n size:Nat}{e:TypeId}{v:Value}{xs:List Value}(h:w.ownsRow B e size v n xs) (hk:∀k,v.ownBlock=some k→w'.heap[k]?=w.heap[k]?):w'.ownsRow B e size v n xs:=by
 refine ⟨h.1,?_⟩
 rcases h.2 with h2 | ⟨g,cap,cur,hv,hg,hh,r⟩
 ·exact Or.inl h2
 ·exact Or.inr ⟨g,cap,cur,hv,hg,(hk g (by rw [hv];rfl)).trans hh,r⟩
theorem TF.leaf {w:World}{P:Nat→Bool}(f n:Int) (h:Bool) (nm:ByteArray):TF w P (.agg #[.int .i64 f,.int .i64 n,.bool h,.string nm,.slice none 0 0,.slice none 0 0]) (.mk f n h nm [] []) :=
 TV.mk (kb:=0) (ko:=0) (ls:=[]) (ks:=[]) (Or.inl rfl) (fun _=>rfl) (Nat.le_refl _) (by omega) (fun _=>rfl) (Nat.le_refl _) (by omega) (fun h=>absurd rfl h) (fun i t hi=>by simp at hi)
def okTm (t:Tm):Prop:=smT 1000000 t∧checkT t=0
structure RowX {α:Type} (e:TypeId) (m:Nat) (E:World→(Nat→Bool)→List Value→α→Prop) (w:World) (B:Nat) (P:Nat→Bool) (a:Option Addr) (cap:Nat) (ts:List α):Prop where
 go:∃xss:List (List Value),xss.length=ts.length∧(∀xs∈xss,xs.length=m)∧w.ownsRow B e m (.slice a ts.length cap) ts.length xss.flatten∧∀(j:Nat) t xs,ts[j]?=some t→xss[j]?=some xs→E w (fun k=>P k||ownB a k) xs t
def Moves {α:Type}(E:World→(Nat→Bool)→List Value→α→Prop):Prop:=∀w w' P Q xs t,E w P xs t→w.heap.size≤w'.heap.size→(∀k,k<w.heap.size→P k=false→Q k=false∧w'.heap[k]?=w.heap[k]?)→E w' Q xs t
theorem RowX.nil {α:Type}(e:TypeId) (m:Nat) (E:World→(Nat→Bool)→List Value→α→Prop) (w:World) (B:Nat) (P:Nat→Bool):RowX e m E w B P none 0 []:=⟨[],rfl,(fun xs h=>by cases h),World.ownsRow_nil _ _ _ _,fun j t xs h=>by simp at h⟩
theorem ownsX_lt {w:World}{B n m cap k:Nat}{e:TypeId}{a:Option Addr}{xs:List Value}(h:w.ownsRow B e m (.slice a n cap) n xs) (hk:ownB a k=true):B≤k∧k<w.heap.size:=by
 cases a with
 | none=>simp [ownB] at hk
 | some ad=>simp only [ownB,beq_iff_eq] at hk;exact World.ownsRow.lt h k (by rw [←hk];rfl)
theorem RowX.move {α:Type}{e:TypeId}{m:Nat}{E:World→(Nat→Bool)→List Value→α→Prop}(hE:Moves E) {w w':World}{B cap:Nat}{P:Nat→Bool}{a:Option Addr}{ts:List α}(h:RowX e m E w B P a cap ts) (hB:∀k,B≤k→P k=false) (hs:w.heap.size≤w'.heap.size) (hk:∀k,k<w.heap.size→P k=false→w'.heap[k]?=w.heap[k]?):RowX e m E w' B P a cap ts:=by
 obtain ⟨xss,h1,h2,hown,hkv⟩:=h.go
 refine ⟨xss,h1,h2,owns_move hown fun g hg=>?_,fun j t xs hj hx=>hE _ _ _ _ _ _ (hkv j t xs hj hx) hs fun k h3 h4=>⟨h4,hk k h3 ?_⟩⟩
 ·obtain ⟨h3,h4⟩:=World.ownsRow.lt hown g hg
  exact hk g h4 (hB g h3)
 ·rw [Bool.or_eq_false_iff] at h4;exact h4.1
theorem RowX.snoc {α:Type}{e:TypeId}{m:Nat}{E:World→(Nat→Bool)→List Value→α→Prop}(hE:Moves E) {w w':World}{B cap cap' g:Nat}{P:Nat→Bool}{a:Option Addr}{ts:List α}{xss:List (List Value)}{xs:List Value}{t:α}(h1:xss.length=ts.length) (h2:∀xs∈xss,xs.length=m) (hkv:∀(j:Nat) t xs,ts[j]?=some t→xss[j]?=some xs→E w (fun k=>P k||ownB a k) xs t)
  (hxl:xs.length=m) (hown:w'.ownsRow B e m (.slice (some ⟨g,0,none⟩) (ts.length+1) cap') (ts.length+1) (xss.flatten++xs)) (hgr:w.grownBy w' (Value.slice a ts.length cap).ownBlock) (hat:(Value.slice a ts.length cap).ownBlock=some g∨g=w.heap.size)
  (hnew:E w (fun k=>P k||ownB a k) xs t):RowX e m E w' B P (some ⟨g,0,none⟩) cap' (ts++[t]):=by
 have hmv:∀k,k<w.heap.size→(P k||ownB a k)=false→(P k||ownB (some ⟨g,0,none⟩) k)=false∧w'.heap[k]?=w.heap[k]?:=by
  intro k hk hp
  rw [Bool.or_eq_false_iff] at hp
  refine ⟨?_,hgr.block k hk (ownB_none hp.2)⟩
  rw [Bool.or_eq_false_iff]
  refine ⟨hp.1,?_⟩
  simp only [ownB,beq_eq_false_iff_ne]
  rcases hat with hat | hat
  ·intro e
   exact ownB_none hp.2 (by rw [←e,hat])
  ·omega
 refine ⟨xss++[xs],by simp [h1],fun ys hy=>?_,by rw [List.length_append,List.flatten_append];simpa using hown,fun j t' ys hj hx=>?_⟩
 ·rcases List.mem_append.1 hy with h | h
  ·exact h2 ys h
  ·rw [List.mem_singleton.1 h];exact hxl
 ·by_cases h:j<ts.length
  ·rw [List.getElem?_append_left h] at hj
   rw [List.getElem?_append_left (by omega)] at hx
   exact hE _ _ _ _ _ _ (hkv j t' ys hj hx) hgr.size hmv
  ·obtain rfl:j=ts.length:=by
    have:=(List.getElem?_eq_some_iff.1 hj).1;simp at this;omega
   simp only [List.getElem?_concat_length,Option.some.injEq] at hj
   rw [←h1] at hx
   simp only [List.getElem?_concat_length,Option.some.injEq] at hx
   subst hj hx
   exact hE _ _ _ _ _ _ hnew hgr.size hmv
theorem flatten_at {m:Nat}:∀(xss:List (List Value)),(∀xs∈xss,xs.length=m)→∀(j i:Nat) (xs:List Value) (v:Value),xss[j]?=some xs→xs[i]?=some v→xss.flatten[j*m+i]?=some v
 | [],_,j,i,xs,v,h,_=>by simp at h
 | ys::yss,hl,0,i,xs,v,h,hv=>by
  simp only [List.getElem?_cons_zero,Option.some.injEq] at h
  subst h
  rw [List.flatten_cons,Nat.zero_mul,Nat.zero_add,List.getElem?_append_left (List.getElem?_eq_some_iff.1 hv).1]
  exact hv
 | ys::yss,hl,j+1,i,xs,v,h,hv=>by
  rw [List.getElem?_cons_succ] at h
  have hy:=hl ys (List.mem_cons_self ..)
  rw [List.flatten_cons,List.getElem?_append_right (by rw [hy,Nat.succ_mul];omega),hy,show (j+1)*m+i - m=j*m+i by rw [Nat.succ_mul];omega]
  exact flatten_at yss (fun xs hx=>hl xs (List.mem_cons_of_mem _ hx)) j i xs v h hv
theorem RowX.at {α:Type}{e:TypeId}{m:Nat}{E:World→(Nat→Bool)→List Value→α→Prop}(hE:Moves E) {w:World}{B cap:Nat}{P:Nat→Bool}{a:Option Addr}{ts:List α}(h:RowX e m E w B P a cap ts) (hB:∀k,B≤k→P k=false) {j:Nat}{t:α}(hj:ts[j]?=some t):∃g xs,a=some ⟨g,0,none⟩∧B≤g∧g<w.heap.size∧xs.length=m∧(maskB P w).rangeAt g (j*m) xs∧E w P xs t:=by
 obtain ⟨xss,h1,h2,hown,hkv⟩:=h.go
 have hlt:j<ts.length:=(List.getElem?_eq_some_iff.1 hj).1
 rcases hown.2 with ⟨hv,hn⟩ | ⟨g,cap',cur,hv,hg,hh,hr⟩
 ·omega
 ·simp only [Value.slice.injEq,true_and] at hv
  obtain ⟨rfl,rfl⟩:=hv
  have hxj:xss[j]?=some xss[j]:=List.getElem?_eq_getElem (by omega)
  have hxm:(xss[j]'(by omega)).length=m:=h2 _ (List.getElem_mem _)
  refine ⟨g,_,rfl,hg,heap_lt hh,hxm,fun i v hi=>?_,hE _ _ _ _ _ _ (hkv j t _ hj hxj) (Nat.le_refl _) fun k _ hp=>⟨by rw [Bool.or_eq_false_iff] at hp;exact hp.1,rfl⟩⟩
  have hil:i<m:=by have:=(List.getElem?_eq_some_iff.1 hi).1;omega
  have hin:j*m+i<ts.length*m:=by
   have:(j+1)*m≤ts.length*m:=Nat.mul_le_mul_right _ hlt
   rw [Nat.succ_mul] at this
   omega
  rw [World.cell?_of_block (a:=⟨g,j*m+i,none⟩) (maskB_no w (hB g hg))]
  exact (World.ownsRow.cellAt hown (j*m+i) hin).trans (flatten_at xss h2 j i _ v hxj hi)
def EC (w:World) (P:Nat→Bool) (xs:List Value) (c:ByteArray×Tm):Prop:=∃(u0 u1:Int) (u2:Bool) (u3:ByteArray) (r1:Option Addr) (r2 r3:Nat) (s1:Option Addr) (s2 s3:Nat),xs=[.string c.1,.int .i64 u0,.int .i64 u1,.bool u2,.string u3,.slice r1 r2 r3,.slice s1 s2 s3]∧TF w P (.agg #[.int .i64 u0,.int .i64 u1,.bool u2,.string u3,.slice r1 r2 r3,.slice s1 s2 s3]) c.2∧smT 1000000 c.2∧c.1.size≤1000000
theorem EC.moves:Moves EC:=by
 rintro w w' P Q xs t ⟨u0,u1,u2,u3,r1,r2,r3,s1,s2,s3,h1,h2,h3,h4⟩ hs hk
 exact ⟨u0,u1,u2,u3,r1,r2,r3,s1,s2,s3,h1,h2.move hs hk,h3,h4⟩
theorem fold_at:∀(zs:List Value) (k:Nat) (c:Array Value),k+zs.length≤c.size→∀i:Nat,(List.foldl (fun (cs:Array Value) (x:Value×Nat)=>cs.setIfInBounds x.snd x.fst) c (zs.zipIdx k))[i]?=if k≤i∧i<k+zs.length then zs[i - k]? else c[i]?
 | [],k,c,_,i=>by rw [if_neg (by simp only [List.length_nil];omega)];rfl
 | z::zs,k,c,h,i=>by
  rw [List.length_cons] at h
  rw [List.zipIdx_cons,List.foldl_cons,fold_at zs (k+1) _ (by simp only [Array.size_setIfInBounds];omega) i,List.length_cons]
  by_cases h1:i=k
  ·subst h1
   rw [if_neg (by omega),if_pos (by omega),Nat.sub_self,Array.getElem?_setIfInBounds_self_of_lt (by omega)]
   rfl
  ·rw [Array.getElem?_setIfInBounds_ne (fun e=>h1 e.symm)]
   by_cases h2:k+1≤i∧i<k+1+zs.length
   ·rw [if_pos h2,if_pos (by omega),show i - k=(i - (k+1))+1 by omega,List.getElem?_cons_succ]
   ·rw [if_neg h2,if_neg (by omega)]
theorem fold_new (zs:List Value) (c:Array Value) (h:c.size=zs.length):List.foldl (fun (cs:Array Value) (x:Value×Nat)=>cs.setIfInBounds x.snd x.fst) c zs.zipIdx=zs.toArray:=by
 apply Array.ext_getElem?
 intro i
 rw [fold_at zs 0 c (by omega) i]
 by_cases hi:i<zs.length
 ·rw [if_pos (by omega)];simp
 ·rw [if_neg (by omega),Array.getElem?_eq_none (by omega),Array.getElem?_eq_none (by simp;omega)]
def okC (c:ByteArray×Tm):Prop:=(0<c.1.size∧c.1.size≤60)∧okTm c.2
def cleanC (c:ByteArray×Tm):ByteArray×Tm:=(c.1,cleanT c.2)
theorem CK.subF {w w':World}{a:Option Addr}{cs:List (ByteArray×Tm)}(hs:w.heap.size≤w'.heap.size) (hc:∀p v,w.cell? p=some v→w'.cell? p=some v) (h:CK w a cs):CK w' a cs:=by
 rcases h with h | ⟨b,o,ha,hlt,h⟩
 ·exact Or.inl h
 ·exact Or.inr ⟨b,o,ha,by omega,fun i c hi=>⟨hc _ _ (h i c hi).1,(h i c hi).2.subF hs hc⟩⟩
theorem DV.subF {w w':World}{v:Value}{d:Dl}(hs:w.heap.size≤w'.heap.size) (hc:∀p v,w.cell? p=some v→w'.cell? p=some v) (h:DV w v d):DV w' v d:=by
 obtain ⟨t0,t1,t2,t3,t4,t5,t6,t7,t8,t9,v0,v1,v2,v3,v4,v5,v6,v7,v8,v9,ca,cc,h1,h2,h3,h4⟩:=h.go
 exact ⟨t0,t1,t2,t3,t4,t5,t6,t7,t8,t9,v0,v1,v2,v3,v4,v5,v6,v7,v8,v9,ca,cc,h1,h2.subF hs hc,h3.subF hs hc,h4.subF hs hc⟩
structure ED (w:World) (P:Nat→Bool) (xs:List Value) (d:Dl):Prop where
 len:xs.length=17
 cell:∀v∈xs,v.oneCell'=true
 dv:DV (maskB P w) (.agg xs.toArray) d
 sm:smD d
theorem ED.moves:Moves ED:=fun _ _ _ _ _ _ h hs hk=>⟨h.len,h.cell,h.dv.subF (by rw [maskB_size,maskB_size];exact hs) (maskB_keeps hk),h.sm⟩
theorem RowX.ck {w:World}{B cap:Nat}{P:Nat→Bool}{a:Option Addr}{cs:List (ByteArray×Tm)}(h:RowX 45 7 EC w B P a cap cs) (hB:∀k,B≤k→P k=false):CK (maskB P w) a cs:=by
 cases hcs:cs with
 | nil=>exact Or.inl rfl
 | cons c0 cr =>
  obtain ⟨g,xs0,ha,hg1,hg2,-,-,-⟩:=h.at EC.moves hB (j:=0) (t:=c0) (by rw [hcs];rfl)
  rw [←hcs]
  refine Or.inr ⟨g,0,ha,by rw [maskB_size];exact hg2,fun i c hi=>?_⟩
  obtain ⟨g',xs,ha',-,-,hl,hr,u0,u1,u2,u3,r1,r2,r3,s1,s2,s3,rfl,htf,-,-⟩:=h.at EC.moves hB hi
  rw [ha] at ha'
  simp only [Option.some.injEq,Addr.mk.injEq,and_true] at ha'
  subst ha'
  rw [Nat.zero_add]
  refine ⟨hr 0 _ rfl,?_⟩
  exact CellsAt.tc ⟨u0,u1,u2,u3,r1,r2,r3,s1,s2,s3,rfl,hr 1 _ rfl,hr 2 _ rfl,hr 3 _ rfl,hr 4 _ rfl,hr 5 _ rfl,hr 6 _ rfl⟩ htf
def okR (d:Dl):Prop:=smD d∧judgD d=0
def cleanD (d:Dl):Dl:={ kind:=d.kind,name:=d.name,levels:=d.levels,ty:=cleanT d.ty,val:=if d.kind=2 then cleanT d.val else .mk 0 0 false { data:=#[] } [] [],params:=if d.kind=3 then d.params else 0,ctors:=if d.kind=3 then d.ctors.map cleanC else [] }
structure RightD (d:Dl):Prop where
 kind:1≤d.kind∧d.kind≤3
 name:0<d.name.size∧d.name.size≤60
 levels:0≤d.levels∧d.levels≤8
 ty:okTm d.ty
 val:d.kind=2→okTm d.val
 params:d.kind=3→0≤d.params∧d.params≤60
 len:d.kind=3→d.ctors.length≤40
 ctors:d.kind=3→∀c∈d.ctors,okC c
theorem okR.right {d:Dl}(h:okR d):RightD d:=by
 obtain ⟨hsm,h⟩:=h
 have hO:=judgD_ok hsm h
 unfold judgD at h
 have h1:¬(d.kind<1∨3<d.kind∨namedB d.name=false):=fun e=>by rw [if_pos e] at h;exact absurd h (by decide)
 rw [if_neg h1] at h
 have h2:¬(d.levels<0∨8<d.levels):=fun e=>by rw [if_pos e] at h;exact absurd h (by decide)
 rw [if_neg h2] at h
 have h3:¬checkT d.ty≠0:=fun e=>by rw [if_pos e] at h;exact absurd h e
 rw [if_neg h3] at h
 have hf:d.kind=3→(0≤d.params∧d.params≤60)∧d.ctors.length≤40∧judgC d.ctors=0:=by
  intro hk
  rw [if_neg (by omega),if_pos hk] at h
  unfold judgF at h
  have h4:¬(d.params<0∨60<d.params∨40<d.ctors.length):=fun e=>by rw [if_pos e] at h;exact absurd h (by decide)
  rw [if_neg h4] at h
  exact ⟨by omega,by omega,h⟩
 refine ⟨hO.kind,hO.name,hO.levels,⟨hsm.ty,Decidable.not_not.1 h3⟩,fun hk=>⟨hsm.val,by rw [if_pos hk] at h;exact h⟩,fun hk=>(hf hk).1,fun hk=>(hf hk).2.1,fun hk c hc=>?_⟩
 obtain ⟨hn,hcc⟩:=judgC_ok (hf hk).2.2 c hc
 exact ⟨namedB_size hn,(hsm.ctors c hc).2,hcc⟩
theorem sets_heap (b:Nat):∀(vs:List Value) (o:Nat) (w:World),(w.setCells b o vs).heap.size=w.heap.size∧∀k,k≠b→(w.setCells b o vs).heap[k]?=w.heap[k]?
 | [],_,_=>⟨rfl,fun _ _=>rfl⟩
 | v::vs,o,w=>by
  obtain ⟨h1,h2⟩:=sets_heap b vs (o+1) (w.setCell ⟨b,o,none⟩ v)
  exact ⟨h1.trans (by simp [World.setCell]),fun k hk=>(h2 k hk).trans (Below.heap_setCell _ _ _ _ hk)⟩
theorem range_of {w:World}{b o:Nat}{c:Array Value}{t:TypeId}{pre vs post:List Value}(h:w.heap[b]?=some (.cells c t (0,0))) (hc:c.toList=pre++(vs++post)) (ho:pre.length=o):w.rangeAt b o vs:=by
 intro j v hj
 have hjl:=(List.getElem?_eq_some_iff.1 hj).1
 rw [cell_of_row _ b (o+j) _ _ _ h,←Array.getElem?_toList,hc,List.getElem?_append_right (by omega),List.getElem?_append_left (by omega)]
 rw [show o+j - pre.length=j by omega]
 exact hj
theorem there_of {w:World}{b n:Nat}{c:Array Value}{t:TypeId}(h:w.heap[b]?=some (.cells c t (0,0))) (hn:c.size=n) (o m:Nat) (hm:o+m≤n):w.there b o m:=by
 intro j hj
 refine ⟨?_,by simp [World.frozen?,h]⟩
 rw [cell_of_row _ b (o+j) _ _ _ h,Array.getElem?_eq_getElem (by omega)]
 rfl
theorem range_keep {w w':World}{b o:Nat}{xs:List Value}(h:w.rangeAt b o xs) (hb:w'.heap[b]?=w.heap[b]?):w'.rangeAt b o xs:=fun j v hj=>(World.cell?_of_block (a:=⟨b,o+j,none⟩) hb).trans (h j v hj)
theorem mapM_one {P:Program}{w:World}{v:Value}(f:ResultVar→Sem Value) (x:ResultVar) (h:(f x).run P w=.ok v w):((#[x]:Array ResultVar).mapM f).run P w=.ok #[v] w:=by
 simp [go_sem,h]
theorem results_cell {P:Program}{fn:Func}{tmps:Array Value}{w:World}{s:Nat}{t:TypeId}{p:Addr}{v:Value}(hf:fn.results=#[.cell s t]) (hp:tmps.getD s undef=.pointer (some p)) (hl:(loadVar t p).run P w=.ok v w):(results fn tmps).run P w=.ok v w:=by
 unfold results
 rw [hf,Sem.run_bind,mapM_one (v:=v)]
 ·rfl
 ·show Sem.run P ((asAddr (tmps.getD s undef)).bind fun q=>loadVar t q) w=_
  rw [hp]
  exact (Sem.run_bind _ _ _ _).trans hl
theorem infoD:(Tryz.prog.info? 39).map (fun i=>(i.zero.map (·.cells.size),i.size,i.bytes))=some (some 17,17,240):=by kernel_rfl
theorem wpList_appD {w:World}{ops:Array Oper}{rest:List Oper}{o:Oper}{a:Act}{Q:Exit→Act→World→Prop}(hgd:o.guard=none) (s x:Operand) (ho:o.op=.call { callee:=.builtin .append,args:=#[s,x],argTypes:=#[22,22] })
  (B:Nat) (v:Value) (n:Nat) (xs news:List Value) (b c1:Nat) (hs:a.eval s=v) (hx:a.eval x=.slice (some ⟨b,0,none⟩) 1 c1) (hO:w.ownsRow B 39 17 v n xs) (hl:news.length=17) (hnews:∀j u,news[j]?=some u→w.cell? ((⟨b,0,none⟩:Addr).add j)=some u) (h1:∀u∈news,u.oneCell'=true) (hlen:n≤1073741824) (hB:B≤w.heap.size)
  (h:∀g cap w',w'.ownsRow B 39 17 (.slice (some ⟨g,0,none⟩) (n+1) cap) (n+1) (xs++news)→w.grownBy w' v.ownBlock→(v.ownBlock=some g∨g=w.heap.size)→wpList Tryz.prog ops Q rest (a.put o.dst (.slice (some ⟨g,0,none⟩) (n+1) cap)) w'):wpList Tryz.prog ops Q (o::rest) a w:=by
 have hI:=infoD
 cases hi:Tryz.prog.info? 39 with
 | none=>rw [hi] at hI;simp at hI
 | some i0 =>
  rw [hi] at hI
  simp only [Option.map_some,Option.some.injEq,Prod.mk.injEq,Option.map_eq_some_iff] at hI
  obtain ⟨⟨z,hz,hzc⟩,hz1,hz2⟩:=hI
  refine wpList_append_lies _ hgd s x 22 ho B 39 i0 z 17 240 Tryz.underlying22 hi hz hz1 hz2 hzc (by decide) v n xs hs hO _ 1 c1 news hx hl hnews h1 (by decide) (by simp [maxLen];omega) (by omega) hB _ rfl ?_
  intro g cap w' hown hgr hat _
  exact h g cap w' hown hgr hat
end Go.Proofs.YtgfgpjcnfnopnaaGreat
