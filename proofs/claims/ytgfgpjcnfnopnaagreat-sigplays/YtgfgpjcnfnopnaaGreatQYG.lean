/- The reference's signature in memory;what does not look into a block that has neither ints nor strings. -/
import Derived.Test.YtgfgpjcnfnopnaaGreatQYE
import Derived.Test.YtgfgpjcnfnopnaaGreatQP
namespace Go.Proofs.YtgfgpjcnfnopnaaGreat
open Go.RowKit Go.Sort Go.Lib
def NoK (w:World) (X:Nat):Prop:=∀o v,w.cell? ⟨X,o,none⟩=some v→(∀z,v≠.int .i64 z)∧∀s,v≠.string s
section
variable {w w':World} {X:Nat}
theorem SL.miss {a:Option Addr}{xs:List (Int×Int)}(hX:NoK w X) (hs:w.heap.size≤w'.heap.size) (hc:∀p v,p.block≠X→w.cell? p=some v→w'.cell? p=some v) (h:SL w a xs):SL w' a xs:=by
 rcases h with h | ⟨b,off,ha,hlt,h⟩
 ·exact Or.inl h
 ·refine Or.inr ⟨b,off,ha,by omega,fun i hi=>?_⟩
  have hne:b≠X:=fun e=>(hX _ _ (e ▸ (h i hi).1)).1 _ rfl
  exact ⟨hc _ _ hne (h i hi).1,hc _ _ hne (h i hi).2⟩
theorem LN.miss {a:Option Addr}{ls:List LvT}(hX:NoK w X) (hs:w.heap.size≤w'.heap.size) (hc:∀p v,p.block≠X→w.cell? p=some v→w'.cell? p=some v) (h:LN w a ls):LN w' a ls:=by
 rcases h with h | ⟨b,off,ha,hlt,h⟩
 ·exact Or.inl h
 ·refine Or.inr ⟨b,off,ha,by omega,fun i n xs hi=>?_⟩
  obtain ⟨c0,a',cap',c1,hsl,hn⟩:=h i n xs hi
  have hne:b≠X:=fun e=>(hX _ _ (e ▸ c0)).1 _ rfl
  exact ⟨hc _ _ hne c0,a',cap',hc _ _ hne c1,hsl.miss hX hs hc,hn⟩
theorem TC.miss {b o:Nat}{t:Tm}(hX:NoK w X) (hs:w.heap.size≤w'.heap.size) (hc:∀p v,p.block≠X→w.cell? p=some v→w'.cell? p=some v) (h:TC w b o t):TC w' b o t:=by
 induction h with
 | @mk b o f n h nm ls ks la lc ka kc kb ko c0 c1 c2 c3 c4 c5 hl hln hlc hlm hkn hkc hkm hk kids ih =>
  have hne:b≠X:=fun e=>(hX _ _ (e ▸ c0)).1 _ rfl
  exact TC.mk (kb:=kb) (ko:=ko) (hc _ _ hne c0) (hc _ _ hne c1) (hc _ _ hne c2) (hc _ _ hne c3) (hc _ _ hne c4) (hc _ _ hne c5) (hl.miss hX hs hc) hln hlc hlm hkn hkc hkm (fun hn=>⟨(hk hn).1,Nat.lt_of_lt_of_le (hk hn).2 hs⟩) ih
theorem TV.miss {v:Value}{t:Tm}(hX:NoK w X) (hs:w.heap.size≤w'.heap.size) (hc:∀p v,p.block≠X→w.cell? p=some v→w'.cell? p=some v) (h:TV w v t):TV w' v t:=by
 cases h with
 | mk hl hln hlc hlm hkn hkc hkm hk kids=>exact TV.mk (hl.miss hX hs hc) hln hlc hlm hkn hkc hkm (fun hn=>⟨(hk hn).1,Nat.lt_of_lt_of_le (hk hn).2 hs⟩) (fun i t hi=>(kids i t hi).miss hX hs hc)
theorem CK.miss {a:Option Addr}{cs:List (ByteArray×Tm)}(hX:NoK w X) (hs:w.heap.size≤w'.heap.size) (hc:∀p v,p.block≠X→w.cell? p=some v→w'.cell? p=some v) (h:CK w a cs):CK w' a cs:=by
 rcases h with h | ⟨b,o,ha,hlt,h⟩
 ·exact Or.inl h
 ·refine Or.inr ⟨b,o,ha,by omega,fun i c hi=>?_⟩
  have hne:b≠X:=fun e=>(hX _ _ (e ▸ (h i c hi).1)).2 _ rfl
  exact ⟨hc _ _ hne (h i c hi).1,(h i c hi).2.miss hX hs hc⟩
theorem DV.miss {v:Value}{d:Dl}(hX:NoK w X) (hs:w.heap.size≤w'.heap.size) (hc:∀p v,p.block≠X→w.cell? p=some v→w'.cell? p=some v) (h:DV w v d):DV w' v d:=by
 obtain ⟨t0,t1,t2,t3,t4,t5,t6,t7,t8,t9,v0,v1,v2,v3,v4,v5,v6,v7,v8,v9,ca,cc,h1,h2,h3,h4⟩:=h.go
 exact ⟨t0,t1,t2,t3,t4,t5,t6,t7,t8,t9,v0,v1,v2,v3,v4,v5,v6,v7,v8,v9,ca,cc,h1,h2.miss hX hs hc,h3.miss hX hs hc,h4.miss hX hs hc⟩
theorem ED.miss {P:Nat→Bool}{xs:List Value}{d:Dl}(hX:NoK w X) (hs:w.heap.size≤w'.heap.size) (hk:∀k,k<w.heap.size→k≠X→w'.heap[k]?=w.heap[k]?) (h:ED w P xs d):ED w' P xs d:=by
 refine ⟨h.len,h.cell,h.dv.miss (X:=X) (fun o v hv=>hX o v (maskB_cell hv).2) (by rw [maskB_size,maskB_size];exact hs) (fun p v hp hv=>?_),h.sm⟩
 obtain ⟨q1,q2⟩:=maskB_cell hv
 exact (World.cell?_of_block (a:=p) (maskB_no w' q1)).trans ((World.cell?_of_block (a:=p) (hk p.block (World.block_lt_of_cell? w _ q2) hp)).trans q2)
theorem SGG.miss {B sb:Nat}{ds:List Dl}(h:SGG w B sb ds) (hN:NotIn w sb X) (hX:NoK w X) (hs:w.heap.size≤w'.heap.size) (hk:∀k,k<w.heap.size→k≠X→w'.heap[k]?=w.heap[k]?):SGG w' B sb ds:=by
 obtain ⟨a,cap,mv,h1,h2,h3,h4,h5⟩:=h.go
 have hsb:w'.heap[sb]?=w.heap[sb]?:=hk sb h1.lt (fun e=>hN.1 e.symm)
 refine ⟨⟨a,cap,mv,h1.keep hsb,?_,h3.keep fun b e=>hk b (by subst e;exact h3.lt) (fun e2=>hN.2.2 mv h1.c1 (by rw [e,e2])),h4,h5⟩,h.base,h.len,h.own,fun e=>(World.cell?_of_block (a:=⟨sb,0,none⟩) hsb).trans (h.nil e)⟩
 obtain ⟨xss,x1,x2,hown,hkv⟩:=h2.go
 have hna:=hN.2.1 a _ cap h1.c0
 refine ⟨xss,x1,x2,owns_move hown fun g hg=>hk g (World.ownsRow.lt hown g hg).2 (fun e=>?_),fun j t xs hj hx=>ED.miss hX hs hk (hkv j t xs hj hx)⟩
 cases a with
 | none=>cases hg
 | some ad =>
  simp only [Value.ownBlock,Option.some.injEq] at hg
  simp only [ownB,beq_eq_false_iff_ne] at hna
  exact hna (by rw [hg,e])
end
theorem DCl.subF {w w':World}{b o:Nat}{d:Dl}(hs:w.heap.size≤w'.heap.size) (hc:∀p v,w.cell? p=some v→w'.cell? p=some v) (h:DCl w b o d):DCl w' b o d:=by
 obtain ⟨cs,h1,h2,h3,h4⟩:=h.go
 exact ⟨cs,h1,fun j v hj=>hc _ _ (h2 j v hj),h3,h4.subF hs hc⟩
theorem DL.subF {w w':World}{a:Option Addr}{ds:List Dl}(hs:w.heap.size≤w'.heap.size) (hc:∀p v,w.cell? p=some v→w'.cell? p=some v) (h:DL w a ds):DL w' a ds:=by
 rcases h with h | ⟨b,o,ha,hlt,h⟩
 ·exact Or.inl h
 ·exact Or.inr ⟨b,o,ha,by omega,fun i d hi=>(h i d hi).subF hs hc⟩
theorem rows_of {w:World}{b o:Nat}:∀(ds:List Dl) (k:Nat),(∀i d,ds[i]?=some d→DCl w b (o+(k+i)*17) d)→∃xss:List (List Value),xss.length=ds.length∧(∀xs∈xss,xs.length=17∧∀v∈xs,v.oneCell'=true)∧∀(j:Nat) d xs,ds[j]?=some d→xss[j]?=some xs→w.rangeAt b (o+(k+j)*17) xs∧DV w (.agg xs.toArray) d
 | [],k,_=>⟨[],rfl,fun _ h=>(by cases h),fun j d xs h=>(by simp at h)⟩
 | d::ds,k,h=>by
  obtain ⟨cs,h1,h2,h3,h4⟩:=(h 0 d rfl).go
  obtain ⟨xss,x1,x2,x3⟩:=rows_of (w:=w) (b:=b) (o:=o) ds (k+1) (fun i d' hi=>by
   have:=h (i+1) d' (by simpa using hi)
   rwa [show k+(i+1)=k+1+i by omega] at this)
  refine ⟨cs::xss,by simp [x1],fun xs hx=>?_,fun j d' xs hj hx=>?_⟩
  ·rcases List.mem_cons.1 hx with rfl | hx
   ·exact ⟨h1,h3⟩
   ·exact x2 xs hx
  ·cases j with
   | zero =>
    simp only [List.getElem?_cons_zero,Option.some.injEq] at hj hx
    subst hj hx
    exact ⟨h2,h4⟩
   | succ j =>
    rw [List.getElem?_cons_succ] at hj hx
    have:=x3 j d' xs hj hx
    rwa [show k+1+j=k+(j+1) by omega] at this
theorem flatten_of {m:Nat}(hm:0<m):∀(xss:List (List Value)),(∀xs∈xss,xs.length=m)→∀(j:Nat) (u:Value),xss.flatten[j]?=some u→∃(q r:Nat) (xs:List Value),xss[q]?=some xs∧xs[r]?=some u∧j=q*m+r
 | [],_,j,u,h=>by simp at h
 | ys::yss,hl,j,u,h=>by
  have hy:=hl ys (List.mem_cons_self ..)
  rw [List.flatten_cons] at h
  by_cases hj:j<m
  ·rw [List.getElem?_append_left (by omega)] at h
   exact ⟨0,j,ys,rfl,h,by omega⟩
  ·rw [List.getElem?_append_right (by omega),hy] at h
   obtain ⟨q,r,xs,h1,h2,h3⟩:=flatten_of hm yss (fun xs hx=>hl xs (List.mem_cons_of_mem _ hx)) (j - m) u h
   refine ⟨q+1,r,xs,by simpa using h1,h2,?_⟩
   rw [Nat.succ_mul];omega
theorem add_at (b o j:Nat):(⟨b,o,none⟩:Addr).add j=⟨b,o+j,none⟩:=by
 cases j with
 | zero=>simp [Addr.add]
 | succ j=>simp [Addr.add]
theorem DL.of_owns {W:World}{B n cap g:Nat}{Q:Nat→Bool}{xss:List (List Value)}{ds:List Dl}(ho:W.ownsRow B 39 17 (.slice (some ⟨g,0,none⟩) n cap) n xss.flatten) (hl:xss.length=ds.length) (h17:∀xs∈xss,xs.length=17∧∀v∈xs,v.oneCell'=true) (hQ:Q g=false) (hE:∀(j:Nat) d xs,ds[j]?=some d→xss[j]?=some xs→DV (maskB Q W) (.agg xs.toArray) d):DL (maskB Q W) (some ⟨g,0,none⟩) ds:=by
 have hg:=(World.ownsRow.lt ho g rfl).2
 refine Or.inr ⟨g,0,rfl,by rw [maskB_size];exact hg,fun i d hi=>?_⟩
 have hil:i<xss.length:=by rw [hl];exact (List.getElem?_eq_some_iff.1 hi).1
 have hx:xss[i]?=some xss[i]:=List.getElem?_eq_getElem hil
 have hm:=h17 _ (List.getElem_mem hil)
 refine ⟨xss[i],hm.1,fun j v hj=>?_,hm.2,hE i d _ hi hx⟩
 have h1:=World.ownsRow.cells ho (g:=g) rfl (i*17+j) v (flatten_at xss (fun xs h=>(h17 xs h).1) i j _ v hx hj)
 rw [add_at] at h1
 rw [World.cell?_of_block (a:=⟨g,0+i*17+j,none⟩) (maskB_no W hQ),←h1]
 congr 2
 omega
structure RS (w:World) (P:Nat→Bool) (rb:Nat) (ds:List Dl):Prop where
 go:∃la lc,w.heap[rb]?=some (.cells #[.slice la ds.length lc] 30 (0,0))∧DL (maskB (fun k=>P k||k==rb) w) la ds∧(la=none→lc=0)
 out:P rb=false
theorem RS.move {w w':World}{P P':Nat→Bool}{rb:Nat}{ds:List Dl}(h:RS w P rb ds) (hs:w.heap.size≤w'.heap.size) (hk:∀k,k<w.heap.size→P k=false→P' k=false∧w'.heap[k]?=w.heap[k]?):RS w' P' rb ds:=by
 obtain ⟨la,lc,h1,h2,h3⟩:=h.go
 have hr:=hk rb (heap_lt h1) h.out
 refine ⟨⟨la,lc,hr.2.trans h1,h2.subF (by rw [maskB_size,maskB_size];exact hs) (maskB_keeps fun k h4 h5=>?_),h3⟩,hr.1⟩
 rw [Bool.or_eq_false_iff] at h5 ⊢
 exact ⟨⟨(hk k h4 h5.1).1,h5.2⟩,(hk k h4 h5.1).2⟩
theorem RS.cell {w:World}{P:Nat→Bool}{rb:Nat}{ds:List Dl}(h:RS w P rb ds):∃la lc,w.cell? ⟨rb,0,none⟩=some (.slice la ds.length lc)∧DL w la ds:=by
 obtain ⟨la,lc,h1,h2,-⟩:=h.go
 exact ⟨la,lc,by rw [cell_of_row _ rb 0 _ _ _ h1];rfl,h2.subF (by rw [maskB_size];exact Nat.le_refl _) (fun _ _ hp=>(maskB_cell hp).2)⟩
theorem RS.noK {w:World}{P:Nat→Bool}{rb:Nat}{ds:List Dl}(h:RS w P rb ds):NoK w rb:=by
 obtain ⟨la,lc,h1,-⟩:=h.go
 intro o v hv
 rw [cell_of_row _ rb o _ _ _ h1] at hv
 cases o with
 | zero =>
  simp at hv
  subst hv
  exact ⟨fun _ h=>(by cases h),fun _ h=>(by cases h)⟩
 | succ o=>simp at hv
theorem okOf {d:Dl}{bs:List UInt8}(h:declsRes [d]=.ok bs) (hsm:smD d):okD d:=by
 unfold declsRes at h
 rw [if_neg (by simp)] at h
 by_cases h1:judgDs [d]≠0
 ·rw [if_pos h1] at h;cases h
 ·have h2:judgDs [d]=0:=Decidable.not_not.1 h1
  unfold judgDs at h2
  by_cases h3:judgD d=0
  ·exact judgD_ok hsm h3
  ·rw [if_neg h3] at h2;exact absurd h2 h3
theorem put_ok {ds:List Dl}{d:Dl}(h:putRes ds d=0):∃bs,declsRes [d]=.ok bs:=by
 unfold putRes at h
 cases hd:declsRes [d] with
 | ok bs=>exact ⟨bs,rfl⟩
 | error e =>
  rw [hd] at h
  simp only at h
  subst h
  unfold declsRes at hd
  split at hd
  ·cases hd
  ·split at hd
   ·rename_i h1
    simp only [Except.error.injEq] at hd
    exact absurd hd h1
   ·split at hd
    ·cases hd
    ·cases hd
theorem step_appN {w:World}{ops:Array Oper}{o:Oper}{a:Act}{K:Act→World→Prop}{Q:Exit→Act→World→Prop}{E:Prop}(hgd:o.guard=none) (s x:Operand) (ho:o.op=.call { callee:=.builtin .append,args:=#[s,x],argTypes:=#[22,22] })
  (B n:Nat) (xs:List Value) (a1:Option Addr) (c1:Nat) (hs:a.eval s=.slice none 0 0) (hx:a.eval x=.slice a1 n c1) (hl:xs.length=n*17) (hnews:∀ad,a1=some ad→∀j u,xs[j]?=some u→w.cell? (ad.add j)=some u) (h1:∀u∈xs,u.oneCell'=true) (hn:a1=none→c1=0∧n=0) (hlen:n≤1000) (hB:B≤w.heap.size)
  (h:∀v' w',w'.ownsRow B 39 17 v' n xs→w.grownBy w' none→(∀k,v'.ownBlock=some k→w.heap.size≤k)→K (a.put o.dst v') w'):if Region.wanted o (yielded ops a.tmps)=true then Oper.wp Tryz.prog o a w K Q else E:=by
 have hw:Region.wanted o (yielded ops a.tmps)=true:=by simp [Region.wanted,hgd]
 rw [if_pos hw]
 have hI:=infoD2
 cases hi:Tryz.prog.info? 39 with
 | none=>rw [hi] at hI;simp at hI
 | some i0 =>
  rw [hi] at hI
  simp only [Option.map_some,Option.some.injEq,Prod.mk.injEq] at hI
  obtain ⟨hz,hz1,hz2⟩:=hI
  rw [Option.map_eq_some_iff] at hz
  obtain ⟨z,hz0,hzs⟩:=hz
  have hO:w.ownsRow B 39 17 (.slice none 0 0) 0 []:=World.ownsRow_nil _ _ _ _
  cases a1 with
  | none =>
   obtain ⟨rfl,rfl⟩:=hn rfl
   have hxe:xs=[]:=by
    cases xs with
    | nil=>rfl
    | cons _ _=>simp at hl
   subst hxe
   have hrun:=run_append_owned_none (P:=Tryz.prog) (w:=w) B 22 o.type 39 i0 17 Tryz.underlying22 hi (.slice none 0 0) 0 [] hO
   unfold Oper.wp
   simp [execOp,ho,resolve,invoke,builtin,hs,hx,hrun,Result.andThen]
   exact h _ w hO ⟨rfl,rfl,rfl,Nat.le_refl _,fun _ _ _=>rfl⟩ (fun k hk=>by cases hk)
  | some ad =>
   by_cases hn0:n=0
   ·subst hn0
    refine wp_append_own _ s x 22 ho B 39 i0 z 17 240 Tryz.underlying22 hi hz0 hz1 hz2 hzs (by decide) (.slice none 0 0) 0 [] hs hO ad 0 c1 xs hx hl (hnews ad rfl) h1 (by simp [maxLen]) (by omega) hB ?_
    intro v' w' hown hgr hv
    exact h v' w' (by simpa using hown) hgr (fun k hk=>by rw [hv.2 ⟨rfl,rfl⟩] at hk;cases hk)
   ·refine wp_append_lies _ s x 22 ho B 39 i0 z 17 240 Tryz.underlying22 hi hz0 hz1 hz2 hzs (by decide) (.slice none 0 0) 0 [] hs hO ad n c1 xs hx hl (hnews ad rfl) h1 (by omega) (by simp [maxLen];omega) (by omega) hB _ rfl ?_
    intro g cap w' hown hgr hat _
    refine h _ w' (by simpa using hown) hgr (fun k hk=>?_)
    simp only [Value.ownBlock,Option.some.injEq] at hk
    rcases hat with e | e
    ·cases e
    ·omega
def RPutJ (w1:World) (rb x:Nat) (A1:Value) (n:Nat) (XS:List Value) (d:Dl) (e:Exit) (a':Act) (W':World):Prop:=e=.normal∧(∃z6 z7 z8 z9 z10 z11 z12 z13 z14 z15 z16 z17 z18 z19 z20 z21 z22:Value,a'={ tmps:=#[.pointer (some ⟨rb,0,none⟩),A1,undef,.pointer (some ⟨x,0,none⟩),.int .i64 0,.int .i64 0,z6,z7,z8,z9,z10,z11,z12,z13,z14,z15,z16,z17,z18,z19,z20,z21,z22,undef],defers:=[] })∧∃(W9:World) (g9 c9:Nat) (zs:List Value),W'=W9.setCell ⟨rb,0,none⟩ (.slice (some ⟨g9,0,none⟩) (n+1) c9)∧RowKit.Below w1.heap.size w1 W9∧W9.ownsRow w1.heap.size 39 17 (.slice (some ⟨g9,0,none⟩) (n+1) c9) (n+1) (XS++zs)∧zs.length=17∧(∀v∈zs,v.oneCell'=true)∧DV (maskB (oldB w1) W9) (.agg zs.toArray) d
def RPutOut (w:World) (P:Nat→Bool) (rb:Nat) (ds:List Dl) (d:Dl) (e:Ending) (w':World):Prop:=e=.returned (.int .i64 (putRes ds d))∧RS w' P rb (if putRes ds d=0 then ds++[cleanD d] else ds)∧Kept (fun k=>k=rb) w w'
set_option maxRecDepth 100000 in
set_option maxHeartbeats 16000000 in
theorem rPut_any (ds:List Dl) (rb:Nat) (P:Nat→Bool) (d:Dl) (v:Value) (w:World) (hR:RS w P rb ds) (hP:∀k,P k=true→k<w.heap.size) (hown:∀d∈ds,OwnD d) (hlen:ds.length≤500) (hf:Fine ds) (hv:DV w v d) (hsm:smD d) (hroom:judgDs [d]=0→(encDs [d]).length≤50000000000000):Calls Tryz.prog 8 #[.pointer (some ⟨rb,0,none⟩),v] w (RPutOut w P rb ds d):=by
 have mx:=mixed
 obtain ⟨la0,lc0,hc0,hL0⟩:=hR.cell
 obtain ⟨la,lc,hbx,hL,hln⟩:=hR.go
 have hrb:=heap_lt hbx
 have hceq:w.cell? ⟨rb,0,none⟩=some (.slice la ds.length lc):=by rw [cell_of_row _ rb 0 _ _ _ hbx];rfl
 rw [hceq] at hc0
 simp only [Option.some.injEq,Value.slice.injEq,true_and] at hc0
 obtain ⟨rfl,rfl⟩:=hc0
 obtain ⟨t0,t1,t2,t3,t4,t5,t6,t7,t8,t9,v0,v1,v2,v3,v4,v5,v6,v7,v8,v9,ca,cc,rfl,-,-,-⟩:=hv.go
 obtain ⟨kd,nm,lv,ty,val,pr,cs⟩:=d
 simp only at hv
 obtain ⟨vs,hvs⟩:∃vs:List Value,vs=[.int .i64 kd,.string nm,.int .i64 lv,.int .i64 t0,.int .i64 t1,.bool t2,.string t3,.slice t4 t5 t6,.slice t7 t8 t9,.int .i64 v0,.int .i64 v1,.bool v2,.string v3,.slice v4 v5 v6,.slice v7 v8 v9,.int .i64 pr,.slice ca cs.length cc]:=⟨_,rfl⟩
 have hva:vs.toArray=#[.int .i64 kd,.string nm,.int .i64 lv,.int .i64 t0,.int .i64 t1,.bool t2,.string t3,.slice t4 t5 t6,.slice t7 t8 t9,.int .i64 v0,.int .i64 v1,.bool v2,.string v3,.slice v4 v5 v6,.slice v7 v8 v9,.int .i64 pr,.slice ca cs.length cc]:=by rw [hvs]
 have hvl:vs.length=17:=by rw [hvs];rfl
 have HV:Hid (DV w (.agg vs.toArray) (⟨kd,nm,lv,ty,val,pr,cs⟩:Dl)):=by unfold Hid;rw [hva];exact hv
 obtain ⟨W0,hW0⟩:∃W0,w.alloc (.cells #[.int .i64 kd,.string nm,.int .i64 lv,.int .i64 t0,.int .i64 t1,.bool t2,.string t3,.slice t4 t5 t6,.slice t7 t8 t9,.int .i64 v0,.int .i64 v1,.bool v2,.string v3,.slice v4 v5 v6,.slice v7 v8 v9,.int .i64 pr,.slice ca cs.length cc] 39)=W0:=⟨_,rfl⟩
 have hb0:RowKit.Below w.heap.size w W0:=by rw [←hW0];exact (Below.refl _ _).alloc (Nat.le_refl _) _
 have HXV:Hid (W0.heap[w.heap.size]?=some (.cells vs.toArray 39 (0,0))):=by unfold Hid;rw [←hW0,hva];exact alloc_new _ _
 have hs0:=heap_lt HXV.out
 have HRGS:Hid (∀W,RowKit.Below W0.heap.size W0 W→W.rangeAt w.heap.size 0 vs):=fun W h=>range_of (pre:=[]) (post:=[]) ((h.block _ hs0).trans HXV.out) (by simp) rfl
 have HRG:Hid (W0.rangeAt w.heap.size 0 vs):=HRGS.out _ (Below.refl _ _)
 have HSV:Hid ((Tryz.prog.info? 39).map (·.size)=some vs.length):=by unfold Hid;rw [hvl];kernel_rfl
 have HC1:=rMay_any ds rb la lc (⟨kd,nm,lv,ty,val,pr,cs⟩:Dl) (.agg vs.toArray) W0 ((hb0.cell (p:=⟨rb,0,none⟩) hrb).trans hceq) (hL0.on hb0) hown hlen hf (HV.out.on hb0) hsm hroom
 obtain ⟨PR,hPR⟩:∃PR,putRes ds (⟨kd,nm,lv,ty,val,pr,cs⟩:Dl)=PR:=⟨_,rfl⟩
 rw [hPR] at HC1
 have HW0:=Hid.mk hW0
 have HB0:=Hid.mk hb0
 have HR:=Hid.mk hR
 have HPS:=Hid.mk hP
 have HPR:=Hid.mk hPR
 have HSM:=Hid.mk hsm
 have HBX:=Hid.mk hbx
 have HL:=Hid.mk hL
 have HLN0:=Hid.mk hln
 clear hb0 hW0 hR hP hPR hsm hv hL0 hvs hva hbx hL hceq hroom hf hown hln
 go_enter Tryz.func8,Tryz.ntmps8
 go_wp2_with (first | (rw [HW0.out];refine wpList_load_mid rfl 39 _ rfl w.heap.size 0 rfl vs _ HRG.out Tryz.underlying39 rfl HSV.out ?_) | (refine wpList_load_mid rfl 39 _ rfl w.heap.size 0 rfl vs _ HRG.out Tryz.underlying39 rfl HSV.out ?_))
 refine HC1.mono ?_
 rintro e w1 ⟨rfl,hb1⟩
 have HB1:=Hid.mk hb1
 have hs1:=hb1.size
 have HBW1:Hid (RowKit.Below w.heap.size w w1):=HB0.out.trans (hb1.mono HB0.out.size)
 clear hb1 HC1
 by_cases hp0:PR=0
 rotate_left
 ·have hpb:(PR==0)=false:=by simpa using hp0
  have HP0:=Hid.mk hp0
  clear hp0
  go_wp2
  go_ret
  unfold RPutOut
  rw [HPR.out,if_neg HP0.out]
  exact ⟨rfl,HR.out.move HBW1.out.size (fun k hk hp=>⟨hp,HBW1.out.block k hk⟩),Kept.of_below HBW1.out⟩
 subst hp0
 obtain ⟨bs,hbs⟩:=put_ok HPR.out
 have HOKD:Hid (okD (⟨kd,nm,lv,ty,val,pr,cs⟩:Dl)):=okOf hbs HSM.out
 clear hbs
 have HROWS:Hid (∃xss:List (List Value),xss.length=ds.length∧(∀xs∈xss,xs.length=17∧∀v∈xs,v.oneCell'=true)∧(∀(j:Nat) d xs,ds[j]?=some d→xss[j]?=some xs→DV (maskB (fun k=>P k||k==rb) w) (.agg xs.toArray) d)∧∀ad,la=some ad→∀j u,xss.flatten[j]?=some u→w.cell? (ad.add j)=some u):=by
  rcases HL.out with h | ⟨b,o,ha,hlt,h⟩
  ·subst h
   exact ⟨[],rfl,fun _ h=>(by cases h),fun j d xs h=>(by simp at h),fun _ _ j u h=>(by simp at h)⟩
  ·obtain ⟨xss,x1,x2,x3⟩:=rows_of (w:=maskB (fun k=>P k||k==rb) w) (b:=b) (o:=o) ds 0 (fun i d hi=>by rw [Nat.zero_add];exact h i d hi)
   refine ⟨xss,x1,x2,fun j d xs hj hx=>(x3 j d xs hj hx).2,fun ad had j u hu=>?_⟩
   rw [ha] at had
   obtain rfl:=Option.some.inj had
   obtain ⟨q,r,xs,h1,h2,h3⟩:=flatten_of (by decide:0<17) xss (fun xs hx=>(x2 xs hx).1) j u hu
   have hql:q<ds.length:=by rw [←x1];exact (List.getElem?_eq_some_iff.1 h1).1
   have hq:ds[q]?=some ds[q]:=List.getElem?_eq_getElem hql
   have:=(maskB_cell ((x3 q _ xs hq h1).1 r u h2)).2
   rw [add_at,h3,←this]
   congr 2
   omega
 obtain ⟨xss,hx1,hx2,hx3,hx4⟩:=HROWS.out
 obtain ⟨XS,hXS⟩:∃XS,xss.flatten=XS:=⟨_,rfl⟩
 have HXS:=Hid.mk hXS
 have HXSL:Hid (XS.length=ds.length*17):=by
  unfold Hid
  rw [←hXS,List.length_flatten,List.map_congr_left (g:=fun _=>17) (fun xs hx=>(hx2 xs hx).1),List.map_const',List.sum_replicate_nat,hx1]
 have HXSO:Hid (∀u∈XS,u.oneCell'=true):=by
  unfold Hid
  rw [←hXS]
  intro u hu
  obtain ⟨xs,hxs,hux⟩:=List.mem_flatten.1 hu
  exact (hx2 xs hxs).2 u hux
 have HXSN:Hid (∀W,RowKit.Below w1.heap.size w1 W→∀ad,la=some ad→∀j u,XS[j]?=some u→W.cell? (ad.add j)=some u):=fun W hW ad had j u hu=>by
  rw [←hXS] at hu
  have h1:=hx4 ad had j u hu
  exact ((HBW1.out.trans (hW.mono HBW1.out.size)).cell (World.block_lt_of_cell? w _ h1)).trans h1
 have HLN:Hid (la=none→lc=0∧ds.length=0):=fun e=>⟨HLN0.out e,by
  rcases HL.out with h | ⟨b,o,ha,-⟩
  ·rw [h];rfl
  ·rw [e] at ha;cases ha⟩
 have HX2:=Hid.mk hx2
 have HX1:=Hid.mk hx1
 have HX3:=Hid.mk hx3
 have HRC:Hid (∀W,RowKit.Below w1.heap.size w1 W→W.cell? ⟨rb,0,none⟩=some (.slice la ds.length lc)∧W.frozen? ⟨rb,0,none⟩=false):=fun W hW=>by
  have h:=((HBW1.out.trans (hW.mono HBW1.out.size)).block rb hrb).trans HBX.out
  exact ⟨by rw [cell_of_row _ rb 0 _ _ _ h];rfl,by simp [World.frozen?,h]⟩
 have HSS:Hid (∀W,RowKit.Below w1.heap.size w1 W→(W.cell? ⟨rb,0,none⟩=some (.slice la ds.length lc)∧W.rangeAt w.heap.size 0 vs)):=fun W hW=>⟨(HRC.out W hW).1,HRGS.out W (HB1.out.trans (hW.mono hs1))⟩
 clear hXS hx1 hx2 hx3 hx4 HROWS
 go_wp2_with fail
 refine Code.wp_mono (Q:=RPutJ w1 rb w.heap.size (.agg #[.int .i64 kd,.string nm,.int .i64 lv,.int .i64 t0,.int .i64 t1,.bool t2,.string t3,.slice t4 t5 t6,.slice t7 t8 t9,.int .i64 v0,.int .i64 v1,.bool v2,.string v3,.slice v4 v5 v6,.slice v7 v8 v9,.int .i64 pr,.slice ca cs.length cc]) ds.length XS (cleanD (⟨kd,nm,lv,ty,val,pr,cs⟩:Dl))) (fun e a' W' hjoin=>?_) ?_
 ·obtain ⟨rfl,⟨z6,z7,z8,z9,z10,z11,z12,z13,z14,z15,z16,z17,z18,z19,z20,z21,z22,rfl⟩,W9,g9,c9,zs,rfl,hb9,hown9,hzl,hzo,hdv9⟩:=hjoin
  have HB9:=Hid.mk hb9
  have HOWN9:=Hid.mk hown9
  have HDV9:=Hid.mk hdv9
  have hzo':=Hid.mk hzo
  have hg9:=World.ownsRow.lt hown9 g9 rfl
  have hs9:=hb9.size
  have hsw1:=HBW1.out.size
  clear hb9 hown9 hdv9 hzo
  go_wp2
  go_ret
  unfold RPutOut
  rw [HPR.out,if_pos rfl]
  have hset:∀k,k≠rb→(W9.setCell ⟨rb,0,none⟩ (.slice (some ⟨g9,0,none⟩) (ds.length+1) c9)).heap[k]?=W9.heap[k]?:=fun k hk=>Below.heap_setCell _ _ _ _ (fun e=>hk e)
  have hss:(W9.setCell ⟨rb,0,none⟩ (.slice (some ⟨g9,0,none⟩) (ds.length+1) c9)).heap.size=W9.heap.size:=by simp [World.setCell]
  have hbw9:RowKit.Below w.heap.size w W9:=HBW1.out.trans (HB9.out.mono hsw1)
  have hrbx:(W9.setCell ⟨rb,0,none⟩ (.slice (some ⟨g9,0,none⟩) (ds.length+1) c9)).heap[rb]?=some (.cells #[.slice (some ⟨g9,0,none⟩) (ds.length+1) c9] 30 (0,0)):=sets_blk [.slice (some ⟨g9,0,none⟩) (ds.length+1) c9] 0 _ _ ((hbw9.block rb hrb).trans HBX.out)
  have hPg:(fun k=>P k||k==rb) g9=false:=by
   rw [Bool.or_eq_false_iff]
   refine ⟨?_,by simp only [beq_eq_false_iff_ne];omega⟩
   cases h:P g9
   ·rfl
   ·have:=HPS.out g9 h;omega
  refine ⟨rfl,⟨⟨some ⟨g9,0,none⟩,c9,by rw [List.length_append];exact hrbx,?_,fun e=>by cases e⟩,HR.out.out⟩,⟨(show W9.os=_ from hbw9.os),(show W9.tape=_ from hbw9.tape),(show W9.output=_ from hbw9.output),by rw [hss];exact hbw9.size,fun k hk hn=>(hset k hn).trans (hbw9.block k hk)⟩⟩
  refine DL.of_owns (xss:=xss++[zs]) (B:=w1.heap.size) (n:=ds.length+1) (cap:=c9) (owns_move (by rw [List.flatten_append,HXS.out];simpa using HOWN9.out) fun k hk=>hset k (fun e=>?_)) (by simp [HX1.out]) (fun xs hx=>?_) hPg (fun j d xs hj hx=>?_)
  ·simp only [Value.ownBlock,Option.some.injEq] at hk
   omega
  ·rcases List.mem_append.1 hx with h | h
   ·exact HX2.out xs h
   ·rw [List.mem_singleton.1 h];exact ⟨hzl,hzo'.out⟩
  ·by_cases hjl:j<ds.length
   ·rw [List.getElem?_append_left hjl] at hj
    rw [List.getElem?_append_left (by rw [HX1.out];exact hjl)] at hx
    refine (HX3.out j d xs hj hx).subF (by rw [maskB_size,maskB_size,hss];exact hbw9.size) (maskB_keeps fun k h1 h2=>⟨h2,?_⟩)
    rw [Bool.or_eq_false_iff] at h2
    exact (hset k (by simpa using h2.2)).trans (hbw9.block k h1)
   ·obtain rfl:j=ds.length:=by
     have:=(List.getElem?_eq_some_iff.1 hj).1;simp at this;omega
    simp only [List.getElem?_concat_length,Option.some.injEq] at hj
    rw [←HX1.out] at hx
    simp only [List.getElem?_concat_length,Option.some.injEq] at hx
    subst hj hx
    refine HDV9.out.subF (by rw [maskB_size,maskB_size,hss];exact Nat.le_refl _) (maskB_keeps fun k h1 h2=>?_)
    have h3:=oldB_no h2
    refine ⟨?_,hset k (by omega)⟩
    rw [Bool.or_eq_false_iff]
    refine ⟨?_,by simp only [beq_eq_false_iff_ne];omega⟩
    cases h:P k
    ·rfl
    ·have:=HPS.out k h;omega
 refine wp_region_late (S:=fun w'=>w'.cell? ⟨rb,0,none⟩=some (.slice la ds.length lc)∧w'.rangeAt w.heap.size 0 vs) (fun i=>i==12) mx ?_ (fun hHeld=>?_)
 ·(try dsimp only)
  exact HSS.out _ (Below.refl _ _).drew
 obtain ⟨WS,hWS⟩:∃WS,w1.drew=WS:=⟨_,rfl⟩
 have HBWS:Hid (RowKit.Below w1.heap.size w1 WS):=by unfold Hid;rw [←hWS];exact (Below.refl _ _).drew
 rw [hWS] at hHeld ⊢
 clear hWS
 refine tkE (i:=0) (v:=.pointer (some ⟨rb,0,none⟩)) (d:=some 11) rfl (hQ:=fun _ _ _ h=>by cases h.1) (hy:=(Or.inl ⟨by kernel_rfl,fun _ _=>by kernel_rfl⟩)) (h:=?_)
 refine tkE (i:=1) (v:=.pointer (some ⟨rb,0,none⟩)) (d:=some 12) rfl (hQ:=fun _ _ _ h=>by cases h.1) (hy:=(Or.inl ⟨by kernel_rfl,fun _ _=>by kernel_rfl⟩)) (h:=?_)
 refine tkE (i:=2) (v:=.pointer (some ⟨rb,0,none⟩)) (d:=some 13) rfl (hQ:=fun _ _ _ h=>by cases h.1) (hy:=(Or.inl ⟨by kernel_rfl,fun w hSw=>by go_simp⟩)) (h:=?_)
 refine tkE (i:=3) (v:=.pointer (some ⟨rb,0,none⟩)) (d:=some 14) rfl (hQ:=fun _ _ _ h=>by cases h.1) (hy:=(Or.inl ⟨by kernel_rfl,fun w hSw=>by go_simp⟩)) (h:=?_)
 refine tkE (i:=4) (v:=.slice la ds.length lc) (d:=some 15) rfl (hQ:=fun _ _ _ h=>by cases h.1) (hy:=(Or.inl ⟨by kernel_rfl,fun w hSw=>by go_simp⟩)) (h:=?_)
 refine tkE (i:=6) (v:=.agg vs.toArray) (d:=some 17) rfl (hQ:=fun _ _ _ h=>by cases h.1) (hy:=(yieldsIf_load_mid (by kernel_rfl) 39 (.tmp 3) rfl w.heap.size 0 (by kernel_rfl) vs _ (fun w hSw=>hSw.2) Tryz.underlying39 rfl HSV.out)) (h:=?_)
 refine nx1 (i:=5) (h:=?_)
 refine ⟨_,rfl,fun K hK=>?_⟩
 refine step_appN (by rfl) _ _ (by rfl) w1.heap.size ds.length XS la lc (by kernel_rfl) (by kernel_rfl) HXSL.out (HXSN.out WS HBWS.out) HXSO.out HLN.out (by omega) HBWS.out.size ?_
 intro v16 WSa hown hgr hfr
 have HSTWSa:Hid (RowKit.Below WS.heap.size WS WSa):=⟨hgr.os,hgr.tape,hgr.output,hgr.size,fun k hk=>hgr.block k hk (by simp)⟩
 have HBWSa:Hid (RowKit.Below w1.heap.size w1 WSa):=HBWS.out.trans (HSTWSa.out.mono HBWS.out.size)
 have hsWSa:=HBWSa.out.size
 have HOWNWSa:Hid (WSa.ownsRow w1.heap.size 39 17 v16 ds.length XS):=hown
 clear hown hgr hfr
 refine hK.out _ _ (fun _=>?_) (fun hHeld=>?_)
 ·(try dsimp only)
  exact HSS.out _ HBWSa.out
 replace hHeld:=hHeld rfl
 clear hK K
 refine nx1 (i:=7) (h:=?_)
 refine ⟨_,rfl,fun K hK=>?_⟩
 go_simp
 go_at_call 23
 refine (CleanDeclE_any (⟨kd,nm,lv,ty,val,pr,cs⟩:Dl) (.agg vs.toArray) WSa (HV.out.on (HBW1.out.trans (HBWSa.out.mono HBW1.out.size))) HOKD.out HSM.out).mono ?_
 rintro e WSab ⟨zs,hzl,hzo,rfl,hdz,hb7⟩
 have HSTWSab:=Hid.mk hb7
 have HBWSab:Hid (RowKit.Below w1.heap.size w1 WSab):=HBWSa.out.trans (HSTWSab.out.mono HBWSa.out.size)
 have hsWSab:=HBWSab.out.size
 have HOWNWSab:Hid (WSab.ownsRow w1.heap.size 39 17 v16 ds.length XS):=owns_move HOWNWSa.out fun k hk=>HSTWSab.out.block k (World.ownsRow.lt HOWNWSa.out k hk).2
 have HDVWSab:Hid (DV (maskB (fun k=>oldB w1 k||decide (v16.ownBlock=some k)) WSab) (.agg zs.toArray) (cleanD (⟨kd,nm,lv,ty,val,pr,cs⟩:Dl))):=hdz.subF (by rw [maskB_size,maskB_size];exact Nat.le_refl _) (maskB_keeps fun k h1 h2=>⟨by rw [show oldB w1 k=false from oldB_new (by have:=oldB_no h2;have:=HBWSa.out.size;omega),Bool.false_or,decide_eq_false_iff_not];intro e;have:=(World.ownsRow.lt HOWNWSa.out k e).2;have:=oldB_no h2;omega,rfl⟩)
 have HZO:=Hid.mk hzo
 have HFO:Hid (List.foldl (fun (cs:Array Value) (x:Value×Nat)=>cs.setIfInBounds x.snd x.fst) #[.int .i64 0,.string { data:=#[] },.int .i64 0,.int .i64 0,.int .i64 0,.bool false,.string { data:=#[] },.slice none 0 0,.slice none 0 0,.int .i64 0,.int .i64 0,.bool false,.string { data:=#[] },.slice none 0 0,.slice none 0 0,.int .i64 0,.slice none 0 0] zs.zipIdx=zs.toArray):=fold_new _ _ (by rw [hzl];rfl)
 clear hdz hb7 hzo
 refine hK.out _ _ (fun _=>?_) (fun hHeld=>?_)
 ·(try dsimp only)
  exact HSS.out _ HBWSab.out
 replace hHeld:=hHeld rfl
 clear hK K
 refine nx1 (i:=8) (h:=?_)
 refine ⟨_,rfl,fun K hK=>?_⟩
 go_simp
 rw [HFO.out]
 obtain ⟨b8,hb8⟩:∃b8,b8=WSab.heap.size:=⟨_,rfl⟩
 rw [←hb8]
 obtain ⟨WSabc,hW8⟩:∃W8,WSab.alloc (.cells zs.toArray 39)=W8:=⟨_,rfl⟩
 have HSTWSabc:Hid (RowKit.Below WSab.heap.size WSab WSabc):=by unfold Hid;rw [←hW8];exact (Below.refl _ _).alloc (Nat.le_refl _) _
 have HBWSabc:Hid (RowKit.Below w1.heap.size w1 WSabc):=HBWSab.out.trans (HSTWSabc.out.mono HBWSab.out.size)
 have hsWSabc:=HBWSabc.out.size
 have HOWNWSabc:Hid (WSabc.ownsRow w1.heap.size 39 17 v16 ds.length XS):=owns_move HOWNWSab.out fun k hk=>HSTWSabc.out.block k (World.ownsRow.lt HOWNWSab.out k hk).2
 have HDVWSabc:Hid (DV (maskB (fun k=>oldB w1 k||decide (v16.ownBlock=some k)) WSabc) (.agg zs.toArray) (cleanD (⟨kd,nm,lv,ty,val,pr,cs⟩:Dl))):=HDVWSab.out.subF (by rw [maskB_size,maskB_size];exact HSTWSabc.out.size) (maskB_keeps fun k h1 h2=>⟨h2,HSTWSabc.out.block k h1⟩)
 have HN8WSabc:Hid (WSabc.heap[b8]?=some (.cells zs.toArray 39 (0,0))):=by unfold Hid;rw [←hW8,hb8];exact alloc_new _ _
 rw [hW8]
 clear hW8 hb8
 refine hK.out _ _ (fun _=>?_) (fun hHeld=>?_)
 ·(try dsimp only)
  exact HSS.out _ HBWSabc.out
 replace hHeld:=hHeld rfl
 clear hK K
 refine nx1 (i:=9) (h:=?_)
 refine ⟨_,rfl,fun K hK=>?_⟩
 refine step_appD rfl _ _ rfl w1.heap.size v16 ds.length XS zs b8 1 (by kernel_rfl) (by kernel_rfl) HOWNWSabc.out hzl (World.news_of_block HN8WSabc.out) HZO.out (by omega) HBWSabc.out.size ?_
 intro g9 c9 W9 hown9 hgr9 hat9
 have HB9:Hid (RowKit.Below w1.heap.size w1 W9):=Below.grown HBWSabc.out hgr9 HBWSabc.out.size (fun k hk=>(World.ownsRow.lt HOWNWSabc.out k hk).1)
 have HDV9:Hid (DV (maskB (oldB w1) W9) (.agg zs.toArray) (cleanD (⟨kd,nm,lv,ty,val,pr,cs⟩:Dl))):=HDVWSabc.out.subF (by rw [maskB_size,maskB_size];exact hgr9.size) (maskB_keeps fun k h1 h2=>by
  rw [Bool.or_eq_false_iff,decide_eq_false_iff_not] at h2
  exact ⟨h2.1,hgr9.block k h1 (fun e=>h2.2 e.symm)⟩)
 have HOWN9:=Hid.mk hown9
 obtain ⟨rc,rz⟩:=HRC.out W9 HB9.out
 clear hown9 hgr9 hat9
 refine hK.out _ _ (fun _=>?_) (fun hHeld=>?_)
 ·(try dsimp only)
  exact HSS.out _ HB9.out
 replace hHeld:=hHeld rfl
 clear hK K
 refine nx1 (i:=10) (h:=?_)
 refine ⟨_,rfl,fun K hK=>?_⟩
 go_simp
 refine hK.out _ _ (fun _=>?_) (fun hHeld=>?_)
 ·(try dsimp only)
  exact HSS.out _ HB9.out
 replace hHeld:=hHeld rfl
 clear hK K
 refine nx1 (i:=11) (h:=?_)
 refine ⟨_,rfl,fun K hK=>?_⟩
 go_simp
 refine hK.out _ _ (fun _=>?_) (fun hHeld=>?_)
 ·(try dsimp only)
  exact HSS.out _ HB9.out
 replace hHeld:=hHeld rfl
 clear hK K
 refine nx1 (i:=12) (h:=?_)
 refine ⟨_,rfl,fun K hK=>?_⟩
 go_simp
 refine hK.out _ _ (fun h=>by cases h) (fun _=>?_)
 clear hK K
 refine wpAnyM_done (by kernel_rfl) ?_ _
 exact ⟨rfl,⟨_,_,_,_,_,_,_,_,_,_,_,_,_,_,_,_,_,rfl⟩,W9,g9,c9,zs,rfl,HB9.out,HOWN9.out,hzl,HZO.out,HDV9.out⟩
end Go.Proofs.YtgfgpjcnfnopnaaGreat
