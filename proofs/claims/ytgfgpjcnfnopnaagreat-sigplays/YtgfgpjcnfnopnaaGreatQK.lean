/- Lists of terms and of Hids that are handed in;telamonlaw4.big. -/
import Derived.Test.YtgfgpjcnfnopnaaGreatNB
import Derived.Deep.Grids
import Derived.RangeFuncNested
import Derived.OrdersIn
import Derived.RangeFuncBound
import Derived.RangeFuncCalls
import Derived.RangeFuncLeaves
import Derived.RangeFuncFrom
import Derived.Shelf.Abstract
import Derived.Shelf.RegionOpen
import Derived.OwnWalkIn
import Derived.TacticsInMore
import Derived.LoopNIn
import Derived.LoopIn
import Derived.Sort.CutIn
import Derived.Laws.EntriesVeiled
import Derived.Test.YtgfgpjcnfnopnaaGreatQI
namespace Go.Proofs.YtgfgpjcnfnopnaaGreat
set_option maxRecDepth 100000
set_option maxHeartbeats 40000000
open Go.RowKit Go.Sort Go.ChangeShapes Go.WideShapes Go.ChangeAt
def TK (w:World) (a:Option Addr) (ts:List Tm):Prop:=ts=[]∨∃b o,a=some ⟨b,o,none⟩∧b<w.heap.size∧∀i t,ts[i]?=some t→TC w b (o+i*6) t
theorem TK.on {w w':World}{a:Option Addr}{ts:List Tm}(h:TK w a ts) (hb:RowKit.Below w.heap.size w w'):TK w' a ts:=by
 rcases h with h | ⟨b,o,ha,hlt,h⟩
 ·exact Or.inl h
 ·exact Or.inr ⟨b,o,ha,Nat.lt_of_lt_of_le hlt hb.size,fun i t hi=>(h i t hi).on hb⟩
theorem cf_open (xs:Array Value) (w:World):Sem.run Tryz.prog (callFunc 37 xs) w=.ok (.enter 37 xs) w:=by simp [callFunc,go_sem,Tryz.func37];rfl
def openT (t:Tm):Bool:=decide (0<tfreeR t)
theorem sopen_any (t:Tm) (v:Value) (w:World) (hv:TV w v t) (hsm:smT 1000000 t):Calls Tryz.prog 37 #[v] w fun e w'=>e=.returned (.bool (openT t))∧RowKit.Below w.heap.size w w':=by
 obtain ⟨la,lc,ka,kc,rfl⟩:=hv.shape
 have hb0:RowKit.Below w.heap.size w (w.alloc (.cells #[.int .i64 t.form,.int .i64 t.n,.bool t.hid,.string t.name,.slice la t.levels.length lc,.slice ka t.kids.length kc] 36)):=(Below.refl _ _).alloc (Nat.le_refl _) _
 have HC:=Free_any t _ _ (hv.on hb0) hsm
 have HB0:=Hid.mk hb0
 clear hv hsm hb0
 unfold openT
 generalize tfreeR t=r at *
 generalize t.form=f at *
 generalize t.n=n at *
 generalize t.hid=hd at *
 generalize t.name=nm at *
 generalize t.levels.length=l1 at *
 generalize t.kids.length=k1 at *
 go_enter Tryz.func37,Tryz.ntmps37
 go_wp2_with fail
 refine HC.mono ?_
 rintro e w1 ⟨rfl,hb1⟩
 have HB1:Hid (RowKit.Below w.heap.size w w1):=HB0.out.trans (hb1.mono HB0.out.size)
 clear hb1 HC
 go_wp2
 go_ret
 exact ⟨rfl,HB1.out⟩
theorem IndexOpen_any (ts:List Tm) (a:Option Addr) (cap:Nat) (w:World) (hS:TK w a ts) (hn:ts.length≤1000000) (hsm:∀t∈ts,smT 1000000 t) :
  Calls Tryz.prog 53 #[.slice a ts.length cap,.func (.func 37) #[] #[]] w fun e w'=>(∃r:Int,e=.returned (.int .i64 r)∧decide (0≤r)=ts.any openT)∧RowKit.Below w.heap.size w w':=by
 have HS:=Hid.mk hS
 have HX:=Hid.mk hsm
 have hcf:=cf_open
 clear hS hsm
 go_enter Tryz.func53,Tryz.ntmps53
 go_wp2
 go_loopw [8] (fun i wr=>∃k:Nat,k≤ts.length∧i=.int .i64 k∧RowKit.Below w.heap.size w wr∧(ts.take k).any openT=false) (fun i _=>ts.length - (intOf i).toNat)
 case atStart=>exact ⟨0,Nat.zero_le _,rfl,Below.refl _ _,by simp⟩
 case round =>
  obtain ⟨k,hk,rfl,hb,hall⟩:=hrel
  have HA:=Hid.mk hall
  clear hall
  by_cases hlt:k<ts.length
  ·obtain ⟨b,off,rfl,hbl,hcs⟩:=(HS.out.on hb).resolve_left (by intro e;rw [e] at hlt;simp at hlt)
   have hl:=Hid.mk (List.getElem?_eq_getElem hlt)
   obtain ⟨v0,v1,v2,v3,v4,v5,c0,c1,c2,c3,c4,c5,htv⟩:=(hcs k _ hl.out).val
   have HW:=sopen_any ts[k] _ wr htv (HX.out _ (List.getElem_mem hlt))
   have hbb:=hb.size
   have zk:(k:Int)<(ts.length:Int):=by omega
   clear hcs htv
   generalize ts[k]=tk at *
   cases h0:openT tk
   ·rw [h0] at HW
    have H0:=Hid.mk h0
    clear h0
    go_wp2_with (go_at_call 37;refine HW.mono ?_;rintro e w1 ⟨rfl,hg⟩)
    refine ⟨⟨k+1,hlt,by go_num,hb.trans (hg.mono hbb),?_⟩,by simp [intOf];omega⟩
    rw [take_any (p:=openT) hl.out,HA.out,H0.out];rfl
   ·rw [h0] at HW
    have H0:=Hid.mk h0
    clear h0
    go_wp2_with (go_at_call 37;refine HW.mono ?_;rintro e w1 ⟨rfl,hg⟩)
    go_ret
    exact ⟨⟨_,rfl,by rw [any_yes (p:=openT) hl.out H0.out];simp⟩,hb.trans (hg.mono hbb)⟩
  ·have HB:=Hid.mk hb
   go_wp2
   go_ret
   refine ⟨⟨_,rfl,?_⟩,HB.out⟩
   have:=HA.out
   rw [List.take_of_length_le (by omega)] at this
   rw [this]
   rfl
theorem HasOpen_any (ts:List Tm) (a:Option Addr) (cap:Nat) (w:World) (hS:TK w a ts) (hn:ts.length≤1000000) (hsm:∀t∈ts,smT 1000000 t) :
  Calls Tryz.prog 35 #[.slice a ts.length cap,.func (.func 37) #[] #[]] w fun e w'=>e=.returned (.bool (ts.any openT))∧RowKit.Below w.heap.size w w':=by
 have HC:=IndexOpen_any ts a cap w hS hn hsm
 clear hS hsm
 generalize ts.any openT=q at *
 go_enter Tryz.func35,Tryz.ntmps35
 go_wp2_with fail
 refine HC.mono ?_
 rintro e w1 ⟨⟨r,rfl,hr⟩,hb⟩
 have HR:=Hid.mk hr
 clear hr HC
 go_wp2
 go_ret
 exact ⟨by rw [←HR.out];rfl,hb⟩
def TL (w:World) (a:Option Addr) (ts:List Tm):Prop:=ts=[]∨∃b,a=some ⟨b,0,none⟩∧b<w.heap.size∧∀i t,ts[i]?=some t→TC w b (i*6) t
theorem RowF.tl {w:World}{B cap:Nat}{P:Nat→Bool}{a:Option Addr}{ts:List Tm}(h:RowF w B P a cap ts):TL w a ts:=by
 obtain ⟨xs,kvs,hown,hkv⟩:=h.go
 rcases hown.2 with ⟨-,hn⟩ | ⟨g,cap',cur,hv,hg,hh,hc,hm,hs,ht⟩
 ·exact Or.inl (List.length_eq_zero_iff.1 hn)
 ·simp only [Value.slice.injEq,true_and] at hv
  obtain ⟨rfl,rfl⟩:=hv
  refine Or.inr ⟨g,rfl,heap_lt hh,fun i t hi=>?_⟩
  have hlt:=(List.getElem?_eq_some_iff.1 hi).1
  exact ((hkv i t hi).1.cells hown (by omega)).tc (hkv i t hi).2.tv
theorem TL.tk {w:World}{a:Option Addr}{ts:List Tm}(h:TL w a ts):TK w a ts:=by
 rcases h with h | ⟨b,ha,hb,h⟩
 ·exact Or.inl h
 ·exact Or.inr ⟨b,0,ha,hb,fun i t hi=>by rw [Nat.zero_add];exact h i t hi⟩
theorem clean_clean (t:Tm):cleanT (cleanT t)=cleanT t:=by
 induction t using Tm.ind with
 | h f n h nm ls ks ih =>
  rw [clean_mk,clean_mk]
  have e:(ks.map cleanT).map cleanT=ks.map cleanT:=by
   rw [List.map_map]
   exact List.map_congr_left ih
  rw [e]
  congr 1
  ·split<;>rfl
  ·split<;>rfl
  ·split<;>rfl
  ·split<;>rfl
open Go.Lib
def termsD (d:Dl):List Tm:=d.ty::((if d.kind=2 then [d.val] else [])++d.ctors.map (·.2))
theorem RowF.own_lt {w:World}{B cap:Nat}{P:Nat→Bool}{a:Option Addr}{ts:List Tm}(h:RowF w B P a cap ts) {k:Nat}(hk:ownB a k=true):B≤k:=by
 obtain ⟨xs,kvs,hown,-⟩:=h.go
 exact (ownsX_lt hown hk).1
theorem tfNew {w W:World}{P:Nat→Bool}{v:Value}{t:Tm}(h:TV w v t) (hb:RowKit.Below w.heap.size w W) (hP:∀k,P k=true→w.heap.size≤k):TF W P v t :=
 (h.tf fun k hk=>by
  cases hp:P k
  ·rfl
  ·have:=hP k hp;omega).on hb
theorem wpList_appR {w:World}{ops:Array Oper}{rest:List Oper}{o:Oper}{a:Act}{Q:Exit→Act→World→Prop}(hgd:o.guard=none) (s x:Operand) (ho:o.op=.call { callee:=.builtin .append,args:=#[s,x],argTypes:=#[34,34] })
  (B:Nat) (P:Nat→Bool) (av:Option Addr) (cap n:Nat) (ts:List Tm) (b c1:Nat) (t:Tm) {v0 v1:Int} {v2:Bool} {v3:ByteArray} {l1:Option Addr} {l2 l3:Nat} {k1:Option Addr} {k2 k3:Nat} (hs:a.eval s=.slice av n cap) (hx:a.eval x=.slice (some ⟨b,0,none⟩) 1 c1) (hn:n=ts.length) (hrow:RowF w B P av cap ts) (hb:w.heap[b]?=some (.cells #[.int .i64 v0,.int .i64 v1,.bool v2,.string v3,.slice l1 l2 l3,.slice k1 k2 k3] 36 (0,0))) (hnew:TF w (fun k=>P k||ownB av k) (.agg #[.int .i64 v0,.int .i64 v1,.bool v2,.string v3,.slice l1 l2 l3,.slice k1 k2 k3]) t) (hlen:n≤1000000) (hB:B≤w.heap.size)
  (h:∀g cap' w',RowF w' B P (some ⟨g,0,none⟩) cap' (ts++[t])→RowKit.Below B w w'→wpList Tryz.prog ops Q rest (a.put o.dst (.slice (some ⟨g,0,none⟩) (n+1) cap')) w'):wpList Tryz.prog ops Q (o::rest) a w:=by
 subst hn
 obtain ⟨xs,kvs,hown,hkv⟩:=hrow.go
 refine wpList_appF hgd s x ho B (.slice av ts.length cap) ts.length xs [.int .i64 v0,.int .i64 v1,.bool v2,.string v3,.slice l1 l2 l3,.slice k1 k2 k3] b c1 hs hx hown rfl (World.news_of_block hb) (by simp [Value.oneCell']) (by omega) hB ?_
 intro g cap' w' hown' hgr hat
 exact h g cap' w' (RowF.snoc hkv hown.1 hown' hgr hat hnew) ((Below.refl _ _).grown hgr hB fun k e=>(World.ownsRow.lt hown k e).1)
theorem RowF.one {w:World}{B:Nat}{P:Nat→Bool}{t:Tm}{v0 v1:Int}{v2:Bool}{v3:ByteArray}{l1:Option Addr}{l2 l3:Nat}{k1:Option Addr}{k2 k3:Nat}(hB:B≤w.heap.size) (ht:TF (w.alloc (.cells #[.int .i64 v0,.int .i64 v1,.bool v2,.string v3,.slice l1 l2 l3,.slice k1 k2 k3] 36)) (fun k=>P k||ownB (some ⟨w.heap.size,0,none⟩) k) (.agg #[.int .i64 v0,.int .i64 v1,.bool v2,.string v3,.slice l1 l2 l3,.slice k1 k2 k3]) t):RowF (w.alloc (.cells #[.int .i64 v0,.int .i64 v1,.bool v2,.string v3,.slice l1 l2 l3,.slice k1 k2 k3] 36)) B P (some ⟨w.heap.size,0,none⟩) 1 [t]:=by
 refine ⟨[.int .i64 v0,.int .i64 v1,.bool v2,.string v3,.slice l1 l2 l3,.slice k1 k2 k3],fun _=>.agg #[.int .i64 v0,.int .i64 v1,.bool v2,.string v3,.slice l1 l2 l3,.slice k1 k2 k3],?_,fun j t' hj=>?_⟩
 ·have:=World.ownsRow_lit (base:=B) (e:=36) (size:=6) w #[.int .i64 v0,.int .i64 v1,.bool v2,.string v3,.slice l1 l2 l3,.slice k1 k2 k3] 1 hB (by decide) rfl
  simpa using this
 ·match j with
  | 0 =>
   simp only [List.getElem?_cons_zero,Option.some.injEq] at hj
   subst hj
   exact ⟨⟨_,_,_,_,_,_,_,_,_,_,rfl,rfl,rfl,rfl,rfl,rfl,rfl⟩,ht⟩
  | j+1=>simp at hj
theorem terms_any (d:Dl) (v:Value) (w:World) (hv:DV w v d) (hcl:d.ctors.length≤1000):Calls Tryz.prog 36 #[v] w fun e w'=>∃(a:Option Addr) (cap:Nat),e=.returned (.slice a (termsD d).length cap)∧TK w' a (termsD d)∧RowKit.Below w.heap.size w w':=by
 obtain ⟨t0,t1,t2,t3,t4,t5,t6,t7,t8,t9,v0,v1,v2,v3,v4,v5,v6,v7,v8,v9,ca,cc,rfl,htt,htv,hck⟩:=hv.go
 clear hv
 obtain ⟨kd,nm,lv,ty,val,pr,cs⟩:=d
 simp only at htt htv hck hcl
 obtain ⟨W0,hW0⟩:∃W0,w.alloc (.cells #[.int .i64 kd,.string nm,.int .i64 lv,.int .i64 t0,.int .i64 t1,.bool t2,.string t3,.slice t4 t5 t6,.slice t7 t8 t9,.int .i64 v0,.int .i64 v1,.bool v2,.string v3,.slice v4 v5 v6,.slice v7 v8 v9,.int .i64 pr,.slice ca cs.length cc] 39)=W0:=⟨_,rfl⟩
 have hb0:RowKit.Below w.heap.size w W0:=by rw [←hW0];exact (Below.refl _ _).alloc (Nat.le_refl _) _
 have HA0:Hid (W0.heap[w.heap.size]?=some (.cells #[.int .i64 kd,.string nm,.int .i64 lv,.int .i64 t0,.int .i64 t1,.bool t2,.string t3,.slice t4 t5 t6,.slice t7 t8 t9,.int .i64 v0,.int .i64 v1,.bool v2,.string v3,.slice v4 v5 v6,.slice v7 v8 v9,.int .i64 pr,.slice ca cs.length cc] 39 (0,0))):=by unfold Hid;rw [←hW0];exact alloc_new _ _
 have hs0:W0.heap.size=w.heap.size+1:=by rw [←hW0];simp
 have hs0a:=Nat.le_of_eq hs0
 have hs0b:=Nat.le_of_eq hs0.symm
 obtain ⟨W1,hW1⟩:∃W1,W0.alloc (.cells #[.int .i64 t0,.int .i64 t1,.bool t2,.string t3,.slice t4 t5 t6,.slice t7 t8 t9] 36)=W1:=⟨_,rfl⟩
 have hb1:RowKit.Below W0.heap.size W0 W1:=by rw [←hW1];exact (Below.refl _ _).alloc (Nat.le_refl _) _
 have hs1:=hb1.size
 have HB:Hid (RowKit.Below w.heap.size w W1):=hb0.trans (hb1.mono (by omega))
 have HROW:Hid (RowF W1 (w.heap.size+1) (fun _=>false) (some ⟨W0.heap.size,0,none⟩) 1 [ty]):=by
  unfold Hid
  rw [←hW1]
  refine RowF.one (by omega) ?_
  rw [hW1]
  exact tfNew htt HB.out (fun k hk=>by simp [ownB] at hk;omega)
 have HA:Hid (W1.heap[w.heap.size]?=some (.cells #[.int .i64 kd,.string nm,.int .i64 lv,.int .i64 t0,.int .i64 t1,.bool t2,.string t3,.slice t4 t5 t6,.slice t7 t8 t9,.int .i64 v0,.int .i64 v1,.bool v2,.string v3,.slice v4 v5 v6,.slice v7 v8 v9,.int .i64 pr,.slice ca cs.length cc] 39 (0,0))):=(hb1.block _ (by omega)).trans HA0.out
 have HW0:=Hid.mk hW0
 have HW1:=Hid.mk hW1
 have HTV:=Hid.mk htv
 have HCK:=Hid.mk hck
 obtain ⟨q0,q1,q2,q3,q4,q5,q6,q7,q8,q9,q10,q11,q12,q13,q14,q15,q16,q17⟩:=cells17 HA0.out
 clear hb0 hW0 hs0 hb1 hW1 htt htv hck
 have hKD:kd=2∨kd≠2:=by omega
 rcases hKD with hk | hk
 ·subst hk
  have HR2:Hid (RowF (W1.alloc (.cells #[.int .i64 v0,.int .i64 v1,.bool v2,.string v3,.slice v4 v5 v6,.slice v7 v8 v9] 36)) (w.heap.size+1) (fun _=>false) (some ⟨W0.heap.size,0,none⟩) 1 [ty]):=HROW.out.on (fun _ _=>rfl) ((Below.refl _ _).alloc (Nat.le_refl _) _)
  have HN2:Hid (TF (W1.alloc (.cells #[.int .i64 v0,.int .i64 v1,.bool v2,.string v3,.slice v4 v5 v6,.slice v7 v8 v9] 36)) (fun k=>false||ownB (some ⟨W0.heap.size,0,none⟩) k) (.agg #[.int .i64 v0,.int .i64 v1,.bool v2,.string v3,.slice v4 v5 v6,.slice v7 v8 v9]) val):=tfNew HTV.out (HB.out.alloc (by omega) _) (fun k hk=>by simp [ownB] at hk;omega)
  have hsz2:w.heap.size+1≤(W1.alloc (.cells #[.int .i64 v0,.int .i64 v1,.bool v2,.string v3,.slice v4 v5 v6,.slice v7 v8 v9] 36)).heap.size:=by simp;omega
  obtain ⟨r0,r1,r2,r3,r4,r5,r6,r7,r8,r9,r10,r11,r12,r13,r14,r15,r16,r17⟩:=cells17 HA.out
  go_enter Tryz.func36,Tryz.ntmps36
  go_wp2_with (first | (rw [HW0.out]) | (rw [HW1.out]) | (at_builtin;refine wpList_appR rfl _ _ rfl (w.heap.size+1) (fun _=>false) (some ⟨W0.heap.size,0,none⟩) 1 1 [ty] W1.heap.size 1 val rfl rfl rfl HR2.out (alloc_new _ _) HN2.out (by decide) hsz2 ?_;intro g3 c3 W3 hrow3 hb3;have HROW3:=Hid.mk hrow3;have HB3:=Hid.mk hb3;have hA3:=(hb3.block w.heap.size (by omega)).trans ((Below.heap_alloc _ _ _ (by omega)).trans HA.out);clear hrow3 hb3 q0 q1 q2 q3 q4 q5 q6 q7 q8 q9 q10 q11 q12 q13 q14 q15 q16 q17 r0 r1 r2 r3 r4 r5 r6 r7 r8 r9 r10 r11 r12 r13 r14 r15 r16 r17;obtain ⟨q0,q1,q2,q3,q4,q5,q6,q7,q8,q9,q10,q11,q12,q13,q14,q15,q16,q17⟩:=cells17 hA3))
  clear q0 q1 q2 q3 q4 q5 q6 q7 q8 q9 q10 q11 q12 q13 q14 q15 q16 q17
  have HROW:Hid (RowF W3 (w.heap.size+1) (fun _=>false) (some ⟨g3,0,none⟩) c3 [ty,val]):=HROW3.out
  have HB:Hid (RowKit.Below w.heap.size w W3):=(HB.out.alloc (by omega) _).trans (HB3.out.mono (by omega))
  obtain ⟨TS0,hTS0⟩:∃TS0:List Tm,TS0=[ty,val]:=⟨_,rfl⟩
  rw [←hTS0] at HROW
  have HL0:Hid (TS0.length=2):=by unfold Hid;rw [hTS0];rfl
  have hl2:TS0.length≤2:=by have:=HL0.out;omega
  have HTS:=Hid.mk hTS0
  clear hTS0
  go_loopw [3,20] (fun o i wr=>∃(k:Nat) (a:Option Addr) (cap:Nat),k≤cs.length∧i=.int .i64 k∧o=.slice a (TS0.length+k) cap∧RowF wr (w.heap.size+1) (fun _=>false) a cap (TS0++(cs.take k).map (·.2))∧RowKit.Below w.heap.size w wr) (fun _ i _=>cs.length - (intOf i).toNat)
  case atStart=>exact ⟨0,_,_,Nat.zero_le _,rfl,by rw [Nat.add_zero,HL0.out],by rw [List.take_zero,List.map_nil,List.append_nil];exact HROW.out,HB.out⟩
  case round =>
   obtain ⟨k,a,cap,hk,rfl,rfl,hrow,hb⟩:=hrel
   have HR:=Hid.mk hrow
   have HBR:=Hid.mk hb
   have hsr:=hb.size
   clear hrow hb
   by_cases hlt:k<cs.length
   rotate_left
   ·obtain rfl:k=cs.length:=by omega
    have HLEN:Hid (TS0.length+cs.length=(termsD ⟨2,nm,lv,ty,val,pr,cs⟩).length):=by unfold Hid;rw [HTS.out];simp [termsD];omega
    have HTK:Hid (TK wr a (termsD ⟨2,nm,lv,ty,val,pr,cs⟩)):=by
     have h:=HR.out.tl.tk
     rw [List.take_length,HTS.out] at h
     unfold Hid
     simpa [termsD] using h
    go_wp2
    go_ret
    exact ⟨a,cap,by rw [←HLEN.out];rfl,HTK.out,HBR.out⟩
   obtain ⟨xb,xo,rfl,hxb,hxc⟩:=HCK.out.resolve_left (by intro e;rw [e] at hlt;simp at hlt)
   have hcj:=hxc k _ (List.getElem?_eq_getElem hlt)
   have HTKE:Hid (TS0++(cs.take (k+1)).map (·.2)=(TS0++(cs.take k).map (·.2))++[cs[k].2]):=by
    unfold Hid
    rw [List.take_succ_eq_append_getElem hlt,List.map_append,List.append_assoc]
    rfl
   have HTKL:Hid ((TS0++(cs.take k).map (·.2)).length=TS0.length+k):=by unfold Hid;simp;omega
   generalize cs[k]=cj at *
   obtain ⟨cn,cty⟩:=cj
   simp only at hcj
   obtain ⟨hc0,hct⟩:=hcj
   obtain ⟨m0,m1,m2,m3,m4,m5,m6,m7,m8,m9,e0,e1,e2,e3,e4,e5,htv⟩:=hct.valE
   have HM7:Hid (wr.rangeAt xb (xo+k*7) [.string cn,.int .i64 m0,.int .i64 m1,.bool m2,.string m3,.slice m4 m5 m6,.slice m7 m8 m9]):=by
    have hB:∀(o:Nat) (v:Value),w.cell? ⟨xb,o,none⟩=some v→wr.cell? ⟨xb,o,none⟩=some v:=fun o v hv=>(HBR.out.cell (p:=⟨xb,o,none⟩) hxb).trans hv
    exact range7 (hB _ _ hc0) (hB _ _ e0) (hB _ _ e1) (hB _ _ e2) (hB _ _ e3) (hB _ _ e4) (hB _ _ e5)
   have HS7:Hid ((Tryz.prog.info? 45).map (·.size)=some ([.string cn,.int .i64 m0,.int .i64 m1,.bool m2,.string m3,.slice m4 m5 m6,.slice m7 m8 m9]:List Value).length):=by unfold Hid;kernel_rfl
   have HSA:Hid ((Tryz.prog.info? 45).map (·.size)=some (#[.string cn,.int .i64 m0,.int .i64 m1,.bool m2,.string m3,.slice m4 m5 m6,.slice m7 m8 m9]:Array Value).size):=by unfold Hid;kernel_rfl
   have HONE:Hid (((#[.string cn,.int .i64 m0,.int .i64 m1,.bool m2,.string m3,.slice m4 m5 m6,.slice m7 m8 m9]:Array Value)).all (·.oneCell')=true):=by unfold Hid;simp [Value.oneCell']
   obtain ⟨W4,hW4⟩:∃W4,wr.alloc (.cells #[.string cn,.int .i64 m0,.int .i64 m1,.bool m2,.string m3,.slice m4 m5 m6,.slice m7 m8 m9] 45)=W4:=⟨_,rfl⟩
   have hb4:RowKit.Below wr.heap.size wr W4:=by rw [←hW4];exact (Below.refl _ _).alloc (Nat.le_refl _) _
   have hY4:W4.heap[wr.heap.size]?=some (.cells #[.string cn,.int .i64 m0,.int .i64 m1,.bool m2,.string m3,.slice m4 m5 m6,.slice m7 m8 m9] 45 (0,0)):=by rw [←hW4];exact alloc_new _ _
   obtain ⟨y0,y1,y2,y3,y4,y5,y6,-⟩:=cells7 hY4
   have hs4:=hb4.size
   have HB4:Hid (RowKit.Below w.heap.size w W4):=HBR.out.trans (hb4.mono (by omega))
   have HW4:=Hid.mk hW4
   have HR4:Hid (RowF W4 (w.heap.size+1) (fun _=>false) a cap (TS0++(cs.take k).map (·.2))):=HR.out.on (fun _ _=>rfl) hb4
   have HTV:=Hid.mk htv
   have zk:(k:Int)<(cs.length:Int):=by omega
   have hkk:TS0.length+k≤1000000:=by omega
   clear hc0 hct e0 e1 e2 e3 e4 e5 hxc hb4 hY4 hW4 htv
   have HR5:Hid (RowF (W4.alloc (.cells #[.int .i64 m0,.int .i64 m1,.bool m2,.string m3,.slice m4 m5 m6,.slice m7 m8 m9] 36)) (w.heap.size+1) (fun _=>false) a cap (TS0++(cs.take k).map (·.2))):=HR4.out.on (fun _ _=>rfl) ((Below.refl _ _).alloc (Nat.le_refl _) _)
   have HN5:Hid (TF (W4.alloc (.cells #[.int .i64 m0,.int .i64 m1,.bool m2,.string m3,.slice m4 m5 m6,.slice m7 m8 m9] 36)) (fun k=>false||ownB a k) (.agg #[.int .i64 m0,.int .i64 m1,.bool m2,.string m3,.slice m4 m5 m6,.slice m7 m8 m9]) cty):=tfNew HTV.out (HB4.out.alloc (by omega) _) (fun k hk=>by have:=HR4.out.own_lt (k:=k) (by simpa using hk);omega)
   have hsz5:w.heap.size+1≤(W4.alloc (.cells #[.int .i64 m0,.int .i64 m1,.bool m2,.string m3,.slice m4 m5 m6,.slice m7 m8 m9] 36)).heap.size:=by have:=HB.out.size;simp;omega
   go_wp2_with (first | (refine wpList_load_mid rfl 45 _ rfl xb (xo+k*7) rfl [.string cn,.int .i64 m0,.int .i64 m1,.bool m2,.string m3,.slice m4 m5 m6,.slice m7 m8 m9] _ HM7.out Tryz.underlying45 rfl HS7.out ?_) | (refine wpList_store_new rfl 45 _ _ rfl rfl rfl HSA.out rfl HONE.out ?_;rw [HW4.out]) | (at_builtin;refine wpList_appR rfl _ _ rfl (w.heap.size+1) (fun _=>false) a cap (TS0.length+k) (TS0++(cs.take k).map (·.2)) W4.heap.size 1 cty rfl rfl HTKL.out.symm HR5.out (alloc_new _ _) HN5.out hkk hsz5 ?_;intro g6 c6 W6 hrow6 hb6;have HR6:=Hid.mk hrow6;have HB6:=Hid.mk hb6;clear hrow6 hb6))
   refine ⟨⟨k+1,some ⟨g6,0,none⟩,c6,hlt,by go_num,by rw [Nat.add_assoc],by rw [HTKE.out];exact HR6.out,?_⟩,by simp [intOf];omega⟩
   exact (HB4.out.alloc (by omega) _).trans (HB6.out.mono (by omega))
 ·have hk2:(kd==2)=false:=by simpa using hk
  have HK:=Hid.mk hk
  obtain ⟨r0,r1,r2,r3,r4,r5,r6,r7,r8,r9,r10,r11,r12,r13,r14,r15,r16,r17⟩:=cells17 HA.out
  clear hk
  go_enter Tryz.func36,Tryz.ntmps36
  go_wp2_with (first | (rw [HW0.out]) | (rw [HW1.out]))
  clear q0 q1 q2 q3 q4 q5 q6 q7 q8 q9 q10 q11 q12 q13 q14 q15 q16 q17
  clear r0 r1 r2 r3 r4 r5 r6 r7 r8 r9 r10 r11 r12 r13 r14 r15 r16 r17
  obtain ⟨TS0,hTS0⟩:∃TS0:List Tm,TS0=[ty]:=⟨_,rfl⟩
  rw [←hTS0] at HROW
  have HL0:Hid (TS0.length=1):=by unfold Hid;rw [hTS0];rfl
  have hl2:TS0.length≤2:=by have:=HL0.out;omega
  have HTS:=Hid.mk hTS0
  clear hTS0
  go_loopw [3,20] (fun o i wr=>∃(k:Nat) (a:Option Addr) (cap:Nat),k≤cs.length∧i=.int .i64 k∧o=.slice a (TS0.length+k) cap∧RowF wr (w.heap.size+1) (fun _=>false) a cap (TS0++(cs.take k).map (·.2))∧RowKit.Below w.heap.size w wr) (fun _ i _=>cs.length - (intOf i).toNat)
  case atStart=>exact ⟨0,_,_,Nat.zero_le _,rfl,by rw [Nat.add_zero,HL0.out],by rw [List.take_zero,List.map_nil,List.append_nil];exact HROW.out,HB.out⟩
  case round =>
   obtain ⟨k,a,cap,hk,rfl,rfl,hrow,hb⟩:=hrel
   have HR:=Hid.mk hrow
   have HBR:=Hid.mk hb
   have hsr:=hb.size
   clear hrow hb
   by_cases hlt:k<cs.length
   rotate_left
   ·obtain rfl:k=cs.length:=by omega
    have HLEN:Hid (TS0.length+cs.length=(termsD ⟨kd,nm,lv,ty,val,pr,cs⟩).length):=by unfold Hid;rw [HTS.out];simp [termsD,HK.out];omega
    have HTK:Hid (TK wr a (termsD ⟨kd,nm,lv,ty,val,pr,cs⟩)):=by
     have h:=HR.out.tl.tk
     rw [List.take_length,HTS.out] at h
     unfold Hid
     simpa [termsD,HK.out] using h
    go_wp2
    go_ret
    exact ⟨a,cap,by rw [←HLEN.out];rfl,HTK.out,HBR.out⟩
   obtain ⟨xb,xo,rfl,hxb,hxc⟩:=HCK.out.resolve_left (by intro e;rw [e] at hlt;simp at hlt)
   have hcj:=hxc k _ (List.getElem?_eq_getElem hlt)
   have HTKE:Hid (TS0++(cs.take (k+1)).map (·.2)=(TS0++(cs.take k).map (·.2))++[cs[k].2]):=by
    unfold Hid
    rw [List.take_succ_eq_append_getElem hlt,List.map_append,List.append_assoc]
    rfl
   have HTKL:Hid ((TS0++(cs.take k).map (·.2)).length=TS0.length+k):=by unfold Hid;simp;omega
   generalize cs[k]=cj at *
   obtain ⟨cn,cty⟩:=cj
   simp only at hcj
   obtain ⟨hc0,hct⟩:=hcj
   obtain ⟨m0,m1,m2,m3,m4,m5,m6,m7,m8,m9,e0,e1,e2,e3,e4,e5,htv⟩:=hct.valE
   have HM7:Hid (wr.rangeAt xb (xo+k*7) [.string cn,.int .i64 m0,.int .i64 m1,.bool m2,.string m3,.slice m4 m5 m6,.slice m7 m8 m9]):=by
    have hB:∀(o:Nat) (v:Value),w.cell? ⟨xb,o,none⟩=some v→wr.cell? ⟨xb,o,none⟩=some v:=fun o v hv=>(HBR.out.cell (p:=⟨xb,o,none⟩) hxb).trans hv
    exact range7 (hB _ _ hc0) (hB _ _ e0) (hB _ _ e1) (hB _ _ e2) (hB _ _ e3) (hB _ _ e4) (hB _ _ e5)
   have HS7:Hid ((Tryz.prog.info? 45).map (·.size)=some ([.string cn,.int .i64 m0,.int .i64 m1,.bool m2,.string m3,.slice m4 m5 m6,.slice m7 m8 m9]:List Value).length):=by unfold Hid;kernel_rfl
   have HSA:Hid ((Tryz.prog.info? 45).map (·.size)=some (#[.string cn,.int .i64 m0,.int .i64 m1,.bool m2,.string m3,.slice m4 m5 m6,.slice m7 m8 m9]:Array Value).size):=by unfold Hid;kernel_rfl
   have HONE:Hid (((#[.string cn,.int .i64 m0,.int .i64 m1,.bool m2,.string m3,.slice m4 m5 m6,.slice m7 m8 m9]:Array Value)).all (·.oneCell')=true):=by unfold Hid;simp [Value.oneCell']
   obtain ⟨W4,hW4⟩:∃W4,wr.alloc (.cells #[.string cn,.int .i64 m0,.int .i64 m1,.bool m2,.string m3,.slice m4 m5 m6,.slice m7 m8 m9] 45)=W4:=⟨_,rfl⟩
   have hb4:RowKit.Below wr.heap.size wr W4:=by rw [←hW4];exact (Below.refl _ _).alloc (Nat.le_refl _) _
   have hY4:W4.heap[wr.heap.size]?=some (.cells #[.string cn,.int .i64 m0,.int .i64 m1,.bool m2,.string m3,.slice m4 m5 m6,.slice m7 m8 m9] 45 (0,0)):=by rw [←hW4];exact alloc_new _ _
   obtain ⟨y0,y1,y2,y3,y4,y5,y6,-⟩:=cells7 hY4
   have hs4:=hb4.size
   have HB4:Hid (RowKit.Below w.heap.size w W4):=HBR.out.trans (hb4.mono (by omega))
   have HW4:=Hid.mk hW4
   have HR4:Hid (RowF W4 (w.heap.size+1) (fun _=>false) a cap (TS0++(cs.take k).map (·.2))):=HR.out.on (fun _ _=>rfl) hb4
   have HTV:=Hid.mk htv
   have zk:(k:Int)<(cs.length:Int):=by omega
   have hkk:TS0.length+k≤1000000:=by omega
   clear hc0 hct e0 e1 e2 e3 e4 e5 hxc hb4 hY4 hW4 htv
   have HR5:Hid (RowF (W4.alloc (.cells #[.int .i64 m0,.int .i64 m1,.bool m2,.string m3,.slice m4 m5 m6,.slice m7 m8 m9] 36)) (w.heap.size+1) (fun _=>false) a cap (TS0++(cs.take k).map (·.2))):=HR4.out.on (fun _ _=>rfl) ((Below.refl _ _).alloc (Nat.le_refl _) _)
   have HN5:Hid (TF (W4.alloc (.cells #[.int .i64 m0,.int .i64 m1,.bool m2,.string m3,.slice m4 m5 m6,.slice m7 m8 m9] 36)) (fun k=>false||ownB a k) (.agg #[.int .i64 m0,.int .i64 m1,.bool m2,.string m3,.slice m4 m5 m6,.slice m7 m8 m9]) cty):=tfNew HTV.out (HB4.out.alloc (by omega) _) (fun k hk=>by have:=HR4.out.own_lt (k:=k) (by simpa using hk);omega)
   have hsz5:w.heap.size+1≤(W4.alloc (.cells #[.int .i64 m0,.int .i64 m1,.bool m2,.string m3,.slice m4 m5 m6,.slice m7 m8 m9] 36)).heap.size:=by have:=HB.out.size;simp;omega
   go_wp2_with (first | (refine wpList_load_mid rfl 45 _ rfl xb (xo+k*7) rfl [.string cn,.int .i64 m0,.int .i64 m1,.bool m2,.string m3,.slice m4 m5 m6,.slice m7 m8 m9] _ HM7.out Tryz.underlying45 rfl HS7.out ?_) | (refine wpList_store_new rfl 45 _ _ rfl rfl rfl HSA.out rfl HONE.out ?_;rw [HW4.out]) | (at_builtin;refine wpList_appR rfl _ _ rfl (w.heap.size+1) (fun _=>false) a cap (TS0.length+k) (TS0++(cs.take k).map (·.2)) W4.heap.size 1 cty rfl rfl HTKL.out.symm HR5.out (alloc_new _ _) HN5.out hkk hsz5 ?_;intro g6 c6 W6 hrow6 hb6;have HR6:=Hid.mk hrow6;have HB6:=Hid.mk hb6;clear hrow6 hb6))
   refine ⟨⟨k+1,some ⟨g6,0,none⟩,c6,hlt,by go_num,by rw [Nat.add_assoc],by rw [HTKE.out];exact HR6.out,?_⟩,by simp [intOf];omega⟩
   exact (HB4.out.alloc (by omega) _).trans (HB6.out.mono (by omega))
end Go.Proofs.YtgfgpjcnfnopnaaGreat
