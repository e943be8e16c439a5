/- The contract of term.withKid. -/
import Derived.Test.YtgfgpjcnfnopnaaGreatOA
import Derived.Deep.AppendLies
import Derived.Deep.RegionHeld3
import Derived.Laws.AppendOwnNone
namespace Go.Proofs.YtgfgpjcnfnopnaaGreat
open Go.RowKit Go.Sort
theorem infoTerm:(Tryz.prog.info? 36).map (fun i=>(i.zero,i.size,i.bytes))=some (some (.agg #[.int .i64 0,.int .i64 0,.bool false,.string ByteArray.empty,.slice none 0 0,.slice none 0 0]),6,88):=by kernel_rfl
theorem wpList_app1 {w:World}{ops:Array Oper}{rest:List Oper}{o:Oper}{a:Act}{Q:Exit→Act→World→Prop}(hgd:o.guard=none) (s x:Operand) (ho:o.op=.call { callee:=.builtin .append,args:=#[s,x],argTypes:=#[34,34] })
  (g n cap b c:Nat) (cur:Array Value) (hg:w.heap[g]?=some (.cells cur 36 (0,0))) (hs:a.eval s=.slice (some ⟨g,0,none⟩) n cap) (hx:a.eval x=.slice (some ⟨b,0,none⟩) 1 c) (news:List Value) (hl:news.length=6) (hnews:∀j u,news[j]?=some u→w.cell? ((⟨b,0,none⟩:Addr).add j)=some u) (h1:∀u∈news,u.oneCell'=true) (hroom:n<cap) (hcs:cur.size=cap*6)
  (h:∀W:World,W.heap[g]?=some (.cells (cur.toList.take (n*6)++news++cur.toList.drop (n*6+6)).toArray 36 (0,0))→(∀k,k≠g→W.heap[k]?=w.heap[k]?)→Kept (·=g) w W→wpList Tryz.prog ops Q rest (a.put o.dst (.slice (some ⟨g,0,none⟩) (n+1) cap)) W):wpList Tryz.prog ops Q (o::rest) a w:=by
 obtain ⟨i,hi,hz0,hz1,hz2⟩:=info_parts infoTerm
 have hr:=run_append_room (P:=Tryz.prog) w 34 o.type 36 i Tryz.underlying34 hi g n cap cur hg ⟨b,0,none⟩ 1 c news (by rw [hz1,hl]) hnews h1 hroom (by rw [hz1,hl,hcs];omega)
 rw [hz1,hl] at hr
 refine wpList_plain hgd fun K hK=>?_
 unfold Oper.wp execOp
 simp only [ho,resolve,invoke,builtin,Sem.run_bind,Sem.run_pure,Result.andThen_ok,List.map_toArray,List.map_cons,List.map_nil,hs,hx,hr]
 exact hK _ _ (h _ (setRow_heap w g cur _ 36 (0,0) hg) (fun k hk=>setRow_other _ _ _ _ hk) ⟨rfl,rfl,rfl,by simp,fun k _ hk=>setRow_other _ _ _ _ hk⟩)
theorem TO.shapeE {w:World}{B E:Nat}{v:Value}{t:Tm}(h:TO w B E v t):∃(v0 v1:Int) (v2:Bool) (v3:ByteArray) (l1:Option Addr) (l2 l3:Nat) (k1:Option Addr) (k2 k3:Nat),v=.agg #[.int .i64 v0,.int .i64 v1,.bool v2,.string v3,.slice l1 l2 l3,.slice k1 k2 k3]:=by
 cases h with
 | leaf hl=>obtain ⟨la,lc,rfl,-⟩:=hl.ln;exact ⟨_,_,_,_,_,_,_,_,_,_,rfl⟩
 | row hl=>obtain ⟨la,lc,rfl,-⟩:=hl.ln;exact ⟨_,_,_,_,_,_,_,_,_,_,rfl⟩
theorem row_old {w W:World}{g n:Nat}{cur:Array Value}{news:List Value}{t:TypeId}(hg:w.heap[g]?=some (.cells cur t (0,0))) (hW:W.heap[g]?=some (.cells (cur.toList.take (n*6)++news++cur.toList.drop (n*6+6)).toArray t (0,0))) (hn:n*6≤cur.size) {o:Nat}(ho:o<n*6):W.cell? ⟨g,o,none⟩=w.cell? ⟨g,o,none⟩:=by
 rw [cell_of_row _ g o _ _ _ hW,cell_of_row _ g o _ _ _ hg]
 have hl:o<(cur.toList.take (n*6)).length:=by simp;omega
 simp only [List.getElem?_toArray]
 rw [List.append_assoc,List.getElem?_append_left hl,List.getElem?_take_of_lt ho]
 simp
theorem row_new {W:World}{g n:Nat}{cur:Array Value}{news:List Value}{t:TypeId}(hW:W.heap[g]?=some (.cells (cur.toList.take (n*6)++news++cur.toList.drop (n*6+6)).toArray t (0,0))) (hn:n*6≤cur.size) {j:Nat}(hj:j<news.length):W.cell? ⟨g,n*6+j,none⟩=news[j]?:=by
 rw [cell_of_row _ g (n*6+j) _ _ _ hW]
 have hl:(cur.toList.take (n*6)).length=n*6:=by simp;omega
 simp only [List.getElem?_toArray]
 rw [List.append_assoc,List.getElem?_append_right (by omega),hl,Nat.add_sub_cancel_left,List.getElem?_append_left hj]
theorem cellsAt_old {w W:World}{g n i:Nat}{cur:Array Value}{news:List Value}{t:TypeId}{v:Value}(hg:w.heap[g]?=some (.cells cur t (0,0))) (hW:W.heap[g]?=some (.cells (cur.toList.take (n*6)++news++cur.toList.drop (n*6+6)).toArray t (0,0))) (hn:n*6≤cur.size) (hi:i<n) (h:CellsAt w g (i*6) v):CellsAt W g (i*6) v:=by
 obtain ⟨v0,v1,v2,v3,l1,l2,l3,k1,k2,k3,hv,c0,c1,c2,c3,c4,c5⟩:=h
 exact ⟨v0,v1,v2,v3,l1,l2,l3,k1,k2,k3,hv,(row_old hg hW hn (by omega)).trans c0,(row_old hg hW hn (by omega)).trans c1,(row_old hg hW hn (by omega)).trans c2,(row_old hg hW hn (by omega)).trans c3,(row_old hg hW hn (by omega)).trans c4,(row_old hg hW hn (by omega)).trans c5⟩
theorem RO.more {w W:World}{B N E g kc E' E'':Nat}{f n:Int}{h:Bool}{nm:ByteArray}{lv:Value}{k1:Nat}{r k:Tm}{v0 v1:Int}{v2:Bool}{v3:ByteArray}{q1:Option Addr}{q2 q3:Nat}{p1:Option Addr}{p2 p3:Nat}{cur:Array Value}
  (hR:RO w B N E g kc (.agg #[.int .i64 f,.int .i64 n,.bool h,.string nm,lv,.slice (some ⟨g,0,none⟩) k1 kc]) r) (hT:TO w E' E'' (.agg #[.int .i64 v0,.int .i64 v1,.bool v2,.string v3,.slice q1 q2 q3,.slice p1 p2 p3]) k) (hEE:E≤E') (hroom:k1<kc) (hcur:w.heap[g]?=some (.cells cur 36 (0,0)))
  (hW:W.heap[g]?=some (.cells (cur.toList.take (k1*6)++([.int .i64 v0,.int .i64 v1,.bool v2,.string v3,.slice q1 q2 q3,.slice p1 p2 p3]:List Value)++cur.toList.drop (k1*6+6)).toArray 36 (0,0))) (hk:∀i,i<E''→i≠g→W.heap[i]?=w.heap[i]?) :
  RO W B N E'' g kc (.agg #[.int .i64 f,.int .i64 n,.bool h,.string nm,lv,.slice (some ⟨g,0,none⟩) (k1+1) kc]) (r.add k):=by
 obtain ⟨f',n',h',nm',ls,ks,lv',m,bd,kvs,hv,rfl,hl,hBm,hmg,hgN,hNb,hbd,hE,hrow,hkc,hkm,cells,kids⟩:=hR
 simp only [Value.agg.injEq,Array.mk.injEq,List.cons.injEq,Value.int.injEq,true_and,Value.bool.injEq,Value.string.injEq,Value.slice.injEq,and_true] at hv
 obtain ⟨rfl,rfl,rfl,rfl,rfl,rfl⟩:=hv
 have hT':=hT.le
 have h0:=bd_mono hbd (Nat.zero_le ks.length)
 obtain ⟨cur',hc',hs'⟩:=hrow
 obtain rfl:cur'=cur:=by rw [hc'] at hcur;simpa using hcur
 have hn6:ks.length*6≤cur'.size:=by rw [hs'];omega
 refine ⟨f,n,h,nm,ls,ks++[k],lv,m,fun i=>if i≤ks.length then bd i else E'',fun i=>if i<ks.length then kvs i else (.agg #[.int .i64 v0,.int .i64 v1,.bool v2,.string v3,.slice q1 q2 q3,.slice p1 p2 p3]),by simp,rfl,hl.on (fun i h1 h2=>hk i (by omega) (by omega)),hBm,hmg,hgN,by simpa using hNb,?_,by simp only [List.length_append,List.length_cons,List.length_nil];rw [if_neg (by omega)];exact Nat.le_refl _,⟨_,hW,?_⟩,by simp;omega,hkm,?_,?_⟩
 ·intro i
  by_cases h1:i+1≤ks.length
  ·simp only [h1,if_true,show i≤ks.length by omega];exact hbd i
  ·by_cases h2:i≤ks.length
   ·obtain rfl:i=ks.length:=by omega
    dsimp only
    rw [if_pos (Nat.le_refl _),if_neg (by omega)];omega
   ·dsimp only
    rw [if_neg (by omega),if_neg (by omega)];exact Nat.le_refl _
 ·simp only [List.size_toArray,List.length_append,List.length_take,List.length_drop,Array.length_toList,List.length_cons,List.length_nil]
  omega
 ·intro i hi
  rw [List.length_append] at hi
  by_cases h1:i<ks.length
  ·simp only [h1,if_true]
   exact cellsAt_old hc' hW hn6 h1 (cells i h1)
  ·obtain rfl:i=ks.length:=by simp at hi;omega
   simp only [Nat.lt_irrefl,if_false]
   exact ⟨v0,v1,v2,v3,q1,q2,q3,p1,p2,p3,rfl,by simpa using row_new (j:=0) hW hn6 (by simp),by simpa using row_new (j:=1) hW hn6 (by simp),by simpa using row_new (j:=2) hW hn6 (by simp),by simpa using row_new (j:=3) hW hn6 (by simp),by simpa using row_new (j:=4) hW hn6 (by simp),by simpa using row_new (j:=5) hW hn6 (by simp)⟩
 ·intro i t hi
  by_cases h1:i<ks.length
  ·rw [List.getElem?_append_left h1] at hi
   simp only [h1,if_true,show i≤ks.length by omega,show i+1≤ks.length by omega]
   have hb1:=bd_mono hbd (Nat.zero_le i)
   have hb2:=bd_mono hbd (show i+1≤ks.length from h1)
   exact (kids i t hi).on (fun j h1 h2=>hk j (by omega) (by omega))
  ·obtain rfl:i=ks.length:=by
    have:=(List.getElem?_eq_some_iff.1 hi).1;simp at this;omega
   simp only [List.getElem?_concat_length,Option.some.injEq] at hi
   subst hi
   simp only [Nat.le_refl,if_true,Nat.lt_irrefl,if_false,show ¬ks.length+1≤ks.length by omega]
   exact (hT.on (fun j h1 h2=>hk j (by omega) (by omega))).mono (by omega) (Nat.le_refl _)
def SixAt (xs:List Value) (o:Nat) (v:Value):Prop :=
 ∃(v0 v1:Int) (v2:Bool) (v3:ByteArray) (l1:Option Addr) (l2 l3:Nat) (k1:Option Addr) (k2 k3:Nat),v=.agg #[.int .i64 v0,.int .i64 v1,.bool v2,.string v3,.slice l1 l2 l3,.slice k1 k2 k3]∧xs[o]?=some (.int .i64 v0)∧xs[o+1]?=some (.int .i64 v1)∧xs[o+2]?=some (.bool v2)∧xs[o+3]?=some (.string v3)∧xs[o+4]?=some (.slice l1 l2 l3)∧xs[o+5]?=some (.slice k1 k2 k3)
theorem SixAt.cells {base g cap n o:Nat}{w:World}{xs:List Value}{v:Value}(h:w.ownsRow base 36 6 (.slice (some ⟨g,0,none⟩) n cap) n xs) (hs:SixAt xs o v) (ho:o+5<n*6):CellsAt w g o v:=by
 obtain ⟨v0,v1,v2,v3,l1,l2,l3,k1,k2,k3,hv,c0,c1,c2,c3,c4,c5⟩:=hs
 exact ⟨v0,v1,v2,v3,l1,l2,l3,k1,k2,k3,hv,(World.ownsRow.cellAt h o (by omega)).trans c0,(World.ownsRow.cellAt h (o+1) (by omega)).trans c1,(World.ownsRow.cellAt h (o+2) (by omega)).trans c2,(World.ownsRow.cellAt h (o+3) (by omega)).trans c3,(World.ownsRow.cellAt h (o+4) (by omega)).trans c4,(World.ownsRow.cellAt h (o+5) (by omega)).trans c5⟩
theorem SixAt.left {xs ys:List Value}{o:Nat}{v:Value}(h:SixAt xs o v) (ho:o+5<xs.length):SixAt (xs++ys) o v:=by
 obtain ⟨v0,v1,v2,v3,l1,l2,l3,k1,k2,k3,hv,c0,c1,c2,c3,c4,c5⟩:=h
 exact ⟨v0,v1,v2,v3,l1,l2,l3,k1,k2,k3,hv,by rw [List.getElem?_append_left (by omega)];exact c0,by rw [List.getElem?_append_left (by omega)];exact c1,by rw [List.getElem?_append_left (by omega)];exact c2,by rw [List.getElem?_append_left (by omega)];exact c3,by rw [List.getElem?_append_left (by omega)];exact c4,by rw [List.getElem?_append_left (by omega)];exact c5⟩
theorem owns_shape {w:World}{B n:Nat}{v:Value}{xs:List Value}(h:w.ownsRow B 36 6 v n xs):∃a cap,v=.slice a n cap∧n≤cap∧cap≤9223372036854775807∧(a=none→n=0∧cap=0)∧∀ad,a=some ad→∃g,ad=⟨g,0,none⟩∧B≤g∧g<w.heap.size:=by
 rcases h.2 with ⟨hv,hn⟩ | ⟨g,cap,cur,hv,hg,hh,hc,hm,hs,ht⟩
 ·exact ⟨none,0,by rw [hv,hn],by omega,by omega,fun _=>⟨hn,rfl⟩,fun ad h=>by cases h⟩
 ·exact ⟨_,cap,hv,hc,by unfold maxLen at hm;omega,fun h=>(by cases h),fun ad h=>⟨g,(by simpa using h.symm),hg,heap_lt hh⟩⟩
theorem owns_block {w W:World}{B n cap:Nat}{a:Option Addr}{xs:List Value}(h:w.ownsRow B 36 6 (.slice a n cap) n xs) (hk:∀g,a=some ⟨g,0,none⟩→W.heap[g]?=w.heap[g]?):W.ownsRow B 36 6 (.slice a n cap) n xs:=by
 rcases h with ⟨h1,h2⟩
 refine ⟨h1,?_⟩
 rcases h2 with h2 | ⟨g,cap',cur,hv,hg,hh,r⟩
 ·exact Or.inl h2
 ·refine Or.inr ⟨g,cap',cur,hv,hg,(hk g ?_).trans hh,r⟩
  simp at hv
  exact hv.1
theorem RO.shapeE {w:World}{B N E g kc:Nat}{v:Value}{t:Tm}(h:RO w B N E g kc v t):∃(v0 v1:Int) (v2:Bool) (v3:ByteArray) (l1:Option Addr) (l2 l3:Nat),v=.agg #[.int .i64 v0,.int .i64 v1,.bool v2,.string v3,.slice l1 l2 l3,.slice (some ⟨g,0,none⟩) t.kids.length kc]:=by
 obtain ⟨f,n,h,nm,ls,ks,lv,m,bd,kvs,rfl,rfl,hl,-⟩:=h
 obtain ⟨la,lc,rfl,-⟩:=hl.ln
 exact ⟨_,_,_,_,_,_,_,rfl⟩
theorem frz {w:World}{b:Nat}{cs:Array Value}{t:TypeId}(h:w.heap[b]?=some (.cells cs t (0,0))):∀o,w.frozen? ⟨b,o,none⟩=false:=fun o=>by simp [World.frozen?,h]
theorem new3 {w:World}{a b c d:Obj}:((((w.alloc a).alloc b).alloc c).alloc d).heap[w.heap.size+1+1+1]?=some d:=by
 have:=alloc_new (((w.alloc a).alloc b).alloc c) d
 have e:(((w.alloc a).alloc b).alloc c).heap.size=w.heap.size+1+1+1:=by simp
 rwa [e] at this
theorem at2 {w:World}{a b c d:Obj}:((((w.alloc a).alloc b).alloc c).alloc d).heap[w.heap.size+1+1]?=some c:=by
 have:=alloc_new ((w.alloc a).alloc b) c
 have e:((w.alloc a).alloc b).heap.size=w.heap.size+1+1:=by simp
 rw [e] at this
 exact alloc_old this _
theorem Kept.join {P:Nat→Prop}{N:Nat}{w a b:World}(h1:Kept P w a) (h2:Kept (fun k=>N≤k) a b) (hN:w.heap.size≤N):Kept P w b :=
 ⟨h2.os.trans h1.os,h2.tape.trans h1.tape,h2.output.trans h1.output,Nat.le_trans h1.size h2.size,fun k hk hp=>(h2.block k (Nat.lt_of_lt_of_le hk h1.size) (by omega)).trans (h1.block k hk hp)⟩
set_option maxRecDepth 100000 in
set_option maxHeartbeats 2000000 in
theorem withKid_any {B N E g kc E' E'':Nat}{v vk:Value}{r k:Tm}(w:World) (hR:RO w B N E g kc v r) (hT:TO w E' E'' vk k) (hEE:E≤E') (hE:E''≤w.heap.size) (hroom:r.kids.length<kc) :
  Calls Tryz.prog 71 #[v,vk] w fun e w'=>∃v',e=.returned v'∧RO w' B N E'' g kc v' (r.add k)∧Kept (·=g) w w':=by
 obtain ⟨f,n,h,nm,l1,l2,l3,rfl⟩:=hR.shapeE
 obtain ⟨v0,v1,v2,v3,q1,q2,q3,p1,p2,p3,rfl⟩:=hT.shapeE
 obtain ⟨cur,hcur,hcs⟩:RowAt w g kc:=by obtain ⟨_,_,_,_,_,_,_,_,_,_,_,_,_,_,_,_,_,_,_,h,_⟩:=hR;exact h
 have hgl:=heap_lt hcur
 have HM:=fun (W:World) hW hk=>RO.more (W:=W) hR hT hEE hroom hcur hW hk
 generalize r.kids.length=k1 at *
 generalize r.add k=RK at *
 have HCUR:=Hid.mk hcur
 have HHM:=Hid.mk HM
 clear hR hT HM hcur
 have HG:=fun (a b c d:Obj)=>((((Kept.refl (·=g) w).alloc a).alloc b).alloc c).alloc d
 go_enter Tryz.func71,Tryz.ntmps71
 go_wp2_with (at_builtin;refine wpList_app1 rfl _ _ rfl g k1 kc _ 1 cur (alloc_old (alloc_old (alloc_old (alloc_old HCUR.out _) _) _) _) rfl rfl [.int .i64 v0,.int .i64 v1,.bool v2,.string v3,.slice q1 q2 q3,.slice p1 p2 p3] rfl (World.news_of_block (cs:=#[.int .i64 v0,.int .i64 v1,.bool v2,.string v3,.slice q1 q2 q3,.slice p1 p2 p3]) (t:=36) (fr:=(0,0)) new3) (by simp [Value.oneCell']) hroom hcs ?_;intro W2 h2 ho hk2;have H2:=Hid.mk h2;have hb:=(ho w.heap.size (by omega)).trans (alloc_old (alloc_old (alloc_old (alloc_new w _) _) _) _);have hc:=(ho (w.heap.size+1+1) (by omega)).trans at2;have HK2:=Hid.mk ((HG _ _ _ _).trans hk2);clear h2 ho hk2;obtain ⟨x0,x1,x2,x3,x4,x5,x6⟩:=cells6 hb;obtain ⟨y0,y1,y2,y3,y4,y5,y6⟩:=cells6 hc;have fb:=frz hb;have fc:=frz hc;have HB:=Hid.mk hb;have HC:=Hid.mk hc;clear hb hc)
 refine bodyPost_ret (v:=.agg #[.int .i64 f,.int .i64 n,.bool h,.string nm,.slice l1 l2 l3,.slice (some ⟨g,0,none⟩) (k1+1) kc]) (by simp [results,Tryz.results71,go_sem,y0,y1,y2,y3,y4,y5]) rfl ⟨_,rfl,?_,?_⟩
 all_goals have KF:=(((((((Kept.refl (fun k=>w.heap.size≤k) W2).setCell (p:=⟨w.heap.size,5,none⟩) (Nat.le_refl _) (.slice (some ⟨g,0,none⟩) (k1+1) kc)).setCell (p:=⟨w.heap.size+1+1,0,none⟩) (by simp;omega) (.int .i64 f)).setCell (p:=⟨w.heap.size+1+1,1,none⟩) (by simp;omega) (.int .i64 n)).setCell (p:=⟨w.heap.size+1+1,2,none⟩) (by simp;omega) (.bool h)).setCell (p:=⟨w.heap.size+1+1,3,none⟩) (by simp;omega) (.string nm)).setCell (p:=⟨w.heap.size+1+1,4,none⟩) (by simp;omega) (.slice l1 l2 l3)).setCell (p:=⟨w.heap.size+1+1,5,none⟩) (by simp;omega) (.slice (some ⟨g,0,none⟩) (k1+1) kc)
 ·refine HHM.out _ ((KF.block g (Nat.lt_of_lt_of_le hgl HK2.out.size) (by omega)).trans H2.out) (fun i hi hg=>(KF.block i (Nat.lt_of_lt_of_le (by omega) HK2.out.size) (by omega)).trans (HK2.out.block i (by omega) hg))
 ·exact HK2.out.join KF (Nat.le_refl _)
def maskB (P:Nat→Bool) (w:World):World:={ w with heap:=w.heap.mapIdx fun i o=>if P i then .cells #[] 0 (0,0) else o }
theorem maskB_size (P:Nat→Bool) (w:World):(maskB P w).heap.size=w.heap.size:=by simp [maskB]
theorem maskB_no {P:Nat→Bool}(w:World) {k:Nat}(h:P k=false):(maskB P w).heap[k]?=w.heap[k]?:=by
 simp only [maskB,Array.getElem?_mapIdx,h]
 cases w.heap[k]?<;>simp
theorem maskB_yes {P:Nat→Bool}(w:World) {k:Nat}(h:P k=true) (hk:k<w.heap.size):(maskB P w).heap[k]?=some (.cells #[] 0 (0,0)):=by
 simp only [maskB,Array.getElem?_mapIdx,h]
 simp [hk]
theorem maskB_cell {P:Nat→Bool}{w:World}{p:Addr}{v:Value}(h:(maskB P w).cell? p=some v):P p.block=false∧w.cell? p=some v:=by
 have hsp:=World.cell?_spot h
 obtain ⟨b,o,sp⟩:=p
 simp only at hsp
 subst hsp
 by_cases hb:P b=true
 ·exfalso
  have hlt:b<(maskB P w).heap.size:=World.block_lt_of_cell? _ _ h
  rw [maskB_size] at hlt
  rw [cell_of_row _ b o _ _ _ (maskB_yes w hb hlt)] at h
  simp at h
 ·have hb':P b=false:=by simpa using hb
  refine ⟨hb',?_⟩
  rw [←h]
  exact (World.cell?_of_block (a:=⟨b,o,none⟩) (maskB_no w hb')).symm
theorem maskB_keeps {P Q:Nat→Bool}{w w':World}(hk:∀k,k<w.heap.size→P k=false→Q k=false∧w'.heap[k]?=w.heap[k]?) (p:Addr) (v:Value) (h:(maskB P w).cell? p=some v):(maskB Q w').cell? p=some v:=by
 have hlt:p.block<(maskB P w).heap.size:=World.block_lt_of_cell? _ _ h
 rw [maskB_size] at hlt
 obtain ⟨h1,h2⟩:=maskB_cell h
 obtain ⟨h3,h4⟩:=hk p.block hlt h1
 rw [World.cell?_of_block (maskB_no w' h3),World.cell?_of_block h4]
 exact h2
theorem SL.subF {w w':World}{a:Option Addr}{xs:List (Int×Int)}(hs:w.heap.size≤w'.heap.size) (hc:∀p v,w.cell? p=some v→w'.cell? p=some v) (h:SL w a xs):SL w' a xs:=by
 rcases h with h | ⟨b,off,ha,hlt,h⟩
 ·exact Or.inl h
 ·exact Or.inr ⟨b,off,ha,by omega,fun i hi=>⟨hc _ _ (h i hi).1,hc _ _ (h i hi).2⟩⟩
theorem LN.subF {w w':World}{a:Option Addr}{ls:List LvT}(hs:w.heap.size≤w'.heap.size) (hc:∀p v,w.cell? p=some v→w'.cell? p=some v) (h:LN w a ls):LN w' a ls:=by
 rcases h with h | ⟨b,off,ha,hlt,h⟩
 ·exact Or.inl h
 ·refine Or.inr ⟨b,off,ha,by omega,fun i n xs hi=>?_⟩
  obtain ⟨c0,a',cap',c1,hS,hn⟩:=h i n xs hi
  exact ⟨hc _ _ c0,a',cap',hc _ _ c1,hS.subF hs hc,hn⟩
theorem TC.subF {w w':World}(hs:w.heap.size≤w'.heap.size) (hc:∀p v,w.cell? p=some v→w'.cell? p=some v) {b o:Nat}{t:Tm}(h:TC w b o t):TC w' b o t:=by
 induction h with
 | mk c0 c1 c2 c3 c4 c5 hl hln hlc hlm hkn hkc hkm hk kids ih=>exact TC.mk (hc _ _ c0) (hc _ _ c1) (hc _ _ c2) (hc _ _ c3) (hc _ _ c4) (hc _ _ c5) (hl.subF hs hc) hln hlc hlm hkn hkc hkm (fun h=>⟨(hk h).1,Nat.lt_of_lt_of_le (hk h).2 hs⟩) ih
theorem TV.subF {w w':World}(hs:w.heap.size≤w'.heap.size) (hc:∀p v,w.cell? p=some v→w'.cell? p=some v) {v:Value}{t:Tm}(h:TV w v t):TV w' v t:=by
 cases h with
 | mk hl hln hlc hlm hkn hkc hkm hk kids=>exact TV.mk (hl.subF hs hc) hln hlc hlm hkn hkc hkm (fun h=>⟨(hk h).1,Nat.lt_of_lt_of_le (hk h).2 hs⟩) (fun i t hi=>(kids i t hi).subF hs hc)
def TF (w:World) (P:Nat→Bool) (v:Value) (t:Tm):Prop:=TV (maskB P w) v t
theorem TF.move {w w':World}{P Q:Nat→Bool}{v:Value}{t:Tm}(h:TF w P v t) (hs:w.heap.size≤w'.heap.size) (hk:∀k,k<w.heap.size→P k=false→Q k=false∧w'.heap[k]?=w.heap[k]?):TF w' Q v t :=
 TV.subF (by rw [maskB_size,maskB_size];exact hs) (maskB_keeps hk) h
theorem TF.tv {w:World}{P:Nat→Bool}{v:Value}{t:Tm}(h:TF w P v t):TV w v t :=
 TV.subF (by rw [maskB_size];exact Nat.le_refl _) (fun _ _ hc=>(maskB_cell hc).2) h
theorem TV.tf {w:World}{P:Nat→Bool}{v:Value}{t:Tm}(h:TV w v t) (hP:∀k,k<w.heap.size→P k=false):TF w P v t :=
 TV.subF (by rw [maskB_size];exact Nat.le_refl _) (fun p v hc=>by
  rw [World.cell?_of_block (maskB_no w (hP p.block (World.block_lt_of_cell? _ _ hc)))];exact hc) h
theorem TF.on {w w':World}{P:Nat→Bool}{v:Value}{t:Tm}(h:TF w P v t) (hb:RowKit.Below w.heap.size w w'):TF w' P v t :=
 h.move hb.size fun k hk hp=>⟨hp,hb.block k hk⟩
def ownB (a:Option Addr) (k:Nat):Bool:=match a with
 | some ad=>ad.block==k
 | none=>false
theorem ownB_none {a:Option Addr}{k n cap:Nat}(h:ownB a k=false):some k≠(Value.slice a n cap).ownBlock:=by
 cases a with
 | none=>simp [Value.ownBlock]
 | some ad=>simp only [ownB] at h;simp [Value.ownBlock];intro e;rw [e] at h;simp at h
structure RowF (w:World) (B:Nat) (P:Nat→Bool) (a:Option Addr) (cap:Nat) (ts:List Tm):Prop where
 go:∃(xs:List Value) (kvs:Nat→Value),w.ownsRow B 36 6 (.slice a ts.length cap) ts.length xs∧∀j t,ts[j]?=some t→SixAt xs (j*6) (kvs j)∧TF w (fun k=>P k||ownB a k) (kvs j) t
theorem RowF.nil (w:World) (B:Nat) (P:Nat→Bool):RowF w B P none 0 []:=⟨[],fun _=>.bool false,World.ownsRow_nil _ _ _ _,fun j t h=>by simp at h⟩
theorem RowF.move {w w':World}{B cap:Nat}{P:Nat→Bool}{a:Option Addr}{ts:List Tm}(h:RowF w B P a cap ts) (hB:∀k,B≤k→P k=false) (hs:w.heap.size≤w'.heap.size) (hk:∀k,k<w.heap.size→P k=false→w'.heap[k]?=w.heap[k]?):RowF w' B P a cap ts:=by
 obtain ⟨xs,kvs,hown,hkv⟩:=h.go
 refine ⟨xs,kvs,owns_block hown fun g hg=>?_,fun j t hj=>⟨(hkv j t hj).1,(hkv j t hj).2.move hs fun k h1 h2=>⟨h2,hk k h1 ?_⟩⟩⟩
 ·subst hg
  obtain ⟨h1,h2⟩:=World.ownsRow.lt hown g rfl
  exact hk g h2 (hB g h1)
 ·rw [Bool.or_eq_false_iff] at h2;exact h2.1
theorem RowF.on {w w':World}{B cap:Nat}{P:Nat→Bool}{a:Option Addr}{ts:List Tm}(h:RowF w B P a cap ts) (hB:∀k,B≤k→P k=false) (hb:RowKit.Below w.heap.size w w'):RowF w' B P a cap ts:=h.move hB hb.size fun k hk _=>hb.block k hk
theorem RowF.snoc {w w':World}{B cap cap' g:Nat}{P:Nat→Bool}{a:Option Addr}{ts:List Tm}{xs:List Value}{kvs:Nat→Value}{t:Tm}{v0 v1:Int}{v2:Bool}{v3:ByteArray}{l1:Option Addr}{l2 l3:Nat}{k1:Option Addr}{k2 k3:Nat}(hkv:∀j t,ts[j]?=some t→SixAt xs (j*6) (kvs j)∧TF w (fun k=>P k||ownB a k) (kvs j) t) (hl:xs.length=ts.length*6)
  (hown:w'.ownsRow B 36 6 (.slice (some ⟨g,0,none⟩) (ts.length+1) cap') (ts.length+1) (xs++[.int .i64 v0,.int .i64 v1,.bool v2,.string v3,.slice l1 l2 l3,.slice k1 k2 k3])) (hgr:w.grownBy w' (Value.slice a ts.length cap).ownBlock) (hat:(Value.slice a ts.length cap).ownBlock=some g∨g=w.heap.size)
  (hnew:TF w (fun k=>P k||ownB a k) (.agg #[.int .i64 v0,.int .i64 v1,.bool v2,.string v3,.slice l1 l2 l3,.slice k1 k2 k3]) t):RowF w' B P (some ⟨g,0,none⟩) cap' (ts++[t]):=by
 have hmv:∀k,k<w.heap.size→(P k||ownB a k)=false→(P k||ownB (some ⟨g,0,none⟩) k)=false∧w'.heap[k]?=w.heap[k]?:=by
  intro k hk hp
  rw [Bool.or_eq_false_iff] at hp
  refine ⟨?_,hgr.block k hk (ownB_none hp.2)⟩
  rw [Bool.or_eq_false_iff]
  refine ⟨hp.1,?_⟩
  simp only [ownB,beq_eq_false_iff_ne]
  rcases hat with hat | hat
  ·intro e
   exact ownB_none hp.2 (by rw [←e,hat])
  ·omega
 refine ⟨_,fun j=>if j<ts.length then kvs j else (.agg #[.int .i64 v0,.int .i64 v1,.bool v2,.string v3,.slice l1 l2 l3,.slice k1 k2 k3]),by rw [List.length_append];exact hown,fun j t' hj=>?_⟩
 by_cases h:j<ts.length
 ·rw [List.getElem?_append_left h] at hj
  simp only [h,if_true]
  exact ⟨(hkv j t' hj).1.left (by rw [hl];omega),(hkv j t' hj).2.move hgr.size hmv⟩
 ·obtain rfl:j=ts.length:=by
   have:=(List.getElem?_eq_some_iff.1 hj).1;simp at this;omega
  simp only [List.getElem?_concat_length,Option.some.injEq] at hj
  subst hj
  simp only [Nat.lt_irrefl,if_false]
  refine ⟨⟨v0,v1,v2,v3,l1,l2,l3,k1,k2,k3,rfl,?_,?_,?_,?_,?_,?_⟩,hnew.move hgr.size hmv⟩
  all_goals rw [List.getElem?_append_right (by omega),hl]
  ·rw [Nat.sub_self];rfl
  ·rw [Nat.add_sub_cancel_left];rfl
  ·rw [Nat.add_sub_cancel_left];rfl
  ·rw [Nat.add_sub_cancel_left];rfl
  ·rw [Nat.add_sub_cancel_left];rfl
  ·rw [Nat.add_sub_cancel_left];rfl
theorem RowF.done {w:World}{B cap:Nat}{P:Nat→Bool}{a:Option Addr}{ts:List Tm}(h:RowF w B P a cap ts) (hB:∀k,B≤k→P k=false) {f n:Int}{hd:Bool}{nm:ByteArray}{la:Option Addr}{lc:Nat}{ls:List LvT}(hl:LN (maskB P w) la ls) (hln:la=none→lc=0) (hlc:ls.length≤lc) (hlm:lc≤9223372036854775807) :
  TF w P (.agg #[.int .i64 f,.int .i64 n,.bool hd,.string nm,.slice la ls.length lc,.slice a ts.length cap]) (.mk f n hd nm ls ts):=by
 obtain ⟨xs,kvs,hown,hkv⟩:=h.go
 obtain ⟨a',cap',e,hc,hm,hn,hg⟩:=owns_shape hown
 simp only [Value.slice.injEq,true_and] at e
 obtain ⟨rfl,rfl⟩:=e
 have hsub:∀p v,(maskB (fun k=>P k||ownB a k) w).cell? p=some v→(maskB P w).cell? p=some v:=maskB_keeps fun k _ hp=>⟨by rw [Bool.or_eq_false_iff] at hp;exact hp.1,rfl⟩
 cases a with
 | none =>
  have h0:ts=[]:=List.length_eq_zero_iff.1 (hn rfl).1
  subst h0
  exact TV.mk (kb:=0) (ko:=0) hl hln hlc hlm (fun _=>(hn rfl).2) hc hm (fun h=>absurd rfl h) (fun i t hi=>by simp at hi)
 | some ad =>
  obtain ⟨g,rfl,hg1,hg2⟩:=hg ad rfl
  refine TV.mk (kb:=g) (ko:=0) hl hln hlc hlm (fun e=>by cases e) hc hm (fun _=>⟨rfl,by rw [maskB_size];exact hg2⟩) (fun i t hi=>?_)
  have hi':i<ts.length:=(List.getElem?_eq_some_iff.1 hi).1
  obtain ⟨h6,htf⟩:=hkv i t hi
  have hca:CellsAt (maskB P w) g (i*6) (kvs i):=by
   have hca:=h6.cells hown (by omega)
   obtain ⟨v0,v1,v2,v3,l1,l2,l3,k1,k2,k3,hv,c0,c1,c2,c3,c4,c5⟩:=hca
   have hc:∀o,(maskB P w).cell? ⟨g,o,none⟩=w.cell? ⟨g,o,none⟩:=fun o=>World.cell?_of_block (maskB_no w (hB g hg1))
   exact ⟨v0,v1,v2,v3,l1,l2,l3,k1,k2,k3,hv,(hc _).trans c0,(hc _).trans c1,(hc _).trans c2,(hc _).trans c3,(hc _).trans c4,(hc _).trans c5⟩
  have htv:TV (maskB P w) (kvs i) t:=TV.subF (by rw [maskB_size,maskB_size];exact Nat.le_refl _) hsub htf
  rw [Nat.zero_add]
  exact hca.tc htv
theorem wpList_appF {w:World}{ops:Array Oper}{rest:List Oper}{o:Oper}{a:Act}{Q:Exit→Act→World→Prop}(hgd:o.guard=none) (s x:Operand) (ho:o.op=.call { callee:=.builtin .append,args:=#[s,x],argTypes:=#[34,34] })
  (B:Nat) (v:Value) (n:Nat) (xs news:List Value) (b c1:Nat) (hs:a.eval s=v) (hx:a.eval x=.slice (some ⟨b,0,none⟩) 1 c1) (hO:w.ownsRow B 36 6 v n xs) (hl:news.length=6) (hnews:∀j u,news[j]?=some u→w.cell? ((⟨b,0,none⟩:Addr).add j)=some u) (h1:∀u∈news,u.oneCell'=true) (hlen:n≤1500000000000) (hB:B≤w.heap.size)
  (h:∀g cap w',w'.ownsRow B 36 6 (.slice (some ⟨g,0,none⟩) (n+1) cap) (n+1) (xs++news)→w.grownBy w' v.ownBlock→(v.ownBlock=some g∨g=w.heap.size)→wpList Tryz.prog ops Q rest (a.put o.dst (.slice (some ⟨g,0,none⟩) (n+1) cap)) w'):wpList Tryz.prog ops Q (o::rest) a w:=by
 obtain ⟨i0,hi,hz0,hz1,hz2⟩:=info_parts infoTerm
 refine wpList_append_lies _ hgd s x 34 ho B 36 i0 _ 6 88 Tryz.underlying34 hi hz0 hz1 hz2 rfl (by decide) v n xs hs hO _ 1 c1 news hx hl hnews h1 (by decide) (by simp [maxLen];omega) (by omega) hB _ rfl ?_
 intro g cap w' hown hgr hat _
 exact h g cap w' hown hgr hat
end Go.Proofs.YtgfgpjcnfnopnaaGreat
