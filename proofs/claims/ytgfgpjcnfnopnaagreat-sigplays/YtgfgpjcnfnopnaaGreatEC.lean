/- Slices of bytes in memory;numbers as bytes;a writer in memory. -/
import Derived.Laws.IdiomStrings
import Derived.Deep.AppendLies
import Derived.Test.YtgfgpjcnfnopnaaGreatOA
namespace Go.Proofs.YtgfgpjcnfnopnaaGreat
set_option maxRecDepth 100000
set_option maxHeartbeats 40000000
open Go.RowKit Go.Sort
def flatB (bs:List UInt8):List Value:=bs.map fun b=>.int .u8 (b.toNat:Int)
theorem flatB_length (bs:List UInt8):(flatB bs).length=bs.length:=by simp [flatB]
theorem flatB_append (xs ys:List UInt8):flatB (xs++ys)=flatB xs++flatB ys:=by simp [flatB]
theorem flatB_one (bs:List UInt8):∀u∈flatB bs,u.oneCell'=true:=by
 intro u hu
 simp [flatB] at hu
 obtain ⟨b,-,rfl⟩:=hu
 rfl
def BL (w:World) (a:Option Addr) (bs:List UInt8):Prop :=
 bs=[]∨∃b off,a=some ⟨b,off,none⟩∧b<w.heap.size∧∀i (h:i<bs.length),w.cell? ⟨b,off+i,none⟩=some (.int .u8 (bs[i].toNat:Int))
theorem BL.move {w w':World}{a:Option Addr}{bs:List UInt8}(h:BL w a bs) (hs:w.heap.size≤w'.heap.size) (hk:∀b off,a=some ⟨b,off,none⟩→b<w.heap.size→w'.heap[b]?=w.heap[b]?):BL w' a bs:=by
 rcases h with h | ⟨b,off,ha,hlt,hc⟩
 ·exact Or.inl h
 ·exact Or.inr ⟨b,off,ha,by omega,fun i hi=>(World.cell?_of_block (a:=⟨b,off+i,none⟩) (hk b off ha hlt)).trans (hc i hi)⟩
theorem BL.flat {w:World}{ad:Addr}{bs:List UInt8}(h:BL w (some ad) bs):∀j u,(flatB bs)[j]?=some u→w.cell? (ad.add j)=some u:=by
 intro j u hu
 have hj:j<bs.length:=by
  have:=(List.getElem?_eq_some_iff.1 hu).1;simpa [flatB] using this
 rcases h with h | ⟨b,off,ha,hlt,hc⟩
 ·subst h;simp at hj
 ·simp only [Option.some.injEq] at ha
  subst ha
  have e:(⟨b,off,none⟩:Addr).add j=⟨b,off+j,none⟩:=by unfold Addr.add;split<;>simp_all
  rw [e,hc j hj]
  simp [flatB,hj] at hu
  rw [←hu]
theorem BL.of_block {w:World}{b:Nat}{cs:Array Value}{t:TypeId}{fr:Nat×Nat}{bs:List UInt8}(h:w.heap[b]?=some (.cells cs t fr)) (hc:∀i (hi:i<bs.length),cs[i]?=some (.int .u8 (bs[i].toNat:Int))):BL w (some ⟨b,0,none⟩) bs:=by
 refine Or.inr ⟨b,0,rfl,(Array.getElem?_eq_some_iff.1 h).1,fun i hi=>?_⟩
 rw [cell_of_row w b (0+i) cs t fr h,Nat.zero_add]
 exact hc i hi
def OY (B:Nat) (w:World) (v:Value) (bs:List UInt8):Prop:=w.ownsRow B 5 1 v bs.length (flatB bs)
theorem OY.nil (B:Nat) (w:World):OY B w (.slice none 0 0) []:=World.ownsRow_nil _ _ _ _
theorem OY.move {B:Nat}{w w':World}{v:Value}{bs:List UInt8}(h:OY B w v bs) (hk:∀k,v.ownBlock=some k→w'.heap[k]?=w.heap[k]?):OY B w' v bs:=by
 refine ⟨h.1,?_⟩
 rcases h.2 with h2 | ⟨g,cap,cur,hv,hg,hh,r⟩
 ·exact Or.inl h2
 ·exact Or.inr ⟨g,cap,cur,hv,hg,(hk g (by rw [hv];rfl)).trans hh,r⟩
theorem OY.lt {B:Nat}{w:World}{v:Value}{bs:List UInt8}(h:OY B w v bs) {k:Nat}(hk:v.ownBlock=some k):B≤k∧k<w.heap.size:=World.ownsRow.lt h k hk
theorem OY.shape {B:Nat}{w:World}{v:Value}{bs:List UInt8}(h:OY B w v bs):∃a cap,v=.slice a bs.length cap∧BL w a bs∧bs.length≤cap∧cap≤9223372036854775807∧(a=none→cap=0)∧∀ad,a=some ad→∃g,ad=⟨g,0,none⟩:=by
 rcases h.2 with ⟨hv,hn⟩ | ⟨g,cap,cur,hv,hg,hh,hc,hm,hs,ht⟩
 ·have:bs=[]:=List.length_eq_zero_iff.1 hn
  subst this
  exact ⟨none,0,hv,Or.inl rfl,Nat.le_refl _,by omega,fun _=>rfl,fun ad h=>by cases h⟩
 ·refine ⟨_,cap,hv,?_,hc,by unfold maxLen at hm;omega,fun h=>(by cases h),fun ad h=>⟨g,(by simpa using h.symm)⟩⟩
  refine BL.of_block hh fun i hi=>?_
  have h1:(flatB bs)[i]?=some (.int .u8 (bs[i].toNat:Int)):=by simp [flatB,hi]
  rw [←ht,List.getElem?_take] at h1
  split at h1
  ·simpa using h1
  ·cases h1
theorem infoU8:(Tryz.prog.info? 5).map (fun i=>(i.zero,i.size,i.bytes))=some (some (.int .u8 0),1,1):=by kernel_rfl
theorem info_parts8 {i:Option TypeInfo}{z:Option Value}{a b:Nat}(h:i.map (fun i=>(i.zero,i.size,i.bytes))=some (z,a,b)):∃j,i=some j∧j.zero=z∧j.size=a∧j.bytes=b:=by
 cases i with
 | none=>cases h
 | some j=>simp only [Option.map_some,Option.some.injEq,Prod.mk.injEq] at h;exact ⟨j,rfl,h.1,h.2.1,h.2.2⟩
theorem wpList_appB {w:World}{ops:Array Oper}{rest:List Oper}{o:Oper}{a:Act}{Q:Exit→Act→World→Prop}(hgd:o.guard=none) (s x:Operand) (ho:o.op=.call { callee:=.builtin .append,args:=#[s,x],argTypes:=#[78,78] })
  (B:Nat) (v:Value) (bs news:List UInt8) (ad:Addr) (c1 m:Nat) (hs:a.eval s=v) (hx:a.eval x=.slice (some ad) m c1) (hm:m=news.length) (hO:OY B w v bs) (hS:BL w (some ad) news) (hne:news≠[]) (hl:bs.length+news.length≤70368744177664) (hB:B≤w.heap.size)
  (h:∀g cap w',OY B w' (.slice (some ⟨g,0,none⟩) (bs++news).length cap) (bs++news)→w.grownBy w' v.ownBlock→(v.ownBlock=some g∨g=w.heap.size)→wpList Tryz.prog ops Q rest (a.put o.dst (.slice (some ⟨g,0,none⟩) (bs++news).length cap)) w'):wpList Tryz.prog ops Q (o::rest) a w:=by
 obtain ⟨i0,hi,hz0,hz1,hz2⟩:=info_parts8 infoU8
 subst hm
 have hpos:0<news.length:=by cases news with
  | nil=>exact absurd rfl hne
  | cons b l=>simp
 refine wpList_append_lies _ hgd s x 78 ho B 5 i0 _ 1 1 Tryz.underlying78 hi hz0 hz1 hz2 rfl (by decide) v bs.length (flatB bs) hs hO ad news.length c1 (flatB news) hx (by rw [flatB_length];omega) hS.flat (flatB_one news) hpos (by unfold maxLen;omega) (by omega) hB _ rfl ?_
 intro g cap w' hown hgr hat _
 have e:bs.length+news.length=(bs++news).length:=by simp
 rw [e] at hown ⊢
 exact h g cap w' (by unfold OY;rw [flatB_append];exact hown) hgr hat
def numB (n:Nat):List UInt8:=if n<128 then [UInt8.ofNat n] else UInt8.ofNat (n % 128+128)::numB (n / 128)
termination_by n
decreasing_by omega
theorem numB_small {n:Nat}(h:n<128):numB n=[UInt8.ofNat n]:=by rw [numB,if_pos h]
theorem numB_big {n:Nat}(h:128≤n):numB n=UInt8.ofNat (n % 128+128)::numB (n / 128):=by rw [numB,if_neg (by omega)]
theorem numB_ne (n:Nat):numB n≠[]:=by
 rw [numB];split<;>simp
def WR (w:World) (B wb:Nat) (tot:List UInt8):Prop:=B≤wb∧∃out tm bs,w.heap[wb]?=some (.cells #[out,.bool tm] 98 (0,0))∧OY B w out bs∧out.ownBlock≠some wb∧((tm=false∧bs=tot∧tot.length≤1000000)∨(tm=true∧1000000<tot.length∧bs.length≤1000000))
def RowIs (w:World) (wb k:Nat):Prop:=∃out tm,w.heap[wb]?=some (.cells #[out,tm] 98 (0,0))∧out.ownBlock=some k
structure Wrote (wb:Nat) (w w':World):Prop where
 kept:Kept (fun k=>k=wb∨RowIs w wb k) w w'
 row:∀k,RowIs w' wb k→RowIs w wb k∨w.heap.size≤k
theorem Wrote.refl (wb:Nat) (w:World):Wrote wb w w:=⟨Kept.refl _ _,fun _ h=>Or.inl h⟩
theorem Wrote.trans {wb:Nat}{a b c:World}(h:Wrote wb a b) (k:Wrote wb b c):Wrote wb a c:=by
 refine ⟨⟨k.kept.os.trans h.kept.os,k.kept.tape.trans h.kept.tape,k.kept.output.trans h.kept.output,Nat.le_trans h.kept.size k.kept.size,fun i hi hp=>?_⟩,fun i hi=>?_⟩
 ·refine (k.kept.block i (Nat.lt_of_lt_of_le hi h.kept.size) fun hq=>?_).trans (h.kept.block i hi hp)
  rcases hq with rfl | hq
  ·exact hp (Or.inl rfl)
  ·rcases h.row i hq with hq | hq
   ·exact hp (Or.inr hq)
   ·omega
 ·rcases k.row i hi with hq | hq
  ·exact h.row i hq
  ·have:=h.kept.size;exact Or.inr (by omega)
theorem RowIs.back {w w':World}{wb k:Nat}(h:RowIs w' wb k) (he:w'.heap[wb]?=w.heap[wb]?):RowIs w wb k:=by
 obtain ⟨out,tm,h1,h2⟩:=h
 exact ⟨out,tm,he ▸ h1,h2⟩
theorem Wrote.below {wb:Nat}{w w':World}(h:RowKit.Below w.heap.size w w') (hwb:wb<w.heap.size):Wrote wb w w' :=
 ⟨Kept.of_below h,fun _ hk=>Or.inl (hk.back (h.block wb hwb))⟩
theorem WR.lt {w:World}{B wb:Nat}{tot:List UInt8}(h:WR w B wb tot):wb<w.heap.size:=by
 obtain ⟨-,out,tm,bs,hh,-⟩:=h
 exact (Array.getElem?_eq_some_iff.1 hh).1
theorem WR.row {w:World}{B wb k:Nat}{tot:List UInt8}(h:WR w B wb tot) (hk:RowIs w wb k):B≤k∧k<w.heap.size∧k≠wb:=by
 obtain ⟨-,out,tm,bs,hh,hO,hne,-⟩:=h
 obtain ⟨out',tm',hh',ho⟩:=hk
 rw [hh] at hh'
 simp only [Option.some.injEq,Obj.cells.injEq,Array.mk.injEq,List.cons.injEq,and_true] at hh'
 obtain ⟨⟨rfl,-⟩,-⟩:=hh'
 exact ⟨(hO.lt ho).1,(hO.lt ho).2,fun e=>hne (by rw [ho,e])⟩
theorem WR.on {w w':World}{B wb:Nat}{tot:List UInt8}(h:WR w B wb tot) (hb:RowKit.Below w.heap.size w w'):WR w' B wb tot:=by
 obtain ⟨hB,out,tm,bs,hh,hO,r⟩:=h
 exact ⟨hB,out,tm,bs,(hb.block wb (Array.getElem?_eq_some_iff.1 hh).1).trans hh,hO.move fun k hk=>hb.block k (hO.lt hk).2,r⟩
theorem Wrote.toBelow {wb B:Nat}{w w':World}{tot:List UInt8}(h:Wrote wb w w') (hW:WR w B wb tot) (hB:B≤w.heap.size):RowKit.Below B w w' :=
 h.kept.below hB fun k hk=>by
  rcases hk with rfl | hk
  ·exact hW.1
  ·exact (hW.row hk).1
theorem Wrote.box {wb B k:Nat}{w w1 w':World}{tot:List UInt8}{o:Obj}(h:Wrote wb w1 w') (hW:WR w B wb tot) (hg:RowKit.Below w.heap.size w w1) (hk:w1.heap[k]?=some o) (hkw:w.heap.size≤k):w'.heap[k]?=some o:=by
 refine (h.kept.block k (Array.getElem?_eq_some_iff.1 hk).1 fun hp=>?_).trans hk
 rcases hp with rfl | hp
 ·have:=hW.lt;omega
 ·have:=(hW.row (hp.back (hg.block wb hW.lt))).2.1;omega
theorem Kept.wider {P Q:Nat→Prop}{a b:World}(h:Kept P a b) (hPQ:∀k,P k→Q k):Kept Q a b:=⟨h.os,h.tape,h.output,h.size,fun k hk hq=>h.block k hk (fun hp=>hq (hPQ k hp))⟩
def WrPost (B wb:Nat) (tot news:List UInt8) (w:World) (e:Ending) (w':World):Prop:=e=.returned (.tuple #[])∧WR w' B wb (tot++news)∧Wrote wb w w'
theorem set_at1 {w:World}{b:Nat}{u v x:Value}{t:TypeId}(h:w.heap[b]?=some (.cells #[u,v] t (0,0))):(w.setCell ⟨b,1,none⟩ x).heap[b]?=some (.cells #[u,x] t (0,0)):=by
 rw [setCell_eq];show (w.heap.modify b _)[b]?=_
 rw [Array.getElem?_modify,if_pos rfl,h];rfl
theorem frz2 {w:World}{b:Nat}{u v:Value}{t:TypeId}(h:w.heap[b]?=some (.cells #[u,v] t (0,0))):w.frozen? ⟨b,0,none⟩=false∧w.frozen? ⟨b,1,none⟩=false:=by
 constructor<;>simp [World.frozen?,h]
theorem writer_cells {w:World}{wb:Nat}{out tm out' tm':Value}(h:w.heap[wb]?=some (.cells #[out,tm] 98 (0,0))) (h':w.heap[wb]?=some (.cells #[out',tm'] 98 (0,0))):out=out'∧tm=tm':=by
 rw [h] at h'
 simp at h'
 exact h'
theorem marked {B wb:Nat}{tot news bs:List UInt8}{w:World}{out tm:Value}(hBw:B≤wb) (hh:w.heap[wb]?=some (.cells #[out,tm] 98 (0,0))) (hO:OY B w out bs) (hnb:out.ownBlock≠some wb) (hbs:bs.length≤1000000) (hl:1000000<(tot++news).length):WrPost B wb tot news w (.returned (.tuple #[])) (w.setCell ⟨wb,1,none⟩ (.bool true)):=by
 have hk:Kept (fun k=>k=wb) w (w.setCell ⟨wb,1,none⟩ (.bool true)):=(Kept.refl (fun k=>k=wb) w).setCell (p:=⟨wb,1,none⟩) rfl _
 have hh1:=set_at1 (x:=.bool true) hh
 refine ⟨rfl,⟨hBw,out,true,bs,hh1,hO.move fun k hk'=>hk.block k (hO.lt hk').2 (fun e=>hnb (by rw [←e];exact hk')),hnb,Or.inr ⟨rfl,hl,hbs⟩⟩,⟨hk.wider fun k h=>Or.inl h,fun k hr=>?_⟩⟩
 obtain ⟨out',tm',h1,h2⟩:=hr
 obtain ⟨rfl,-⟩:=writer_cells hh1 h1
 exact Or.inl ⟨out,tm,hh,h2⟩
theorem put_any (B wb:Nat) (tot news:List UInt8) (ad:Addr) (c1:Nat) (w:World) (hW:WR w B wb tot) (hB:B≤w.heap.size) (hS:BL w (some ad) news) (hne:news≠[]) (hnl:news.length≤1000000000) (had:ad.block≠wb):Calls Tryz.prog 81 #[.pointer (some ⟨wb,0,none⟩),.slice (some ad) news.length c1] w (WrPost B wb tot news w):=by
 obtain ⟨hBw,out,tm,bs,hh,hO,hnb,hst⟩:=hW
 obtain ⟨x0,x1,-,-,x4⟩:=cells2 hh
 obtain ⟨f0,f1⟩:=frz2 hh
 obtain ⟨oa,oc,rfl,hbl,hoc,hom,hon,hog⟩:=hO.shape
 have HH:=Hid.mk hh
 have HO:=Hid.mk hO
 have HS:=Hid.mk hS
 have HNB:=Hid.mk hnb
 clear hh hO hS hnb hog hbl
 have hbs:bs.length≤1000000:=by rcases hst with ⟨-,rfl,h⟩ | ⟨-,-,h⟩<;>exact h
 rcases hst with ⟨rfl,rfl,hl⟩ | ⟨rfl,hl,-⟩
 ·by_cases hfit:bs.length+news.length≤1000000
  ·have hf:(1000000<(bs.length:Int)+(news.length:Int))=False:=by simp;omega
   obtain ⟨W1,hW1⟩:∃W1,w.setCell ⟨wb,1,none⟩ (.bool false)=W1:=⟨_,rfl⟩
   have HK1:Hid (Kept (fun k=>k=wb) w W1):=by unfold Hid;rw [←hW1];exact (Kept.refl (fun k=>k=wb) w).setCell (p:=⟨wb,1,none⟩) rfl _
   have HH1:Hid (W1.heap[wb]?=some (.cells #[.slice oa bs.length oc,.bool false] 98 (0,0))):=by unfold Hid;rw [←hW1];exact set_at1 HH.out
   have hs1:W1.heap.size=w.heap.size:=by rw [←hW1];simp [World.setCell]
   have HO1:Hid (OY B W1 (.slice oa bs.length oc) bs):=HO.out.move fun k hk=>HK1.out.block k (HO.out.lt hk).2 (fun e=>HNB.out (by rw [←e];exact hk))
   have HS1:Hid (BL W1 (some ad) news):=HS.out.move (by omega) fun b off e hb=>HK1.out.block b hb (fun e2=>had (by simp only [Option.some.injEq] at e;rw [e];exact e2))
   have HW1:=Hid.mk hW1
   have hB1:B≤W1.heap.size:=by omega
   obtain ⟨y0,y1,-,-,y4⟩:=cells2 HH1.out
   obtain ⟨g0,g1⟩:=frz2 HH1.out
   clear hW1
   go_enter Tryz.func81,Tryz.ntmps81
   go_wp2_with (at_builtin;rw [HW1.out];refine wpList_appB rfl _ _ rfl B (.slice oa bs.length oc) bs news ad c1 news.length rfl rfl rfl HO1.out HS1.out hne (by omega) hB1 ?_;intro g7 c7 W7 hown7 hgr7 hat7;have HOWN7:=Hid.mk hown7;have HGR7:=Hid.mk hgr7;have HAT7:=Hid.mk hat7;have z:=(hgr7.block wb y4 HNB.out.symm).trans HH1.out;have HZ:=Hid.mk z;have z0:=(cells2 z).1;have z4:=(cells2 z).2.2.2.2;have zf:=(frz2 z).1;clear z hown7 hgr7 hat7 x0 x1 f0 f1 y0 y1 g0 g1)
   go_end0
   have hk8:Kept (fun k=>k=wb) W7 (W7.setCell ⟨wb,0,none⟩ (.slice (some ⟨g7,0,none⟩) (bs.length+news.length) c7)):=(Kept.refl (fun k=>k=wb) W7).setCell (p:=⟨wb,0,none⟩) rfl _
   have hh8:=heap_set0 (x:=.slice (some ⟨g7,0,none⟩) (bs.length+news.length) c7) HZ.out
   have hg7:g7≠wb:=by
    rcases HAT7.out with h | h
    ·intro e;exact HNB.out (by rw [h,e])
    ·omega
   have hO8:=HOWN7.out.move (w':=W7.setCell ⟨wb,0,none⟩ (.slice (some ⟨g7,0,none⟩) (bs.length+news.length) c7)) fun k hk=>hk8.block k (HOWN7.out.lt hk).2 (by simp [Value.ownBlock] at hk;omega)
   rw [List.length_append] at hO8
   refine ⟨rfl,⟨hBw,_,false,bs++news,hh8,hO8,by simp [Value.ownBlock];exact hg7,Or.inl ⟨rfl,rfl,by simp;omega⟩⟩,⟨⟨hk8.os.trans (HGR7.out.os.trans HK1.out.os),hk8.tape.trans (HGR7.out.tape.trans HK1.out.tape),hk8.output.trans (HGR7.out.output.trans HK1.out.output),by have:=hk8.size;have:=HGR7.out.size;omega,fun k hk hp=>?_⟩,fun k hr=>?_⟩⟩
   ·have hkw:k≠wb:=fun e=>hp (Or.inl e)
    have hkr:¬(Value.slice oa bs.length oc).ownBlock=some k:=fun e=>hp (Or.inr ⟨_,_,HH.out,e⟩)
    have h7:=HGR7.out.block k (by omega) (fun e=>hkr e.symm)
    exact (hk8.block k (by have:=HGR7.out.size;omega) hkw).trans (h7.trans (HK1.out.block k hk hkw))
   ·obtain ⟨out',tm',h1,h2⟩:=hr
    obtain ⟨rfl,-⟩:=writer_cells hh8 h1
    simp only [Value.ownBlock,Option.some.injEq] at h2
    subst h2
    rcases HAT7.out with h | h
    ·exact Or.inl ⟨_,_,HH.out,h⟩
    ·exact Or.inr (by omega)
  ·have hf:(1000000<(bs.length:Int)+(news.length:Int))=True:=by simp;omega
   go_enter Tryz.func81,Tryz.ntmps81
   go_wp2
   go_end0
   exact marked hBw HH.out HO.out HNB.out hbs (by simp;omega)
 ·go_enter Tryz.func81,Tryz.ntmps81
  go_wp2
  go_end0
  exact marked hBw HH.out HO.out HNB.out hbs (by simp;omega)
theorem or128 (x:Nat) (h:x<256):bits .or .u8 (x:Int) 128=((x % 128+128:Nat):Int):=by
 have key:∀y:Fin 256,bits .or .u8 ((y.val:Nat):Int) 128=((y.val % 128+128:Nat):Int):=by decide +kernel
 exact key ⟨x,h⟩
theorem or_byte (m:Nat):bits .or .u8 ((m:Int) % 256) 128=((UInt8.ofNat (m % 128+128)).toNat:Int):=by
 have h1:((m:Int) % 256)=((m % 256:Nat):Int):=by omega
 rw [h1,or128 _ (by omega),UInt8.toNat_ofNat_of_lt' (by show m % 128+128<256;omega)]
 omega
theorem small_byte {m:Nat}(h:m<128):((m:Int) % 256)=((UInt8.ofNat m).toNat:Int):=by
 rw [UInt8.toNat_ofNat_of_lt' (by show m<256;omega)]
 omega
theorem news1 {w:World}(b:UInt8):BL (w.alloc (.cells #[.int .u8 (b.toNat:Int)] 5)) (some ⟨w.heap.size,0,none⟩) [b] :=
 BL.of_block (alloc_new w _) fun i hi=>by
  have:i=0:=by simpa using hi
  subst this;rfl
theorem number_any (B wb:Nat) (tot:List UInt8) (n:Nat) (w:World) (hW:WR w B wb tot) (hB:B≤w.heap.size) (hn:n<9223372036854775808):Calls Tryz.prog 65 #[.pointer (some ⟨wb,0,none⟩),.int .i64 (n:Int)] w (WrPost B wb tot (numB n) w):=by
 go_enter Tryz.func65,Tryz.ntmps65
 go_wp2_with fail
 go_loopw [4] (fun u wr=>∃(m:Nat) (done:List UInt8),u=.int .u64 m∧m≤n∧numB n=done++numB m∧WR wr B wb (tot++done)∧Wrote wb w wr) (fun u _=>(intOf u).toNat)
 case atStart=>exact ⟨n,[],rfl,Nat.le_refl _,rfl,by simpa using hW,Wrote.refl _ _⟩
 case round =>
  obtain ⟨m,done,rfl,hm,hd,hWr,hwr⟩:=hrel
  have HD:=Hid.mk hd
  have HWR:=Hid.mk hWr
  have HWT:=Hid.mk hwr
  clear hd hWr hwr
  by_cases hbig:128≤m
  ·have hb1:(127:Int)<(m:Int):=by omega
   have HOR:=Hid.mk (or_byte m)
   have hlw:=HWR.out.lt
   have HCP:=put_any B wb (tot++done) [UInt8.ofNat (m % 128+128)] ⟨wr.heap.size,0,none⟩ 1 _ (HWR.out.on ((Below.refl _ _).alloc (Nat.le_refl _) (.cells #[.int .u8 ((UInt8.ofNat (m % 128+128)).toNat:Int)] 5))) (by simp;have:=HWT.out.kept.size;omega) (news1 _) (by simp) (by simp) (by simp;omega)
   have HWA:Hid (Wrote wb wr (wr.alloc (.cells #[.int .u8 ((UInt8.ofNat (m % 128+128)).toNat:Int)] 5))):=Wrote.below ((Below.refl _ _).alloc (Nat.le_refl _) _) hlw
   go_wp2_with fail
   rw [HOR.out]
   refine HCP.mono ?_
   rintro e w5 ⟨rfl,hW5,hw5⟩
   have HW5:=Hid.mk hW5
   have HWT5:=Hid.mk (HWT.out.trans (HWA.out.trans hw5))
   clear hW5 hw5 HCP HWA
   go_wp2
   refine ⟨⟨m / 128,done++[UInt8.ofNat (m % 128+128)],by rw [Int.natCast_ediv];rfl,by omega,?_,by rw [←List.append_assoc];exact HW5.out,HWT5.out⟩,by simp [intOf];omega⟩
   rw [HD.out,numB_big hbig,List.append_assoc];rfl
  ·have hbig':m<128:=by omega
   have HOR:Hid ((m:Int)=((UInt8.ofNat m).toNat:Int)):=by
    unfold Hid;rw [←small_byte hbig'];omega
   have hlw:=HWR.out.lt
   have HCP:=put_any B wb (tot++done) [UInt8.ofNat m] ⟨wr.heap.size,0,none⟩ 1 _ (HWR.out.on ((Below.refl _ _).alloc (Nat.le_refl _) (.cells #[.int .u8 ((UInt8.ofNat m).toNat:Int)] 5))) (by simp;have:=HWT.out.kept.size;omega) (news1 _) (by simp) (by simp) (by simp;omega)
   have HWA:Hid (Wrote wb wr (wr.alloc (.cells #[.int .u8 ((UInt8.ofNat m).toNat:Int)] 5))):=Wrote.below ((Below.refl _ _).alloc (Nat.le_refl _) _) hlw
   rw [←HOR.out] at HCP
   go_wp2_with fail
   refine HCP.mono ?_
   rintro e w5 ⟨rfl,hW5,hw5⟩
   rw [←HOR.out] at HWA
   have HW5:=Hid.mk hW5
   have HWT5:=Hid.mk (HWT.out.trans (HWA.out.trans hw5))
   clear hW5 hw5 HCP HWA
   go_wp2
   go_end0
   refine ⟨rfl,?_,HWT5.out⟩
   rw [HD.out,numB_small hbig',←List.append_assoc]
   exact HW5.out
theorem flag_any (B wb:Nat) (tot:List UInt8) (f:Bool) (w:World) (hW:WR w B wb tot) (hB:B≤w.heap.size):Calls Tryz.prog 93 #[.pointer (some ⟨wb,0,none⟩),.bool f] w (WrPost B wb tot [if f then 1 else 0] w):=by
 have hlw:=hW.lt
 have HA:=fun (b:UInt8)=>Hid.mk (put_any B wb tot [b] ⟨w.heap.size,0,none⟩ 1 _ (hW.on ((Below.refl _ _).alloc (Nat.le_refl _) (.cells #[.int .u8 (b.toNat:Int)] 5))) (by simp;omega) (news1 _) (by simp) (by simp) (by simp;omega))
 have HWA:=fun (b:UInt8)=>Wrote.below (wb:=wb) (w:=w) ((Below.refl _ _).alloc (Nat.le_refl _) (.cells #[.int .u8 (b.toNat:Int)] 5)) hlw
 cases f
 ·have HC:=(HA 0).out
  have HW0:=HWA 0
  go_enter Tryz.func93,Tryz.ntmps93
  go_wp2_with fail
  refine HC.mono ?_
  rintro e w5 ⟨rfl,hW5,hw5⟩
  have HR:Hid (WR w5 B wb (tot++[0])∧Wrote wb w w5):=⟨hW5,HW0.trans hw5⟩
  clear hW5 hw5 HC
  go_wp2
  go_end0
  exact ⟨rfl,HR.out.1,HR.out.2⟩
 ·have HC:=(HA 1).out
  have HW0:=HWA 1
  go_enter Tryz.func93,Tryz.ntmps93
  go_wp2_with fail
  refine HC.mono ?_
  rintro e w5 ⟨rfl,hW5,hw5⟩
  have HR:Hid (WR w5 B wb (tot++[1])∧Wrote wb w w5):=⟨hW5,HW0.trans hw5⟩
  clear hW5 hw5 HC
  go_wp2
  go_end0
  exact ⟨rfl,HR.out.1,HR.out.2⟩
def nameB (s:ByteArray):List UInt8:=numB s.size++s.data.toList
theorem name_any (B wb:Nat) (tot:List UInt8) (s:ByteArray) (w:World) (hW:WR w B wb tot) (hB:B≤w.heap.size) (hs0:0<s.size) (hs:s.size≤1000000000):Calls Tryz.prog 82 #[.pointer (some ⟨wb,0,none⟩),.string s] w (WrPost B wb tot (nameB s) w):=by
 have HC:=number_any B wb tot s.size w hW hB (by omega)
 have hconv:=fun (w:World)=>run_bytes_of_string (P:=Tryz.prog) w 9 78 5 s Tryz.underlying9 Tryz.underlying78 Tryz.underlying5
 go_enter Tryz.func82,Tryz.ntmps82
 go_wp2_with fail
 refine HC.mono ?_
 rintro e w1 ⟨rfl,hW1,hw1⟩
 have hlw:=hW1.lt
 obtain ⟨W2,hW2⟩:∃W2,(w1.alloc (.cells (bytesRow s (grownCap w1 s.size 0 5)) 5 ((bytesRow s (grownCap w1 s.size 0 5)).size,(bytesRow s (grownCap w1 s.size 0 5)).size+1))).drew=W2:=⟨_,rfl⟩
 have hb2:RowKit.Below w1.heap.size w1 W2:=by rw [←hW2];exact ((Below.refl _ _).alloc (Nat.le_refl _) _).drew
 have hh2:W2.heap[w1.heap.size]?=some (.cells (bytesRow s (grownCap w1 s.size 0 5)) 5 ((bytesRow s (grownCap w1 s.size 0 5)).size,(bytesRow s (grownCap w1 s.size 0 5)).size+1)):=by rw [←hW2];exact alloc_new w1 _
 have hbl:BL W2 (some ⟨w1.heap.size,0,none⟩) s.data.toList:=BL.of_block hh2 fun i hi=>bytesRow_at s _ i (by simpa using hi)
 have hlen:s.data.toList.length=s.size:=rfl
 have HCP:=put_any B wb (tot++numB s.size) s.data.toList ⟨w1.heap.size,0,none⟩ (grownCap w1 s.size 0 5) W2 (hW1.on hb2) (by have:=hw1.kept.size;have:=hb2.size;omega) hbl (by intro e;rw [e] at hlen;simp at hlen;omega) (by omega) (by simp only;omega)
 have HWA:Hid (Wrote wb w W2):=hw1.trans (Wrote.below hb2 hlw)
 rw [hlen] at HCP
 have HW2:=Hid.mk hW2
 clear hW2 hb2 hh2 hbl hW1 hw1
 go_wp2_with fail
 rw [HW2.out]
 refine HCP.mono ?_
 rintro e w3 ⟨rfl,hW3,hw3⟩
 have HR:Hid (WR w3 B wb (tot++nameB s)∧Wrote wb w w3):=⟨by unfold nameB;rw [←List.append_assoc];exact hW3,HWA.out.trans hw3⟩
 clear hW3 hw3 HCP HWA
 go_wp2
 go_end0
 exact ⟨rfl,HR.out.1,HR.out.2⟩
def varB (p:Int×Int):List UInt8:=numB p.1.toNat++numB p.2.toNat
def levB (l:LvT):List UInt8:=numB l.1.toNat++(numB l.2.length++l.2.flatMap varB)
theorem variable_any (B wb:Nat) (tot:List UInt8) (x y:Int) (w:World) (hW:WR w B wb tot) (hB:B≤w.heap.size) (hx0:0≤x) (hx:x≤1000) (hy0:0≤y) (hy:y≤1000):Calls Tryz.prog 103 #[.pointer (some ⟨wb,0,none⟩),.agg #[.int .i64 x,.int .i64 y]] w (WrPost B wb tot (varB (x,y)) w):=by
 have hlw:=hW.lt
 have HC:=number_any B wb tot x.toNat (w.alloc (.cells #[.int .i64 x,.int .i64 y] 109)) (hW.on ((Below.refl _ _).alloc (Nat.le_refl _) _)) (by simp;omega) (by omega)
 have HWA:Hid (Wrote wb w (w.alloc (.cells #[.int .i64 x,.int .i64 y] 109))):=Wrote.below ((Below.refl _ _).alloc (Nat.le_refl _) _) hlw
 have HBX:Hid (∀w',Wrote wb (w.alloc (.cells #[.int .i64 x,.int .i64 y] 109)) w'→w'.heap[w.heap.size]?=some (.cells #[.int .i64 x,.int .i64 y] 109 (0,0))):=fun w' h=>h.box hW ((Below.refl _ _).alloc (Nat.le_refl _) _) (alloc_new _ _) (Nat.le_refl _)
 rw [show ((x.toNat:Nat):Int)=x by omega] at HC
 have HB:=Hid.mk hB
 clear hW hB
 go_enter Tryz.func103,Tryz.ntmps103
 go_wp2_with fail
 refine HC.mono ?_
 rintro e w1 ⟨rfl,hW1,hw1⟩
 have HC2:=number_any B wb (tot++numB x.toNat) y.toNat w1 hW1 (by have:=hw1.kept.size;simp at this;have:=HB.out;omega) (by omega)
 rw [show ((y.toNat:Nat):Int)=y by omega] at HC2
 obtain ⟨x0,x1,-,-,x4⟩:=cells2 (HBX.out w1 hw1)
 have HWA1:=Hid.mk (HWA.out.trans hw1)
 clear hW1 hw1 HC HWA HBX
 go_wp2_with fail
 refine HC2.mono ?_
 rintro e w2 ⟨rfl,hW2,hw2⟩
 have HR:Hid (WR w2 B wb (tot++varB (x,y))∧Wrote wb w w2):=⟨by unfold varB;rw [←List.append_assoc];exact hW2,HWA1.out.trans hw2⟩
 clear hW2 hw2 HC2 HWA1
 go_wp2
 go_end0
 exact ⟨rfl,HR.out.1,HR.out.2⟩
def rightL (l:LvT):Prop:=0≤l.1∧l.1≤1000∧l.2.length≤64∧∀p∈l.2,0≤p.1∧p.1≤1000∧0≤p.2∧p.2≤1000
theorem flatMap_take {α:Type}{f:α→List UInt8}{xs:List α}{k:Nat}{x:α}(h:xs[k]?=some x):(xs.take (k+1)).flatMap f=(xs.take k).flatMap f++f x:=by
 obtain ⟨hk,rfl⟩:=List.getElem?_eq_some_iff.1 h
 rw [List.take_succ_eq_append_getElem hk,List.flatMap_append]
 simp
theorem eachV_any (w0:World) (wb:Nat) (tot:List UInt8) (xs:List (Int×Int)) (a:Option Addr) (cap:Nat) (w:World) (hb0:RowKit.Below w0.heap.size w0 w) (hW:WR w w0.heap.size wb tot) (hS:SL w0 a xs) (hn:xs.length≤1000000) (hr:∀p∈xs,0≤p.1∧p.1≤1000∧0≤p.2∧p.2≤1000):Calls Tryz.prog 102 #[.slice a xs.length cap,.func (.func 103) #[.pointer (some ⟨wb,0,none⟩)] #[]] w (WrPost w0.heap.size wb tot (xs.flatMap varB) w):=by
 have HB0:=Hid.mk hb0
 have HW:=Hid.mk hW
 have HS:=Hid.mk hS
 have HR:=Hid.mk hr
 clear hb0 hW hS hr
 go_enter Tryz.func102,Tryz.ntmps102
 go_wp2
 go_loopw [8] (fun i wr=>∃k:Nat,k≤xs.length∧i=.int .i64 k∧WR wr w0.heap.size wb (tot++(xs.take k).flatMap varB)∧Wrote wb w wr) (fun i _=>xs.length - (intOf i).toNat)
 case atStart=>exact ⟨0,Nat.zero_le _,rfl,by simpa using HW.out,Wrote.refl _ _⟩
 case round =>
  obtain ⟨k,hk,rfl,hWr,hwr⟩:=hrel
  have HWR:=Hid.mk hWr
  have HWT:=Hid.mk hwr
  have HBR:Hid (RowKit.Below w0.heap.size w0 wr):=HB0.out.trans (hwr.toBelow HW.out HB0.out.size)
  clear hWr hwr
  by_cases hlt:k<xs.length
  ·obtain ⟨b,off,x,y,rfl,hbl,hc0,hc1,hxy⟩:=(HS.out.below HBR.out).at hlt
   obtain ⟨hx0,hx1,hy0,hy1⟩:=HR.out (x,y) (List.mem_of_getElem? hxy.out)
   have HC:=variable_any w0.heap.size wb (tot++(xs.take k).flatMap varB) x y (wr.alloc (.cells #[.int .i64 x,.int .i64 y] 109)) (HWR.out.on ((Below.refl _ _).alloc (Nat.le_refl _) _)) (by simp;have:=HBR.out.size;omega) hx0 hx1 hy0 hy1
   have HWA:Hid (Wrote wb wr (wr.alloc (.cells #[.int .i64 x,.int .i64 y] 109))):=Wrote.below ((Below.refl _ _).alloc (Nat.le_refl _) _) HWR.out.lt
   go_wp2_with fail
   refine HC.mono ?_
   rintro e w2 ⟨rfl,hW2,hw2⟩
   have HR2:Hid (WR w2 w0.heap.size wb (tot++(xs.take (k+1)).flatMap varB)∧Wrote wb w w2):=⟨by rw [flatMap_take hxy.out,←List.append_assoc];exact hW2,HWT.out.trans (HWA.out.trans hw2)⟩
   clear hW2 hw2 HC HWA
   go_wp2
   refine ⟨⟨k+1,hlt,by go_num,HR2.out.1,HR2.out.2⟩,by simp [intOf];omega⟩
  ·obtain rfl:k=xs.length:=by omega
   go_wp2
   go_end0
   exact ⟨rfl,by have:=HWR.out;rwa [List.take_length] at this,HWT.out⟩
theorem level_any (w0:World) (wb:Nat) (tot:List UInt8) (n:Int) (xs:List (Int×Int)) (a:Option Addr) (cap:Nat) (w:World) (hb0:RowKit.Below w0.heap.size w0 w) (hW:WR w w0.heap.size wb tot) (hS:SL w0 a xs) (hr:rightL (n,xs)):Calls Tryz.prog 95 #[.pointer (some ⟨wb,0,none⟩),.agg #[.int .i64 n,.slice a xs.length cap]] w (WrPost w0.heap.size wb tot (levB (n,xs)) w):=by
 obtain ⟨hn0,hn1,hxl,hxs⟩:=hr
 simp only at hn0 hn1 hxl hxs
 have hlw:=hW.lt
 obtain ⟨W0,hW0⟩:∃W0,w.alloc (.cells #[.int .i64 n,.slice a xs.length cap] 75)=W0:=⟨_,rfl⟩
 have hb:RowKit.Below w.heap.size w W0:=by rw [←hW0];exact (Below.refl _ _).alloc (Nat.le_refl _) _
 have HBX:Hid (∀w',Wrote wb W0 w'→w'.heap[w.heap.size]?=some (.cells #[.int .i64 n,.slice a xs.length cap] 75 (0,0))):=fun w' h=>h.box hW hb (by rw [←hW0];exact alloc_new _ _) (Nat.le_refl _)
 have HWA:Hid (Wrote wb w W0):=Wrote.below hb hlw
 have hsz:=hb0.size
 have HWW0:Hid (WR W0 w0.heap.size wb tot):=hW.on hb
 have HB00:Hid (RowKit.Below w0.heap.size w0 W0):=hb0.trans (hb.mono hsz)
 have HC:=number_any w0.heap.size wb tot n.toNat W0 HWW0.out HB00.out.size (by omega)
 rw [show ((n.toNat:Nat):Int)=n by omega] at HC
 have HXS:=Hid.mk hxs
 have HS:=Hid.mk hS
 have HW0:=Hid.mk hW0
 obtain ⟨q0,q1,-,-,q4⟩:=cells2 (HBX.out W0 (Wrote.refl _ _))
 clear hW hb0 hb hS hxs hW0
 go_enter Tryz.func95,Tryz.ntmps95
 go_wp2_with fail
 rw [HW0.out]
 refine HC.mono ?_
 rintro e w1 ⟨rfl,hW1,hw1⟩
 have HB1:Hid (RowKit.Below w0.heap.size w0 w1):=HB00.out.trans (hw1.toBelow HWW0.out HB00.out.size)
 have HC2:=number_any w0.heap.size wb (tot++numB n.toNat) xs.length w1 hW1 HB1.out.size (by omega)
 obtain ⟨x0,x1,-,-,x4⟩:=cells2 (HBX.out w1 hw1)
 have HWT1:=Hid.mk hw1
 have HWR1:=Hid.mk hW1
 clear hW1 hw1 HC q0 q1 q4
 go_wp2_with fail
 refine HC2.mono ?_
 rintro e w2 ⟨rfl,hW2,hw2⟩
 have HB2:Hid (RowKit.Below w0.heap.size w0 w2):=HB1.out.trans (hw2.toBelow HWR1.out HB1.out.size)
 have HC3:=eachV_any w0 wb (tot++numB n.toNat++numB xs.length) xs a cap w2 HB2.out hW2 HS.out (by omega) HXS.out
 obtain ⟨y0,y1,-,-,y4⟩:=cells2 (HBX.out w2 (HWT1.out.trans hw2))
 have HWT2:=Hid.mk (HWA.out.trans (HWT1.out.trans hw2))
 clear hW2 hw2 HC2 x0 x1 x4 HWT1 HWR1
 go_wp2_with fail
 refine HC3.mono ?_
 rintro e w3 ⟨rfl,hW3,hw3⟩
 have HR:Hid (WR w3 w0.heap.size wb (tot++levB (n,xs))∧Wrote wb w w3):=⟨by unfold levB;rw [←List.append_assoc,←List.append_assoc];exact hW3,HWT2.out.trans hw3⟩
 clear hW3 hw3 HC3
 go_wp2
 go_end0
 exact ⟨rfl,HR.out.1,HR.out.2⟩
theorem eachL_any (w0:World) (wb:Nat) (tot:List UInt8) (ls:List LvT) (a:Option Addr) (cap:Nat) (w:World) (hb0:RowKit.Below w0.heap.size w0 w) (hW:WR w w0.heap.size wb tot) (hS:LN w0 a ls) (hn:ls.length≤1000000) (hr:∀l∈ls,rightL l):Calls Tryz.prog 94 #[.slice a ls.length cap,.func (.func 95) #[.pointer (some ⟨wb,0,none⟩)] #[]] w (WrPost w0.heap.size wb tot (ls.flatMap levB) w):=by
 have HB0:=Hid.mk hb0
 have HW:=Hid.mk hW
 have HS:=Hid.mk hS
 have HR:=Hid.mk hr
 clear hb0 hW hS hr
 go_enter Tryz.func94,Tryz.ntmps94
 go_wp2
 go_loopw [8] (fun i wr=>∃k:Nat,k≤ls.length∧i=.int .i64 k∧WR wr w0.heap.size wb (tot++(ls.take k).flatMap levB)∧Wrote wb w wr) (fun i _=>ls.length - (intOf i).toNat)
 case atStart=>exact ⟨0,Nat.zero_le _,rfl,by simpa using HW.out,Wrote.refl _ _⟩
 case round =>
  obtain ⟨k,hk,rfl,hWr,hwr⟩:=hrel
  have HWR:=Hid.mk hWr
  have HWT:=Hid.mk hwr
  have HBR:Hid (RowKit.Below w0.heap.size w0 wr):=HB0.out.trans (hwr.toBelow HW.out HB0.out.size)
  clear hWr hwr
  by_cases hlt:k<ls.length
  ·rcases HS.out with h | ⟨b,off,rfl,hbl0,hc⟩
   ·rw [h] at hlt;simp at hlt
   obtain ⟨c0,a',cap',c1,hs',-⟩:=hc k ls[k].1 ls[k].2 (by simp [hlt])
   have hmem:ls[k]∈ls:=List.getElem_mem hlt
   have d0:=(HBR.out.cell (p:=⟨b,off+k*2,none⟩) hbl0).trans c0
   have d1:=(HBR.out.cell (p:=⟨b,off+k*2+1,none⟩) hbl0).trans c1
   have hbl:b<wr.heap.size:=Nat.lt_of_lt_of_le hbl0 HBR.out.size
   have HC:=level_any w0 wb (tot++(ls.take k).flatMap levB) ls[k].1 ls[k].2 a' cap' (wr.alloc (.cells #[.int .i64 ls[k].1,.slice a' ls[k].2.length cap'] 75)) (HBR.out.alloc HBR.out.size _) (HWR.out.on ((Below.refl _ _).alloc (Nat.le_refl _) _)) hs' (HR.out _ hmem)
   have HWA:Hid (Wrote wb wr (wr.alloc (.cells #[.int .i64 ls[k].1,.slice a' ls[k].2.length cap'] 75))):=Wrote.below ((Below.refl _ _).alloc (Nat.le_refl _) _) HWR.out.lt
   have HTK:Hid ((ls.take (k+1)).flatMap levB=(ls.take k).flatMap levB++levB (ls[k].1,ls[k].2)):=flatMap_take (List.getElem?_eq_getElem hlt)
   clear c0 c1 hc hs' hbl0 hmem
   generalize ls[k]=lk at *
   obtain ⟨ln,lx⟩:=lk
   simp only at HC HWA HTK d0 d1
   go_wp2_with fail
   refine HC.mono ?_
   rintro e w2 ⟨rfl,hW2,hw2⟩
   have HR2:Hid (WR w2 w0.heap.size wb (tot++(ls.take (k+1)).flatMap levB)∧Wrote wb w w2):=⟨by rw [HTK.out,←List.append_assoc];exact hW2,HWT.out.trans (HWA.out.trans hw2)⟩
   clear hW2 hw2 HC HWA
   go_wp2
   refine ⟨⟨k+1,hlt,by go_num,HR2.out.1,HR2.out.2⟩,by simp [intOf];omega⟩
  ·obtain rfl:k=ls.length:=by omega
   go_wp2
   go_end0
   exact ⟨rfl,by have:=HWR.out;rwa [List.take_length] at this,HWT.out⟩
end Go.Proofs.YtgfgpjcnfnopnaaGreat
