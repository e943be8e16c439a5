/- The contract of term.bare. -/
import Derived.Test.YtgfgpjcnfnopnaaGreatOD
namespace Go.Proofs.YtgfgpjcnfnopnaaGreat
set_option maxRecDepth 100000
set_option maxHeartbeats 40000000
open Go.RowKit Go.Sort
def bareT:Tm→Tm
 | .mk f n h nm ls _=>.mk f (if f=1∨f=11 then n else 0) (if f=3∨f=4∨f=5 then h else false) (if f=10 then nm else ByteArray.empty) (if f=2∨f=10 then ls else []) []
def Fresh (w:World) (B k:Nat) (v:Value) (r:Tm):Prop:=(k=0∧TO w B w.heap.size v r)∨(0<k∧∃g,B≤g∧g<w.heap.size∧∀N E,g<N→N<E→RO w B N E g k v r)
theorem on2 {w:World}{a b c:Obj}:(((w.alloc a).alloc b).alloc c).heap[w.heap.size+1+1]?=some c:=by
 have:=alloc_new ((w.alloc a).alloc b) c
 have e:((w.alloc a).alloc b).heap.size=w.heap.size+1+1:=by simp
 rwa [e] at this
theorem on1 {w:World}{a b c:Obj}:(((w.alloc a).alloc b).alloc c).heap[w.heap.size+1]?=some b:=alloc_old box_at1 _
theorem sz3 {w:World}{a b c:Obj}:(((w.alloc a).alloc b).alloc c).heap.size=w.heap.size+1+1+1:=by simp
theorem room_ro {w1 wf:World}{B B' N E g k1:Nat}{f n:Int}{h:Bool}{nm:ByteArray}{ls:List LvT}{lv:Value}(hown:w1.ownsRow B 36 6 (.slice (some ⟨g,0,none⟩) 0 k1) 0 []) (hg:wf.heap[g]?=w1.heap[g]?) (hl:LO wf B' g lv ls) (hB:B'≤g) (hN:g<N) (hE:N<E) (hk:k1≤1000000):RO wf B' N E g k1 (.agg #[.int .i64 f,.int .i64 n,.bool h,.string nm,lv,.slice (some ⟨g,0,none⟩) 0 k1]) (.mk f n h nm ls []):=by
 rcases hown.2 with ⟨h1,-⟩ | ⟨g',cap,cur,h1,-,hh,-,-,hs,-⟩
 ·cases h1
 ·simp only [Value.slice.injEq,Option.some.injEq,Addr.mk.injEq] at h1
  obtain ⟨⟨rfl,-⟩,-,rfl⟩:=h1
  exact ⟨f,n,h,nm,ls,[],lv,g,fun _=>N+1,fun _=>.int .i64 0,rfl,rfl,hl,hB,Nat.le_refl _,hN,Nat.lt_succ_self N,fun _=>Nat.le_refl _,hE,⟨cur,hg.trans hh,hs⟩,Nat.zero_le _,by omega,fun i hi=>by simp at hi,fun i t hi=>by simp at hi⟩
theorem heap_far {w:World}{k b o:Nat}{u:Value}(h:k≠b):(w.setCell ⟨b,o,none⟩ u).heap[k]?=w.heap[k]?:=Below.heap_setCell _ _ _ _ h
theorem bare1 (n:Int) (h:Bool) (nm:ByteArray) (la ka:Option Addr) (l1 lc k1 kc:Nat) (w:World) (hk6:k1≤1000000) :
  Calls Tryz.prog 88 #[.agg #[.int .i64 1,.int .i64 n,.bool h,.string nm,.slice la l1 lc,.slice ka k1 kc]] w fun e w'=>∃v,e=.returned v∧Fresh w' w.heap.size k1 v (.mk 1 n false ByteArray.empty [] [])∧RowKit.Below w.heap.size w w':=by
 obtain ⟨i0,hi,hz0,hz1,hz2⟩:=info_parts infoTerm
 rcases Nat.eq_zero_or_pos k1 with rfl | hk
 ·go_enter Tryz.func88,Tryz.ntmps88
  go_wp2
  refine bodyPost_ret (v:=.agg #[.int .i64 1,.int .i64 n,.bool false,.string ByteArray.empty,.slice none 0 0,.slice none 0 0]) (by simp [results,Tryz.results88,go_sem];rfl) rfl ⟨_,rfl,Or.inl ⟨rfl,TO.leaf (m:=w.heap.size) (Or.inl ⟨rfl,rfl⟩) (Nat.le_refl _) (by simp;omega)⟩,?_⟩
  exact (((Below.refl w.heap.size w).alloc (Nat.le_refl _) _).alloc (by simp) _).alloc (by simp;omega) _
 ·have hk':(0:Int)<(k1:Int):=by omega
  go_enter Tryz.func88,Tryz.ntmps88
  go_wp2_with (at_make;refine wpList_make_own _ rfl _ _ 34 rfl w.heap.size 36 i0 _ 6 Tryz.underlying34 hi hz0 hz1 .i64 .i64 _ k1 rfl rfl rfl (by rw [hz2];omega) (by simp [maxLen];omega) (by simp;omega) ?_;intro w1 hown hgr;rw [sz3] at hown ⊢;have hbw:=(Below.refl (w.heap.size+1+1+1) _).grown hgr (by rw [sz3];exact Nat.le_refl _) (fun k e=>by cases e);have hz1':=hbw.size;rw [sz3] at hz1';have ho:=(hbw.block (w.heap.size+1+1) (by omega)).trans on2;have hr:=(hbw.block (w.heap.size+1) (by omega)).trans on1;have HB1:=Hid.mk (((((Below.refl w.heap.size w).alloc (Nat.le_refl _) _).alloc (by simp) _).alloc (by simp;omega) _).trans (hbw.mono (by omega)));have HO1:=Hid.mk hown;clear hown hgr hbw;obtain ⟨x0,x1,x2,x3,x4,x5,x6⟩:=cells6 ho;obtain ⟨y0,y1,y2,y3,y4,y5,y6⟩:=cells6 hr;have fo:=frz ho;have fr:=frz hr;clear ho hr)
  have hg1:w.heap.size+1+1+1<w1.heap.size:=(World.ownsRow.lt HO1.out _ rfl).2
  refine bodyPost_ret (v:=.agg #[.int .i64 1,.int .i64 n,.bool false,.string ByteArray.empty,.slice none 0 0,.slice (some ⟨w.heap.size+1+1+1,0,none⟩) 0 k1]) (by simp [results,Tryz.results88,go_sem,y0,y1,y2,y3,y4,y5];rfl) rfl ⟨_,rfl,Or.inr ⟨hk,w.heap.size+1+1+1,by omega,?_,fun N E h1 h2=>room_ro HO1.out ?_ (Or.inl ⟨rfl,rfl⟩) (by omega) h1 h2 hk6⟩,?_⟩
  ·simpa using hg1
  ·simp only [heap_far (show w.heap.size+1+1+1≠w.heap.size+1+1 by omega),heap_far (show w.heap.size+1+1+1≠w.heap.size+1 by omega)]
  ·exact ((((((HB1.out.setCell (p:=⟨w.heap.size+1+1,5,none⟩) (by simp;omega) _).setCell (p:=⟨w.heap.size+1,0,none⟩) (by simp) _).setCell (p:=⟨w.heap.size+1,1,none⟩) (by simp) _).setCell (p:=⟨w.heap.size+1,2,none⟩) (by simp) _).setCell (p:=⟨w.heap.size+1,3,none⟩) (by simp) _).setCell (p:=⟨w.heap.size+1,4,none⟩) (by simp) _).setCell (p:=⟨w.heap.size+1,5,none⟩) (by simp) _
theorem bare11 (n:Int) (h:Bool) (nm:ByteArray) (la ka:Option Addr) (l1 lc k1 kc:Nat) (w:World) (hk6:k1≤1000000) :
  Calls Tryz.prog 88 #[.agg #[.int .i64 11,.int .i64 n,.bool h,.string nm,.slice la l1 lc,.slice ka k1 kc]] w fun e w'=>∃v,e=.returned v∧Fresh w' w.heap.size k1 v (.mk 11 n false ByteArray.empty [] [])∧RowKit.Below w.heap.size w w':=by
 obtain ⟨i0,hi,hz0,hz1,hz2⟩:=info_parts infoTerm
 rcases Nat.eq_zero_or_pos k1 with rfl | hk
 ·go_enter Tryz.func88,Tryz.ntmps88
  go_wp2
  refine bodyPost_ret (v:=.agg #[.int .i64 11,.int .i64 n,.bool false,.string ByteArray.empty,.slice none 0 0,.slice none 0 0]) (by simp [results,Tryz.results88,go_sem];rfl) rfl ⟨_,rfl,Or.inl ⟨rfl,TO.leaf (m:=w.heap.size) (Or.inl ⟨rfl,rfl⟩) (Nat.le_refl _) (by simp;omega)⟩,?_⟩
  exact (((Below.refl w.heap.size w).alloc (Nat.le_refl _) _).alloc (by simp) _).alloc (by simp;omega) _
 ·have hk':(0:Int)<(k1:Int):=by omega
  go_enter Tryz.func88,Tryz.ntmps88
  go_wp2_with (at_make;refine wpList_make_own _ rfl _ _ 34 rfl w.heap.size 36 i0 _ 6 Tryz.underlying34 hi hz0 hz1 .i64 .i64 _ k1 rfl rfl rfl (by rw [hz2];omega) (by simp [maxLen];omega) (by simp;omega) ?_;intro w1 hown hgr;rw [sz3] at hown ⊢;have hbw:=(Below.refl (w.heap.size+1+1+1) _).grown hgr (by rw [sz3];exact Nat.le_refl _) (fun k e=>by cases e);have hz1':=hbw.size;rw [sz3] at hz1';have ho:=(hbw.block (w.heap.size+1+1) (by omega)).trans on2;have hr:=(hbw.block (w.heap.size+1) (by omega)).trans on1;have HB1:=Hid.mk (((((Below.refl w.heap.size w).alloc (Nat.le_refl _) _).alloc (by simp) _).alloc (by simp;omega) _).trans (hbw.mono (by omega)));have HO1:=Hid.mk hown;clear hown hgr hbw;obtain ⟨x0,x1,x2,x3,x4,x5,x6⟩:=cells6 ho;obtain ⟨y0,y1,y2,y3,y4,y5,y6⟩:=cells6 hr;have fo:=frz ho;have fr:=frz hr;clear ho hr)
  have hg1:w.heap.size+1+1+1<w1.heap.size:=(World.ownsRow.lt HO1.out _ rfl).2
  refine bodyPost_ret (v:=.agg #[.int .i64 11,.int .i64 n,.bool false,.string ByteArray.empty,.slice none 0 0,.slice (some ⟨w.heap.size+1+1+1,0,none⟩) 0 k1]) (by simp [results,Tryz.results88,go_sem,y0,y1,y2,y3,y4,y5];rfl) rfl ⟨_,rfl,Or.inr ⟨hk,w.heap.size+1+1+1,by omega,?_,fun N E h1 h2=>room_ro HO1.out ?_ (Or.inl ⟨rfl,rfl⟩) (by omega) h1 h2 hk6⟩,?_⟩
  ·simpa using hg1
  ·simp only [heap_far (show w.heap.size+1+1+1≠w.heap.size+1+1 by omega),heap_far (show w.heap.size+1+1+1≠w.heap.size+1 by omega)]
  ·exact ((((((HB1.out.setCell (p:=⟨w.heap.size+1+1,5,none⟩) (by simp;omega) _).setCell (p:=⟨w.heap.size+1,0,none⟩) (by simp) _).setCell (p:=⟨w.heap.size+1,1,none⟩) (by simp) _).setCell (p:=⟨w.heap.size+1,2,none⟩) (by simp) _).setCell (p:=⟨w.heap.size+1,3,none⟩) (by simp) _).setCell (p:=⟨w.heap.size+1,4,none⟩) (by simp) _).setCell (p:=⟨w.heap.size+1,5,none⟩) (by simp) _
theorem bare3 (n:Int) (h:Bool) (nm:ByteArray) (la ka:Option Addr) (l1 lc k1 kc:Nat) (w:World) (hk6:k1≤1000000) :
  Calls Tryz.prog 88 #[.agg #[.int .i64 3,.int .i64 n,.bool h,.string nm,.slice la l1 lc,.slice ka k1 kc]] w fun e w'=>∃v,e=.returned v∧Fresh w' w.heap.size k1 v (.mk 3 0 h ByteArray.empty [] [])∧RowKit.Below w.heap.size w w':=by
 obtain ⟨i0,hi,hz0,hz1,hz2⟩:=info_parts infoTerm
 rcases Nat.eq_zero_or_pos k1 with rfl | hk
 ·go_enter Tryz.func88,Tryz.ntmps88
  go_wp2
  refine bodyPost_ret (v:=.agg #[.int .i64 3,.int .i64 0,.bool h,.string ByteArray.empty,.slice none 0 0,.slice none 0 0]) (by simp [results,Tryz.results88,go_sem];rfl) rfl ⟨_,rfl,Or.inl ⟨rfl,TO.leaf (m:=w.heap.size) (Or.inl ⟨rfl,rfl⟩) (Nat.le_refl _) (by simp;omega)⟩,?_⟩
  exact (((Below.refl w.heap.size w).alloc (Nat.le_refl _) _).alloc (by simp) _).alloc (by simp;omega) _
 ·have hk':(0:Int)<(k1:Int):=by omega
  go_enter Tryz.func88,Tryz.ntmps88
  go_wp2_with (at_make;refine wpList_make_own _ rfl _ _ 34 rfl w.heap.size 36 i0 _ 6 Tryz.underlying34 hi hz0 hz1 .i64 .i64 _ k1 rfl rfl rfl (by rw [hz2];omega) (by simp [maxLen];omega) (by simp;omega) ?_;intro w1 hown hgr;rw [sz3] at hown ⊢;have hbw:=(Below.refl (w.heap.size+1+1+1) _).grown hgr (by rw [sz3];exact Nat.le_refl _) (fun k e=>by cases e);have hz1':=hbw.size;rw [sz3] at hz1';have ho:=(hbw.block (w.heap.size+1+1) (by omega)).trans on2;have hr:=(hbw.block (w.heap.size+1) (by omega)).trans on1;have HB1:=Hid.mk (((((Below.refl w.heap.size w).alloc (Nat.le_refl _) _).alloc (by simp) _).alloc (by simp;omega) _).trans (hbw.mono (by omega)));have HO1:=Hid.mk hown;clear hown hgr hbw;obtain ⟨x0,x1,x2,x3,x4,x5,x6⟩:=cells6 ho;obtain ⟨y0,y1,y2,y3,y4,y5,y6⟩:=cells6 hr;have fo:=frz ho;have fr:=frz hr;clear ho hr)
  have hg1:w.heap.size+1+1+1<w1.heap.size:=(World.ownsRow.lt HO1.out _ rfl).2
  refine bodyPost_ret (v:=.agg #[.int .i64 3,.int .i64 0,.bool h,.string ByteArray.empty,.slice none 0 0,.slice (some ⟨w.heap.size+1+1+1,0,none⟩) 0 k1]) (by simp [results,Tryz.results88,go_sem,y0,y1,y2,y3,y4,y5];rfl) rfl ⟨_,rfl,Or.inr ⟨hk,w.heap.size+1+1+1,by omega,?_,fun N E h1 h2=>room_ro HO1.out ?_ (Or.inl ⟨rfl,rfl⟩) (by omega) h1 h2 hk6⟩,?_⟩
  ·simpa using hg1
  ·simp only [heap_far (show w.heap.size+1+1+1≠w.heap.size+1+1 by omega),heap_far (show w.heap.size+1+1+1≠w.heap.size+1 by omega)]
  ·exact ((((((HB1.out.setCell (p:=⟨w.heap.size+1+1,5,none⟩) (by simp;omega) _).setCell (p:=⟨w.heap.size+1,0,none⟩) (by simp) _).setCell (p:=⟨w.heap.size+1,1,none⟩) (by simp) _).setCell (p:=⟨w.heap.size+1,2,none⟩) (by simp) _).setCell (p:=⟨w.heap.size+1,3,none⟩) (by simp) _).setCell (p:=⟨w.heap.size+1,4,none⟩) (by simp) _).setCell (p:=⟨w.heap.size+1,5,none⟩) (by simp) _
theorem bare4 (n:Int) (h:Bool) (nm:ByteArray) (la ka:Option Addr) (l1 lc k1 kc:Nat) (w:World) (hk6:k1≤1000000) :
  Calls Tryz.prog 88 #[.agg #[.int .i64 4,.int .i64 n,.bool h,.string nm,.slice la l1 lc,.slice ka k1 kc]] w fun e w'=>∃v,e=.returned v∧Fresh w' w.heap.size k1 v (.mk 4 0 h ByteArray.empty [] [])∧RowKit.Below w.heap.size w w':=by
 obtain ⟨i0,hi,hz0,hz1,hz2⟩:=info_parts infoTerm
 rcases Nat.eq_zero_or_pos k1 with rfl | hk
 ·go_enter Tryz.func88,Tryz.ntmps88
  go_wp2
  refine bodyPost_ret (v:=.agg #[.int .i64 4,.int .i64 0,.bool h,.string ByteArray.empty,.slice none 0 0,.slice none 0 0]) (by simp [results,Tryz.results88,go_sem];rfl) rfl ⟨_,rfl,Or.inl ⟨rfl,TO.leaf (m:=w.heap.size) (Or.inl ⟨rfl,rfl⟩) (Nat.le_refl _) (by simp;omega)⟩,?_⟩
  exact (((Below.refl w.heap.size w).alloc (Nat.le_refl _) _).alloc (by simp) _).alloc (by simp;omega) _
 ·have hk':(0:Int)<(k1:Int):=by omega
  go_enter Tryz.func88,Tryz.ntmps88
  go_wp2_with (at_make;refine wpList_make_own _ rfl _ _ 34 rfl w.heap.size 36 i0 _ 6 Tryz.underlying34 hi hz0 hz1 .i64 .i64 _ k1 rfl rfl rfl (by rw [hz2];omega) (by simp [maxLen];omega) (by simp;omega) ?_;intro w1 hown hgr;rw [sz3] at hown ⊢;have hbw:=(Below.refl (w.heap.size+1+1+1) _).grown hgr (by rw [sz3];exact Nat.le_refl _) (fun k e=>by cases e);have hz1':=hbw.size;rw [sz3] at hz1';have ho:=(hbw.block (w.heap.size+1+1) (by omega)).trans on2;have hr:=(hbw.block (w.heap.size+1) (by omega)).trans on1;have HB1:=Hid.mk (((((Below.refl w.heap.size w).alloc (Nat.le_refl _) _).alloc (by simp) _).alloc (by simp;omega) _).trans (hbw.mono (by omega)));have HO1:=Hid.mk hown;clear hown hgr hbw;obtain ⟨x0,x1,x2,x3,x4,x5,x6⟩:=cells6 ho;obtain ⟨y0,y1,y2,y3,y4,y5,y6⟩:=cells6 hr;have fo:=frz ho;have fr:=frz hr;clear ho hr)
  have hg1:w.heap.size+1+1+1<w1.heap.size:=(World.ownsRow.lt HO1.out _ rfl).2
  refine bodyPost_ret (v:=.agg #[.int .i64 4,.int .i64 0,.bool h,.string ByteArray.empty,.slice none 0 0,.slice (some ⟨w.heap.size+1+1+1,0,none⟩) 0 k1]) (by simp [results,Tryz.results88,go_sem,y0,y1,y2,y3,y4,y5];rfl) rfl ⟨_,rfl,Or.inr ⟨hk,w.heap.size+1+1+1,by omega,?_,fun N E h1 h2=>room_ro HO1.out ?_ (Or.inl ⟨rfl,rfl⟩) (by omega) h1 h2 hk6⟩,?_⟩
  ·simpa using hg1
  ·simp only [heap_far (show w.heap.size+1+1+1≠w.heap.size+1+1 by omega),heap_far (show w.heap.size+1+1+1≠w.heap.size+1 by omega)]
  ·exact ((((((HB1.out.setCell (p:=⟨w.heap.size+1+1,5,none⟩) (by simp;omega) _).setCell (p:=⟨w.heap.size+1,0,none⟩) (by simp) _).setCell (p:=⟨w.heap.size+1,1,none⟩) (by simp) _).setCell (p:=⟨w.heap.size+1,2,none⟩) (by simp) _).setCell (p:=⟨w.heap.size+1,3,none⟩) (by simp) _).setCell (p:=⟨w.heap.size+1,4,none⟩) (by simp) _).setCell (p:=⟨w.heap.size+1,5,none⟩) (by simp) _
theorem bare5 (n:Int) (h:Bool) (nm:ByteArray) (la ka:Option Addr) (l1 lc k1 kc:Nat) (w:World) (hk6:k1≤1000000) :
  Calls Tryz.prog 88 #[.agg #[.int .i64 5,.int .i64 n,.bool h,.string nm,.slice la l1 lc,.slice ka k1 kc]] w fun e w'=>∃v,e=.returned v∧Fresh w' w.heap.size k1 v (.mk 5 0 h ByteArray.empty [] [])∧RowKit.Below w.heap.size w w':=by
 obtain ⟨i0,hi,hz0,hz1,hz2⟩:=info_parts infoTerm
 rcases Nat.eq_zero_or_pos k1 with rfl | hk
 ·go_enter Tryz.func88,Tryz.ntmps88
  go_wp2
  refine bodyPost_ret (v:=.agg #[.int .i64 5,.int .i64 0,.bool h,.string ByteArray.empty,.slice none 0 0,.slice none 0 0]) (by simp [results,Tryz.results88,go_sem];rfl) rfl ⟨_,rfl,Or.inl ⟨rfl,TO.leaf (m:=w.heap.size) (Or.inl ⟨rfl,rfl⟩) (Nat.le_refl _) (by simp;omega)⟩,?_⟩
  exact (((Below.refl w.heap.size w).alloc (Nat.le_refl _) _).alloc (by simp) _).alloc (by simp;omega) _
 ·have hk':(0:Int)<(k1:Int):=by omega
  go_enter Tryz.func88,Tryz.ntmps88
  go_wp2_with (at_make;refine wpList_make_own _ rfl _ _ 34 rfl w.heap.size 36 i0 _ 6 Tryz.underlying34 hi hz0 hz1 .i64 .i64 _ k1 rfl rfl rfl (by rw [hz2];omega) (by simp [maxLen];omega) (by simp;omega) ?_;intro w1 hown hgr;rw [sz3] at hown ⊢;have hbw:=(Below.refl (w.heap.size+1+1+1) _).grown hgr (by rw [sz3];exact Nat.le_refl _) (fun k e=>by cases e);have hz1':=hbw.size;rw [sz3] at hz1';have ho:=(hbw.block (w.heap.size+1+1) (by omega)).trans on2;have hr:=(hbw.block (w.heap.size+1) (by omega)).trans on1;have HB1:=Hid.mk (((((Below.refl w.heap.size w).alloc (Nat.le_refl _) _).alloc (by simp) _).alloc (by simp;omega) _).trans (hbw.mono (by omega)));have HO1:=Hid.mk hown;clear hown hgr hbw;obtain ⟨x0,x1,x2,x3,x4,x5,x6⟩:=cells6 ho;obtain ⟨y0,y1,y2,y3,y4,y5,y6⟩:=cells6 hr;have fo:=frz ho;have fr:=frz hr;clear ho hr)
  have hg1:w.heap.size+1+1+1<w1.heap.size:=(World.ownsRow.lt HO1.out _ rfl).2
  refine bodyPost_ret (v:=.agg #[.int .i64 5,.int .i64 0,.bool h,.string ByteArray.empty,.slice none 0 0,.slice (some ⟨w.heap.size+1+1+1,0,none⟩) 0 k1]) (by simp [results,Tryz.results88,go_sem,y0,y1,y2,y3,y4,y5];rfl) rfl ⟨_,rfl,Or.inr ⟨hk,w.heap.size+1+1+1,by omega,?_,fun N E h1 h2=>room_ro HO1.out ?_ (Or.inl ⟨rfl,rfl⟩) (by omega) h1 h2 hk6⟩,?_⟩
  ·simpa using hg1
  ·simp only [heap_far (show w.heap.size+1+1+1≠w.heap.size+1+1 by omega),heap_far (show w.heap.size+1+1+1≠w.heap.size+1 by omega)]
  ·exact ((((((HB1.out.setCell (p:=⟨w.heap.size+1+1,5,none⟩) (by simp;omega) _).setCell (p:=⟨w.heap.size+1,0,none⟩) (by simp) _).setCell (p:=⟨w.heap.size+1,1,none⟩) (by simp) _).setCell (p:=⟨w.heap.size+1,2,none⟩) (by simp) _).setCell (p:=⟨w.heap.size+1,3,none⟩) (by simp) _).setCell (p:=⟨w.heap.size+1,4,none⟩) (by simp) _).setCell (p:=⟨w.heap.size+1,5,none⟩) (by simp) _
theorem bare6 (n:Int) (h:Bool) (nm:ByteArray) (la ka:Option Addr) (l1 lc k1 kc:Nat) (w:World) (hk6:k1≤1000000) :
  Calls Tryz.prog 88 #[.agg #[.int .i64 6,.int .i64 n,.bool h,.string nm,.slice la l1 lc,.slice ka k1 kc]] w fun e w'=>∃v,e=.returned v∧Fresh w' w.heap.size k1 v (.mk 6 0 false ByteArray.empty [] [])∧RowKit.Below w.heap.size w w':=by
 obtain ⟨i0,hi,hz0,hz1,hz2⟩:=info_parts infoTerm
 rcases Nat.eq_zero_or_pos k1 with rfl | hk
 ·go_enter Tryz.func88,Tryz.ntmps88
  go_wp2
  refine bodyPost_ret (v:=.agg #[.int .i64 6,.int .i64 0,.bool false,.string ByteArray.empty,.slice none 0 0,.slice none 0 0]) (by simp [results,Tryz.results88,go_sem];rfl) rfl ⟨_,rfl,Or.inl ⟨rfl,TO.leaf (m:=w.heap.size) (Or.inl ⟨rfl,rfl⟩) (Nat.le_refl _) (by simp;omega)⟩,?_⟩
  exact (((Below.refl w.heap.size w).alloc (Nat.le_refl _) _).alloc (by simp) _).alloc (by simp;omega) _
 ·have hk':(0:Int)<(k1:Int):=by omega
  go_enter Tryz.func88,Tryz.ntmps88
  go_wp2_with (at_make;refine wpList_make_own _ rfl _ _ 34 rfl w.heap.size 36 i0 _ 6 Tryz.underlying34 hi hz0 hz1 .i64 .i64 _ k1 rfl rfl rfl (by rw [hz2];omega) (by simp [maxLen];omega) (by simp;omega) ?_;intro w1 hown hgr;rw [sz3] at hown ⊢;have hbw:=(Below.refl (w.heap.size+1+1+1) _).grown hgr (by rw [sz3];exact Nat.le_refl _) (fun k e=>by cases e);have hz1':=hbw.size;rw [sz3] at hz1';have ho:=(hbw.block (w.heap.size+1+1) (by omega)).trans on2;have hr:=(hbw.block (w.heap.size+1) (by omega)).trans on1;have HB1:=Hid.mk (((((Below.refl w.heap.size w).alloc (Nat.le_refl _) _).alloc (by simp) _).alloc (by simp;omega) _).trans (hbw.mono (by omega)));have HO1:=Hid.mk hown;clear hown hgr hbw;obtain ⟨x0,x1,x2,x3,x4,x5,x6⟩:=cells6 ho;obtain ⟨y0,y1,y2,y3,y4,y5,y6⟩:=cells6 hr;have fo:=frz ho;have fr:=frz hr;clear ho hr)
  have hg1:w.heap.size+1+1+1<w1.heap.size:=(World.ownsRow.lt HO1.out _ rfl).2
  refine bodyPost_ret (v:=.agg #[.int .i64 6,.int .i64 0,.bool false,.string ByteArray.empty,.slice none 0 0,.slice (some ⟨w.heap.size+1+1+1,0,none⟩) 0 k1]) (by simp [results,Tryz.results88,go_sem,y0,y1,y2,y3,y4,y5];rfl) rfl ⟨_,rfl,Or.inr ⟨hk,w.heap.size+1+1+1,by omega,?_,fun N E h1 h2=>room_ro HO1.out ?_ (Or.inl ⟨rfl,rfl⟩) (by omega) h1 h2 hk6⟩,?_⟩
  ·simpa using hg1
  ·simp only [heap_far (show w.heap.size+1+1+1≠w.heap.size+1+1 by omega),heap_far (show w.heap.size+1+1+1≠w.heap.size+1 by omega)]
  ·exact ((((((HB1.out.setCell (p:=⟨w.heap.size+1+1,5,none⟩) (by simp;omega) _).setCell (p:=⟨w.heap.size+1,0,none⟩) (by simp) _).setCell (p:=⟨w.heap.size+1,1,none⟩) (by simp) _).setCell (p:=⟨w.heap.size+1,2,none⟩) (by simp) _).setCell (p:=⟨w.heap.size+1,3,none⟩) (by simp) _).setCell (p:=⟨w.heap.size+1,4,none⟩) (by simp) _).setCell (p:=⟨w.heap.size+1,5,none⟩) (by simp) _
theorem bare7 (n:Int) (h:Bool) (nm:ByteArray) (la ka:Option Addr) (l1 lc k1 kc:Nat) (w:World) (hk6:k1≤1000000) :
  Calls Tryz.prog 88 #[.agg #[.int .i64 7,.int .i64 n,.bool h,.string nm,.slice la l1 lc,.slice ka k1 kc]] w fun e w'=>∃v,e=.returned v∧Fresh w' w.heap.size k1 v (.mk 7 0 false ByteArray.empty [] [])∧RowKit.Below w.heap.size w w':=by
 obtain ⟨i0,hi,hz0,hz1,hz2⟩:=info_parts infoTerm
 rcases Nat.eq_zero_or_pos k1 with rfl | hk
 ·go_enter Tryz.func88,Tryz.ntmps88
  go_wp2
  refine bodyPost_ret (v:=.agg #[.int .i64 7,.int .i64 0,.bool false,.string ByteArray.empty,.slice none 0 0,.slice none 0 0]) (by simp [results,Tryz.results88,go_sem];rfl) rfl ⟨_,rfl,Or.inl ⟨rfl,TO.leaf (m:=w.heap.size) (Or.inl ⟨rfl,rfl⟩) (Nat.le_refl _) (by simp;omega)⟩,?_⟩
  exact (((Below.refl w.heap.size w).alloc (Nat.le_refl _) _).alloc (by simp) _).alloc (by simp;omega) _
 ·have hk':(0:Int)<(k1:Int):=by omega
  go_enter Tryz.func88,Tryz.ntmps88
  go_wp2_with (at_make;refine wpList_make_own _ rfl _ _ 34 rfl w.heap.size 36 i0 _ 6 Tryz.underlying34 hi hz0 hz1 .i64 .i64 _ k1 rfl rfl rfl (by rw [hz2];omega) (by simp [maxLen];omega) (by simp;omega) ?_;intro w1 hown hgr;rw [sz3] at hown ⊢;have hbw:=(Below.refl (w.heap.size+1+1+1) _).grown hgr (by rw [sz3];exact Nat.le_refl _) (fun k e=>by cases e);have hz1':=hbw.size;rw [sz3] at hz1';have ho:=(hbw.block (w.heap.size+1+1) (by omega)).trans on2;have hr:=(hbw.block (w.heap.size+1) (by omega)).trans on1;have HB1:=Hid.mk (((((Below.refl w.heap.size w).alloc (Nat.le_refl _) _).alloc (by simp) _).alloc (by simp;omega) _).trans (hbw.mono (by omega)));have HO1:=Hid.mk hown;clear hown hgr hbw;obtain ⟨x0,x1,x2,x3,x4,x5,x6⟩:=cells6 ho;obtain ⟨y0,y1,y2,y3,y4,y5,y6⟩:=cells6 hr;have fo:=frz ho;have fr:=frz hr;clear ho hr)
  have hg1:w.heap.size+1+1+1<w1.heap.size:=(World.ownsRow.lt HO1.out _ rfl).2
  refine bodyPost_ret (v:=.agg #[.int .i64 7,.int .i64 0,.bool false,.string ByteArray.empty,.slice none 0 0,.slice (some ⟨w.heap.size+1+1+1,0,none⟩) 0 k1]) (by simp [results,Tryz.results88,go_sem,y0,y1,y2,y3,y4,y5];rfl) rfl ⟨_,rfl,Or.inr ⟨hk,w.heap.size+1+1+1,by omega,?_,fun N E h1 h2=>room_ro HO1.out ?_ (Or.inl ⟨rfl,rfl⟩) (by omega) h1 h2 hk6⟩,?_⟩
  ·simpa using hg1
  ·simp only [heap_far (show w.heap.size+1+1+1≠w.heap.size+1+1 by omega),heap_far (show w.heap.size+1+1+1≠w.heap.size+1 by omega)]
  ·exact ((((((HB1.out.setCell (p:=⟨w.heap.size+1+1,5,none⟩) (by simp;omega) _).setCell (p:=⟨w.heap.size+1,0,none⟩) (by simp) _).setCell (p:=⟨w.heap.size+1,1,none⟩) (by simp) _).setCell (p:=⟨w.heap.size+1,2,none⟩) (by simp) _).setCell (p:=⟨w.heap.size+1,3,none⟩) (by simp) _).setCell (p:=⟨w.heap.size+1,4,none⟩) (by simp) _).setCell (p:=⟨w.heap.size+1,5,none⟩) (by simp) _
theorem bare8 (n:Int) (h:Bool) (nm:ByteArray) (la ka:Option Addr) (l1 lc k1 kc:Nat) (w:World) (hk6:k1≤1000000) :
  Calls Tryz.prog 88 #[.agg #[.int .i64 8,.int .i64 n,.bool h,.string nm,.slice la l1 lc,.slice ka k1 kc]] w fun e w'=>∃v,e=.returned v∧Fresh w' w.heap.size k1 v (.mk 8 0 false ByteArray.empty [] [])∧RowKit.Below w.heap.size w w':=by
 obtain ⟨i0,hi,hz0,hz1,hz2⟩:=info_parts infoTerm
 rcases Nat.eq_zero_or_pos k1 with rfl | hk
 ·go_enter Tryz.func88,Tryz.ntmps88
  go_wp2
  refine bodyPost_ret (v:=.agg #[.int .i64 8,.int .i64 0,.bool false,.string ByteArray.empty,.slice none 0 0,.slice none 0 0]) (by simp [results,Tryz.results88,go_sem];rfl) rfl ⟨_,rfl,Or.inl ⟨rfl,TO.leaf (m:=w.heap.size) (Or.inl ⟨rfl,rfl⟩) (Nat.le_refl _) (by simp;omega)⟩,?_⟩
  exact (((Below.refl w.heap.size w).alloc (Nat.le_refl _) _).alloc (by simp) _).alloc (by simp;omega) _
 ·have hk':(0:Int)<(k1:Int):=by omega
  go_enter Tryz.func88,Tryz.ntmps88
  go_wp2_with (at_make;refine wpList_make_own _ rfl _ _ 34 rfl w.heap.size 36 i0 _ 6 Tryz.underlying34 hi hz0 hz1 .i64 .i64 _ k1 rfl rfl rfl (by rw [hz2];omega) (by simp [maxLen];omega) (by simp;omega) ?_;intro w1 hown hgr;rw [sz3] at hown ⊢;have hbw:=(Below.refl (w.heap.size+1+1+1) _).grown hgr (by rw [sz3];exact Nat.le_refl _) (fun k e=>by cases e);have hz1':=hbw.size;rw [sz3] at hz1';have ho:=(hbw.block (w.heap.size+1+1) (by omega)).trans on2;have hr:=(hbw.block (w.heap.size+1) (by omega)).trans on1;have HB1:=Hid.mk (((((Below.refl w.heap.size w).alloc (Nat.le_refl _) _).alloc (by simp) _).alloc (by simp;omega) _).trans (hbw.mono (by omega)));have HO1:=Hid.mk hown;clear hown hgr hbw;obtain ⟨x0,x1,x2,x3,x4,x5,x6⟩:=cells6 ho;obtain ⟨y0,y1,y2,y3,y4,y5,y6⟩:=cells6 hr;have fo:=frz ho;have fr:=frz hr;clear ho hr)
  have hg1:w.heap.size+1+1+1<w1.heap.size:=(World.ownsRow.lt HO1.out _ rfl).2
  refine bodyPost_ret (v:=.agg #[.int .i64 8,.int .i64 0,.bool false,.string ByteArray.empty,.slice none 0 0,.slice (some ⟨w.heap.size+1+1+1,0,none⟩) 0 k1]) (by simp [results,Tryz.results88,go_sem,y0,y1,y2,y3,y4,y5];rfl) rfl ⟨_,rfl,Or.inr ⟨hk,w.heap.size+1+1+1,by omega,?_,fun N E h1 h2=>room_ro HO1.out ?_ (Or.inl ⟨rfl,rfl⟩) (by omega) h1 h2 hk6⟩,?_⟩
  ·simpa using hg1
  ·simp only [heap_far (show w.heap.size+1+1+1≠w.heap.size+1+1 by omega),heap_far (show w.heap.size+1+1+1≠w.heap.size+1 by omega)]
  ·exact ((((((HB1.out.setCell (p:=⟨w.heap.size+1+1,5,none⟩) (by simp;omega) _).setCell (p:=⟨w.heap.size+1,0,none⟩) (by simp) _).setCell (p:=⟨w.heap.size+1,1,none⟩) (by simp) _).setCell (p:=⟨w.heap.size+1,2,none⟩) (by simp) _).setCell (p:=⟨w.heap.size+1,3,none⟩) (by simp) _).setCell (p:=⟨w.heap.size+1,4,none⟩) (by simp) _).setCell (p:=⟨w.heap.size+1,5,none⟩) (by simp) _
theorem bare9 (n:Int) (h:Bool) (nm:ByteArray) (la ka:Option Addr) (l1 lc k1 kc:Nat) (w:World) (hk6:k1≤1000000) :
  Calls Tryz.prog 88 #[.agg #[.int .i64 9,.int .i64 n,.bool h,.string nm,.slice la l1 lc,.slice ka k1 kc]] w fun e w'=>∃v,e=.returned v∧Fresh w' w.heap.size k1 v (.mk 9 0 false ByteArray.empty [] [])∧RowKit.Below w.heap.size w w':=by
 obtain ⟨i0,hi,hz0,hz1,hz2⟩:=info_parts infoTerm
 rcases Nat.eq_zero_or_pos k1 with rfl | hk
 ·go_enter Tryz.func88,Tryz.ntmps88
  go_wp2
  refine bodyPost_ret (v:=.agg #[.int .i64 9,.int .i64 0,.bool false,.string ByteArray.empty,.slice none 0 0,.slice none 0 0]) (by simp [results,Tryz.results88,go_sem];rfl) rfl ⟨_,rfl,Or.inl ⟨rfl,TO.leaf (m:=w.heap.size) (Or.inl ⟨rfl,rfl⟩) (Nat.le_refl _) (by simp;omega)⟩,?_⟩
  exact (((Below.refl w.heap.size w).alloc (Nat.le_refl _) _).alloc (by simp) _).alloc (by simp;omega) _
 ·have hk':(0:Int)<(k1:Int):=by omega
  go_enter Tryz.func88,Tryz.ntmps88
  go_wp2_with (at_make;refine wpList_make_own _ rfl _ _ 34 rfl w.heap.size 36 i0 _ 6 Tryz.underlying34 hi hz0 hz1 .i64 .i64 _ k1 rfl rfl rfl (by rw [hz2];omega) (by simp [maxLen];omega) (by simp;omega) ?_;intro w1 hown hgr;rw [sz3] at hown ⊢;have hbw:=(Below.refl (w.heap.size+1+1+1) _).grown hgr (by rw [sz3];exact Nat.le_refl _) (fun k e=>by cases e);have hz1':=hbw.size;rw [sz3] at hz1';have ho:=(hbw.block (w.heap.size+1+1) (by omega)).trans on2;have hr:=(hbw.block (w.heap.size+1) (by omega)).trans on1;have HB1:=Hid.mk (((((Below.refl w.heap.size w).alloc (Nat.le_refl _) _).alloc (by simp) _).alloc (by simp;omega) _).trans (hbw.mono (by omega)));have HO1:=Hid.mk hown;clear hown hgr hbw;obtain ⟨x0,x1,x2,x3,x4,x5,x6⟩:=cells6 ho;obtain ⟨y0,y1,y2,y3,y4,y5,y6⟩:=cells6 hr;have fo:=frz ho;have fr:=frz hr;clear ho hr)
  have hg1:w.heap.size+1+1+1<w1.heap.size:=(World.ownsRow.lt HO1.out _ rfl).2
  refine bodyPost_ret (v:=.agg #[.int .i64 9,.int .i64 0,.bool false,.string ByteArray.empty,.slice none 0 0,.slice (some ⟨w.heap.size+1+1+1,0,none⟩) 0 k1]) (by simp [results,Tryz.results88,go_sem,y0,y1,y2,y3,y4,y5];rfl) rfl ⟨_,rfl,Or.inr ⟨hk,w.heap.size+1+1+1,by omega,?_,fun N E h1 h2=>room_ro HO1.out ?_ (Or.inl ⟨rfl,rfl⟩) (by omega) h1 h2 hk6⟩,?_⟩
  ·simpa using hg1
  ·simp only [heap_far (show w.heap.size+1+1+1≠w.heap.size+1+1 by omega),heap_far (show w.heap.size+1+1+1≠w.heap.size+1 by omega)]
  ·exact ((((((HB1.out.setCell (p:=⟨w.heap.size+1+1,5,none⟩) (by simp;omega) _).setCell (p:=⟨w.heap.size+1,0,none⟩) (by simp) _).setCell (p:=⟨w.heap.size+1,1,none⟩) (by simp) _).setCell (p:=⟨w.heap.size+1,2,none⟩) (by simp) _).setCell (p:=⟨w.heap.size+1,3,none⟩) (by simp) _).setCell (p:=⟨w.heap.size+1,4,none⟩) (by simp) _).setCell (p:=⟨w.heap.size+1,5,none⟩) (by simp) _
theorem bareO (f:Int) (n:Int) (h:Bool) (nm:ByteArray) (la ka:Option Addr) (l1 lc k1 kc:Nat) (w:World) (hk6:k1≤1000000) (e1:(f==1)=false) (e2:(f==2)=false) (e3:(f==3)=false) (e4:(f==4)=false) (e5:(f==5)=false) (e10:(f==10)=false) (e11:(f==11)=false) :
  Calls Tryz.prog 88 #[.agg #[.int .i64 f,.int .i64 n,.bool h,.string nm,.slice la l1 lc,.slice ka k1 kc]] w fun e w'=>∃v,e=.returned v∧Fresh w' w.heap.size k1 v (.mk f 0 false ByteArray.empty [] [])∧RowKit.Below w.heap.size w w':=by
 obtain ⟨i0,hi,hz0,hz1,hz2⟩:=info_parts infoTerm
 rcases Nat.eq_zero_or_pos k1 with rfl | hk
 ·go_enter Tryz.func88,Tryz.ntmps88
  go_wp2
  refine bodyPost_ret (v:=.agg #[.int .i64 f,.int .i64 0,.bool false,.string ByteArray.empty,.slice none 0 0,.slice none 0 0]) (by simp [results,Tryz.results88,go_sem];rfl) rfl ⟨_,rfl,Or.inl ⟨rfl,TO.leaf (m:=w.heap.size) (Or.inl ⟨rfl,rfl⟩) (Nat.le_refl _) (by simp;omega)⟩,?_⟩
  exact (((Below.refl w.heap.size w).alloc (Nat.le_refl _) _).alloc (by simp) _).alloc (by simp;omega) _
 ·have hk':(0:Int)<(k1:Int):=by omega
  go_enter Tryz.func88,Tryz.ntmps88
  go_wp2_with (at_make;refine wpList_make_own _ rfl _ _ 34 rfl w.heap.size 36 i0 _ 6 Tryz.underlying34 hi hz0 hz1 .i64 .i64 _ k1 rfl rfl rfl (by rw [hz2];omega) (by simp [maxLen];omega) (by simp;omega) ?_;intro w1 hown hgr;rw [sz3] at hown ⊢;have hbw:=(Below.refl (w.heap.size+1+1+1) _).grown hgr (by rw [sz3];exact Nat.le_refl _) (fun k e=>by cases e);have hz1':=hbw.size;rw [sz3] at hz1';have ho:=(hbw.block (w.heap.size+1+1) (by omega)).trans on2;have hr:=(hbw.block (w.heap.size+1) (by omega)).trans on1;have HB1:=Hid.mk (((((Below.refl w.heap.size w).alloc (Nat.le_refl _) _).alloc (by simp) _).alloc (by simp;omega) _).trans (hbw.mono (by omega)));have HO1:=Hid.mk hown;clear hown hgr hbw;obtain ⟨x0,x1,x2,x3,x4,x5,x6⟩:=cells6 ho;obtain ⟨y0,y1,y2,y3,y4,y5,y6⟩:=cells6 hr;have fo:=frz ho;have fr:=frz hr;clear ho hr)
  have hg1:w.heap.size+1+1+1<w1.heap.size:=(World.ownsRow.lt HO1.out _ rfl).2
  refine bodyPost_ret (v:=.agg #[.int .i64 f,.int .i64 0,.bool false,.string ByteArray.empty,.slice none 0 0,.slice (some ⟨w.heap.size+1+1+1,0,none⟩) 0 k1]) (by simp [results,Tryz.results88,go_sem,y0,y1,y2,y3,y4,y5];rfl) rfl ⟨_,rfl,Or.inr ⟨hk,w.heap.size+1+1+1,by omega,?_,fun N E h1 h2=>room_ro HO1.out ?_ (Or.inl ⟨rfl,rfl⟩) (by omega) h1 h2 hk6⟩,?_⟩
  ·simpa using hg1
  ·simp only [heap_far (show w.heap.size+1+1+1≠w.heap.size+1+1 by omega),heap_far (show w.heap.size+1+1+1≠w.heap.size+1 by omega)]
  ·exact ((((((HB1.out.setCell (p:=⟨w.heap.size+1+1,5,none⟩) (by simp;omega) _).setCell (p:=⟨w.heap.size+1,0,none⟩) (by simp) _).setCell (p:=⟨w.heap.size+1,1,none⟩) (by simp) _).setCell (p:=⟨w.heap.size+1,2,none⟩) (by simp) _).setCell (p:=⟨w.heap.size+1,3,none⟩) (by simp) _).setCell (p:=⟨w.heap.size+1,4,none⟩) (by simp) _).setCell (p:=⟨w.heap.size+1,5,none⟩) (by simp) _
end Go.Proofs.YtgfgpjcnfnopnaaGreat
