/- The contracts of maps.Clone and slices.Clone as Copy uses them, and of Copy. -/
import Derived.Shelf.SlMaps.Clone
import Derived.Test.YtgfgpjcnfnopnaaGreatQYG
namespace Go.Proofs.YtgfgpjcnfnopnaaGreat
set_option maxRecDepth 100000
set_option maxHeartbeats 40000000
open Go.RowKit Go.Sort Go.Lib
theorem Tb.cloned {w:World}{b n:Nat}{es:Array MapEntry}{ck:Nat}{M:ByteArray→Option (Int×Int)}(h:Tb w (Option.some b) n M) (hb:w.heap[b]?=Option.some (.map es ck)):Tb (w.alloc (.map es ck)) (Option.some w.heap.size) n M:=by
 rcases h.go with ⟨h,-⟩ | ⟨b',D',h1,⟨es',ck',h2,h3⟩,h4⟩
 ·cases h
 ·cases h1
  rw [hb] at h2
  cases h2
  exact ⟨Or.inr ⟨_,D',rfl,⟨es,ck,alloc_new _ _,h3⟩,h4⟩⟩
theorem mclone_any (mv:Option Nat) (n:Nat) (M:ByteArray→Option (Int×Int)) (w:World) (hT:Tb w mv n M):Calls Tryz.prog 46 #[.map mv] w fun e w'=>∃mv',e=.returned (.map mv')∧Tb w' mv' n M∧(∀b,mv'=some b→w.heap.size≤b)∧RowKit.Below w.heap.size w w':=by
 have hq:=map_nil mv
 cases mv with
 | none =>
  have HT:=Hid.mk hT
  clear hT
  go_enter Tryz.func46,Tryz.ntmps46
  go_wp2
  go_ret
  exact ⟨none,rfl,HT.out,fun b h=>(by cases h),Below.refl _ _⟩
 | some b =>
  obtain ⟨es,ck,hb⟩:∃es ck,w.heap[b]?=some (.map es ck):=by
   rcases hT.go with ⟨h,-⟩ | ⟨b',D',h1,⟨es,ck,h2,-⟩,-⟩
   ·cases h
   ·cases h1;exact ⟨es,ck,h2⟩
  have HT:=Hid.mk (hT.cloned hb)
  clear hT
  go_enter Tryz.func46,Tryz.ntmps46
  go_wp2
  rw [run_callFunc_extern Tryz.func61 (by kernel_rfl) (by kernel_rfl) (by kernel_rfl) (e:=Extern.MapsClone.clone) (by kernel_rfl),run_maps_clone_sl w 54 hb]
  simp only [Result.andThen]
  rw [Oper.upon_value]
  go_wp2
  rw [run_typeAssert_map_sl _ 54 _ _ _ _ Tryz.underlying54]
  simp only [Result.andThen]
  rw [Oper.upon_value]
  go_wp2
  go_ret
  exact ⟨some w.heap.size,rfl,HT.out,fun b' h=>(by cases h;exact Nat.le_refl _),(Below.refl _ _).alloc (Nat.le_refl _) _⟩
theorem tcopied_any (sb so n:Nat) (mv:Option Nat) (M:ByteArray→Option (Int×Int)) (w:World) (hc:w.cell? ⟨sb,so,none⟩=some (.map mv)) (hT:Tb w mv n M):Calls Tryz.prog 25 #[.pointer (some ⟨sb,so,none⟩)] w fun e w'=>∃mv',e=.returned (.agg #[.map mv'])∧Tb w' mv' n M∧(∀b,mv'=some b→w.heap.size≤b)∧RowKit.Below w.heap.size w w':=by
 have hsb:sb<w.heap.size:=World.block_lt_of_cell? w _ hc
 obtain ⟨W0,hW0⟩:∃W0,w.alloc (.cells #[.map none] 56)=W0:=⟨_,rfl⟩
 have hb0:RowKit.Below w.heap.size w W0:=by rw [←hW0];exact (Below.refl _ _).alloc (Nat.le_refl _) _
 have hR0:W0.heap[w.heap.size]?=some (.cells #[.map none] 56 (0,0)):=by rw [←hW0];exact alloc_new _ _
 have hs0:=heap_lt hR0
 have HC:=mclone_any mv n M W0 (hT.keep fun b hb=>hb0.block b (by subst hb;exact hT.lt))
 have hc0:W0.cell? ⟨sb,so,none⟩=some (.map mv):=(hb0.cell (p:=⟨sb,so,none⟩) hsb).trans hc
 have HW0:=Hid.mk hW0
 have HB0:=Hid.mk hb0
 have HR0:=Hid.mk hR0
 clear hb0 hW0 hR0 hT hc
 go_enter Tryz.func25,Tryz.ntmps25
 go_wp2_with (rw [HW0.out])
 refine HC.mono ?_
 rintro e w1 ⟨mv',rfl,hT1,hm1,hb1⟩
 have hR1:w1.heap[w.heap.size]?=some (.cells #[.map none] 56 (0,0)):=(hb1.block _ hs0).trans HR0.out
 have r0:w1.cell? ⟨w.heap.size,0,none⟩=some (.map none):=by rw [cell_of_row w1 _ 0 _ _ _ hR1];rfl
 have rz:∀o,w1.frozen? ⟨w.heap.size,o,none⟩=false:=fun o=>by simp [World.frozen?,hR1]
 have HT1:=Hid.mk hT1
 have HM1:=Hid.mk hm1
 have HB1:Hid (RowKit.Below w.heap.size w w1):=HB0.out.trans (hb1.mono (by omega))
 clear hT1 hm1 hb1 hR1 HC
 go_wp2
 refine bodyPost_ret (v:=.agg #[.map mv']) (by simp [results,Tryz.results25,go_sem,r0]) rfl ⟨mv',rfl,HT1.out.keep (fun b hb=>Below.heap_setCell _ _ _ _ (by have:=HM1.out b hb;simp only;omega)),fun b hb=>by have:=HM1.out b hb;omega,?_⟩
 exact HB1.out.setCell (p:=⟨w.heap.size,0,none⟩) (Nat.le_refl _) _
theorem slice_nil (a:Option Addr) (n c:Nat) (w:World):Sem.run Tryz.prog (binOp .eql 22 (.slice a n c) (.slice none 0 0)) w=.ok (.bool a.isNone) w:=by
 cases a with
 | none=>kernel_rfl
 | some b=>kernel_rfl
theorem flat17 {m:Nat}:∀(xss:List (List Value)),(∀xs∈xss,xs.length=m)→xss.flatten.length=xss.length*m
 | [],_=>by simp
 | xs::xss,h=>by
  rw [List.flatten_cons,List.length_append,h xs (List.mem_cons_self ..),flat17 xss fun x hx=>h x (List.mem_cons_of_mem _ hx),List.length_cons,Nat.succ_mul]
  omega
def EDb (N:Nat) (w:World) (P:Nat→Bool) (xs:List Value) (d:Dl):Prop:=ED w (fun k=>P k||decide (N≤k)) xs d
theorem EDb.moves (N:Nat):Moves (EDb N):=fun w w' P Q xs d h hs hk=>ED.moves w w' (fun k=>P k||decide (N≤k)) (fun k=>Q k||decide (N≤k)) xs d h hs fun k h1 h2=>by
 rw [Bool.or_eq_false_iff] at h2
 obtain ⟨h3,h4⟩:=hk k h1 h2.1
 exact ⟨by rw [h3,h2.2];rfl,h4⟩
theorem RowX.boxed {w:World}{N B cap cb:Nat}{P:Nat→Bool}{a:Option Addr}{ds:List Dl}(h:RowX 39 17 (EDb N) w B P a cap ds) (hc:N≤cb):RowX 39 17 (EDx cb) w B P a cap ds:=by
 obtain ⟨xss,h1,h2,h3,h4⟩:=h.go
 refine ⟨xss,h1,h2,h3,fun j t xs hj hx=>ED.moves _ _ _ _ _ _ (h4 j t xs hj hx) (Nat.le_refl _) fun k _ hp=>⟨?_,rfl⟩⟩
 rw [Bool.or_eq_false_iff] at hp ⊢
 refine ⟨hp.1,?_⟩
 have:=hp.2
 simp only [decide_eq_false_iff_not,Nat.not_le] at this
 simp
 omega
theorem cloneD_any {B sb:Nat}(ds:List Dl) (a:Option Addr) (cap:Nat) (w:World) (hr:RowX 39 17 (EDx sb) w B (fun _=>false) a cap ds) (hn:ds=[]→a=none∧cap=0) (hl:ds.length≤500):Calls Tryz.prog 24 #[.slice a ds.length cap] w fun e w'=>∃(a':Option Addr) (cap':Nat),e=.returned (.slice a' ds.length cap')∧(ds=[]→a'=none∧cap'=0)∧RowX 39 17 (EDb w.heap.size) w' w.heap.size (fun _=>false) a' cap' ds∧RowKit.Below w.heap.size w w':=by
 have hq:=slice_nil
 by_cases h0:ds=[]
 ·obtain ⟨rfl,rfl⟩:=hn h0
  subst h0
  clear hr hn
  go_enter Tryz.func24,Tryz.ntmps24
  go_wp2
  go_ret
  exact ⟨none,0,rfl,fun _=>⟨rfl,rfl⟩,RowX.nil _ _ _ _ _ _,Below.refl _ _⟩
 ·have hpos:0<ds.length:=by
   cases ds with
   | nil=>exact absurd rfl h0
   | cons d ds=>simp
  obtain ⟨xss,hx1,hx2,hown,hkv⟩:=hr.go
  obtain ⟨g,hag,hgl⟩:∃g,a=some ⟨g,0,none⟩∧g<w.heap.size:=by
   rcases hown.2 with ⟨hv,hz⟩ | ⟨g,cap',cur,hv,hg,hh,-⟩
   ·omega
   ·simp only [Value.slice.injEq] at hv
    exact ⟨g,hv.1,heap_lt hh⟩
  subst hag
  obtain ⟨W1,hW1⟩:∃W1,w.alloc (.cells #[] 39)=W1:=⟨_,rfl⟩
  have hb1:RowKit.Below w.heap.size w W1:=by rw [←hW1];exact (Below.refl _ _).alloc (Nat.le_refl _) _
  have hE1:W1.heap[w.heap.size]?=some (.cells #[] 39 (0,0)):=by rw [←hW1];exact alloc_new _ _
  have hs1:=heap_lt hE1
  have HO1:Hid (W1.ownsRow w.heap.size 39 17 (.slice (some ⟨w.heap.size,0,none⟩) 0 0) 0 []):=⟨rfl,Or.inr ⟨_,0,#[],rfl,Nat.le_refl _,hE1,Nat.le_refl _,Nat.zero_le _,rfl,rfl⟩⟩
  have HFL:Hid (xss.flatten.length=ds.length*17):=by unfold Hid;rw [flat17 xss hx2,hx1]
  have HNW:Hid (∀(j:Nat) (u:Value),xss.flatten[j]?=some u→W1.cell? ((⟨g,0,none⟩:Addr).add j)=some u):=fun j u hj=>by
   have hjl:j<ds.length*17:=by have:=(List.getElem?_eq_some_iff.1 hj).1;rw [HFL.out] at this;exact this
   have h1:=(World.ownsRow.cellAt hown j hjl).trans hj
   have h2:((⟨g,0,none⟩:Addr).add j)=⟨g,j,none⟩:=by
    rw [Addr.add_mid,Nat.zero_add]
   rw [h2]
   exact (hb1.cell (p:=⟨g,j,none⟩) hgl).trans h1
  have HON:Hid (∀u∈xss.flatten,u.oneCell'=true):=fun u hu=>by
   obtain ⟨xs,hxs,hux⟩:=List.mem_flatten.1 hu
   obtain ⟨j,hj,hje⟩:=List.getElem_of_mem hxs
   have hjd:j<ds.length:=by omega
   exact (hkv j ds[j] xs (List.getElem?_eq_getElem hjd) (by rw [List.getElem?_eq_getElem hj,hje])).cell u hux
  have HKV:Hid (∀(j:Nat) t xs,ds[j]?=some t→xss[j]?=some xs→ED w (fun k=>decide (w.heap.size≤k)) xs t):=fun j t xs hj hx=>ED.moves _ _ _ _ _ _ (hkv j t xs hj hx) (Nat.le_refl _) fun k hk _=>⟨by simp;omega,rfl⟩
  have HX1:=Hid.mk hx1
  have HX2:=Hid.mk hx2
  have HW1:=Hid.mk hW1
  have HB1:=Hid.mk hb1
  have hI:=infoD2
  cases hi:Tryz.prog.info? 39 with
  | none=>rw [hi] at hI;simp at hI
  | some i0 =>
   rw [hi] at hI
   simp only [Option.map_some,Option.some.injEq,Prod.mk.injEq,Option.map_eq_some_iff] at hI
   obtain ⟨⟨z,hz,hzc⟩,hz1,hz2⟩:=hI
   have HI:=Hid.mk hi
   have HZ:=Hid.mk hz
   have HZ1:=Hid.mk hz1
   have HZ2:=Hid.mk hz2
   have HZC:=Hid.mk hzc
   have HND:=Hid.mk h0
   clear hr hn h0 hown hkv hx1 hx2 hb1 hE1 hW1 hi hz hz1 hz2 hzc
   go_enter Tryz.func24,Tryz.ntmps24
   go_wp2_with (first | (rw [HW1.out]) | (at_builtin;refine wpList_append_lies _ rfl _ _ 22 rfl w.heap.size 39 i0 z 17 240 Tryz.underlying22 HI.out HZ.out HZ1.out HZ2.out HZC.out (by decide) (.slice (some ⟨w.heap.size,0,none⟩) 0 0) 0 [] rfl HO1.out ⟨g,0,none⟩ ds.length cap xss.flatten rfl HFL.out HNW.out HON.out hpos (by simp [maxLen];omega) (by omega) (by omega) _ rfl ?_;intro g7 c7 W7 hown7 hgr7 hat7 hlt7;have HOWN7:=Hid.mk hown7;have HGR7:=Hid.mk hgr7;have HAT7:=Hid.mk hat7;clear hown7 hgr7 hat7))
   go_ret
   have hB7:RowKit.Below w.heap.size w W7:=HB1.out.trans (((Below.refl w.heap.size W1)).grown HGR7.out (by omega) (fun k e=>(World.ownsRow.lt HO1.out k e).1))
   refine ⟨some ⟨g7,0,none⟩,c7,by simp,fun h=>absurd h HND.out,⟨xss,HX1.out,HX2.out,by simpa using HOWN7.out,fun j t xs hj hx=>?_⟩,hB7⟩
   refine ED.moves _ _ _ _ _ _ (HKV.out j t xs hj hx) hB7.size fun k hk hp=>⟨?_,hB7.block k hk⟩
   have hg:w.heap.size≤g7:=by
    rcases HAT7.out with h | h
    ·simp only [Value.ownBlock,Option.some.injEq] at h;omega
    ·omega
   simp [ownB]
   omega
theorem SCopy_any {B:Nat}(ds:List Dl) (sb:Nat) (w:World) (hS:SGG w B sb ds):Calls Tryz.prog 10 #[.pointer (some ⟨sb,0,none⟩)] w fun e w'=>∃cb,e=.returned (.pointer (some ⟨cb,0,none⟩))∧SGG w' w.heap.size cb ds∧RowKit.Below w.heap.size w w':=by
 have mx:=mixed
 have hlen:=hS.len
 have HOW:=Hid.mk hS.own
 have hnl:=hS.nil
 obtain ⟨sa,scap,smv,hsg,hrow,hT,hmv,-⟩:=hS.go
 obtain ⟨s0,s1,slt,sfz⟩:=hsg.all
 have hnn:ds=[]→sa=none∧scap=0:=fun e=>by
  have h:=(hnl e).symm.trans s0
  simp only [Option.some.injEq,Value.slice.injEq] at h
  exact ⟨h.1.symm,h.2.2.symm⟩
 have HC0:=orEmpty_any sb w
 have HC1:=cloneD_any ds sa scap w.drew (hrow.move (EDx.moves sb) (fun _ _=>rfl) (Nat.le_refl _) fun _ _ _=>rfl) hnn hlen
 have HG:Hid (∀W,RowKit.Below w.heap.size w W→W.cell? ⟨sb,0,none⟩=some (.slice sa ds.length scap)∧W.cell? ⟨sb,1,none⟩=some (.map smv)):=fun W h=>⟨(h.cell (p:=⟨sb,0,none⟩) slt).trans s0,(h.cell (p:=⟨sb,1,none⟩) slt).trans s1⟩
 have HT:=Hid.mk hT
 clear hS hsg hrow hT hmv hnl hnn s0 s1 sfz
 go_enter Tryz.func10,Tryz.ntmps10
 go_wp2_with fail
 refine HC0.mono ?_
 rintro e w9 ⟨rfl,hw9⟩
 have hw9':=hw9.symm
 subst hw9'
 clear hw9 HC0
 go_wp2_with fail
 refine wp_region_late (S:=fun w'=>w'.cell? ⟨sb,0,none⟩=some (.slice sa ds.length scap)∧w'.cell? ⟨sb,1,none⟩=some (.map smv)) (fun _=>false) mx ?_ (fun hHeld=>?_)
 ·(try dsimp only)
  exact HG.out _ (Below.refl _ _).drew
 refine tkE (i:=0) (v:=.pointer (some ⟨sb,0,none⟩)) (d:=some 5) rfl (hy:=(Or.inl ⟨by kernel_rfl,fun _ _=>by kernel_rfl⟩)) (h:=?_)
 refine tkE (i:=1) (v:=.pointer (some ⟨sb,0,none⟩)) (d:=some 6) rfl (hy:=(Or.inl ⟨by kernel_rfl,fun w hSw=>by go_simp⟩)) (h:=?_)
 refine tkE (i:=2) (v:=.pointer (some ⟨sb,0,none⟩)) (d:=some 7) rfl (hy:=(Or.inl ⟨by kernel_rfl,fun w hSw=>by go_simp⟩)) (h:=?_)
 refine tkE (i:=3) (v:=.slice sa ds.length scap) (d:=some 8) rfl (hy:=(Or.inl ⟨by kernel_rfl,fun w hSw=>by go_simp⟩)) (h:=?_)
 refine tkE (i:=5) (v:=.pointer (some ⟨sb,0,none⟩)) (d:=some 10) rfl (hy:=(Or.inl ⟨by kernel_rfl,fun _ _=>by kernel_rfl⟩)) (h:=?_)
 refine tkE (i:=6) (v:=.pointer (some ⟨sb,0,none⟩)) (d:=some 11) rfl (hy:=(Or.inl ⟨by kernel_rfl,fun w hSw=>by go_simp⟩)) (h:=?_)
 refine tkE (i:=7) (v:=.pointer (some ⟨sb,1,none⟩)) (d:=some 12) rfl (hy:=(Or.inl ⟨by kernel_rfl,fun w hSw=>by go_simp⟩)) (h:=?_)
 refine nx1 (i:=4) (h:=?_)
 refine ⟨_,rfl,fun K hK=>?_⟩
 go_simp
 go_at_call 24
 refine HC1.mono ?_
 rintro e w1 ⟨a',cap',rfl,hn1,hrow1,hb1⟩
 have HB1:Hid (RowKit.Below w.heap.size w w1):=(Below.refl _ w).drew.trans hb1
 have HROW1:Hid (RowX 39 17 (EDb w.heap.size) w1 w.heap.size (fun _=>false) a' cap' ds):=hrow1
 have HN1:=Hid.mk hn1
 have hs1:=HB1.out.size
 have HT1:Hid (Tb w1 smv (100*ds.length) (tabM ds)):=HT.out.keep fun b hb=>HB1.out.block b (by subst hb;exact HT.out.lt)
 have HC2:=tcopied_any sb 1 (100*ds.length) smv (tabM ds) w1 (HG.out _ HB1.out).2 HT1.out
 clear hn1 hrow1 hb1 HC1
 refine hK.out _ _ (fun _=>?_) (fun hHeld=>?_)
 ·(try dsimp only)
  exact HG.out _ HB1.out
 replace hHeld:=hHeld rfl
 clear hK K
 refine nx1 (i:=8) (h:=?_)
 refine ⟨_,rfl,fun K hK=>?_⟩
 go_simp
 go_at_call 25
 refine HC2.mono ?_
 rintro e w2 ⟨mv',rfl,hT2,hm2,hb2⟩
 have HB2:Hid (RowKit.Below w.heap.size w w2):=HB1.out.trans (hb2.mono hs1)
 have HROW2:Hid (RowX 39 17 (EDb w.heap.size) w2 w.heap.size (fun _=>false) a' cap' ds):=HROW1.out.move (EDb.moves _) (fun _ _=>rfl) hb2.size fun k hk _=>hb2.block k hk
 have HT2:=Hid.mk hT2
 have HM2:=Hid.mk hm2
 have hs2:=hb2.size
 clear hT2 hm2 hb2 HC2
 refine hK.out _ _ (fun _=>?_) (fun hHeld=>?_)
 ·(try dsimp only)
  exact HG.out _ HB2.out
 replace hHeld:=hHeld rfl
 clear hK K
 refine tkE (i:=9) (v:=.agg #[.slice a' ds.length cap',.map mv']) (d:=some 14) rfl (hy:=(Or.inl ⟨by kernel_rfl,fun w hSw=>by go_simp⟩)) (h:=?_)
 refine nx1 (i:=10) (h:=?_)
 refine ⟨_,rfl,fun K hK=>?_⟩
 go_simp
 obtain ⟨W3,hW3⟩:∃W3,w2.alloc (.cells #[.slice a' ds.length cap',.map mv'] 58)=W3:=⟨_,rfl⟩
 have hb3:RowKit.Below w2.heap.size w2 W3:=by rw [←hW3];exact (Below.refl _ _).alloc (Nat.le_refl _) _
 have hX3:W3.heap[w2.heap.size]?=some (.cells #[.slice a' ds.length cap',.map mv'] 58 (0,0)):=by rw [←hW3];exact alloc_new _ _
 have HB3:Hid (RowKit.Below w.heap.size w W3):=HB2.out.trans (hb3.mono (by omega))
 have HSG3:Hid (SGG W3 w.heap.size w2.heap.size ds):=by
  obtain ⟨c0,c1,clt,cfz⟩:=cells2f hX3
  refine ⟨⟨a',cap',mv',⟨c0,c1,cfz⟩,(HROW2.out.move (EDb.moves _) (fun _ _=>rfl) hb3.size fun k hk _=>hb3.block k hk).boxed (by omega),HT2.out.keep fun b hb=>hb3.block b (by subst hb;exact HT2.out.lt),fun b hb=>?_,?_⟩,by omega,hlen,HOW.out,fun e=>?_⟩
  ·have h1:=HM2.out b hb
   subst hb
   have h2:=HT2.out.lt
   exact ⟨by omega,by omega⟩
  ·cases ho:ownB a' w2.heap.size
   ·rfl
   ·obtain ⟨ys,-,-,hown0,-⟩:=HROW2.out.go
    have:=(ownsX_lt hown0 ho).2
    omega
  ·obtain ⟨h1,h2⟩:=HN1.out e
   rw [c0,h1,h2,e]
   rfl
 rw [hW3]
 clear hW3 hb3 hX3
 refine hK.out _ _ (fun _=>?_) (fun hHeld=>?_)
 ·(try dsimp only)
  exact HG.out _ HB3.out
 clear hK K
 refine nx1 (i:=11) (h:=?_)
 refine ⟨_,rfl,fun K hK=>?_⟩
 go_simp
 refine hK.out _ _ (fun _=>?_) (fun hHeld=>?_)
 ·(try dsimp only)
  exact HG.out _ HB3.out
 clear hK K
 refine wpAnyM_done (by kernel_rfl) ?_ _
 go_wp2
 go_ret
 exact ⟨w2.heap.size,rfl,HSG3.out,HB3.out⟩
theorem cf_told (xs:Array Value) (w:World):Sem.run Tryz.prog (callFunc 27 xs) w=.ok (.enter 27 xs) w:=by simp [callFunc,go_sem,Tryz.func27];rfl
def EDW (w:World) (P:Nat→Bool) (xs:List Value) (d:Dl):Prop:=ED w P xs d∧FrC w P xs
theorem EDW.moves:Moves EDW:=fun _ _ _ _ _ _ h hs hk=>⟨ED.moves _ _ _ _ _ _ h.1 hs hk,h.2.moves hk⟩
theorem toldW_any {B:Nat}(ds:List Dl) (sb k:Nat) (d:Dl) (w:World) (hS:SGG w B sb ds) (hk:ds[k]?=some d):Calls Tryz.prog 27 #[.pointer (some ⟨sb,0,none⟩),.int .i64 k] w fun e w'=>∃zs:List Value,e=.returned (.agg zs.toArray)∧EDW w' (oldB w) zs d∧RowKit.Below w.heap.size w w':=by
 have hlt:k<ds.length:=(List.getElem?_eq_some_iff.1 hk).1
 have hsb:=hS.lt
 have hown:=hS.own d (List.mem_of_getElem? hk)
 obtain ⟨a,cap,mv,h1,h2,-,-⟩:=hS.go
 obtain ⟨g,xs,rfl,hg1,hg2,hxl,hrg,hEx⟩:=h2.at (EDx.moves sb) (fun _ _=>rfl) hk
 have hE:=hEx.ed
 obtain ⟨W0,hW0⟩:∃W0,w.alloc (.cells #[.int .i64 0,.string { data:=#[] },.int .i64 0,.int .i64 0,.int .i64 0,.bool false,.string { data:=#[] },.slice none 0 0,.slice none 0 0,.int .i64 0,.int .i64 0,.bool false,.string { data:=#[] },.slice none 0 0,.slice none 0 0,.int .i64 0,.slice none 0 0] 39)=W0:=⟨_,rfl⟩
 have hb0:RowKit.Below w.heap.size w W0:=by rw [←hW0];exact (Below.refl _ _).alloc (Nat.le_refl _) _
 have HR0:Hid (W0.heap[w.heap.size]?=some (.cells #[.int .i64 0,.string { data:=#[] },.int .i64 0,.int .i64 0,.int .i64 0,.bool false,.string { data:=#[] },.slice none 0 0,.slice none 0 0,.int .i64 0,.int .i64 0,.bool false,.string { data:=#[] },.slice none 0 0,.slice none 0 0,.int .i64 0,.slice none 0 0] 39 (0,0))):=by unfold Hid;rw [←hW0];exact alloc_new _ _
 have hs0:w.heap.size<W0.heap.size:=heap_lt HR0.out
 obtain ⟨s0,s1,slt,sfz⟩:=(h1.keep (hb0.block sb hsb)).all
 have HRG:Hid (W0.rangeAt g (k*17) xs):=fun j v hj=>(hb0.cell (p:=⟨g,k*17+j,none⟩) hg2).trans (maskB_cell (hrg j v hj)).2
 have HSX:Hid ((Tryz.prog.info? 39).map (·.size)=some xs.length):=by unfold Hid;rw [hxl];kernel_rfl
 have HC:=bareDW_any d (.agg xs.toArray) W0 (hE.val.on hb0) hown.right hown.sm
 rw [hown.clean] at HC
 have HW0:=Hid.mk hW0
 have HB0:=Hid.mk hb0
 have zk:(k:Int)<(ds.length:Int):=by omega
 have zk0:(0:Int)≤(k:Int):=by omega
 clear hb0 hW0 hS hk hown h1 h2 hrg hE hEx
 go_enter Tryz.func27,Tryz.ntmps27
 go_wp2_with (first | (rw [HW0.out]) | (refine wpList_load_mid rfl 39 _ rfl g (k*17) rfl xs _ HRG.out Tryz.underlying39 rfl HSX.out ?_))
 refine HC.mono ?_
 rintro e w1 ⟨zs,rfl,hE,hfr,hb1⟩
 have HFR:=Hid.mk hfr
 clear hfr
 have hzl:zs.length=17:=hE.len
 have hzt:zs.toArray.size=17:=by simp [hzl]
 have hR1:w1.heap[w.heap.size]?=some (.cells #[.int .i64 0,.string { data:=#[] },.int .i64 0,.int .i64 0,.int .i64 0,.bool false,.string { data:=#[] },.slice none 0 0,.slice none 0 0,.int .i64 0,.int .i64 0,.bool false,.string { data:=#[] },.slice none 0 0,.slice none 0 0,.int .i64 0,.slice none 0 0] 39 (0,0)):=(hb1.block _ hs0).trans HR0.out
 have HTH:Hid (w1.there w.heap.size 0 zs.toArray.size):=by unfold Hid;rw [hzt];exact there_of hR1 rfl 0 17 (Nat.le_refl 17)
 have HSY:Hid ((Tryz.prog.info? 39).map (·.size)=some zs.toArray.size):=by unfold Hid;rw [hzt];kernel_rfl
 have HSZ:Hid ((Tryz.prog.info? 39).map (·.size)=some zs.length):=by unfold Hid;rw [hzl];kernel_rfl
 have HON:Hid (zs.toArray.all (·.oneCell')=true):=all_oneCell_toArray hE.cell
 have hw2:=sets_heap w.heap.size zs.toArray.toList 0 w1
 have hR2:(w1.setCells w.heap.size 0 zs.toArray.toList).heap[w.heap.size]?=some (.cells zs.toArray 39 (0,0)):=sets_whole (c':=zs.toArray) hR1 (by rw [hzt];rfl)
 have hs1:=hb1.size
 have HE2:Hid (ED (w1.setCells w.heap.size 0 zs.toArray.toList) (oldB w) zs d):=ED.moves _ _ _ _ _ _ hE (Nat.le_of_eq hw2.1.symm) fun k h1 h2=>⟨oldB_new (by have:=oldB_no h2;omega),hw2.2 k (by have:=oldB_no h2;omega)⟩
 have HFR2:Hid (FrC (w1.setCells w.heap.size 0 zs.toArray.toList) (oldB w) zs):=HFR.out.moves fun k h1 h2=>⟨oldB_new (by have:=oldB_no h2;omega),hw2.2 k (by have:=oldB_no h2;omega)⟩
 have HB2:Hid (RowKit.Below w.heap.size w (w1.setCells w.heap.size 0 zs.toArray.toList)):=below_sets (HB0.out.trans (hb1.mono (by omega))) (Nat.le_refl _) _
 have HL:=run_loadVar_mid (P:=Tryz.prog) (w1.setCells w.heap.size 0 zs.toArray.toList) w.heap.size 0 39 zs _ (range_of (pre:=[]) (post:=[]) hR2 (by simp) rfl) Tryz.underlying39 rfl HSZ.out
 clear hE hb1 hzt hR1 hw2 hR2 HC s0 s1 slt sfz
 go_wp2_with (refine wpList_store_mid rfl 39 _ _ rfl w.heap.size 0 zs.toArray rfl rfl HTH.out HSY.out HON.out ?_)
 exact bodyPost_ret (v:=.agg zs.toArray) (results_cell (s:=4) (t:=39) Tryz.results27 rfl HL) rfl ⟨zs,rfl,⟨HE2.out,HFR2.out⟩,HB2.out⟩
theorem eachSW_any {B:Nat}(ds:List Dl) (sb:Nat) (w:World) (hS:SGG w B sb ds):Calls Tryz.prog 26 #[.int .i64 ds.length,.func (.func 27) #[.pointer (some ⟨sb,0,none⟩)] #[]] w fun e w'=>∃(a:Option Addr) (cap:Nat),e=.returned (.slice a ds.length cap)∧RowX 39 17 EDW w' w.heap.size (oldB w) a cap ds∧RowKit.Below w.heap.size w w':=by
 have hlen:=hS.len
 have HS:=Hid.mk hS
 have hcf:=cf_told
 clear hS
 go_enter Tryz.func26,Tryz.ntmps26
 go_wp2
 go_loopw [5,8] (fun u i wr=>∃(k:Nat) (a:Option Addr) (cap:Nat),k≤ds.length∧i=.int .i64 k∧u=.slice a k cap∧RowX 39 17 EDW wr w.heap.size (oldB w) a cap (ds.take k)∧RowKit.Below w.heap.size w wr) (fun _ i _=>ds.length - (intOf i).toNat)
 case atStart=>exact ⟨0,none,0,Nat.zero_le _,rfl,rfl,RowX.nil _ _ _ _ _ _,Below.refl _ _⟩
 case round =>
  obtain ⟨k,a,cap,hk,rfl,rfl,hrow,hb⟩:=hrel
  have HROW:=Hid.mk hrow
  have HBR:=Hid.mk hb
  have hsr:=hb.size
  clear hrow hb
  by_cases hlt:k<ds.length
  ·have hd:ds[k]?=some ds[k]:=List.getElem?_eq_getElem hlt
   have HC:=toldW_any ds sb k ds[k] wr (HS.out.on HBR.out) hd
   have HTK:Hid (ds.take (k+1)=ds.take k++[ds[k]]):=by unfold Hid;exact List.take_succ_eq_append_getElem hlt
   have HTL:Hid ((ds.take k).length=k):=by unfold Hid;simp;omega
   generalize ds[k]=p at *
   have zk:(k:Int)<(ds.length:Int):=by omega
   clear hd
   go_wp2_with fail
   refine HC.mono ?_
   rintro e w1 ⟨zs,rfl,hE,hb1⟩
   have hz17:zs.length=17:=hE.1.len
   have HZO:=Hid.mk hE.1.cell
   have hs1:=hb1.size
   have HROW1:Hid (RowX 39 17 EDW (w1.alloc (.cells zs.toArray 39)) w.heap.size (oldB w) a cap (ds.take k)):=(HROW.out.move EDW.moves (fun k hk=>oldB_new hk) hb1.size fun k h1 _=>hb1.block k h1).move EDW.moves (fun k hk=>oldB_new hk) (by simp) fun k h1 _=>Below.heap_alloc _ _ _ h1
   obtain ⟨xss,hx1,hx2,hown,hkv⟩:=HROW1.out.go
   have hRB:∀j,ownB a j=true→w.heap.size≤j∧j<wr.heap.size:=fun j hj=>by
    obtain ⟨ys,-,-,hown0,-⟩:=HROW.out.go
    exact ownsX_lt hown0 hj
   have HNEW:Hid (EDW (w1.alloc (.cells zs.toArray 39)) (fun k=>oldB w k||ownB a k) zs p):=EDW.moves _ _ _ _ _ _ hE (by simp) fun j h1 h2=>⟨by
    have:=oldB_no h2
    rw [oldB_new (by omega),Bool.false_or]
    cases ho:ownB a j
    ·rfl
    ·have:=(hRB j ho).2;omega,Below.heap_alloc _ _ _ h1⟩
   rw [HTL.out] at hown
   have HOWN:=Hid.mk hown
   have HKV:=Hid.mk hkv
   have HX1:=Hid.mk hx1
   have HX2:=Hid.mk hx2
   have HNB:Hid (∀(j:Nat) (u:Value),zs[j]?=some u→(w1.alloc (.cells zs.toArray 39)).cell? ((⟨w1.heap.size,0,none⟩:Addr).add j)=some u):=World.news_of_block (cs:=zs.toArray) (t:=39) (fr:=(0,0)) (alloc_new w1 (.cells zs.toArray 39))
   have HFO:Hid (List.foldl (fun (cs:Array Value) (x:Value×Nat)=>cs.setIfInBounds x.snd x.fst) #[.int .i64 0,.string { data:=#[] },.int .i64 0,.int .i64 0,.int .i64 0,.bool false,.string { data:=#[] },.slice none 0 0,.slice none 0 0,.int .i64 0,.int .i64 0,.bool false,.string { data:=#[] },.slice none 0 0,.slice none 0 0,.int .i64 0,.slice none 0 0] zs.zipIdx=zs.toArray):=fold_new _ _ (by rw [hz17];rfl)
   have HZL:Hid (zs.length=17):=hz17
   have hB1:w.heap.size≤(w1.alloc (.cells zs.toArray 39)).heap.size:=by simp;omega
   have HB1:=Hid.mk hb1
   clear hb1 HC hE hown hkv hx1 hx2 hRB
   go_wp2_with (first | (rw [HFO.out]) | (at_builtin;refine wpList_appD rfl _ _ rfl w.heap.size (.slice a k cap) k xss.flatten zs w1.heap.size 1 rfl rfl HOWN.out HZL.out HNB.out HZO.out (by omega) hB1 ?_;intro g7 c7 W7 hown7 hgr7 hat7;have HOWN7:=Hid.mk hown7;have HGR7:=Hid.mk hgr7;have HAT7:=Hid.mk hat7;clear hown7 hgr7 hat7))
   refine ⟨⟨k+1,some ⟨g7,0,none⟩,c7,hlt,by go_num,rfl,?_,?_⟩,by simp [intOf];omega⟩
   ·rw [HTK.out]
    exact RowX.snoc EDW.moves (cap:=cap) HX1.out HX2.out HKV.out HZL.out (by rw [HTL.out];exact HOWN7.out) (by rw [HTL.out];exact HGR7.out) (by rw [HTL.out];exact HAT7.out) HNEW.out
   ·refine HBR.out.trans ((HB1.out.mono (by omega)).trans (((Below.refl _ _).alloc (by omega) _).grown HGR7.out (by simp;omega) (fun k e=>(World.ownsRow.lt HOWN.out k e).1)))
  ·obtain rfl:k=ds.length:=by omega
   go_wp2
   go_ret
   have h:=HROW.out
   rw [List.take_length] at h
   exact ⟨a,cap,rfl,h,HBR.out⟩
theorem ListW_any {B:Nat}(ds:List Dl) (sb:Nat) (w:World) (hS:SGG w B sb ds):Calls Tryz.prog 11 #[.pointer (some ⟨sb,0,none⟩)] w fun e w'=>∃(a:Option Addr) (cap:Nat),e=.returned (.slice a ds.length cap)∧RowX 39 17 EDW w' w.heap.size (oldB w) a cap ds∧RowKit.Below w.heap.size w w':=by
 have HC0:=orEmpty_any sb w
 have HC1:=eachSW_any ds sb w hS
 obtain ⟨sa,scap,smv,hsg,-,-,-⟩:=hS.go
 obtain ⟨s0,s1,slt,sfz⟩:=hsg.all
 clear hsg hS
 go_enter Tryz.func11,Tryz.ntmps11
 go_wp2_with fail
 refine HC0.mono ?_
 rintro e w9 ⟨rfl,hw9⟩
 have hw9':=hw9.symm
 subst hw9'
 go_wp2_with fail
 refine HC1.mono ?_
 rintro e w1 ⟨a,cap,rfl,hrow,hb⟩
 have HROW:=Hid.mk hrow
 have HB:=Hid.mk hb
 clear hrow hb HC1 HC0 hw9
 go_wp2
 go_ret
 exact ⟨a,cap,rfl,HROW.out,HB.out⟩
noncomputable def inB (w:World) (sb:Nat):Nat→Bool:=fun k=>@decide (¬NotIn w sb k) (Classical.propDecidable _)
theorem inB_no {w:World}{sb k:Nat}:inB w sb k=false↔NotIn w sb k:=by
 unfold inB
 rw [@decide_eq_false_iff_not _ (Classical.propDecidable _)]
 exact Classical.not_not
structure Two (w:World) (sb rb:Nat) (ds:List Dl):Prop where
 s:SGG w sb sb ds
 r:RS w (inB w sb) rb ds
 f:Fine ds
theorem Two.on {w w':World}{sb rb:Nat}{ds:List Dl}(h:Two w sb rb ds) (hb:RowKit.Below w.heap.size w w'):Two w' sb rb ds :=
 ⟨h.s.on hb,h.r.move hb.size fun k h1 h2=>⟨inB_no.2 ((inB_no.1 h2).keep (hb.block sb h.s.lt)),hb.block k h1⟩,h.f⟩
theorem inB_lt {w:World}{B sb k:Nat}{ds:List Dl}(h:SGG w B sb ds) (hk:inB w sb k=true):k<w.heap.size:=by
 rcases Nat.lt_or_ge k w.heap.size with h1 | h1
 ·exact h1
 ·rw [inB_no.2 (h.notIn h1 (Below.refl _ _))] at hk;cases hk
theorem Two.put {w1 w2:World}{sb rb:Nat}{ds ds':List Dl}(hS:SGG w1 sb sb ds') (hR:RS w1 (inB w1 sb) rb ds) (hR2:RS w2 (inB w1 sb) rb ds') (hk:Kept (fun k=>k=rb) w1 w2) (hf:Fine ds'):Two w2 sb rb ds':=by
 have hn:=inB_no.1 hR.out
 refine ⟨hS.miss hn hR.noK hk.size (fun k h1 h2=>hk.block k h1 h2),hR2.move (Nat.le_refl _) fun k _ h2=>⟨inB_no.2 ((inB_no.1 h2).keep (hk.block sb hS.lt (fun e=>hn.1 e.symm))),rfl⟩,hf⟩
theorem put_fine {ds:List Dl}{d:Dl}(hf:Fine ds) (h:putRes ds d=0):Fine (ds++[cleanD d]):=by
 refine hf.snoc ?_
 obtain ⟨bs,hbs⟩:=put_ok h
 unfold putRes at h
 rw [hbs] at h
 simp only at h
 split at h
 ·cases h
 ·split at h
  ·cases h
  ·split at h
   ·cases h
   ·rename_i h3
    simpa using h3
theorem put_fine2 {ds:List Dl}{d:Dl}{PR:Int}(hf:Fine ds) (h:putRes ds d=PR):Fine (if PR=0 then ds++[cleanD d] else ds):=by
 split
 ·rename_i h0
  exact put_fine hf (h.trans h0)
 ·exact hf
def OutOK (B:Nat) (w:World) (a:Option Addr) (ds:List Dl):Prop:=ds=[]∨∃g,a=some ⟨g,0,none⟩∧B≤g∧(∀o,w.frozen? ⟨g,o,none⟩=false)∧∀i d,ds[i]?=some d→(∃u,w.cell? ⟨g,i*17+1,none⟩=some u)∧∃ca cc,w.cell? ⟨g,i*17+16,none⟩=some (.slice ca d.ctors.length cc)∧(d.ctors.length≠0→∃g2,ca=some ⟨g2,0,none⟩∧B≤g2∧g2≠g∧(∀o,w.frozen? ⟨g2,o,none⟩=false)∧∀k,k<d.ctors.length→∃u,w.cell? ⟨g2,k*7,none⟩=some u)
theorem cell_some_set {w:World}{p q:Addr}{x:Value}(h:∃u,w.cell? q=some u):∃u,(w.setCell p x).cell? q=some u:=by
 obtain ⟨u,hu⟩:=h
 by_cases e:p=q
 ·subst e
  exact ⟨x,World.cell?_setCell_same _ _ _ hu⟩
 ·exact ⟨u,(World.cell?_setCell_other _ _ _ _ e).trans hu⟩
theorem frozen_set (w:World) (p q:Addr) (x:Value):(w.setCell p x).frozen? q=w.frozen? q:=by
 unfold World.setCell World.frozen?
 simp only [Array.getElem?_modify]
 by_cases e:p.block=q.block
 ·rw [if_pos e]
  cases h:w.heap[q.block]? with
  | none=>simp
  | some o=>cases o<;>simp
 ·rw [if_neg e]
theorem OutOK.set {B:Nat}{w:World}{a:Option Addr}{ds:List Dl}(h:OutOK B w a ds) (b o:Nat) (v:Value) (hp:∀g,a=some ⟨g,0,none⟩→b=g→∀i,o≠i*17+16):OutOK B (w.setCell ⟨b,o,none⟩ v) a ds:=by
 rcases h with h | ⟨g,ha,hB,hz,h⟩
 ·exact Or.inl h
 ·refine Or.inr ⟨g,ha,hB,fun o'=>(frozen_set _ _ _ _).trans (hz o'),fun i d hi=>?_⟩
  obtain ⟨h1,ca,cc,h2,h3⟩:=h i d hi
  refine ⟨cell_some_set h1,ca,cc,(World.cell?_setCell_other _ _ _ _ (fun e=>?_)).trans h2,fun hn=>?_⟩
  ·simp only [Addr.mk.injEq,and_true] at e
   exact hp g ha e.1 i e.2
  ·obtain ⟨g2,k1,k2,k3,k4,k5⟩:=h3 hn
   exact ⟨g2,k1,k2,k3,fun o'=>(frozen_set _ _ _ _).trans (k4 o'),fun k hk=>cell_some_set (k5 k hk)⟩
theorem RowX.outW {w:World}{B cap:Nat}{P:Nat→Bool}{a:Option Addr}{ds:List Dl}(h:RowX 39 17 EDW w B P a cap ds) (hB:∀k,B≤k→P k=false) (hP:∀k,k<B→P k=true):DL w a ds∧OutOK B w a ds:=by
 cases hds:ds with
 | nil=>exact ⟨Or.inl rfl,Or.inl rfl⟩
 | cons d0 dr =>
  rw [←hds]
  obtain ⟨g,xs0,ha,hg1,hg2,-,-,-⟩:=h.at EDW.moves hB (j:=0) (t:=d0) (by rw [hds];rfl)
  obtain ⟨xss,x1,x2,hown,hkv⟩:=h.go
  have hgz:∀o,w.frozen? ⟨g,o,none⟩=false:=by
   rcases hown.2 with ⟨-,h0⟩ | ⟨g',cap',cur,hv,-,hh,-⟩
   ·rw [hds] at h0;simp at h0
   ·rw [ha] at hv
    simp only [Value.slice.injEq,Option.some.injEq,Addr.mk.injEq,and_true,true_and] at hv
    obtain ⟨rfl,-⟩:=hv
    intro o
    simp [World.frozen?,hh]
  have hel:∀i d,ds[i]?=some d→∃xs:List Value,xs.length=17∧w.rangeAt g (i*17) xs∧EDW w (fun k=>P k||ownB a k) xs d:=fun i d hi=>by
   have hil:i<xss.length:=by rw [x1];exact (List.getElem?_eq_some_iff.1 hi).1
   have hx:xss[i]?=some xss[i]:=List.getElem?_eq_getElem hil
   have hm:=x2 _ (List.getElem_mem hil)
   refine ⟨xss[i],hm,fun j v hj=>?_,hkv i d _ hi hx⟩
   have h1:=World.ownsRow.cells hown (g:=g) (by rw [ha];rfl) (i*17+j) v (flatten_at xss x2 i j _ v hx hj)
   rw [add_at] at h1
   rw [←h1]
   congr 2
   omega
  refine ⟨Or.inr ⟨g,0,ha,hg2,fun i d hi=>?_⟩,Or.inr ⟨g,ha,hg1,hgz,fun i d hi=>?_⟩⟩
  ·obtain ⟨xs,e1,e2,e3⟩:=hel i d hi
   rw [Nat.zero_add]
   exact ⟨xs,e1,e2,e3.1.cell,e3.1.val⟩
  ·obtain ⟨xs,e1,e2,e3⟩:=hel i d hi
   obtain ⟨t0,t1,t2,t3,t4,t5,t6,t7,t8,t9,v0,v1,v2,v3,v4,v5,v6,v7,v8,v9,ca,cc,hz,-,-,hck⟩:=e3.1.val.go
   have hca:xs.toArray=#[.int .i64 d.kind,.string d.name,.int .i64 d.levels,.int .i64 t0,.int .i64 t1,.bool t2,.string t3,.slice t4 t5 t6,.slice t7 t8 t9,.int .i64 v0,.int .i64 v1,.bool v2,.string v3,.slice v4 v5 v6,.slice v7 v8 v9,.int .i64 d.params,.slice ca d.ctors.length cc]:=by simpa using hz
   have hcs:xs=[.int .i64 d.kind,.string d.name,.int .i64 d.levels,.int .i64 t0,.int .i64 t1,.bool t2,.string t3,.slice t4 t5 t6,.slice t7 t8 t9,.int .i64 v0,.int .i64 v1,.bool v2,.string v3,.slice v4 v5 v6,.slice v7 v8 v9,.int .i64 d.params,.slice ca d.ctors.length cc]:=by have:=congrArg Array.toList hca;simpa using this
   have h16:xs[16]?=some (.slice ca d.ctors.length cc):=by rw [hcs];rfl
   refine ⟨⟨_,e2 1 (.string d.name) (by rw [hcs];rfl)⟩,ca,cc,e2 16 _ h16,fun hn=>?_⟩
   obtain ⟨g2,cur,k1,k2,k3⟩:=e3.2 ca _ cc h16 hn
   rw [Bool.or_eq_false_iff] at k2
   refine ⟨g2,k1,?_,?_,fun o=>by simp [World.frozen?,k3],fun k hk=>?_⟩
   ·rcases Nat.lt_or_ge g2 B with h1 | h1
    ·rw [hP g2 h1] at k2;exact absurd k2.1 (by decide)
    ·exact h1
   ·intro e
    rw [ha] at k2
    simp [ownB,e] at k2
   ·rcases hck with h0 | ⟨b,o,hb,-,hc⟩
    ·rw [h0] at hk;simp at hk
    ·rw [k1] at hb
     simp only [Option.some.injEq,Addr.mk.injEq,and_true] at hb
     obtain ⟨rfl,rfl⟩:=hb
     have:=(hc k _ (List.getElem?_eq_getElem hk)).1
     rw [Nat.zero_add] at this
     exact ⟨_,this⟩
theorem wpList_load_midG {P:Program}{ops:Array Oper}{rest:List Oper}{op:Oper}{a:Act}{w:World}{Q:Exit→Act→World→Prop}(hw:Region.wanted op (yielded ops a.tmps)=true) (ty:TypeId) (x:Operand) (ho:op.op=.load ty x)
  (b o:Nat) (hx:a.eval x=.pointer (some ⟨b,o,none⟩)) (cs:List Value) (d:TypeDesc) (hc:w.rangeAt b o cs)
  (hu:P.underlying ty=some d) (hd:d.isRow=true) (hi:(P.info? ty).map (·.size)=some cs.length)
  (h:wpList P ops Q rest (a.put op.dst (.agg cs.toArray)) w):wpList P ops Q (op::rest) a w :=
 Go.BigFrame.wpList_want hw fun _ hK=>wp_load_mid ty x ho b o hx cs d hc hu hd hi (hK _ _ h)
def STR (w:World) (a:Option Addr) (ss:List ByteArray):Prop:=ss=[]∨∃b o,a=some ⟨b,o,none⟩∧b<w.heap.size∧∀i s,ss[i]?=some s→w.cell? ⟨b,o+i,none⟩=some (.string s)
end Go.Proofs.YtgfgpjcnfnopnaaGreat
