/- The contract of (*Sig).Put. -/
import Derived.Test.YtgfgpjcnfnopnaaGreatQYA
namespace Go.Proofs.YtgfgpjcnfnopnaaGreat
open Go.RowKit Go.Sort Go.Lib
theorem infoD2:(Tryz.prog.info? 39).map (fun i=>(i.zero.map (·.cells.size),i.size,i.bytes))=some (some 17,17,240):=by kernel_rfl
theorem ne_by {k X c w:Nat}(h:X<c∨w≤X) (h1:k<w) (h2:c≤k):k≠X:=by omega
theorem step_appD {w:World}{ops:Array Oper}{o:Oper}{a:Act}{K:Act→World→Prop}{Q:Exit→Act→World→Prop}{E:Prop}(hgd:o.guard=none) (s x:Operand) (ho:o.op=.call { callee:=.builtin .append,args:=#[s,x],argTypes:=#[22,22] })
  (B:Nat) (v:Value) (n:Nat) (xs news:List Value) (b c1:Nat) (hs:a.eval s=v) (hx:a.eval x=.slice (some ⟨b,0,none⟩) 1 c1) (hO:w.ownsRow B 39 17 v n xs) (hl:news.length=17) (hnews:∀j u,news[j]?=some u→w.cell? ((⟨b,0,none⟩:Addr).add j)=some u) (h1:∀u∈news,u.oneCell'=true) (hlen:n≤1073741824) (hB:B≤w.heap.size)
  (h:∀g cap w',w'.ownsRow B 39 17 (.slice (some ⟨g,0,none⟩) (n+1) cap) (n+1) (xs++news)→w.grownBy w' v.ownBlock→(v.ownBlock=some g∨g=w.heap.size)→K (a.put o.dst (.slice (some ⟨g,0,none⟩) (n+1) cap)) w'):if Region.wanted o (yielded ops a.tmps)=true then Oper.wp Tryz.prog o a w K Q else E:=by
 have hI:=infoD2
 cases hi:Tryz.prog.info? 39 with
 | none=>rw [hi] at hI;simp at hI
 | some i0 =>
  rw [hi] at hI
  simp only [Option.map_some,Option.some.injEq,Prod.mk.injEq,Option.map_eq_some_iff] at hI
  obtain ⟨⟨z,hz,hzc⟩,hz1,hz2⟩:=hI
  refine step_append_lies _ hgd s x 22 ho B 39 i0 z 17 240 Tryz.underlying22 hi hz hz1 hz2 hzc (by decide) v n xs hs hO _ 1 c1 news hx hl hnews h1 (by decide) (by simp [maxLen];omega) (by omega) hB _ rfl ?_
  intro g cap w' hown hgr hat _
  exact h g cap w' hown hgr hat
structure PutJ (W0:World) (ds:List Dl) (d:Dl) (r:Int) (X5 X6:Nat) (xs:List Value) (mv:Option Nat) (W:World):Prop where
 x5:W0.heap.size≤X5
 x6:W0.heap.size≤X6
 h5:W.heap[X5]?=some (.cells xs.toArray 39 (0,0))
 h6:W.heap[X6]?=some (.cells #[.map mv] 56 (0,0))
 len:xs.length=17
 one:∀v∈xs,v.oneCell'=true
 below:RowKit.Below W0.heap.size W0 W
 ok:r=0→ED W (fun k=>oldB W0 k||(k==X5||k==X6)) xs (cleanD d)∧OwnD (cleanD d)∧ds.length<500∧twiceB ds (cleanD d)=false∧∃mb,mv=some mb∧Tb W (some mb) 100 (namesM (ds.length:Int) (cleanD d)).1∧W0.heap.size≤mb
theorem PutJ.of {W0 Wc w' Wf:World}{ds:List Dl}{d:Dl}{r:Int}{X5 X6:Nat}{xs:List Value}{mv:Option Nat}{c5 c6:Array Value}(hc:W0.heap.size≤Wc.heap.size) (hlen:xs.length=17) (hone:∀v∈xs,v.oneCell'=true)
  (hok:r=0→ED w' (oldB Wc) xs (cleanD d)∧OwnD (cleanD d)∧ds.length<500∧twiceB ds (cleanD d)=false∧∃mb,mv=some mb∧Tb w' (some mb) 100 (namesM (ds.length:Int) (cleanD d)).1∧Wc.heap.size≤mb)
  (hb:RowKit.Below w'.heap.size w' Wf) (hB:RowKit.Below W0.heap.size W0 Wf) (x5:W0.heap.size≤X5) (x6:W0.heap.size≤X6) (hne:X5≠X6) (p5:X5<Wc.heap.size∨w'.heap.size≤X5) (p6:X6<Wc.heap.size∨w'.heap.size≤X6)
  (h5:Wf.heap[X5]?=some (.cells c5 39 (0,0))) (h6:Wf.heap[X6]?=some (.cells c6 56 (0,0))) (s5:c5.size=17) (s6:c6.size=1):PutJ W0 ds d r X5 X6 xs mv ((Wf.setCells X5 0 xs.toArray.toList).setCells X6 0 (#[.map mv]:Array Value).toList):=by
 have q5:=sets_heap X5 xs.toArray.toList 0 Wf
 have q6:=sets_heap X6 (#[.map mv]:Array Value).toList 0 (Wf.setCells X5 0 xs.toArray.toList)
 have r5:(Wf.setCells X5 0 xs.toArray.toList).heap[X5]?=some (.cells xs.toArray 39 (0,0)):=sets_whole (c':=xs.toArray) h5 (by simp [hlen,s5])
 have r6:=(q5.2 X6 (Ne.symm hne)).trans h6
 have hall:∀k,k≠X5→k≠X6→((Wf.setCells X5 0 xs.toArray.toList).setCells X6 0 (#[.map mv]:Array Value).toList).heap[k]?=Wf.heap[k]?:=fun k h1 h2=>(q6.2 k h2).trans (q5.2 k h1)
 refine ⟨x5,x6,(q6.2 X5 hne).trans r5,sets_whole (c':=#[.map mv]) r6 (by simp [s6]),hlen,hone,below_sets (below_sets hB x5 _) x6 _,fun hr=>?_⟩
 obtain ⟨g1,g2,g3,g4,mb,rfl,g5,g6⟩:=hok hr
 refine ⟨ED.moves _ _ _ _ _ _ g1 (by rw [q6.1,q5.1];exact hb.size) fun k k1 k2=>?_,g2,g3,g4,mb,rfl,g5.keep fun b hbb=>?_,by omega⟩
 ·have k3:=oldB_no k2
  have k4:k≠X5:=ne_by p5 k1 k3
  have k5:k≠X6:=ne_by p6 k1 k3
  refine ⟨?_,(hall k k4 k5).trans (hb.block k k1)⟩
  rw [oldB_new (Nat.le_trans hc k3)]
  simp [k4,k5]
 ·cases hbb
  have hl:=g5.lt
  exact (hall mb (ne_by p5 hl g6) (ne_by p6 hl g6)).trans (hb.block mb hl)
def NotIn (w:World) (sb X:Nat):Prop:=X≠sb∧(∀a n cap,w.cell? ⟨sb,0,none⟩=some (.slice a n cap)→ownB a X=false)∧∀mv,w.cell? ⟨sb,1,none⟩=some (.map mv)→mv≠some X
theorem NotIn.keep {w w':World}{sb X:Nat}(h:NotIn w sb X) (hb:w'.heap[sb]?=w.heap[sb]?):NotIn w' sb X :=
 ⟨h.1,fun a n cap hc=>h.2.1 a n cap ((World.cell?_of_block (a:=⟨sb,0,none⟩) hb).symm.trans hc),fun mv hc=>h.2.2 mv ((World.cell?_of_block (a:=⟨sb,1,none⟩) hb).symm.trans hc)⟩
theorem SGG.notIn {w w':World}{B sb X:Nat}{ds:List Dl}(h:SGG w B sb ds) (hX:w.heap.size≤X) (hb:RowKit.Below w.heap.size w w'):NotIn w' sb X:=by
 obtain ⟨a,cap,mv,h1,h2,h3,-⟩:=h.go
 have h0:NotIn w sb X:=by
  refine ⟨by have:=h1.lt;omega,fun a' n cap' hc=>?_,fun mv' hc e=>?_⟩
  ·rw [h1.c0] at hc
   simp only [Option.some.injEq,Value.slice.injEq] at hc
   rw [←hc.1]
   cases ho:ownB a X
   ·rfl
   ·obtain ⟨ys,-,-,hown0,-⟩:=h2.go
    have:=(ownsX_lt hown0 ho).2
    omega
  ·rw [h1.c1] at hc
   simp only [Option.some.injEq,Value.map.injEq] at hc
   rw [←hc] at e
   subst e
   have:=h3.lt
   omega
 exact h0.keep (hb.block sb h1.lt)
theorem Tb.ne_row {w:World}{b n B cap:Nat}{M:ByteArray→Option (Int×Int)}{P:Nat→Bool}{a:Option Addr}{ds:List Dl}(h:Tb w (Option.some b) n M) {sb:Nat}(hr:RowX 39 17 (EDx sb) w B P a cap ds):ownB a b=false:=by
 obtain ⟨xss,-,-,hown,-⟩:=hr.go
 rcases hown.2 with ⟨hv,-⟩ | ⟨g,cap',cur,hv,-,hh,-⟩
 ·simp only [Value.slice.injEq] at hv
  rw [hv.1]
  rfl
 ·simp only [Value.slice.injEq] at hv
  rw [hv.1]
  cases ho:ownB (Option.some ⟨g,0,none⟩) b
  ·rfl
  ·simp only [ownB,beq_iff_eq] at ho
   rcases h.go with ⟨h,-⟩ | ⟨b',D',h1,⟨es,ck,h2,-⟩,-⟩
   ·cases h
   ·cases h1
    rw [←ho] at h2
    rw [hh] at h2
    cases h2
set_option maxRecDepth 100000 in
set_option maxHeartbeats 8000000 in
theorem Put_any {B:Nat}(ds:List Dl) (sb:Nat) (d:Dl) (v:Value) (w:World) (hS:SGG w B sb ds) (hv:DV w v d) (hsm:smD d):Calls Tryz.prog 7 #[.pointer (some ⟨sb,0,none⟩),v] w fun e w'=>e=.returned (.int .i64 (putRes ds d))∧SGG w' B sb (if putRes ds d=0 then ds++[cleanD d] else ds)∧RowKit.Below B w w'∧∀X,X<w.heap.size→NotIn w sb X→w'.heap[X]?=w.heap[X]?∧NotIn w' sb X:=by
 obtain ⟨t0,t1,t2,t3,t4,t5,t6,t7,t8,t9,v0,v1,v2,v3,v4,v5,v6,v7,v8,v9,ca,cc,rfl,-,-,-⟩:=hv.go
 have mx:=mixed
 have hsb:=hS.lt
 have hBs:=hS.base
 obtain ⟨vs,hvs⟩:∃vs:List Value,vs=[.int .i64 d.kind,.string d.name,.int .i64 d.levels,.int .i64 t0,.int .i64 t1,.bool t2,.string t3,.slice t4 t5 t6,.slice t7 t8 t9,.int .i64 v0,.int .i64 v1,.bool v2,.string v3,.slice v4 v5 v6,.slice v7 v8 v9,.int .i64 d.params,.slice ca d.ctors.length cc]:=⟨_,rfl⟩
 have hva:vs.toArray=#[.int .i64 d.kind,.string d.name,.int .i64 d.levels,.int .i64 t0,.int .i64 t1,.bool t2,.string t3,.slice t4 t5 t6,.slice t7 t8 t9,.int .i64 v0,.int .i64 v1,.bool v2,.string v3,.slice v4 v5 v6,.slice v7 v8 v9,.int .i64 d.params,.slice ca d.ctors.length cc]:=by rw [hvs]
 have hvl:vs.length=17:=by rw [hvs];rfl
 rw [←hva] at hv
 obtain ⟨W0,hW0⟩:∃W0,w.alloc (.cells #[.int .i64 d.kind,.string d.name,.int .i64 d.levels,.int .i64 t0,.int .i64 t1,.bool t2,.string t3,.slice t4 t5 t6,.slice t7 t8 t9,.int .i64 v0,.int .i64 v1,.bool v2,.string v3,.slice v4 v5 v6,.slice v7 v8 v9,.int .i64 d.params,.slice ca d.ctors.length cc] 39)=W0:=⟨_,rfl⟩
 have hb0:RowKit.Below w.heap.size w W0:=by rw [←hW0];exact (Below.refl _ _).alloc (Nat.le_refl _) _
 have HA0:Hid (W0.heap[w.heap.size]?=some (.cells vs.toArray 39 (0,0))):=by unfold Hid;rw [←hW0,hva];exact alloc_new _ _
 have hs0:=heap_lt HA0.out
 have HGS:Hid (∀W,RowKit.Below W0.heap.size W0 W→W.rangeAt w.heap.size 0 vs):=fun W h=>range_of (pre:=[]) (post:=[]) ((h.block _ hs0).trans HA0.out) (by simp) rfl
 have HSV:Hid ((Tryz.prog.info? 39).map (·.size)=some vs.length):=by unfold Hid;rw [hvl];kernel_rfl
 obtain ⟨PR,hPR⟩:∃PR,putRes ds d=PR:=⟨_,rfl⟩
 have HCJ:Hid (∀W,RowKit.Below W0.heap.size W0 W→Calls Tryz.prog 20 #[.pointer (some ⟨sb,0,none⟩),.agg vs.toArray] W (JudgeOut W ds d PR)):=fun W h=>by
  have hb:RowKit.Below w.heap.size w W:=hb0.trans (h.mono hb0.size)
  rw [←hPR]
  exact sjudged_any ds sb d (.agg vs.toArray) W (hS.on hb) (hv.on hb) hsm
 rw [hPR]
 have HW0:=Hid.mk hW0
 have HB0:=Hid.mk hb0
 have HS:=Hid.mk hS
 have HPR:=Hid.mk hPR
 clear hb0 hW0 hS hv hsm hvs hva hvl hPR
 go_enter Tryz.func7,Tryz.ntmps7
 go_wp2_with (rw [HW0.out])
 refine Code.wp_mono (Q:=fun e a' W'=>e=.normal∧∃(X5 X6:Nat) (xs:List Value) (mv:Option Nat) (z8 z9 z10 z11 z12 z13 z14 z15:Value),a'={ tmps:=#[.pointer (some ⟨sb,0,none⟩),.agg #[.int .i64 d.kind,.string d.name,.int .i64 d.levels,.int .i64 t0,.int .i64 t1,.bool t2,.string t3,.slice t4 t5 t6,.slice t7 t8 t9,.int .i64 v0,.int .i64 v1,.bool v2,.string v3,.slice v4 v5 v6,.slice v7 v8 v9,.int .i64 d.params,.slice ca d.ctors.length cc],undef,.pointer (some ⟨w.heap.size,0,none⟩),.int .i64 0,.pointer (some ⟨X5,0,none⟩),.pointer (some ⟨X6,0,none⟩),.int .i64 PR,z8,z9,z10,z11,z12,z13,z14,z15,undef,undef,undef,undef,undef,undef,undef,undef,undef,undef,undef,undef,undef,undef,undef,undef,undef,undef,undef,undef,undef,undef,undef,undef],defers:=[] }∧PutJ W0 ds d PR X5 X6 xs mv W') (fun e a' W' hjoin=>?_) ?_
 rotate_left
 refine wp_region_late (S:=fun w'=>w'.rangeAt w.heap.size 0 vs) (fun i=>i==12) mx ?_ (fun hHeld=>?_)
 ·(try dsimp only)
  exact HGS.out _ (Below.refl _ _).drew
 ·obtain ⟨WS,hWS⟩:∃WS,W0.drew=WS:=⟨_,rfl⟩
  have HBS:Hid (RowKit.Below W0.heap.size W0 WS):=by unfold Hid;rw [←hWS];exact (Below.refl _ _).drew
  have hsS:W0.heap.size≤WS.heap.size:=HBS.out.size
  rw [hWS] at hHeld ⊢
  clear hWS
  refine tkE (i:=0) (v:=.pointer (some ⟨sb,0,none⟩)) (d:=some 9) rfl (hQ:=fun _ _ _ h=>by cases h.1) (hy:=(Or.inl ⟨by kernel_rfl,fun _ _=>by kernel_rfl⟩)) (h:=?_)
  refine wpAnyM_takeC (i:=1) (v:=.pointer (some ⟨sb,0,none⟩)) (d:=some 10) rfl (by kernel_rfl) (by kernel_rfl) (by kernel_rfl) (by kernel_rfl) (by kernel_rfl) (fun _ _ _ h=>by cases h.1) ⟨by kernel_rfl,fun w _=>⟨19,#[.pointer (some ⟨sb,0,none⟩)],by kernel_rfl,orEmpty_any sb w⟩⟩ (by assumption) ?_
  refine tkE (i:=2) (v:=.agg vs.toArray) (d:=some 11) rfl (hQ:=fun _ _ _ h=>by cases h.1) (hy:=(yieldsIf_load_mid (by kernel_rfl) 39 (.tmp 3) rfl w.heap.size 0 (by kernel_rfl) vs _ (fun w hSw=>hSw) Tryz.underlying39 rfl HSV.out)) (h:=?_)
  refine wpAnyM_three (i:=3) (k:=8) (l:=9) (by kernel_rfl) ?_ ?_ ?_
  ·refine ⟨_,rfl,fun K hK=>?_⟩
   go_simp
   go_at_call 20
   refine (HCJ.out WS HBS.out).mono ?_
   rintro e wj ⟨xs,mv,hxl,hxo,rfl,hbj,hok⟩
   have HBJ:Hid (RowKit.Below W0.heap.size W0 wj):=HBS.out.trans (hbj.mono HBS.out.size)
   have hcw:=hbj.size
   have HOK:=Hid.mk hok
   have HXO:=Hid.mk hxo
   have HXL:=Hid.mk hxl
   have HBJW:=Hid.mk hbj
   clear hbj hok hxo
   refine hK.out _ _ (fun _=>?_) (fun hHeld=>?_)
   ·(try dsimp only)
    exact HGS.out _ HBJ.out
   replace hHeld:=hHeld rfl
   clear hK K
   refine tkE (i:=4) (v:=.tuple #[.agg xs.toArray,.agg #[.map mv],.int .i64 PR]) (d:=some 8) rfl (hQ:=fun _ _ _ h=>by cases h.1) (hy:=(Or.inl ⟨by kernel_rfl,fun _ _=>by kernel_rfl⟩)) (h:=?_)
   refine tkE (i:=5) (v:=.agg xs.toArray) (d:=some 13) rfl (hQ:=fun _ _ _ h=>by cases h.1) (hy:=(Or.inl ⟨by kernel_rfl,fun w hSw=>by go_simp⟩)) (h:=?_)
   refine tkE (i:=6) (v:=.agg #[.map mv]) (d:=some 14) rfl (hQ:=fun _ _ _ h=>by cases h.1) (hy:=(Or.inl ⟨by kernel_rfl,fun w hSw=>by go_simp⟩)) (h:=?_)
   refine tkE (i:=7) (v:=.int .i64 PR) (d:=some 15) rfl (hQ:=fun _ _ _ h=>by cases h.1) (hy:=(Or.inl ⟨by kernel_rfl,fun w hSw=>by go_simp⟩)) (h:=?_)
   have HBJj:=HBJ
   have HBj:=HBJ
   refine wpAnyM_two (i:=8) (k:=9) (by kernel_rfl) ?_ ?_
   ·refine ⟨_,rfl,fun K hK=>?_⟩
    go_simp
    obtain ⟨Wa,hWn⟩:∃Wa,wj.alloc (.cells #[.int .i64 0,.string { data:=#[] },.int .i64 0,.int .i64 0,.int .i64 0,.bool false,.string { data:=#[] },.slice none 0 0,.slice none 0 0,.int .i64 0,.int .i64 0,.bool false,.string { data:=#[] },.slice none 0 0,.slice none 0 0,.int .i64 0,.slice none 0 0] 39)=Wa:=⟨_,rfl⟩
    have HBa:Hid (RowKit.Below W0.heap.size W0 Wa):=by unfold Hid;rw [←hWn];exact HBj.out.alloc HBj.out.size _
    have hX5:Wa.heap[wj.heap.size]?=some (.cells #[.int .i64 0,.string { data:=#[] },.int .i64 0,.int .i64 0,.int .i64 0,.bool false,.string { data:=#[] },.slice none 0 0,.slice none 0 0,.int .i64 0,.int .i64 0,.bool false,.string { data:=#[] },.slice none 0 0,.slice none 0 0,.int .i64 0,.slice none 0 0] 39 (0,0)):=by rw [←hWn];exact alloc_new _ _
    have HX5:=Hid.mk hX5
    have HAa:Hid (RowKit.Below wj.heap.size wj Wa):=by unfold Hid;rw [←hWn];exact (Below.refl _ _).alloc (Nat.le_refl _) _
    have hsza:=heap_lt hX5
    clear hX5
    rw [hWn]
    clear hWn
    refine hK.out _ _ (fun _=>?_) (fun hHeld=>?_)
    ·(try dsimp only)
     exact HGS.out _ HBa.out
    replace hHeld:=hHeld rfl
    clear hK K
    refine nx1 (i:=9) (h:=?_)
    refine ⟨_,rfl,fun K hK=>?_⟩
    go_simp
    obtain ⟨Wb,hWn⟩:∃Wb,Wa.alloc (.cells #[.map none] 56)=Wb:=⟨_,rfl⟩
    have HBb:Hid (RowKit.Below W0.heap.size W0 Wb):=by unfold Hid;rw [←hWn];exact HBa.out.alloc HBa.out.size _
    have hX6:Wb.heap[Wa.heap.size]?=some (.cells #[.map none] 56 (0,0)):=by rw [←hWn];exact alloc_new _ _
    have HX6:=Hid.mk hX6
    have HAb:Hid (RowKit.Below Wa.heap.size Wa Wb):=by unfold Hid;rw [←hWn];exact (Below.refl _ _).alloc (Nat.le_refl _) _
    have hszb:=heap_lt hX6
    clear hX6
    rw [hWn]
    clear hWn
    refine hK.out _ _ (fun _=>?_) (fun hHeld=>?_)
    ·(try dsimp only)
     exact HGS.out _ HBb.out
    replace hHeld:=hHeld rfl
    clear hK K
    have hX5:Wb.heap[wj.heap.size]?=some (.cells #[.int .i64 0,.string { data:=#[] },.int .i64 0,.int .i64 0,.int .i64 0,.bool false,.string { data:=#[] },.slice none 0 0,.slice none 0 0,.int .i64 0,.int .i64 0,.bool false,.string { data:=#[] },.slice none 0 0,.slice none 0 0,.int .i64 0,.slice none 0 0] 39 (0,0)):=(HAb.out.block _ (by omega)).trans HX5.out
    have hX6:Wb.heap[Wa.heap.size]?=some (.cells #[.map none] 56 (0,0)):=HX6.out
    have hxt:xs.toArray.size=17:=by simp [HXL.out]
    have hJ:=PutJ.of (W0:=W0) (Wc:=WS) (w':=wj) (Wf:=Wb) (ds:=ds) (d:=d) (r:=PR) (X5:=wj.heap.size) (X6:=Wa.heap.size) (xs:=xs) (mv:=mv) (by omega) HXL.out HXO.out HOK.out (HAa.out.trans (HAb.out.mono (by omega))) HBb.out (by omega) (by omega) (by omega) (by omega) (by omega) hX5 hX6 rfl rfl
    have HU1:Hid (Wb.there wj.heap.size 0 xs.toArray.size):=by unfold Hid;rw [hxt];exact there_of hX5 rfl 0 17 (Nat.le_refl 17)
    have HSB:Hid ((Tryz.prog.info? 39).map (·.size)=some xs.toArray.size):=by unfold Hid;rw [hxt];kernel_rfl
    have HO1:Hid (xs.toArray.all (·.oneCell')=true):=all_oneCell_toArray HXO.out
    have HST:Hid ((Tryz.prog.info? 56).map (·.size)=some (#[.map mv]:Array Value).size):=by unfold Hid;kernel_rfl
    have HO2:Hid ((#[.map mv]:Array Value).all (·.oneCell')=true):=by unfold Hid;simp [Value.oneCell']
    have q5:=sets_heap wj.heap.size xs.toArray.toList 0 Wb
    have HU2:Hid ((Wb.setCells wj.heap.size 0 xs.toArray.toList).there Wa.heap.size 0 (#[.map mv]:Array Value).size):=there_of (n:=1) ((q5.2 _ (by omega)).trans hX6) rfl 0 1 (by omega)
    have HG1:Hid ((Wb.setCells wj.heap.size 0 xs.toArray.toList).rangeAt w.heap.size 0 vs):=HGS.out _ (below_sets HBb.out (by omega) _)
    have HG2:Hid (((Wb.setCells wj.heap.size 0 xs.toArray.toList).setCells Wa.heap.size 0 (#[.map mv]:Array Value).toList).rangeAt w.heap.size 0 vs):=HGS.out _ hJ.below
    have HJ:=Hid.mk hJ
    clear hX5 hX6 hxt hJ q5
    refine nx1 (i:=10) (h:=?_)
    refine ⟨_,rfl,fun K hK=>?_⟩
    refine ite_go (by kernel_rfl) ?_
    refine wp_store_mid 39 (.tmp 5) (.tmp 13) rfl wj.heap.size 0 xs.toArray (by kernel_rfl) (by kernel_rfl) HU1.out HSB.out HO1.out (hK.out _ _ (fun _=>HG1.out) (fun _=>?_))
    clear hK K
    refine nx1 (i:=11) (h:=?_)
    refine ⟨_,rfl,fun K hK=>?_⟩
    refine ite_go (by kernel_rfl) ?_
    refine wp_store_mid 56 (.tmp 6) (.tmp 14) rfl Wa.heap.size 0 #[.map mv] (by kernel_rfl) (by kernel_rfl) HU2.out HST.out HO2.out (hK.out _ _ (fun _=>HG2.out) (fun _=>?_))
    clear hK K
    obtain ⟨WE,hWE⟩:∃WE,(Wb.setCells wj.heap.size 0 xs.toArray.toList).setCells Wa.heap.size 0 (#[.map mv]:Array Value).toList=WE:=⟨_,rfl⟩
    have HJE:=HJ.out
    rw [hWE] at HJE ⊢
    clear hWE
    refine nx1 (i:=12) (h:=?_)
    refine ⟨_,rfl,fun K hK=>?_⟩
    go_simp
    refine hK.out _ _ (fun h=>by cases h) (fun _=>?_)
    clear hK K
    refine wpAnyM_done (by kernel_rfl) ?_ _
    exact ⟨rfl,wj.heap.size,Wa.heap.size,xs,mv,_,_,_,_,_,_,_,_,rfl,HJE⟩
   ·refine ⟨_,rfl,fun K hK=>?_⟩
    go_simp
    obtain ⟨Wa,hWn⟩:∃Wa,wj.alloc (.cells #[.map none] 56)=Wa:=⟨_,rfl⟩
    have HBa:Hid (RowKit.Below W0.heap.size W0 Wa):=by unfold Hid;rw [←hWn];exact HBj.out.alloc HBj.out.size _
    have hX6:Wa.heap[wj.heap.size]?=some (.cells #[.map none] 56 (0,0)):=by rw [←hWn];exact alloc_new _ _
    have HX6:=Hid.mk hX6
    have HAa:Hid (RowKit.Below wj.heap.size wj Wa):=by unfold Hid;rw [←hWn];exact (Below.refl _ _).alloc (Nat.le_refl _) _
    have hsza:=heap_lt hX6
    clear hX6
    rw [hWn]
    clear hWn
    refine hK.out _ _ (fun _=>?_) (fun hHeld=>?_)
    ·(try dsimp only)
     exact HGS.out _ HBa.out
    replace hHeld:=hHeld rfl
    clear hK K
    refine nx1 (i:=8) (h:=?_)
    refine ⟨_,rfl,fun K hK=>?_⟩
    go_simp
    obtain ⟨Wb,hWn⟩:∃Wb,Wa.alloc (.cells #[.int .i64 0,.string { data:=#[] },.int .i64 0,.int .i64 0,.int .i64 0,.bool false,.string { data:=#[] },.slice none 0 0,.slice none 0 0,.int .i64 0,.int .i64 0,.bool false,.string { data:=#[] },.slice none 0 0,.slice none 0 0,.int .i64 0,.slice none 0 0] 39)=Wb:=⟨_,rfl⟩
    have HBb:Hid (RowKit.Below W0.heap.size W0 Wb):=by unfold Hid;rw [←hWn];exact HBa.out.alloc HBa.out.size _
    have hX5:Wb.heap[Wa.heap.size]?=some (.cells #[.int .i64 0,.string { data:=#[] },.int .i64 0,.int .i64 0,.int .i64 0,.bool false,.string { data:=#[] },.slice none 0 0,.slice none 0 0,.int .i64 0,.int .i64 0,.bool false,.string { data:=#[] },.slice none 0 0,.slice none 0 0,.int .i64 0,.slice none 0 0] 39 (0,0)):=by rw [←hWn];exact alloc_new _ _
    have HX5:=Hid.mk hX5
    have HAb:Hid (RowKit.Below Wa.heap.size Wa Wb):=by unfold Hid;rw [←hWn];exact (Below.refl _ _).alloc (Nat.le_refl _) _
    have hszb:=heap_lt hX5
    clear hX5
    rw [hWn]
    clear hWn
    refine hK.out _ _ (fun _=>?_) (fun hHeld=>?_)
    ·(try dsimp only)
     exact HGS.out _ HBb.out
    replace hHeld:=hHeld rfl
    clear hK K
    have hX5:Wb.heap[Wa.heap.size]?=some (.cells #[.int .i64 0,.string { data:=#[] },.int .i64 0,.int .i64 0,.int .i64 0,.bool false,.string { data:=#[] },.slice none 0 0,.slice none 0 0,.int .i64 0,.int .i64 0,.bool false,.string { data:=#[] },.slice none 0 0,.slice none 0 0,.int .i64 0,.slice none 0 0] 39 (0,0)):=HX5.out
    have hX6:Wb.heap[wj.heap.size]?=some (.cells #[.map none] 56 (0,0)):=(HAb.out.block _ (by omega)).trans HX6.out
    have hxt:xs.toArray.size=17:=by simp [HXL.out]
    have hJ:=PutJ.of (W0:=W0) (Wc:=WS) (w':=wj) (Wf:=Wb) (ds:=ds) (d:=d) (r:=PR) (X5:=Wa.heap.size) (X6:=wj.heap.size) (xs:=xs) (mv:=mv) (by omega) HXL.out HXO.out HOK.out (HAa.out.trans (HAb.out.mono (by omega))) HBb.out (by omega) (by omega) (by omega) (by omega) (by omega) hX5 hX6 rfl rfl
    have HU1:Hid (Wb.there Wa.heap.size 0 xs.toArray.size):=by unfold Hid;rw [hxt];exact there_of hX5 rfl 0 17 (Nat.le_refl 17)
    have HSB:Hid ((Tryz.prog.info? 39).map (·.size)=some xs.toArray.size):=by unfold Hid;rw [hxt];kernel_rfl
    have HO1:Hid (xs.toArray.all (·.oneCell')=true):=all_oneCell_toArray HXO.out
    have HST:Hid ((Tryz.prog.info? 56).map (·.size)=some (#[.map mv]:Array Value).size):=by unfold Hid;kernel_rfl
    have HO2:Hid ((#[.map mv]:Array Value).all (·.oneCell')=true):=by unfold Hid;simp [Value.oneCell']
    have q5:=sets_heap Wa.heap.size xs.toArray.toList 0 Wb
    have HU2:Hid ((Wb.setCells Wa.heap.size 0 xs.toArray.toList).there wj.heap.size 0 (#[.map mv]:Array Value).size):=there_of (n:=1) ((q5.2 _ (by omega)).trans hX6) rfl 0 1 (by omega)
    have HG1:Hid ((Wb.setCells Wa.heap.size 0 xs.toArray.toList).rangeAt w.heap.size 0 vs):=HGS.out _ (below_sets HBb.out (by omega) _)
    have HG2:Hid (((Wb.setCells Wa.heap.size 0 xs.toArray.toList).setCells wj.heap.size 0 (#[.map mv]:Array Value).toList).rangeAt w.heap.size 0 vs):=HGS.out _ hJ.below
    have HJ:=Hid.mk hJ
    clear hX5 hX6 hxt hJ q5
    refine nx1 (i:=10) (h:=?_)
    refine ⟨_,rfl,fun K hK=>?_⟩
    refine ite_go (by kernel_rfl) ?_
    refine wp_store_mid 39 (.tmp 5) (.tmp 13) rfl Wa.heap.size 0 xs.toArray (by kernel_rfl) (by kernel_rfl) HU1.out HSB.out HO1.out (hK.out _ _ (fun _=>HG1.out) (fun _=>?_))
    clear hK K
    refine nx1 (i:=11) (h:=?_)
    refine ⟨_,rfl,fun K hK=>?_⟩
    refine ite_go (by kernel_rfl) ?_
    refine wp_store_mid 56 (.tmp 6) (.tmp 14) rfl wj.heap.size 0 #[.map mv] (by kernel_rfl) (by kernel_rfl) HU2.out HST.out HO2.out (hK.out _ _ (fun _=>HG2.out) (fun _=>?_))
    clear hK K
    obtain ⟨WE,hWE⟩:∃WE,(Wb.setCells Wa.heap.size 0 xs.toArray.toList).setCells wj.heap.size 0 (#[.map mv]:Array Value).toList=WE:=⟨_,rfl⟩
    have HJE:=HJ.out
    rw [hWE] at HJE ⊢
    clear hWE
    refine nx1 (i:=12) (h:=?_)
    refine ⟨_,rfl,fun K hK=>?_⟩
    go_simp
    refine hK.out _ _ (fun h=>by cases h) (fun _=>?_)
    clear hK K
    refine wpAnyM_done (by kernel_rfl) ?_ _
    exact ⟨rfl,Wa.heap.size,wj.heap.size,xs,mv,_,_,_,_,_,_,_,_,rfl,HJE⟩
  ·refine ⟨_,rfl,fun K hK=>?_⟩
   go_simp
   obtain ⟨Wa,hWn⟩:∃Wa,WS.alloc (.cells #[.int .i64 0,.string { data:=#[] },.int .i64 0,.int .i64 0,.int .i64 0,.bool false,.string { data:=#[] },.slice none 0 0,.slice none 0 0,.int .i64 0,.int .i64 0,.bool false,.string { data:=#[] },.slice none 0 0,.slice none 0 0,.int .i64 0,.slice none 0 0] 39)=Wa:=⟨_,rfl⟩
   have HBa:Hid (RowKit.Below W0.heap.size W0 Wa):=by unfold Hid;rw [←hWn];exact HBS.out.alloc HBS.out.size _
   have hX5:Wa.heap[WS.heap.size]?=some (.cells #[.int .i64 0,.string { data:=#[] },.int .i64 0,.int .i64 0,.int .i64 0,.bool false,.string { data:=#[] },.slice none 0 0,.slice none 0 0,.int .i64 0,.int .i64 0,.bool false,.string { data:=#[] },.slice none 0 0,.slice none 0 0,.int .i64 0,.slice none 0 0] 39 (0,0)):=by rw [←hWn];exact alloc_new _ _
   have HX5:=Hid.mk hX5
   have HAa:Hid (RowKit.Below WS.heap.size WS Wa):=by unfold Hid;rw [←hWn];exact (Below.refl _ _).alloc (Nat.le_refl _) _
   have hsza:=heap_lt hX5
   clear hX5
   rw [hWn]
   clear hWn
   refine hK.out _ _ (fun _=>?_) (fun hHeld=>?_)
   ·(try dsimp only)
    exact HGS.out _ HBa.out
   replace hHeld:=hHeld rfl
   clear hK K
   refine wpAnyM_two (i:=3) (k:=9) (by kernel_rfl) ?_ ?_
   ·refine ⟨_,rfl,fun K hK=>?_⟩
    go_simp
    go_at_call 20
    refine (HCJ.out Wa HBa.out).mono ?_
    rintro e wj ⟨xs,mv,hxl,hxo,rfl,hbj,hok⟩
    have HBJ:Hid (RowKit.Below W0.heap.size W0 wj):=HBa.out.trans (hbj.mono HBa.out.size)
    have hcw:=hbj.size
    have HOK:=Hid.mk hok
    have HXO:=Hid.mk hxo
    have HXL:=Hid.mk hxl
    have HBJW:=Hid.mk hbj
    clear hbj hok hxo
    refine hK.out _ _ (fun _=>?_) (fun hHeld=>?_)
    ·(try dsimp only)
     exact HGS.out _ HBJ.out
    replace hHeld:=hHeld rfl
    clear hK K
    refine tkE (i:=4) (v:=.tuple #[.agg xs.toArray,.agg #[.map mv],.int .i64 PR]) (d:=some 8) rfl (hQ:=fun _ _ _ h=>by cases h.1) (hy:=(Or.inl ⟨by kernel_rfl,fun _ _=>by kernel_rfl⟩)) (h:=?_)
    refine tkE (i:=5) (v:=.agg xs.toArray) (d:=some 13) rfl (hQ:=fun _ _ _ h=>by cases h.1) (hy:=(Or.inl ⟨by kernel_rfl,fun w hSw=>by go_simp⟩)) (h:=?_)
    refine tkE (i:=6) (v:=.agg #[.map mv]) (d:=some 14) rfl (hQ:=fun _ _ _ h=>by cases h.1) (hy:=(Or.inl ⟨by kernel_rfl,fun w hSw=>by go_simp⟩)) (h:=?_)
    refine tkE (i:=7) (v:=.int .i64 PR) (d:=some 15) rfl (hQ:=fun _ _ _ h=>by cases h.1) (hy:=(Or.inl ⟨by kernel_rfl,fun w hSw=>by go_simp⟩)) (h:=?_)
    have HBj:=HBJ
    refine nx1 (i:=9) (h:=?_)
    refine ⟨_,rfl,fun K hK=>?_⟩
    go_simp
    obtain ⟨Wb,hWn⟩:∃Wb,wj.alloc (.cells #[.map none] 56)=Wb:=⟨_,rfl⟩
    have HBb:Hid (RowKit.Below W0.heap.size W0 Wb):=by unfold Hid;rw [←hWn];exact HBj.out.alloc HBj.out.size _
    have hX6:Wb.heap[wj.heap.size]?=some (.cells #[.map none] 56 (0,0)):=by rw [←hWn];exact alloc_new _ _
    have HX6:=Hid.mk hX6
    have HAb:Hid (RowKit.Below wj.heap.size wj Wb):=by unfold Hid;rw [←hWn];exact (Below.refl _ _).alloc (Nat.le_refl _) _
    have hszb:=heap_lt hX6
    clear hX6
    rw [hWn]
    clear hWn
    refine hK.out _ _ (fun _=>?_) (fun hHeld=>?_)
    ·(try dsimp only)
     exact HGS.out _ HBb.out
    replace hHeld:=hHeld rfl
    clear hK K
    have hX5:Wb.heap[WS.heap.size]?=some (.cells #[.int .i64 0,.string { data:=#[] },.int .i64 0,.int .i64 0,.int .i64 0,.bool false,.string { data:=#[] },.slice none 0 0,.slice none 0 0,.int .i64 0,.int .i64 0,.bool false,.string { data:=#[] },.slice none 0 0,.slice none 0 0,.int .i64 0,.slice none 0 0] 39 (0,0)):=(HAb.out.block _ (by omega)).trans ((HBJW.out.block _ (by omega)).trans HX5.out)
    have hX6:Wb.heap[wj.heap.size]?=some (.cells #[.map none] 56 (0,0)):=HX6.out
    have hxt:xs.toArray.size=17:=by simp [HXL.out]
    have hJ:=PutJ.of (W0:=W0) (Wc:=Wa) (w':=wj) (Wf:=Wb) (ds:=ds) (d:=d) (r:=PR) (X5:=WS.heap.size) (X6:=wj.heap.size) (xs:=xs) (mv:=mv) (by omega) HXL.out HXO.out HOK.out (HAb.out) HBb.out (by omega) (by omega) (by omega) (by omega) (by omega) hX5 hX6 rfl rfl
    have HU1:Hid (Wb.there WS.heap.size 0 xs.toArray.size):=by unfold Hid;rw [hxt];exact there_of hX5 rfl 0 17 (Nat.le_refl 17)
    have HSB:Hid ((Tryz.prog.info? 39).map (·.size)=some xs.toArray.size):=by unfold Hid;rw [hxt];kernel_rfl
    have HO1:Hid (xs.toArray.all (·.oneCell')=true):=all_oneCell_toArray HXO.out
    have HST:Hid ((Tryz.prog.info? 56).map (·.size)=some (#[.map mv]:Array Value).size):=by unfold Hid;kernel_rfl
    have HO2:Hid ((#[.map mv]:Array Value).all (·.oneCell')=true):=by unfold Hid;simp [Value.oneCell']
    have q5:=sets_heap WS.heap.size xs.toArray.toList 0 Wb
    have HU2:Hid ((Wb.setCells WS.heap.size 0 xs.toArray.toList).there wj.heap.size 0 (#[.map mv]:Array Value).size):=there_of (n:=1) ((q5.2 _ (by omega)).trans hX6) rfl 0 1 (by omega)
    have HG1:Hid ((Wb.setCells WS.heap.size 0 xs.toArray.toList).rangeAt w.heap.size 0 vs):=HGS.out _ (below_sets HBb.out (by omega) _)
    have HG2:Hid (((Wb.setCells WS.heap.size 0 xs.toArray.toList).setCells wj.heap.size 0 (#[.map mv]:Array Value).toList).rangeAt w.heap.size 0 vs):=HGS.out _ hJ.below
    have HJ:=Hid.mk hJ
    clear hX5 hX6 hxt hJ q5
    refine nx1 (i:=10) (h:=?_)
    refine ⟨_,rfl,fun K hK=>?_⟩
    refine ite_go (by kernel_rfl) ?_
    refine wp_store_mid 39 (.tmp 5) (.tmp 13) rfl WS.heap.size 0 xs.toArray (by kernel_rfl) (by kernel_rfl) HU1.out HSB.out HO1.out (hK.out _ _ (fun _=>HG1.out) (fun _=>?_))
    clear hK K
    refine nx1 (i:=11) (h:=?_)
    refine ⟨_,rfl,fun K hK=>?_⟩
    refine ite_go (by kernel_rfl) ?_
    refine wp_store_mid 56 (.tmp 6) (.tmp 14) rfl wj.heap.size 0 #[.map mv] (by kernel_rfl) (by kernel_rfl) HU2.out HST.out HO2.out (hK.out _ _ (fun _=>HG2.out) (fun _=>?_))
    clear hK K
    obtain ⟨WE,hWE⟩:∃WE,(Wb.setCells WS.heap.size 0 xs.toArray.toList).setCells wj.heap.size 0 (#[.map mv]:Array Value).toList=WE:=⟨_,rfl⟩
    have HJE:=HJ.out
    rw [hWE] at HJE ⊢
    clear hWE
    refine nx1 (i:=12) (h:=?_)
    refine ⟨_,rfl,fun K hK=>?_⟩
    go_simp
    refine hK.out _ _ (fun h=>by cases h) (fun _=>?_)
    clear hK K
    refine wpAnyM_done (by kernel_rfl) ?_ _
    exact ⟨rfl,WS.heap.size,wj.heap.size,xs,mv,_,_,_,_,_,_,_,_,rfl,HJE⟩
   ·refine ⟨_,rfl,fun K hK=>?_⟩
    go_simp
    obtain ⟨Wb,hWn⟩:∃Wb,Wa.alloc (.cells #[.map none] 56)=Wb:=⟨_,rfl⟩
    have HBb:Hid (RowKit.Below W0.heap.size W0 Wb):=by unfold Hid;rw [←hWn];exact HBa.out.alloc HBa.out.size _
    have hX6:Wb.heap[Wa.heap.size]?=some (.cells #[.map none] 56 (0,0)):=by rw [←hWn];exact alloc_new _ _
    have HX6:=Hid.mk hX6
    have HAb:Hid (RowKit.Below Wa.heap.size Wa Wb):=by unfold Hid;rw [←hWn];exact (Below.refl _ _).alloc (Nat.le_refl _) _
    have hszb:=heap_lt hX6
    clear hX6
    rw [hWn]
    clear hWn
    refine hK.out _ _ (fun _=>?_) (fun hHeld=>?_)
    ·(try dsimp only)
     exact HGS.out _ HBb.out
    replace hHeld:=hHeld rfl
    clear hK K
    refine nx1 (i:=3) (h:=?_)
    refine ⟨_,rfl,fun K hK=>?_⟩
    go_simp
    go_at_call 20
    refine (HCJ.out Wb HBb.out).mono ?_
    rintro e wj ⟨xs,mv,hxl,hxo,rfl,hbj,hok⟩
    have HBJ:Hid (RowKit.Below W0.heap.size W0 wj):=HBb.out.trans (hbj.mono HBb.out.size)
    have hcw:=hbj.size
    have HOK:=Hid.mk hok
    have HXO:=Hid.mk hxo
    have HXL:=Hid.mk hxl
    have HBJW:=Hid.mk hbj
    clear hbj hok hxo
    refine hK.out _ _ (fun _=>?_) (fun hHeld=>?_)
    ·(try dsimp only)
     exact HGS.out _ HBJ.out
    replace hHeld:=hHeld rfl
    clear hK K
    refine tkE (i:=4) (v:=.tuple #[.agg xs.toArray,.agg #[.map mv],.int .i64 PR]) (d:=some 8) rfl (hQ:=fun _ _ _ h=>by cases h.1) (hy:=(Or.inl ⟨by kernel_rfl,fun _ _=>by kernel_rfl⟩)) (h:=?_)
    refine tkE (i:=5) (v:=.agg xs.toArray) (d:=some 13) rfl (hQ:=fun _ _ _ h=>by cases h.1) (hy:=(Or.inl ⟨by kernel_rfl,fun w hSw=>by go_simp⟩)) (h:=?_)
    refine tkE (i:=6) (v:=.agg #[.map mv]) (d:=some 14) rfl (hQ:=fun _ _ _ h=>by cases h.1) (hy:=(Or.inl ⟨by kernel_rfl,fun w hSw=>by go_simp⟩)) (h:=?_)
    refine tkE (i:=7) (v:=.int .i64 PR) (d:=some 15) rfl (hQ:=fun _ _ _ h=>by cases h.1) (hy:=(Or.inl ⟨by kernel_rfl,fun w hSw=>by go_simp⟩)) (h:=?_)
    have HBj:=HBJ
    have hX5:wj.heap[WS.heap.size]?=some (.cells #[.int .i64 0,.string { data:=#[] },.int .i64 0,.int .i64 0,.int .i64 0,.bool false,.string { data:=#[] },.slice none 0 0,.slice none 0 0,.int .i64 0,.int .i64 0,.bool false,.string { data:=#[] },.slice none 0 0,.slice none 0 0,.int .i64 0,.slice none 0 0] 39 (0,0)):=(HBJW.out.block _ (by omega)).trans ((HAb.out.block _ (by omega)).trans HX5.out)
    have hX6:wj.heap[Wa.heap.size]?=some (.cells #[.map none] 56 (0,0)):=(HBJW.out.block _ (by omega)).trans HX6.out
    have hxt:xs.toArray.size=17:=by simp [HXL.out]
    have hJ:=PutJ.of (W0:=W0) (Wc:=Wb) (w':=wj) (Wf:=wj) (ds:=ds) (d:=d) (r:=PR) (X5:=WS.heap.size) (X6:=Wa.heap.size) (xs:=xs) (mv:=mv) (by omega) HXL.out HXO.out HOK.out (Below.refl _ _) HBj.out (by omega) (by omega) (by omega) (by omega) (by omega) hX5 hX6 rfl rfl
    have HU1:Hid (wj.there WS.heap.size 0 xs.toArray.size):=by unfold Hid;rw [hxt];exact there_of hX5 rfl 0 17 (Nat.le_refl 17)
    have HSB:Hid ((Tryz.prog.info? 39).map (·.size)=some xs.toArray.size):=by unfold Hid;rw [hxt];kernel_rfl
    have HO1:Hid (xs.toArray.all (·.oneCell')=true):=all_oneCell_toArray HXO.out
    have HST:Hid ((Tryz.prog.info? 56).map (·.size)=some (#[.map mv]:Array Value).size):=by unfold Hid;kernel_rfl
    have HO2:Hid ((#[.map mv]:Array Value).all (·.oneCell')=true):=by unfold Hid;simp [Value.oneCell']
    have q5:=sets_heap WS.heap.size xs.toArray.toList 0 wj
    have HU2:Hid ((wj.setCells WS.heap.size 0 xs.toArray.toList).there Wa.heap.size 0 (#[.map mv]:Array Value).size):=there_of (n:=1) ((q5.2 _ (by omega)).trans hX6) rfl 0 1 (by omega)
    have HG1:Hid ((wj.setCells WS.heap.size 0 xs.toArray.toList).rangeAt w.heap.size 0 vs):=HGS.out _ (below_sets HBj.out (by omega) _)
    have HG2:Hid (((wj.setCells WS.heap.size 0 xs.toArray.toList).setCells Wa.heap.size 0 (#[.map mv]:Array Value).toList).rangeAt w.heap.size 0 vs):=HGS.out _ hJ.below
    have HJ:=Hid.mk hJ
    clear hX5 hX6 hxt hJ q5
    refine nx1 (i:=10) (h:=?_)
    refine ⟨_,rfl,fun K hK=>?_⟩
    refine ite_go (by kernel_rfl) ?_
    refine wp_store_mid 39 (.tmp 5) (.tmp 13) rfl WS.heap.size 0 xs.toArray (by kernel_rfl) (by kernel_rfl) HU1.out HSB.out HO1.out (hK.out _ _ (fun _=>HG1.out) (fun _=>?_))
    clear hK K
    refine nx1 (i:=11) (h:=?_)
    refine ⟨_,rfl,fun K hK=>?_⟩
    refine ite_go (by kernel_rfl) ?_
    refine wp_store_mid 56 (.tmp 6) (.tmp 14) rfl Wa.heap.size 0 #[.map mv] (by kernel_rfl) (by kernel_rfl) HU2.out HST.out HO2.out (hK.out _ _ (fun _=>HG2.out) (fun _=>?_))
    clear hK K
    obtain ⟨WE,hWE⟩:∃WE,(wj.setCells WS.heap.size 0 xs.toArray.toList).setCells Wa.heap.size 0 (#[.map mv]:Array Value).toList=WE:=⟨_,rfl⟩
    have HJE:=HJ.out
    rw [hWE] at HJE ⊢
    clear hWE
    refine nx1 (i:=12) (h:=?_)
    refine ⟨_,rfl,fun K hK=>?_⟩
    go_simp
    refine hK.out _ _ (fun h=>by cases h) (fun _=>?_)
    clear hK K
    refine wpAnyM_done (by kernel_rfl) ?_ _
    exact ⟨rfl,WS.heap.size,Wa.heap.size,xs,mv,_,_,_,_,_,_,_,_,rfl,HJE⟩
  ·refine ⟨_,rfl,fun K hK=>?_⟩
   go_simp
   obtain ⟨Wa,hWn⟩:∃Wa,WS.alloc (.cells #[.map none] 56)=Wa:=⟨_,rfl⟩
   have HBa:Hid (RowKit.Below W0.heap.size W0 Wa):=by unfold Hid;rw [←hWn];exact HBS.out.alloc HBS.out.size _
   have hX6:Wa.heap[WS.heap.size]?=some (.cells #[.map none] 56 (0,0)):=by rw [←hWn];exact alloc_new _ _
   have HX6:=Hid.mk hX6
   have HAa:Hid (RowKit.Below WS.heap.size WS Wa):=by unfold Hid;rw [←hWn];exact (Below.refl _ _).alloc (Nat.le_refl _) _
   have hsza:=heap_lt hX6
   clear hX6
   rw [hWn]
   clear hWn
   refine hK.out _ _ (fun _=>?_) (fun hHeld=>?_)
   ·(try dsimp only)
    exact HGS.out _ HBa.out
   replace hHeld:=hHeld rfl
   clear hK K
   refine wpAnyM_two (i:=3) (k:=8) (by kernel_rfl) ?_ ?_
   ·refine ⟨_,rfl,fun K hK=>?_⟩
    go_simp
    go_at_call 20
    refine (HCJ.out Wa HBa.out).mono ?_
    rintro e wj ⟨xs,mv,hxl,hxo,rfl,hbj,hok⟩
    have HBJ:Hid (RowKit.Below W0.heap.size W0 wj):=HBa.out.trans (hbj.mono HBa.out.size)
    have hcw:=hbj.size
    have HOK:=Hid.mk hok
    have HXO:=Hid.mk hxo
    have HXL:=Hid.mk hxl
    have HBJW:=Hid.mk hbj
    clear hbj hok hxo
    refine hK.out _ _ (fun _=>?_) (fun hHeld=>?_)
    ·(try dsimp only)
     exact HGS.out _ HBJ.out
    replace hHeld:=hHeld rfl
    clear hK K
    refine tkE (i:=4) (v:=.tuple #[.agg xs.toArray,.agg #[.map mv],.int .i64 PR]) (d:=some 8) rfl (hQ:=fun _ _ _ h=>by cases h.1) (hy:=(Or.inl ⟨by kernel_rfl,fun _ _=>by kernel_rfl⟩)) (h:=?_)
    refine tkE (i:=5) (v:=.agg xs.toArray) (d:=some 13) rfl (hQ:=fun _ _ _ h=>by cases h.1) (hy:=(Or.inl ⟨by kernel_rfl,fun w hSw=>by go_simp⟩)) (h:=?_)
    refine tkE (i:=6) (v:=.agg #[.map mv]) (d:=some 14) rfl (hQ:=fun _ _ _ h=>by cases h.1) (hy:=(Or.inl ⟨by kernel_rfl,fun w hSw=>by go_simp⟩)) (h:=?_)
    refine tkE (i:=7) (v:=.int .i64 PR) (d:=some 15) rfl (hQ:=fun _ _ _ h=>by cases h.1) (hy:=(Or.inl ⟨by kernel_rfl,fun w hSw=>by go_simp⟩)) (h:=?_)
    have HBj:=HBJ
    refine nx1 (i:=8) (h:=?_)
    refine ⟨_,rfl,fun K hK=>?_⟩
    go_simp
    obtain ⟨Wb,hWn⟩:∃Wb,wj.alloc (.cells #[.int .i64 0,.string { data:=#[] },.int .i64 0,.int .i64 0,.int .i64 0,.bool false,.string { data:=#[] },.slice none 0 0,.slice none 0 0,.int .i64 0,.int .i64 0,.bool false,.string { data:=#[] },.slice none 0 0,.slice none 0 0,.int .i64 0,.slice none 0 0] 39)=Wb:=⟨_,rfl⟩
    have HBb:Hid (RowKit.Below W0.heap.size W0 Wb):=by unfold Hid;rw [←hWn];exact HBj.out.alloc HBj.out.size _
    have hX5:Wb.heap[wj.heap.size]?=some (.cells #[.int .i64 0,.string { data:=#[] },.int .i64 0,.int .i64 0,.int .i64 0,.bool false,.string { data:=#[] },.slice none 0 0,.slice none 0 0,.int .i64 0,.int .i64 0,.bool false,.string { data:=#[] },.slice none 0 0,.slice none 0 0,.int .i64 0,.slice none 0 0] 39 (0,0)):=by rw [←hWn];exact alloc_new _ _
    have HX5:=Hid.mk hX5
    have HAb:Hid (RowKit.Below wj.heap.size wj Wb):=by unfold Hid;rw [←hWn];exact (Below.refl _ _).alloc (Nat.le_refl _) _
    have hszb:=heap_lt hX5
    clear hX5
    rw [hWn]
    clear hWn
    refine hK.out _ _ (fun _=>?_) (fun hHeld=>?_)
    ·(try dsimp only)
     exact HGS.out _ HBb.out
    replace hHeld:=hHeld rfl
    clear hK K
    have hX5:Wb.heap[wj.heap.size]?=some (.cells #[.int .i64 0,.string { data:=#[] },.int .i64 0,.int .i64 0,.int .i64 0,.bool false,.string { data:=#[] },.slice none 0 0,.slice none 0 0,.int .i64 0,.int .i64 0,.bool false,.string { data:=#[] },.slice none 0 0,.slice none 0 0,.int .i64 0,.slice none 0 0] 39 (0,0)):=HX5.out
    have hX6:Wb.heap[WS.heap.size]?=some (.cells #[.map none] 56 (0,0)):=(HAb.out.block _ (by omega)).trans ((HBJW.out.block _ (by omega)).trans HX6.out)
    have hxt:xs.toArray.size=17:=by simp [HXL.out]
    have hJ:=PutJ.of (W0:=W0) (Wc:=Wa) (w':=wj) (Wf:=Wb) (ds:=ds) (d:=d) (r:=PR) (X5:=wj.heap.size) (X6:=WS.heap.size) (xs:=xs) (mv:=mv) (by omega) HXL.out HXO.out HOK.out (HAb.out) HBb.out (by omega) (by omega) (by omega) (by omega) (by omega) hX5 hX6 rfl rfl
    have HU1:Hid (Wb.there wj.heap.size 0 xs.toArray.size):=by unfold Hid;rw [hxt];exact there_of hX5 rfl 0 17 (Nat.le_refl 17)
    have HSB:Hid ((Tryz.prog.info? 39).map (·.size)=some xs.toArray.size):=by unfold Hid;rw [hxt];kernel_rfl
    have HO1:Hid (xs.toArray.all (·.oneCell')=true):=all_oneCell_toArray HXO.out
    have HST:Hid ((Tryz.prog.info? 56).map (·.size)=some (#[.map mv]:Array Value).size):=by unfold Hid;kernel_rfl
    have HO2:Hid ((#[.map mv]:Array Value).all (·.oneCell')=true):=by unfold Hid;simp [Value.oneCell']
    have q5:=sets_heap wj.heap.size xs.toArray.toList 0 Wb
    have HU2:Hid ((Wb.setCells wj.heap.size 0 xs.toArray.toList).there WS.heap.size 0 (#[.map mv]:Array Value).size):=there_of (n:=1) ((q5.2 _ (by omega)).trans hX6) rfl 0 1 (by omega)
    have HG1:Hid ((Wb.setCells wj.heap.size 0 xs.toArray.toList).rangeAt w.heap.size 0 vs):=HGS.out _ (below_sets HBb.out (by omega) _)
    have HG2:Hid (((Wb.setCells wj.heap.size 0 xs.toArray.toList).setCells WS.heap.size 0 (#[.map mv]:Array Value).toList).rangeAt w.heap.size 0 vs):=HGS.out _ hJ.below
    have HJ:=Hid.mk hJ
    clear hX5 hX6 hxt hJ q5
    refine nx1 (i:=10) (h:=?_)
    refine ⟨_,rfl,fun K hK=>?_⟩
    refine ite_go (by kernel_rfl) ?_
    refine wp_store_mid 39 (.tmp 5) (.tmp 13) rfl wj.heap.size 0 xs.toArray (by kernel_rfl) (by kernel_rfl) HU1.out HSB.out HO1.out (hK.out _ _ (fun _=>HG1.out) (fun _=>?_))
    clear hK K
    refine nx1 (i:=11) (h:=?_)
    refine ⟨_,rfl,fun K hK=>?_⟩
    refine ite_go (by kernel_rfl) ?_
    refine wp_store_mid 56 (.tmp 6) (.tmp 14) rfl WS.heap.size 0 #[.map mv] (by kernel_rfl) (by kernel_rfl) HU2.out HST.out HO2.out (hK.out _ _ (fun _=>HG2.out) (fun _=>?_))
    clear hK K
    obtain ⟨WE,hWE⟩:∃WE,(Wb.setCells wj.heap.size 0 xs.toArray.toList).setCells WS.heap.size 0 (#[.map mv]:Array Value).toList=WE:=⟨_,rfl⟩
    have HJE:=HJ.out
    rw [hWE] at HJE ⊢
    clear hWE
    refine nx1 (i:=12) (h:=?_)
    refine ⟨_,rfl,fun K hK=>?_⟩
    go_simp
    refine hK.out _ _ (fun h=>by cases h) (fun _=>?_)
    clear hK K
    refine wpAnyM_done (by kernel_rfl) ?_ _
    exact ⟨rfl,wj.heap.size,WS.heap.size,xs,mv,_,_,_,_,_,_,_,_,rfl,HJE⟩
   ·refine ⟨_,rfl,fun K hK=>?_⟩
    go_simp
    obtain ⟨Wb,hWn⟩:∃Wb,Wa.alloc (.cells #[.int .i64 0,.string { data:=#[] },.int .i64 0,.int .i64 0,.int .i64 0,.bool false,.string { data:=#[] },.slice none 0 0,.slice none 0 0,.int .i64 0,.int .i64 0,.bool false,.string { data:=#[] },.slice none 0 0,.slice none 0 0,.int .i64 0,.slice none 0 0] 39)=Wb:=⟨_,rfl⟩
    have HBb:Hid (RowKit.Below W0.heap.size W0 Wb):=by unfold Hid;rw [←hWn];exact HBa.out.alloc HBa.out.size _
    have hX5:Wb.heap[Wa.heap.size]?=some (.cells #[.int .i64 0,.string { data:=#[] },.int .i64 0,.int .i64 0,.int .i64 0,.bool false,.string { data:=#[] },.slice none 0 0,.slice none 0 0,.int .i64 0,.int .i64 0,.bool false,.string { data:=#[] },.slice none 0 0,.slice none 0 0,.int .i64 0,.slice none 0 0] 39 (0,0)):=by rw [←hWn];exact alloc_new _ _
    have HX5:=Hid.mk hX5
    have HAb:Hid (RowKit.Below Wa.heap.size Wa Wb):=by unfold Hid;rw [←hWn];exact (Below.refl _ _).alloc (Nat.le_refl _) _
    have hszb:=heap_lt hX5
    clear hX5
    rw [hWn]
    clear hWn
    refine hK.out _ _ (fun _=>?_) (fun hHeld=>?_)
    ·(try dsimp only)
     exact HGS.out _ HBb.out
    replace hHeld:=hHeld rfl
    clear hK K
    refine nx1 (i:=3) (h:=?_)
    refine ⟨_,rfl,fun K hK=>?_⟩
    go_simp
    go_at_call 20
    refine (HCJ.out Wb HBb.out).mono ?_
    rintro e wj ⟨xs,mv,hxl,hxo,rfl,hbj,hok⟩
    have HBJ:Hid (RowKit.Below W0.heap.size W0 wj):=HBb.out.trans (hbj.mono HBb.out.size)
    have hcw:=hbj.size
    have HOK:=Hid.mk hok
    have HXO:=Hid.mk hxo
    have HXL:=Hid.mk hxl
    have HBJW:=Hid.mk hbj
    clear hbj hok hxo
    refine hK.out _ _ (fun _=>?_) (fun hHeld=>?_)
    ·(try dsimp only)
     exact HGS.out _ HBJ.out
    replace hHeld:=hHeld rfl
    clear hK K
    refine tkE (i:=4) (v:=.tuple #[.agg xs.toArray,.agg #[.map mv],.int .i64 PR]) (d:=some 8) rfl (hQ:=fun _ _ _ h=>by cases h.1) (hy:=(Or.inl ⟨by kernel_rfl,fun _ _=>by kernel_rfl⟩)) (h:=?_)
    refine tkE (i:=5) (v:=.agg xs.toArray) (d:=some 13) rfl (hQ:=fun _ _ _ h=>by cases h.1) (hy:=(Or.inl ⟨by kernel_rfl,fun w hSw=>by go_simp⟩)) (h:=?_)
    refine tkE (i:=6) (v:=.agg #[.map mv]) (d:=some 14) rfl (hQ:=fun _ _ _ h=>by cases h.1) (hy:=(Or.inl ⟨by kernel_rfl,fun w hSw=>by go_simp⟩)) (h:=?_)
    refine tkE (i:=7) (v:=.int .i64 PR) (d:=some 15) rfl (hQ:=fun _ _ _ h=>by cases h.1) (hy:=(Or.inl ⟨by kernel_rfl,fun w hSw=>by go_simp⟩)) (h:=?_)
    have HBj:=HBJ
    have hX5:wj.heap[Wa.heap.size]?=some (.cells #[.int .i64 0,.string { data:=#[] },.int .i64 0,.int .i64 0,.int .i64 0,.bool false,.string { data:=#[] },.slice none 0 0,.slice none 0 0,.int .i64 0,.int .i64 0,.bool false,.string { data:=#[] },.slice none 0 0,.slice none 0 0,.int .i64 0,.slice none 0 0] 39 (0,0)):=(HBJW.out.block _ (by omega)).trans HX5.out
    have hX6:wj.heap[WS.heap.size]?=some (.cells #[.map none] 56 (0,0)):=(HBJW.out.block _ (by omega)).trans ((HAb.out.block _ (by omega)).trans HX6.out)
    have hxt:xs.toArray.size=17:=by simp [HXL.out]
    have hJ:=PutJ.of (W0:=W0) (Wc:=Wb) (w':=wj) (Wf:=wj) (ds:=ds) (d:=d) (r:=PR) (X5:=Wa.heap.size) (X6:=WS.heap.size) (xs:=xs) (mv:=mv) (by omega) HXL.out HXO.out HOK.out (Below.refl _ _) HBj.out (by omega) (by omega) (by omega) (by omega) (by omega) hX5 hX6 rfl rfl
    have HU1:Hid (wj.there Wa.heap.size 0 xs.toArray.size):=by unfold Hid;rw [hxt];exact there_of hX5 rfl 0 17 (Nat.le_refl 17)
    have HSB:Hid ((Tryz.prog.info? 39).map (·.size)=some xs.toArray.size):=by unfold Hid;rw [hxt];kernel_rfl
    have HO1:Hid (xs.toArray.all (·.oneCell')=true):=all_oneCell_toArray HXO.out
    have HST:Hid ((Tryz.prog.info? 56).map (·.size)=some (#[.map mv]:Array Value).size):=by unfold Hid;kernel_rfl
    have HO2:Hid ((#[.map mv]:Array Value).all (·.oneCell')=true):=by unfold Hid;simp [Value.oneCell']
    have q5:=sets_heap Wa.heap.size xs.toArray.toList 0 wj
    have HU2:Hid ((wj.setCells Wa.heap.size 0 xs.toArray.toList).there WS.heap.size 0 (#[.map mv]:Array Value).size):=there_of (n:=1) ((q5.2 _ (by omega)).trans hX6) rfl 0 1 (by omega)
    have HG1:Hid ((wj.setCells Wa.heap.size 0 xs.toArray.toList).rangeAt w.heap.size 0 vs):=HGS.out _ (below_sets HBj.out (by omega) _)
    have HG2:Hid (((wj.setCells Wa.heap.size 0 xs.toArray.toList).setCells WS.heap.size 0 (#[.map mv]:Array Value).toList).rangeAt w.heap.size 0 vs):=HGS.out _ hJ.below
    have HJ:=Hid.mk hJ
    clear hX5 hX6 hxt hJ q5
    refine nx1 (i:=10) (h:=?_)
    refine ⟨_,rfl,fun K hK=>?_⟩
    refine ite_go (by kernel_rfl) ?_
    refine wp_store_mid 39 (.tmp 5) (.tmp 13) rfl Wa.heap.size 0 xs.toArray (by kernel_rfl) (by kernel_rfl) HU1.out HSB.out HO1.out (hK.out _ _ (fun _=>HG1.out) (fun _=>?_))
    clear hK K
    refine nx1 (i:=11) (h:=?_)
    refine ⟨_,rfl,fun K hK=>?_⟩
    refine ite_go (by kernel_rfl) ?_
    refine wp_store_mid 56 (.tmp 6) (.tmp 14) rfl WS.heap.size 0 #[.map mv] (by kernel_rfl) (by kernel_rfl) HU2.out HST.out HO2.out (hK.out _ _ (fun _=>HG2.out) (fun _=>?_))
    clear hK K
    obtain ⟨WE,hWE⟩:∃WE,(wj.setCells Wa.heap.size 0 xs.toArray.toList).setCells WS.heap.size 0 (#[.map mv]:Array Value).toList=WE:=⟨_,rfl⟩
    have HJE:=HJ.out
    rw [hWE] at HJE ⊢
    clear hWE
    refine nx1 (i:=12) (h:=?_)
    refine ⟨_,rfl,fun K hK=>?_⟩
    go_simp
    refine hK.out _ _ (fun h=>by cases h) (fun _=>?_)
    clear hK K
    refine wpAnyM_done (by kernel_rfl) ?_ _
    exact ⟨rfl,Wa.heap.size,WS.heap.size,xs,mv,_,_,_,_,_,_,_,_,rfl,HJE⟩
 obtain ⟨rfl,X5,X6,xs,mv,z8,z9,z10,z11,z12,z13,z14,z15,rfl,hJ⟩:=hjoin
 obtain ⟨W1,hW1⟩:∃W1,W'=W1:=⟨_,rfl⟩
 rw [hW1] at hJ ⊢
 clear hW1
 have HJ:=Hid.mk hJ
 have hs1:=hJ.below.size
 have HB1:Hid (RowKit.Below w.heap.size w W1):=HB0.out.trans (hJ.below.mono (by omega))
 by_cases hP0:PR=0
 rotate_left
 ·have hP1:(PR==0)=false:=by simpa using hP0
  have HP0:=Hid.mk hP0
  clear hJ hP0
  go_wp2
  go_ret
  refine ⟨rfl,?_,HB1.out.mono (by omega),fun X hX hN=>⟨HB1.out.block X hX,hN.keep (HB1.out.block sb hsb)⟩⟩
  first
   | exact HS.out.on HB1.out
   | (rw [if_neg HP0.out];exact HS.out.on HB1.out)
 subst hP0
 obtain ⟨hE,hO,hlt,htw,mb,rfl,hTb,hmb⟩:=hJ.ok rfl
 obtain ⟨sa,scap,smv,hsbx,hrow,hT,hmv,hsas⟩:=HS.out.go
 have hrlt:∀k,ownB sa k=true→B≤k∧k<w.heap.size∧k≠sb:=fun k hk=>by
  obtain ⟨ys,-,-,hown0,-⟩:=hrow.go
  have h:=ownsX_lt hown0 hk
  refine ⟨h.1,h.2,fun e=>?_⟩
  rw [e,hsas] at hk
  cases hk
 have hPB:∀k,B≤k→(fun _:Nat=>false) k=false:=fun _ _=>rfl
 have hrowd:RowX 39 17 (EDx sb) W1.drew B (fun _=>false) sa scap ds:=hrow.move (EDx.moves sb) hPB HB1.out.size fun k hk _=>HB1.out.block k hk
 have hEd:EDx sb W1.drew (fun k=>oldB W0 k||(k==X5||k==X6)) xs (cleanD d):=ED.moves _ _ _ _ _ _ hE (Nat.le_refl _) fun k _ h2=>⟨by
  have h3:=h2
  rw [Bool.or_eq_false_iff] at h3
  have h4:=oldB_no h3.1
  show ((oldB W0 k||(k==X5||k==X6))||k==sb)=false
  rw [h2,Bool.false_or]
  simp
  omega,rfl⟩
 obtain ⟨xs8,hown8,hpush8⟩:=hrowd.add (EDx.moves sb) hPB hJ.len hEd (fun k h1 h2=>by
  rw [Bool.or_eq_false_iff] at h2
  have h3:=oldB_no h2.1
  refine ⟨rfl,?_⟩
  cases ho:ownB sa k
  ·rfl
  ·have:=(hrlt k ho).2.1;omega)
 have HOWN8:=Hid.mk hown8
 have HPUSH:=Hid.mk hpush8
 have hxl:xs.length=17:=hJ.len
 have HXO:=Hid.mk hJ.one
 have HNEWS:Hid (∀(j:Nat) (u:Value),xs[j]?=some u→(W1.drew.alloc (.cells xs.toArray 39)).cell? ((⟨W1.heap.size,0,none⟩:Addr).add j)=some u):=World.news_of_block (cs:=xs.toArray) (t:=39) (fr:=(0,0)) (alloc_new W1.drew (.cells xs.toArray 39))
 have HFO:Hid (List.foldl (fun (cs:Array Value) (x:Value×Nat)=>cs.setIfInBounds x.snd x.fst) #[.int .i64 0,.string { data:=#[] },.int .i64 0,.int .i64 0,.int .i64 0,.bool false,.string { data:=#[] },.slice none 0 0,.slice none 0 0,.int .i64 0,.int .i64 0,.bool false,.string { data:=#[] },.slice none 0 0,.slice none 0 0,.int .i64 0,.slice none 0 0] xs.zipIdx=xs.toArray):=fold_new _ _ (by rw [hxl];rfl)
 have HSX:Hid ((Tryz.prog.info? 39).map (·.size)=some xs.length):=by unfold Hid;rw [hxl];kernel_rfl
 have HSB1:=hsbx.keep (HB1.out.block sb hsb)
 have hszd:B≤(W1.drew.alloc (.cells xs.toArray 39)).heap.size:=Nat.le_trans (show B≤W1.heap.size by omega) ((Below.refl W1.drew.heap.size W1.drew).alloc (Nat.le_refl _) _).size
 have HGG:Hid (∀W:World,W.heap[sb]?=W1.heap[sb]?→W.heap[X5]?=W1.heap[X5]?→W.cell? ⟨sb,0,none⟩=some (.slice sa ds.length scap)∧W.rangeAt X5 0 xs):=fun W h1 h2=>⟨(HSB1.keep h1).c0,range_of (pre:=[]) (post:=[]) (h2.trans HJ.out.h5) (by simp) rfl⟩
 have hx5:=HJ.out.x5
 have hx6:=HJ.out.x6
 have hx5l:=heap_lt HJ.out.h5
 have hx6l:=heap_lt HJ.out.h6
 have HSBX:=Hid.mk hsbx
 have HROW:=Hid.mk hrow
 have HT:=Hid.mk hT
 have HMV:=Hid.mk hmv
 have HRL:=Hid.mk hrlt
 have HO:=Hid.mk hO
 have HTW:=Hid.mk htw
 have HTB:=Hid.mk hTb
 have HSBY:=Hid.mk HSB1
 clear hE hrow hT hmv hsas hsbx hO htw hTb hrowd hEd hown8 hpush8 hJ hrlt HSB1
 go_wp2_with fail
 refine wp_region_late (S:=fun w'=>w'.cell? ⟨sb,0,none⟩=some (.slice sa ds.length scap)∧w'.rangeAt X5 0 xs) (fun i=>i==10) mx ?_ (fun hHeld=>?_)
 ·(try dsimp only)
  exact HGG.out _ rfl rfl
 refine tkE (i:=0) (v:=.pointer (some ⟨sb,0,none⟩)) (d:=some 25) rfl (hy:=(Or.inl ⟨by kernel_rfl,fun _ _=>by kernel_rfl⟩)) (h:=?_)
 refine tkE (i:=1) (v:=.pointer (some ⟨sb,0,none⟩)) (d:=some 26) rfl (hy:=(Or.inl ⟨by kernel_rfl,fun _ _=>by kernel_rfl⟩)) (h:=?_)
 refine tkE (i:=2) (v:=.pointer (some ⟨sb,0,none⟩)) (d:=some 27) rfl (hy:=(Or.inl ⟨by kernel_rfl,fun w hSw=>by go_simp⟩)) (h:=?_)
 refine tkE (i:=3) (v:=.pointer (some ⟨sb,0,none⟩)) (d:=some 28) rfl (hy:=(Or.inl ⟨by kernel_rfl,fun w hSw=>by go_simp⟩)) (h:=?_)
 refine tkE (i:=4) (v:=.slice sa ds.length scap) (d:=some 29) rfl (hy:=(Or.inl ⟨by kernel_rfl,fun w hSw=>by go_simp⟩)) (h:=?_)
 refine tkE (i:=5) (v:=.agg xs.toArray) (d:=some 30) rfl (hy:=(yieldsIf_load_mid (by kernel_rfl) 39 (.tmp 5) rfl X5 0 (by kernel_rfl) xs _ (fun w hSw=>hSw.2) Tryz.underlying39 rfl HSX.out)) (h:=?_)
 refine nx1 (i:=6) (h:=?_)
 refine ⟨_,rfl,fun K hK=>?_⟩
 go_simp
 rw [HFO.out]
 refine hK.out _ _ (fun _=>?_) (fun hHeld=>?_)
 ·(try dsimp only)
  exact HGG.out _ (Below.heap_alloc W1.drew _ _ (by show sb<W1.heap.size;omega)) (Below.heap_alloc W1.drew _ _ hx5l)
 clear hK K
 refine nx1 (i:=7) (h:=?_)
 refine ⟨_,rfl,fun K hK=>?_⟩
 refine step_appD rfl _ _ rfl B (.slice sa ds.length scap) ds.length xs8 xs W1.heap.size 1 (by kernel_rfl) (by kernel_rfl) HOWN8.out hxl HNEWS.out HXO.out (by omega) hszd ?_
 intro g7 c7 W7 hown7 hgr7 hat7
 obtain ⟨hrow7,hk7⟩:=HPUSH.out g7 c7 W7 hown7 hgr7 hat7
 have HR7:=Hid.mk hrow7
 have HK7:Hid (∀k,k<W1.heap.size→ownB sa k=false→W7.heap[k]?=W1.heap[k]?):=fun k h1 h2=>hk7.block k h1 (by rw [h2];decide)
 have HO7:Hid (W7.os=W1.os∧W7.tape=W1.tape∧W7.output=W1.output):=⟨hk7.os,hk7.tape,hk7.output⟩
 have hs7:W1.heap.size≤W7.heap.size:=hk7.size
 have HAT7:Hid (ownB sa g7=true∨W1.heap.size≤g7):=by
  rcases hat7 with h | h
  ·refine Or.inl ?_
   cases sa with
   | none=>cases h
   | some ad=>simp only [Value.ownBlock,Option.some.injEq] at h;simp [ownB,h]
  ·refine Or.inr ?_
   rw [h]
   exact ((Below.refl W1.drew.heap.size W1.drew).alloc (Nat.le_refl _) _).size
 have hnr:∀k,ownB sa k=true→B≤k∧k<w.heap.size∧k≠sb:=HRL.out
 have HNR:Hid (∀k,¬(B≤k∧k<w.heap.size∧k≠sb)→ownB sa k=false):=fun k h=>by
  cases ho:ownB sa k
  ·rfl
  ·exact absurd (hnr k ho) h
 have hsb7:=HSBY.out.keep (HK7.out sb (by omega) (HNR.out sb (by omega)))
 have HSB7:=Hid.mk hsb7
 clear hown7 hgr7 hat7 hrow7 hk7 hnr hsb7
 refine hK.out _ _ (fun _=>?_) (fun hHeld=>?_)
 ·(try dsimp only)
  exact HGG.out _ (HK7.out sb (by omega) (HNR.out sb (by omega))) (HK7.out X5 hx5l (HNR.out X5 (by omega)))
 clear hK K
 refine nx1 (i:=8) (h:=?_)
 refine ⟨_,rfl,fun K hK=>?_⟩
 go_simp
 refine hK.out _ _ (fun _=>?_) (fun hHeld=>?_)
 ·(try dsimp only)
  exact HGG.out _ (HK7.out sb (by omega) (HNR.out sb (by omega))) (HK7.out X5 hx5l (HNR.out X5 (by omega)))
 clear hK K
 refine nx1 (i:=9) (h:=?_)
 refine ⟨_,rfl,fun K hK=>?_⟩
 go_simp
 refine hK.out _ _ (fun _=>?_) (fun hHeld=>?_)
 ·(try dsimp only)
  exact HGG.out _ (HK7.out sb (by omega) (HNR.out sb (by omega))) (HK7.out X5 hx5l (HNR.out X5 (by omega)))
 clear hK K
 obtain ⟨s0,s1,slt,sfz⟩:=HSB7.out.all
 refine nx1 (i:=10) (h:=?_)
 refine ⟨_,rfl,fun K hK=>?_⟩
 go_simp
 refine hK.out _ _ (fun h=>by cases h) (fun _=>?_)
 clear hK K
 refine wpAnyM_doneE (a':={ tmps:=#[.pointer (some ⟨sb,0,none⟩),.agg #[.int .i64 d.kind,.string d.name,.int .i64 d.levels,.int .i64 t0,.int .i64 t1,.bool t2,.string t3,.slice t4 t5 t6,.slice t7 t8 t9,.int .i64 v0,.int .i64 v1,.bool v2,.string v3,.slice v4 v5 v6,.slice v7 v8 v9,.int .i64 d.params,.slice ca d.ctors.length cc],undef,.pointer (some ⟨w.heap.size,0,none⟩),.int .i64 0,.pointer (some ⟨X5,0,none⟩),.pointer (some ⟨X6,0,none⟩),.int .i64 0,z8,z9,z10,z11,z12,z13,z14,z15,.int .i64 0,.bool true,.bool true,.pointer (some ⟨sb,0,none⟩),.bool false,.bool false,.int .i64 0,.bool false,undef,.pointer (some ⟨sb,0,none⟩),.pointer (some ⟨sb,0,none⟩),.pointer (some ⟨sb,0,none⟩),.pointer (some ⟨sb,0,none⟩),.slice sa ds.length scap,.agg xs.toArray,.slice (some ⟨W1.heap.size,0,none⟩) 1 1,.slice (some ⟨g7,0,none⟩) (ds.length+1) c7,.pointer (some ⟨sb,0,none⟩),.pointer (some ⟨sb,0,none⟩),undef,undef,undef,undef,undef],defers:=[] }) (by kernel_rfl) (by kernel_rfl) ?_ _
 obtain ⟨W8,hW8⟩:∃W8,W7.setCell ⟨sb,0,none⟩ (.slice (some ⟨g7,0,none⟩) (ds.length+1) c7)=W8:=⟨_,rfl⟩
 have h8o:∀k,k≠sb→W8.heap[k]?=W7.heap[k]?:=fun k hk=>by rw [←hW8];exact (sets_heap sb [.slice (some ⟨g7,0,none⟩) (ds.length+1) c7] 0 W7).2 k hk
 have h8s:W8.heap.size=W7.heap.size:=by rw [←hW8];exact (sets_heap sb [.slice (some ⟨g7,0,none⟩) (ds.length+1) c7] 0 W7).1
 have hb8:RowKit.Below B w W8:=by
  rw [←hW8]
  refine Below.setCell (B:=B) (p:=⟨sb,0,none⟩) ?_ hBs _
  exact ⟨HO7.out.1.trans HB1.out.os,HO7.out.2.1.trans HB1.out.tape,HO7.out.2.2.trans HB1.out.output,by have:=HB1.out.size;omega,fun k hk=>(HK7.out k (by have:=HB1.out.size;omega) (HNR.out k (by omega))).trans (HB1.out.block k (by omega))⟩
 have HSB8:Hid (SB W8 sb (.slice (some ⟨g7,0,none⟩) (ds.length+1) c7) (.map smv)):=by
  unfold Hid
  rw [←hW8]
  exact ⟨World.cell?_setCell_same _ _ _ s0,(World.cell?_setCell_other _ _ _ _ (by simp)).trans s1,fun o=>(World.frozen?_setCell _ _ _ _).trans (sfz o)⟩
 have hg7:ownB (some ⟨g7,0,none⟩) sb=false:=by
  simp only [ownB,beq_eq_false_iff_ne]
  rcases HAT7.out with h | h
  ·exact (HRL.out g7 h).2.2
  ·omega
 have HR8:Hid (RowX 39 17 (EDx sb) W8 B (fun _=>false) (some ⟨g7,0,none⟩) c7 (ds++[cleanD d])):=HR7.out.moveS (fun _ _=>rfl) (Nat.le_of_eq h8s.symm) hg7 fun k _ _ hk=>Or.inl (h8o k hk)
 have hw18:=HB1.out.size
 have HT8:Hid (Tb W8 smv (100*ds.length) (tabM ds)):=HT.out.keep fun b hb=>by
  have hne:=HMV.out b hb
  subst hb
  have hbl:=HT.out.lt
  exact (h8o b hne.2).trans ((HK7.out b (by omega) (HT.out.ne_row HROW.out)).trans (HB1.out.block b hbl))
 have HN8:Hid (Tb W8 (some mb) 100 (namesM (ds.length:Int) (cleanD d)).1):=HTB.out.keep fun b hb=>by
  cases hb
  have hbl:=HTB.out.lt
  exact (h8o mb (by omega)).trans (HK7.out mb hbl (HNR.out mb (by omega)))
 have h6:W8.heap[X6]?=some (.cells #[.map (some mb)] 56 (0,0)):=(h8o X6 (by omega)).trans ((HK7.out X6 hx6l (HNR.out X6 (by omega))).trans HJ.out.h6)
 have hx6c:W8.cell? ⟨X6,0,none⟩=some (.map (some mb)):=by rw [cell_of_row W8 _ 0 _ _ _ h6];rfl
 have hx68:=heap_lt h6
 have hml:100*500+100<maxLen:=by decide
 have hsm9:smv≠some mb:=fun e=>by
  have h2:=HT.out
  rw [e] at h2
  have:=h2.lt
  omega
 have HCJ9:=tjoin_any sb 1 (100*ds.length) 100 mb smv (tabM ds) (namesM (ds.length:Int) (cleanD d)).1 W8.drew HSB8.out.c1 HSB8.out.fz (HT8.out.keep fun _ _=>rfl) (HN8.out.keep fun _ _=>rfl) (fun e=>(HMV.out sb e).2 rfl) hsm9 (by omega) (by omega) (namesM_big HO.out) (tabM_big HS.out.own) (fun s hs=>by
  obtain ⟨x,hx,rfl⟩:=namesM_some.1 hs
  have h1:=HTW.out
  unfold twiceB at h1
  rw [Bool.or_eq_false_iff] at h1
  have h2:=List.any_eq_false.1 h1.2 x hx
  cases h3:tabM ds x.1 with
  | none=>rfl
  | some y=>rw [h3] at h2;exact absurd rfl h2)
 have HB8:=Hid.mk hb8
 have H8O:=Hid.mk h8o
 have h8s':=Nat.le_of_eq h8s
 have h8s'':=Nat.le_of_eq h8s.symm
 have HG8:Hid (∀W:World,W.heap[X6]?=W8.heap[X6]?→W.cell? ⟨X6,0,none⟩=some (.map (some mb))):=fun W h=>(World.cell?_of_block (a:=⟨X6,0,none⟩) h).trans hx6c
 rw [hW8]
 clear s0 s1 slt sfz hW8 h8o h8s hb8 h6 hx6c
 go_wp2_with fail
 refine wp_region_late (S:=fun w'=>w'.cell? ⟨X6,0,none⟩=some (.map (some mb))) (fun _=>false) mx ?_ (fun hHeld=>?_)
 ·(try dsimp only)
  exact HG8.out _ rfl
 refine tkE (i:=0) (v:=.pointer (some ⟨sb,0,none⟩)) (d:=some 35) rfl (hy:=(Or.inl ⟨by kernel_rfl,fun _ _=>by kernel_rfl⟩)) (h:=?_)
 refine tkE (i:=1) (v:=.pointer (some ⟨sb,0,none⟩)) (d:=some 36) rfl (hy:=(Or.inl ⟨by kernel_rfl,fun w hSw=>by go_simp⟩)) (h:=?_)
 refine tkE (i:=2) (v:=.pointer (some ⟨sb,1,none⟩)) (d:=some 37) rfl (hy:=(Or.inl ⟨by kernel_rfl,fun w hSw=>by go_simp⟩)) (h:=?_)
 refine tkE (i:=3) (v:=.agg #[.map (some mb)]) (d:=some 38) rfl (hy:=(Or.inl ⟨by kernel_rfl,fun w hSw=>by go_simp⟩)) (h:=?_)
 refine nx1 (i:=4) (h:=?_)
 refine ⟨_,rfl,fun K hK=>?_⟩
 go_simp
 go_at_call 21
 refine HCJ9.mono ?_
 rintro e w9 ⟨rfl,mv',hc9,hT9,hne9,hmv9,hk9,hco9,hfz9⟩
 have HB9:Hid (RowKit.Below B w w9):=HB8.out.trans ⟨hk9.os,hk9.tape,hk9.output,hk9.size,fun k hk=>hk9.block k (show k<W8.heap.size by omega) (by
  rintro (h | h)
  ·omega
  ·have:=(HMV.out k h).1;omega)⟩
 have HR9:Hid (RowX 39 17 (EDx sb) w9 B (fun _=>false) (some ⟨g7,0,none⟩) c7 (ds++[cleanD d])):=HR8.out.moveS (fun _ _=>rfl) hk9.size hg7 fun k hk _ hp=>by
  by_cases h1:smv=some k
  ·refine Or.inr ?_
   subst h1
   rcases HT8.out.go with ⟨h,-⟩ | ⟨b',D',h1,⟨es,ck,h2,-⟩,-⟩
   ·cases h
   ·cases h1;exact ⟨es,ck,h2⟩
  ·refine Or.inl (hk9.block k hk ?_)
   rintro (h | h)
   ·exact hp h
   ·exact h1 h
 have HSG9:Hid (SGG w9 B sb (ds++[cleanD d])):=by
  refine ⟨⟨some ⟨g7,0,none⟩,c7,mv',⟨?_,hc9,hfz9⟩,HR9.out,?_,fun b hb=>?_,hg7⟩,hBs,?_,fun x hx=>?_,fun h=>by simp at h⟩
  ·rw [List.length_append]
   exact (hco9 0 (by decide)).trans HSB8.out.c0
  ·rw [tabM_snoc,List.length_append]
   exact hT9
  ·rcases hmv9 with h | ⟨m,h,hm⟩
   ·rw [h] at hb;exact HMV.out b hb
   ·rw [h] at hb
    simp only [Option.some.injEq] at hb
    have h3:W8.heap.size≤m:=hm
    exact ⟨by omega,by omega⟩
  ·rw [List.length_append];simp;omega
  ·rcases List.mem_append.1 hx with h | h
   ·exact HS.out.own x h
   ·rw [List.mem_singleton.1 h];exact HO.out
 have HNI:Hid (∀X,X<w.heap.size→NotIn w sb X→w9.heap[X]?=w.heap[X]?∧NotIn w9 sb X):=fun X hX hN=>by
  have hn1:X≠sb:=hN.1
  have hn2:=hN.2.1 _ _ _ HSBX.out.c0
  have hn3:=hN.2.2 _ HSBX.out.c1
  refine ⟨(hk9.block X (show X<W8.heap.size by omega) (by
   rintro (h | h)
   ·exact hn1 h
   ·exact hn3 h)).trans ((H8O.out X hn1).trans ((HK7.out X (by omega) hn2).trans (HB1.out.block X hX))),hn1,fun a n cap hc=>?_,fun m hc=>?_⟩
  ·have h1:=(hco9 0 (by decide)).trans HSB8.out.c0
   rw [h1] at hc
   simp only [Option.some.injEq,Value.slice.injEq] at hc
   rw [←hc.1]
   simp only [ownB,beq_eq_false_iff_ne]
   rcases HAT7.out with h | h
   ·intro e
    rw [e] at h
    rw [h] at hn2
    cases hn2
   ·omega
  ·rw [hc9] at hc
   simp only [Option.some.injEq,Value.map.injEq] at hc
   rw [←hc]
   rcases hmv9 with h | ⟨m',h,hm⟩
   ·rw [h];exact hn3
   ·rw [h]
    have h3:W8.heap.size≤m':=hm
    intro e
    simp only [Option.some.injEq] at e
    omega
 have HG9:Hid (w9.cell? ⟨X6,0,none⟩=some (.map (some mb))):=HG8.out _ (hk9.block X6 hx68 (by
  rintro (h | h)
  ·omega
  ·have h2:=HT.out
   rw [h] at h2
   have:=h2.lt
   omega))
 clear hc9 hT9 hne9 hmv9 hk9 hco9 hfz9 HCJ9
 refine hK.out _ _ (fun _=>HG9.out) (fun _=>?_)
 clear hK K
 refine wpAnyM_done (by kernel_rfl) ?_ _
 go_wp2
 go_ret
 refine ⟨rfl,?_,HB9.out,HNI.out⟩
 exact HSG9.out
end Go.Proofs.YtgfgpjcnfnopnaaGreat
