/- The contract of telamonlaw5.Nat: the numbers, as a declaration. -/
import Derived.Test.YtgfgpjcnfnopnaaGreatQQ
namespace Go.Proofs.YtgfgpjcnfnopnaaGreat
open Go.RowKit Go.Sort Go.Lib
def natB:ByteArray:=⟨#[78,97,116]⟩
def zeroB:ByteArray:=⟨#[122,101,114,111]⟩
def sucB:ByteArray:=⟨#[115,117,99]⟩
def natT:Tm:=.mk 10 0 false natB [] []
def sucT:Tm:=.mk 3 0 false { data:=#[] } [] [natT,natT]
def setT:Tm:=.mk 2 0 false { data:=#[] } [(0,[])] []
def natD:Dl:=⟨3,natB,0,setT,.mk 0 0 false { data:=#[] } [] [],0,[(zeroB,natT),(sucB,sucT)]⟩
theorem TV.leafAny {w w':World}{v:Value}{f n:Int}{h:Bool}{nm:ByteArray}(ht:TV w v (.mk f n h nm [] [])):TV w' v (.mk f n h nm [] []):=by
 cases ht with
 | mk hl hln hlc hlm hkn hkc hkm hk kids=>exact TV.mk (kb:=0) (ko:=0) (Or.inl rfl) hln hlc hlm hkn hkc hkm (fun h=>absurd rfl h) (fun i t hi=>by simp at hi)
theorem setT_tv {w:World}{b:Nat}(hL:w.heap[b]?=some (.cells #[.int .i64 0,.slice none 0 0] 75 (0,0))):TV w (.agg #[.int .i64 2,.int .i64 0,.bool false,.string { data:=#[] },.slice (some ⟨b,0,none⟩) 1 1,.slice none 0 0]) setT:=by
 obtain ⟨c0,c1,clt,-⟩:=cells2f hL
 refine TV.mk (kb:=0) (ko:=0) (ls:=[(0,[])]) (ks:=[]) (Or.inr ⟨b,0,rfl,clt,fun i m xs hi=>?_⟩) (fun e=>by cases e) (Nat.le_refl _) (by simp) (fun _=>rfl) (Nat.le_refl _) (by omega) (fun h=>absurd rfl h) (fun i t hi=>by simp at hi)
 match i with
 | 0 =>
  simp at hi
  obtain ⟨rfl,rfl⟩:=hi
  exact ⟨c0,none,0,c1,Or.inl rfl,fun _=>rfl⟩
 | i+1=>simp at hi
theorem six_tc {w:World}{b:Nat}{x:Tm}{m0 m1 m2 m3 m4 m5 m6 m7 m8 m9:_}(hC:w.heap[b]?=some (.cells #[.int .i64 m0,.int .i64 m1,.bool m2,.string m3,.slice m4 m5 m6,.slice m7 m8 m9] 36 (0,0))) (hx:TV w (.agg #[.int .i64 m0,.int .i64 m1,.bool m2,.string m3,.slice m4 m5 m6,.slice m7 m8 m9]) x):TC w b 0 x:=by
 have hc:∀o v,(#[.int .i64 m0,.int .i64 m1,.bool m2,.string m3,.slice m4 m5 m6,.slice m7 m8 m9]:Array Value)[o]?=some v→w.cell? ⟨b,o,none⟩=some v:=fun o v h=>by rw [cell_of_row _ b o _ _ _ hC];exact h
 cases hx with
 | mk hl hln hlc hlm hkn hkc hkm hk kids=>exact TC.mk (hc 0 _ rfl) (hc 1 _ rfl) (hc 2 _ rfl) (hc 3 _ rfl) (hc 4 _ rfl) (hc 5 _ rfl) hl hln hlc hlm hkn hkc hkm hk kids
theorem ctors_ck {w:World}{b:Nat}{n1 n2:ByteArray}{x y:Tm}{m0 m1 m2 m3 m4 m5 m6 m7 m8 m9 q0 q1 q2 q3 q4 q5 q6 q7 q8 q9:_}(hC:w.heap[b]?=some (.cells #[.string n1,.int .i64 m0,.int .i64 m1,.bool m2,.string m3,.slice m4 m5 m6,.slice m7 m8 m9,.string n2,.int .i64 q0,.int .i64 q1,.bool q2,.string q3,.slice q4 q5 q6,.slice q7 q8 q9] 45 (0,0))) (hx:TV w (.agg #[.int .i64 m0,.int .i64 m1,.bool m2,.string m3,.slice m4 m5 m6,.slice m7 m8 m9]) x) (hy:TV w (.agg #[.int .i64 q0,.int .i64 q1,.bool q2,.string q3,.slice q4 q5 q6,.slice q7 q8 q9]) y):CK w (some ⟨b,0,none⟩) [(n1,x),(n2,y)]:=by
 have hc:∀o v,(#[.string n1,.int .i64 m0,.int .i64 m1,.bool m2,.string m3,.slice m4 m5 m6,.slice m7 m8 m9,.string n2,.int .i64 q0,.int .i64 q1,.bool q2,.string q3,.slice q4 q5 q6,.slice q7 q8 q9]:Array Value)[o]?=some v→w.cell? ⟨b,o,none⟩=some v:=fun o v h=>by rw [cell_of_row _ b o _ _ _ hC];exact h
 refine Or.inr ⟨b,0,rfl,heap_lt hC,fun i c hi=>?_⟩
 match i with
 | 0 =>
  simp at hi
  subst hi
  refine ⟨hc 0 _ rfl,?_⟩
  cases hx with
  | mk hl hln hlc hlm hkn hkc hkm hk kids=>exact TC.mk (hc 1 _ rfl) (hc 2 _ rfl) (hc 3 _ rfl) (hc 4 _ rfl) (hc 5 _ rfl) (hc 6 _ rfl) hl hln hlc hlm hkn hkc hkm hk kids
 | 1 =>
  simp at hi
  subst hi
  refine ⟨hc 7 _ rfl,?_⟩
  cases hy with
  | mk hl hln hlc hlm hkn hkc hkm hk kids=>exact TC.mk (hc 8 _ rfl) (hc 9 _ rfl) (hc 10 _ rfl) (hc 11 _ rfl) (hc 12 _ rfl) (hc 13 _ rfl) hl hln hlc hlm hkn hkc hkm hk kids
 | i+2=>simp at hi
theorem nat_end {w W:World}{LB CB:Nat}{m0 m1 m2 m3 m4 m5 m6 m7 m8 m9 q0 q1 q2 q3 q4 q5 q6 q7 q8 q9:_}(hl:LB≠w.heap.size) (hcb:CB≠w.heap.size) (hR:W.heap[w.heap.size]?=some (.cells #[.int .i64 0,.string { data:=#[] },.int .i64 0,.int .i64 0,.int .i64 0,.bool false,.string { data:=#[] },.slice none 0 0,.slice none 0 0,.int .i64 0,.int .i64 0,.bool false,.string { data:=#[] },.slice none 0 0,.slice none 0 0,.int .i64 0,.slice none 0 0] 39 (0,0))) (hL:W.heap[LB]?=some (.cells #[.int .i64 0,.slice none 0 0] 75 (0,0))) (hC:W.heap[CB]?=some (.cells #[.string zeroB,.int .i64 m0,.int .i64 m1,.bool m2,.string m3,.slice m4 m5 m6,.slice m7 m8 m9,.string sucB,.int .i64 q0,.int .i64 q1,.bool q2,.string q3,.slice q4 q5 q6,.slice q7 q8 q9] 45 (0,0))) (hm:TV w (.agg #[.int .i64 m0,.int .i64 m1,.bool m2,.string m3,.slice m4 m5 m6,.slice m7 m8 m9]) natT) (hq:TF W (fun k=>k==w.heap.size) (.agg #[.int .i64 q0,.int .i64 q1,.bool q2,.string q3,.slice q4 q5 q6,.slice q7 q8 q9]) sucT) (hb:RowKit.Below w.heap.size w W):(W.setCells w.heap.size 0 (#[.int .i64 3,.string natB,.int .i64 0,.int .i64 2,.int .i64 0,.bool false,.string { data:=#[] },.slice (some ⟨LB,0,none⟩) 1 1,.slice none 0 0,.int .i64 0,.int .i64 0,.bool false,.string { data:=#[] },.slice none 0 0,.slice none 0 0,.int .i64 0,.slice (some ⟨CB,0,none⟩) 2 2]:Array Value).toList).heap[w.heap.size]?=some (.cells ([.int .i64 3,.string natB,.int .i64 0,.int .i64 2,.int .i64 0,.bool false,.string { data:=#[] },.slice (some ⟨LB,0,none⟩) 1 1,.slice none 0 0,.int .i64 0,.int .i64 0,.bool false,.string { data:=#[] },.slice none 0 0,.slice none 0 0,.int .i64 0,.slice (some ⟨CB,0,none⟩) 2 2]:List Value).toArray 39 (0,0))∧DV (W.setCells w.heap.size 0 (#[.int .i64 3,.string natB,.int .i64 0,.int .i64 2,.int .i64 0,.bool false,.string { data:=#[] },.slice (some ⟨LB,0,none⟩) 1 1,.slice none 0 0,.int .i64 0,.int .i64 0,.bool false,.string { data:=#[] },.slice none 0 0,.slice none 0 0,.int .i64 0,.slice (some ⟨CB,0,none⟩) 2 2]:Array Value).toList) (.agg ([.int .i64 3,.string natB,.int .i64 0,.int .i64 2,.int .i64 0,.bool false,.string { data:=#[] },.slice (some ⟨LB,0,none⟩) 1 1,.slice none 0 0,.int .i64 0,.int .i64 0,.bool false,.string { data:=#[] },.slice none 0 0,.slice none 0 0,.int .i64 0,.slice (some ⟨CB,0,none⟩) 2 2]:List Value).toArray) natD∧RowKit.Below w.heap.size w (W.setCells w.heap.size 0 (#[.int .i64 3,.string natB,.int .i64 0,.int .i64 2,.int .i64 0,.bool false,.string { data:=#[] },.slice (some ⟨LB,0,none⟩) 1 1,.slice none 0 0,.int .i64 0,.int .i64 0,.bool false,.string { data:=#[] },.slice none 0 0,.slice none 0 0,.int .i64 0,.slice (some ⟨CB,0,none⟩) 2 2]:Array Value).toList):=by
 have hw:=sets_heap w.heap.size (#[.int .i64 3,.string natB,.int .i64 0,.int .i64 2,.int .i64 0,.bool false,.string { data:=#[] },.slice (some ⟨LB,0,none⟩) 1 1,.slice none 0 0,.int .i64 0,.int .i64 0,.bool false,.string { data:=#[] },.slice none 0 0,.slice none 0 0,.int .i64 0,.slice (some ⟨CB,0,none⟩) 2 2]:Array Value).toList 0 W
 refine ⟨sets_whole (c':=#[.int .i64 3,.string natB,.int .i64 0,.int .i64 2,.int .i64 0,.bool false,.string { data:=#[] },.slice (some ⟨LB,0,none⟩) 1 1,.slice none 0 0,.int .i64 0,.int .i64 0,.bool false,.string { data:=#[] },.slice none 0 0,.slice none 0 0,.int .i64 0,.slice (some ⟨CB,0,none⟩) 2 2]) hR rfl,⟨2,0,false,{ data:=#[] },some ⟨LB,0,none⟩,1,1,none,0,0,0,0,false,{ data:=#[] },none,0,0,none,0,0,some ⟨CB,0,none⟩,2,rfl,setT_tv ((hw.2 LB hl).trans hL),TV.leaf _ _ _ _,ctors_ck ((hw.2 CB hcb).trans hC) (TV.leafAny hm) ?_⟩,below_sets hb (Nat.le_refl _) _⟩
 exact (hq.move (Q:=fun k=>k==w.heap.size) (Nat.le_of_eq hw.1.symm) fun k _ hp=>⟨hp,hw.2 k (by simpa using hp)⟩).tv
set_option maxRecDepth 100000 in
set_option maxHeartbeats 8000000 in
theorem Nat5_any (w:World):Calls Tryz.prog 16 #[] w fun e w'=>∃zs:List Value,zs.length=17∧(∀v∈zs,v.oneCell'=true)∧e=.returned (.agg zs.toArray)∧DV w' (.agg zs.toArray) natD∧RowKit.Below w.heap.size w w':=by
 have mx:=mixed
 obtain ⟨W0,hW0⟩:∃W0,w.alloc (.cells #[.int .i64 0,.string { data:=#[] },.int .i64 0,.int .i64 0,.int .i64 0,.bool false,.string { data:=#[] },.slice none 0 0,.slice none 0 0,.int .i64 0,.int .i64 0,.bool false,.string { data:=#[] },.slice none 0 0,.slice none 0 0,.int .i64 0,.slice none 0 0] 39)=W0:=⟨_,rfl⟩
 have hb0:RowKit.Below w.heap.size w W0:=by rw [←hW0];exact (Below.refl _ _).alloc (Nat.le_refl _) _
 have HR0:Hid (W0.heap[w.heap.size]?=some (.cells #[.int .i64 0,.string { data:=#[] },.int .i64 0,.int .i64 0,.int .i64 0,.bool false,.string { data:=#[] },.slice none 0 0,.slice none 0 0,.int .i64 0,.int .i64 0,.bool false,.string { data:=#[] },.slice none 0 0,.slice none 0 0,.int .i64 0,.slice none 0 0] 39 (0,0))):=by unfold Hid;rw [←hW0];exact alloc_new _ _
 have hs0:=heap_lt HR0.out
 have HC:=Const_any natB W0
 have HW0:=Hid.mk hW0
 have HB0:=Hid.mk hb0
 clear hb0 hW0
 go_enter Tryz.func16,Tryz.ntmps16
 go_wp2_with (rw [HW0.out])
 refine HC.mono ?_
 rintro e w1 ⟨v,rfl,htv,hb1⟩
 obtain ⟨m0,m1,m2,m3,m4,m5,m6,m7,m8,m9,rfl⟩:=htv.shapeT
 have hs1:=hb1.size
 obtain ⟨W2,hW2⟩:∃W2,w1.alloc (.cells #[.int .i64 m0,.int .i64 m1,.bool m2,.string m3,.slice m4 m5 m6,.slice m7 m8 m9] 36)=W2:=⟨_,rfl⟩
 have hb2:RowKit.Below w1.heap.size w1 W2:=by rw [←hW2];exact (Below.refl _ _).alloc (Nat.le_refl _) _
 have HN2:Hid (W2.heap[w1.heap.size]?=some (.cells #[.int .i64 m0,.int .i64 m1,.bool m2,.string m3,.slice m4 m5 m6,.slice m7 m8 m9] 36 (0,0))):=by unfold Hid;rw [←hW2];exact alloc_new _ _
 have hs2:=heap_lt HN2.out
 have HBW2:Hid (RowKit.Below w.heap.size w W2):=HB0.out.trans ((hb1.trans (hb2.mono hs1)).mono (by omega))
 have HR2:Hid (W2.heap[w.heap.size]?=some (.cells #[.int .i64 0,.string { data:=#[] },.int .i64 0,.int .i64 0,.int .i64 0,.bool false,.string { data:=#[] },.slice none 0 0,.slice none 0 0,.int .i64 0,.int .i64 0,.bool false,.string { data:=#[] },.slice none 0 0,.slice none 0 0,.int .i64 0,.slice none 0 0] 39 (0,0))):=(hb2.block _ (by omega)).trans ((hb1.block _ hs0).trans HR0.out)
 have HM:=Hid.mk htv
 have HSM6:Hid ((Tryz.prog.info? 36).map (·.size)=some (#[.int .i64 m0,.int .i64 m1,.bool m2,.string m3,.slice m4 m5 m6,.slice m7 m8 m9]:Array Value).size):=by unfold Hid;kernel_rfl
 have HOM6:Hid ((#[.int .i64 m0,.int .i64 m1,.bool m2,.string m3,.slice m4 m5 m6,.slice m7 m8 m9]:Array Value).all (·.oneCell')=true):=by unfold Hid;simp [Value.oneCell']
 have HS6:Hid ((Tryz.prog.info? 36).map (·.size)=some ([.int .i64 m0,.int .i64 m1,.bool m2,.string m3,.slice m4 m5 m6,.slice m7 m8 m9]:List Value).length):=by unfold Hid;kernel_rfl
 have HGS:Hid (∀W,RowKit.Below W2.heap.size W2 W→W.rangeAt w1.heap.size 0 [.int .i64 m0,.int .i64 m1,.bool m2,.string m3,.slice m4 m5 m6,.slice m7 m8 m9]):=fun W h=>range_of (pre:=[]) (post:=[]) ((h.block _ hs2).trans HN2.out) rfl rfl
 have HCW:Hid (∀(W:World) (kb:Nat),RowKit.Below W2.heap.size W2 W→w.heap.size<kb→W.heap[kb]?=some (.cells #[.int .i64 m0,.int .i64 m1,.bool m2,.string m3,.slice m4 m5 m6,.slice m7 m8 m9] 36 (0,0))→Calls Tryz.prog 31 #[.int .i64 3,.slice (some ⟨kb,0,none⟩) 1 1,.slice none 0 0,.agg #[.int .i64 m0,.int .i64 m1,.bool m2,.string m3,.slice m4 m5 m6,.slice m7 m8 m9]] W fun e w'=>∃v',e=.returned v'∧ShapeT v'∧TF w' (fun k=>k==w.heap.size) v' sucT∧RowKit.Below W.heap.size W w'):=fun W kb hb hne hk=>by
  refine Wrap_any (fun k=>k==w.heap.size) 3 [natT] (some ⟨kb,0,none⟩) 1 natT (.agg #[.int .i64 m0,.int .i64 m1,.bool m2,.string m3,.slice m4 m5 m6,.slice m7 m8 m9]) W (Or.inr ⟨kb,0,rfl,by rw [maskB_size];exact heap_lt hk,fun i t hi=>?_⟩) (TV.leafAny htv) (by simp) (fun k hk=>by have h1:=hb.size;simp at hk;omega)
  match i with
  | 0 =>
   simp at hi
   subst hi
   have hk':(maskB (fun k=>k==w.heap.size) W).heap[kb]?=some (.cells #[.int .i64 m0,.int .i64 m1,.bool m2,.string m3,.slice m4 m5 m6,.slice m7 m8 m9] 36 (0,0)):=by rw [maskB_no _ (by simp;omega)];exact hk
   exact six_tc hk' (TV.leafAny htv)
  | i+1=>simp at hi
 have HW2:=Hid.mk hW2
 clear hb1 hb2 htv hW2 HC
 go_wp2_with (refine wpList_store_new rfl 36 _ _ rfl rfl rfl HSM6.out rfl HOM6.out ?_;rw [HW2.out])
 refine Code.wp_mono (Q:=fun e a' W'=>e=.normal∧∃(zs:List Value) (z1 z2 z3 z4 z5 z6 z7 z8 z9 z10 z11 z12 z13 z14:Value),a'={ tmps:=#[.pointer (some ⟨w.heap.size,0,none⟩),z1,z2,z3,z4,z5,z6,z7,z8,z9,z10,z11,z12,z13,z14],defers:=[] }∧zs.length=17∧(∀v∈zs,v.oneCell'=true)∧W'.heap[w.heap.size]?=some (.cells zs.toArray 39 (0,0))∧DV W' (.agg zs.toArray) natD∧RowKit.Below w.heap.size w W') (fun e a' W' hjoin=>?_) ?_
 rotate_left
 refine wp_region_late (S:=fun w'=>w'.rangeAt w1.heap.size 0 [.int .i64 m0,.int .i64 m1,.bool m2,.string m3,.slice m4 m5 m6,.slice m7 m8 m9]) (fun i=>i==12) mx ?_ (fun hHeld=>?_)
 ·(try dsimp only)
  exact HGS.out _ (Below.refl _ _).drew
 ·obtain ⟨WS,hWS⟩:∃WS,W2.drew=WS:=⟨_,rfl⟩
  have HBS:Hid (RowKit.Below W2.heap.size W2 WS):=by unfold Hid;rw [←hWS];exact (Below.refl _ _).drew
  have hsS:W2.heap.size≤WS.heap.size:=HBS.out.size
  rw [hWS] at hHeld ⊢
  clear hWS
  refine tkE (i:=0) (v:=.agg #[.int .i64 0,.slice none 0 0]) (d:=some 3) rfl (hQ:=fun _ _ _ h=>by cases h.1) (hy:=(Or.inl ⟨by kernel_rfl,fun _ _=>by kernel_rfl⟩)) (h:=?_)
  refine tkE (i:=3) (v:=.agg ([.int .i64 m0,.int .i64 m1,.bool m2,.string m3,.slice m4 m5 m6,.slice m7 m8 m9]:List Value).toArray) (d:=some 6) rfl (hQ:=fun _ _ _ h=>by cases h.1) (hy:=(yieldsIf_load_mid (by kernel_rfl) 36 (.tmp 1) rfl w1.heap.size 0 (by kernel_rfl) [.int .i64 m0,.int .i64 m1,.bool m2,.string m3,.slice m4 m5 m6,.slice m7 m8 m9] _ (fun w hSw=>hSw) Tryz.underlying36 rfl HS6.out)) (h:=?_)
  refine tkE (i:=4) (v:=.agg #[.string zeroB,.int .i64 m0,.int .i64 m1,.bool m2,.string m3,.slice m4 m5 m6,.slice m7 m8 m9]) (d:=some 7) rfl (hQ:=fun _ _ _ h=>by cases h.1) (hy:=(Or.inl ⟨by kernel_rfl,fun w hSw=>by go_simp;rfl⟩)) (h:=?_)
  refine tkE (i:=5) (v:=.agg ([.int .i64 m0,.int .i64 m1,.bool m2,.string m3,.slice m4 m5 m6,.slice m7 m8 m9]:List Value).toArray) (d:=some 8) rfl (hQ:=fun _ _ _ h=>by cases h.1) (hy:=(yieldsIf_load_mid (by kernel_rfl) 36 (.tmp 1) rfl w1.heap.size 0 (by kernel_rfl) [.int .i64 m0,.int .i64 m1,.bool m2,.string m3,.slice m4 m5 m6,.slice m7 m8 m9] _ (fun w hSw=>hSw) Tryz.underlying36 rfl HS6.out)) (h:=?_)
  refine tkE (i:=7) (v:=.agg ([.int .i64 m0,.int .i64 m1,.bool m2,.string m3,.slice m4 m5 m6,.slice m7 m8 m9]:List Value).toArray) (d:=some 10) rfl (hQ:=fun _ _ _ h=>by cases h.1) (hy:=(yieldsIf_load_mid (by kernel_rfl) 36 (.tmp 1) rfl w1.heap.size 0 (by kernel_rfl) [.int .i64 m0,.int .i64 m1,.bool m2,.string m3,.slice m4 m5 m6,.slice m7 m8 m9] _ (fun w hSw=>hSw) Tryz.underlying36 rfl HS6.out)) (h:=?_)
  refine wpAnyM_two (i:=1) (k:=6) (by kernel_rfl) ?_ ?_
  ·refine ⟨_,rfl,fun K hK=>?_⟩
   go_simp
   obtain ⟨Wa,hWn⟩:∃Wa,WS.alloc (.cells #[.int .i64 0,.slice none 0 0] 75)=Wa:=⟨_,rfl⟩
   have HBa:Hid (RowKit.Below W2.heap.size W2 Wa):=by unfold Hid;rw [←hWn];exact HBS.out.alloc HBS.out.size _
   have HXL:Hid (Wa.heap[WS.heap.size]?=some (.cells #[.int .i64 0,.slice none 0 0] 75 (0,0))):=by unfold Hid;rw [←hWn];exact alloc_new _ _
   have HAa:Hid (RowKit.Below WS.heap.size WS Wa):=by unfold Hid;rw [←hWn];exact (Below.refl _ _).alloc (Nat.le_refl _) _
   have hsza:=heap_lt HXL.out
   rw [hWn]
   clear hWn
   refine hK.out _ _ (fun _=>?_) (fun hHeld=>?_)
   ·(try dsimp only)
    exact HGS.out _ HBa.out
   replace hHeld:=hHeld rfl
   clear hK K
   refine tkE (i:=2) (v:=.agg #[.int .i64 2,.int .i64 0,.bool false,.string { data:=#[] },.slice (some ⟨WS.heap.size,0,none⟩) 1 1,.slice none 0 0]) (d:=some 5) rfl (hQ:=fun _ _ _ h=>by cases h.1) (hy:=(Or.inl ⟨by kernel_rfl,fun w hSw=>by go_simp⟩)) (h:=?_)
   refine nx1 (i:=6) (h:=?_)
   refine ⟨_,rfl,fun K hK=>?_⟩
   go_simp
   obtain ⟨Wb,hWn⟩:∃Wb,Wa.alloc (.cells #[.int .i64 m0,.int .i64 m1,.bool m2,.string m3,.slice m4 m5 m6,.slice m7 m8 m9] 36)=Wb:=⟨_,rfl⟩
   have HBb:Hid (RowKit.Below W2.heap.size W2 Wb):=by unfold Hid;rw [←hWn];exact HBa.out.alloc HBa.out.size _
   have HXK:Hid (Wb.heap[Wa.heap.size]?=some (.cells #[.int .i64 m0,.int .i64 m1,.bool m2,.string m3,.slice m4 m5 m6,.slice m7 m8 m9] 36 (0,0))):=by unfold Hid;rw [←hWn];exact alloc_new _ _
   have HAb:Hid (RowKit.Below Wa.heap.size Wa Wb):=by unfold Hid;rw [←hWn];exact (Below.refl _ _).alloc (Nat.le_refl _) _
   have hszb:=heap_lt HXK.out
   rw [hWn]
   clear hWn
   refine hK.out _ _ (fun _=>?_) (fun hHeld=>?_)
   ·(try dsimp only)
    exact HGS.out _ HBb.out
   replace hHeld:=hHeld rfl
   clear hK K
   refine nx1 (i:=8) (h:=?_)
   refine ⟨_,rfl,fun K hK=>?_⟩
   go_simp
   go_at_call 31
   have hkb:Wb.heap[Wa.heap.size]?=some (.cells #[.int .i64 m0,.int .i64 m1,.bool m2,.string m3,.slice m4 m5 m6,.slice m7 m8 m9] 36 (0,0)):=HXK.out
   refine (HCW.out Wb Wa.heap.size HBb.out (by omega) hkb).mono ?_
   rintro e wq ⟨v',rfl,⟨q0,q1,q2,q3,q4,q5,q6,q7,q8,q9,rfl⟩,hq,hbq⟩
   have HBq:Hid (RowKit.Below W2.heap.size W2 wq):=HBb.out.trans (hbq.mono HBb.out.size)
   have HAq:=Hid.mk hbq
   have HQ:=Hid.mk hq
   have hszq:=hbq.size
   clear hq hbq hkb
   refine hK.out _ _ (fun _=>?_) (fun hHeld=>?_)
   ·(try dsimp only)
    exact HGS.out _ HBq.out
   replace hHeld:=hHeld rfl
   clear hK K
   refine tkE (i:=9) (v:=.agg #[.string sucB,.int .i64 q0,.int .i64 q1,.bool q2,.string q3,.slice q4 q5 q6,.slice q7 q8 q9]) (d:=some 12) rfl (hQ:=fun _ _ _ h=>by cases h.1) (hy:=(Or.inl ⟨by kernel_rfl,fun w hSw=>by go_simp;rfl⟩)) (h:=?_)
   refine nx1 (i:=10) (h:=?_)
   refine ⟨_,rfl,fun K hK=>?_⟩
   go_simp
   obtain ⟨Wc,hWn⟩:∃Wc,wq.alloc (.cells #[.string zeroB,.int .i64 m0,.int .i64 m1,.bool m2,.string m3,.slice m4 m5 m6,.slice m7 m8 m9,.string sucB,.int .i64 q0,.int .i64 q1,.bool q2,.string q3,.slice q4 q5 q6,.slice q7 q8 q9] 45)=Wc:=⟨_,rfl⟩
   have HBc:Hid (RowKit.Below W2.heap.size W2 Wc):=by unfold Hid;rw [←hWn];exact HBq.out.alloc HBq.out.size _
   have HXC:Hid (Wc.heap[wq.heap.size]?=some (.cells #[.string zeroB,.int .i64 m0,.int .i64 m1,.bool m2,.string m3,.slice m4 m5 m6,.slice m7 m8 m9,.string sucB,.int .i64 q0,.int .i64 q1,.bool q2,.string q3,.slice q4 q5 q6,.slice q7 q8 q9] 45 (0,0))):=by unfold Hid;rw [←hWn];exact alloc_new _ _
   have HAc:Hid (RowKit.Below wq.heap.size wq Wc):=by unfold Hid;rw [←hWn];exact (Below.refl _ _).alloc (Nat.le_refl _) _
   have hszc:=heap_lt HXC.out
   rw [hWn]
   clear hWn
   refine hK.out _ _ (fun _=>?_) (fun hHeld=>?_)
   ·(try dsimp only)
    exact HGS.out _ HBc.out
   replace hHeld:=hHeld rfl
   clear hK K
   refine tkE (i:=11) (v:=.agg #[.int .i64 3,.string natB,.int .i64 0,.int .i64 2,.int .i64 0,.bool false,.string { data:=#[] },.slice (some ⟨WS.heap.size,0,none⟩) 1 1,.slice none 0 0,.int .i64 0,.int .i64 0,.bool false,.string { data:=#[] },.slice none 0 0,.slice none 0 0,.int .i64 0,.slice (some ⟨wq.heap.size,0,none⟩) 2 2]) (d:=some 14) rfl (hQ:=fun _ _ _ h=>by cases h.1) (hy:=(Or.inl ⟨by kernel_rfl,fun w hSw=>by go_simp;rfl⟩)) (h:=?_)
   have hL:Wc.heap[WS.heap.size]?=some (.cells #[.int .i64 0,.slice none 0 0] 75 (0,0)):=(HAc.out.block _ (by omega)).trans ((HAq.out.block _ (by omega)).trans ((HAb.out.block _ (by omega)).trans HXL.out))
   have hC:Wc.heap[wq.heap.size]?=some (.cells #[.string zeroB,.int .i64 m0,.int .i64 m1,.bool m2,.string m3,.slice m4 m5 m6,.slice m7 m8 m9,.string sucB,.int .i64 q0,.int .i64 q1,.bool q2,.string q3,.slice q4 q5 q6,.slice q7 q8 q9] 45 (0,0)):=HXC.out
   have hQ:TF Wc (fun k=>k==w.heap.size) (.agg #[.int .i64 q0,.int .i64 q1,.bool q2,.string q3,.slice q4 q5 q6,.slice q7 q8 q9]) sucT:=HQ.out.on HAc.out
   have hR:Wc.heap[w.heap.size]?=some (.cells #[.int .i64 0,.string { data:=#[] },.int .i64 0,.int .i64 0,.int .i64 0,.bool false,.string { data:=#[] },.slice none 0 0,.slice none 0 0,.int .i64 0,.int .i64 0,.bool false,.string { data:=#[] },.slice none 0 0,.slice none 0 0,.int .i64 0,.slice none 0 0] 39 (0,0)):=(HBc.out.block _ (heap_lt HR2.out)).trans HR2.out
   have HTH:Hid (Wc.there w.heap.size 0 (#[.int .i64 3,.string natB,.int .i64 0,.int .i64 2,.int .i64 0,.bool false,.string { data:=#[] },.slice (some ⟨WS.heap.size,0,none⟩) 1 1,.slice none 0 0,.int .i64 0,.int .i64 0,.bool false,.string { data:=#[] },.slice none 0 0,.slice none 0 0,.int .i64 0,.slice (some ⟨wq.heap.size,0,none⟩) 2 2]:Array Value).size):=there_of hR rfl 0 17 (Nat.le_refl 17)
   have HSY:Hid ((Tryz.prog.info? 39).map (·.size)=some (#[.int .i64 3,.string natB,.int .i64 0,.int .i64 2,.int .i64 0,.bool false,.string { data:=#[] },.slice (some ⟨WS.heap.size,0,none⟩) 1 1,.slice none 0 0,.int .i64 0,.int .i64 0,.bool false,.string { data:=#[] },.slice none 0 0,.slice none 0 0,.int .i64 0,.slice (some ⟨wq.heap.size,0,none⟩) 2 2]:Array Value).size):=by unfold Hid;kernel_rfl
   have HON:Hid ((#[.int .i64 3,.string natB,.int .i64 0,.int .i64 2,.int .i64 0,.bool false,.string { data:=#[] },.slice (some ⟨WS.heap.size,0,none⟩) 1 1,.slice none 0 0,.int .i64 0,.int .i64 0,.bool false,.string { data:=#[] },.slice none 0 0,.slice none 0 0,.int .i64 0,.slice (some ⟨wq.heap.size,0,none⟩) 2 2]:Array Value).all (·.oneCell')=true):=by unfold Hid;simp [Value.oneCell']
   have HE:=Hid.mk (nat_end (w:=w) (by omega) (by omega) hR hL hC (TV.leafAny HM.out) hQ (HBW2.out.trans (HBc.out.mono HBW2.out.size)))
   clear hL hC hQ hR
   refine nx1 (i:=12) (h:=?_)
   refine ⟨_,rfl,fun K hK=>?_⟩
   refine ite_go (by kernel_rfl) ?_
   refine wp_store_mid 39 (.tmp 0) (.tmp 14) rfl w.heap.size 0 #[.int .i64 3,.string natB,.int .i64 0,.int .i64 2,.int .i64 0,.bool false,.string { data:=#[] },.slice (some ⟨WS.heap.size,0,none⟩) 1 1,.slice none 0 0,.int .i64 0,.int .i64 0,.bool false,.string { data:=#[] },.slice none 0 0,.slice none 0 0,.int .i64 0,.slice (some ⟨wq.heap.size,0,none⟩) 2 2] (by kernel_rfl) (by kernel_rfl) HTH.out HSY.out HON.out ?_
   refine hK.out _ _ (fun h=>by cases h) (fun _=>?_)
   clear hK K
   refine wpAnyM_done (by kernel_rfl) ?_ _
   obtain ⟨g1,g2,g3⟩:=HE.out
   exact ⟨rfl,[.int .i64 3,.string natB,.int .i64 0,.int .i64 2,.int .i64 0,.bool false,.string { data:=#[] },.slice (some ⟨WS.heap.size,0,none⟩) 1 1,.slice none 0 0,.int .i64 0,.int .i64 0,.bool false,.string { data:=#[] },.slice none 0 0,.slice none 0 0,.int .i64 0,.slice (some ⟨wq.heap.size,0,none⟩) 2 2],_,_,_,_,_,_,_,_,_,_,_,_,_,_,rfl,rfl,by simp [Value.oneCell'],g1,g2,g3⟩
  ·refine ⟨_,rfl,fun K hK=>?_⟩
   go_simp
   obtain ⟨Wa,hWn⟩:∃Wa,WS.alloc (.cells #[.int .i64 m0,.int .i64 m1,.bool m2,.string m3,.slice m4 m5 m6,.slice m7 m8 m9] 36)=Wa:=⟨_,rfl⟩
   have HBa:Hid (RowKit.Below W2.heap.size W2 Wa):=by unfold Hid;rw [←hWn];exact HBS.out.alloc HBS.out.size _
   have HXK:Hid (Wa.heap[WS.heap.size]?=some (.cells #[.int .i64 m0,.int .i64 m1,.bool m2,.string m3,.slice m4 m5 m6,.slice m7 m8 m9] 36 (0,0))):=by unfold Hid;rw [←hWn];exact alloc_new _ _
   have HAa:Hid (RowKit.Below WS.heap.size WS Wa):=by unfold Hid;rw [←hWn];exact (Below.refl _ _).alloc (Nat.le_refl _) _
   have hsza:=heap_lt HXK.out
   rw [hWn]
   clear hWn
   refine hK.out _ _ (fun _=>?_) (fun hHeld=>?_)
   ·(try dsimp only)
    exact HGS.out _ HBa.out
   replace hHeld:=hHeld rfl
   clear hK K
   refine wpAnyM_two (i:=1) (k:=8) (by kernel_rfl) ?_ ?_
   ·refine ⟨_,rfl,fun K hK=>?_⟩
    go_simp
    obtain ⟨Wb,hWn⟩:∃Wb,Wa.alloc (.cells #[.int .i64 0,.slice none 0 0] 75)=Wb:=⟨_,rfl⟩
    have HBb:Hid (RowKit.Below W2.heap.size W2 Wb):=by unfold Hid;rw [←hWn];exact HBa.out.alloc HBa.out.size _
    have HXL:Hid (Wb.heap[Wa.heap.size]?=some (.cells #[.int .i64 0,.slice none 0 0] 75 (0,0))):=by unfold Hid;rw [←hWn];exact alloc_new _ _
    have HAb:Hid (RowKit.Below Wa.heap.size Wa Wb):=by unfold Hid;rw [←hWn];exact (Below.refl _ _).alloc (Nat.le_refl _) _
    have hszb:=heap_lt HXL.out
    rw [hWn]
    clear hWn
    refine hK.out _ _ (fun _=>?_) (fun hHeld=>?_)
    ·(try dsimp only)
     exact HGS.out _ HBb.out
    replace hHeld:=hHeld rfl
    clear hK K
    refine tkE (i:=2) (v:=.agg #[.int .i64 2,.int .i64 0,.bool false,.string { data:=#[] },.slice (some ⟨Wa.heap.size,0,none⟩) 1 1,.slice none 0 0]) (d:=some 5) rfl (hQ:=fun _ _ _ h=>by cases h.1) (hy:=(Or.inl ⟨by kernel_rfl,fun w hSw=>by go_simp⟩)) (h:=?_)
    refine nx1 (i:=8) (h:=?_)
    refine ⟨_,rfl,fun K hK=>?_⟩
    go_simp
    go_at_call 31
    have hkb:Wb.heap[WS.heap.size]?=some (.cells #[.int .i64 m0,.int .i64 m1,.bool m2,.string m3,.slice m4 m5 m6,.slice m7 m8 m9] 36 (0,0)):=(HAb.out.block _ (by omega)).trans HXK.out
    refine (HCW.out Wb WS.heap.size HBb.out (by omega) hkb).mono ?_
    rintro e wq ⟨v',rfl,⟨q0,q1,q2,q3,q4,q5,q6,q7,q8,q9,rfl⟩,hq,hbq⟩
    have HBq:Hid (RowKit.Below W2.heap.size W2 wq):=HBb.out.trans (hbq.mono HBb.out.size)
    have HAq:=Hid.mk hbq
    have HQ:=Hid.mk hq
    have hszq:=hbq.size
    clear hq hbq hkb
    refine hK.out _ _ (fun _=>?_) (fun hHeld=>?_)
    ·(try dsimp only)
     exact HGS.out _ HBq.out
    replace hHeld:=hHeld rfl
    clear hK K
    refine tkE (i:=9) (v:=.agg #[.string sucB,.int .i64 q0,.int .i64 q1,.bool q2,.string q3,.slice q4 q5 q6,.slice q7 q8 q9]) (d:=some 12) rfl (hQ:=fun _ _ _ h=>by cases h.1) (hy:=(Or.inl ⟨by kernel_rfl,fun w hSw=>by go_simp;rfl⟩)) (h:=?_)
    refine nx1 (i:=10) (h:=?_)
    refine ⟨_,rfl,fun K hK=>?_⟩
    go_simp
    obtain ⟨Wc,hWn⟩:∃Wc,wq.alloc (.cells #[.string zeroB,.int .i64 m0,.int .i64 m1,.bool m2,.string m3,.slice m4 m5 m6,.slice m7 m8 m9,.string sucB,.int .i64 q0,.int .i64 q1,.bool q2,.string q3,.slice q4 q5 q6,.slice q7 q8 q9] 45)=Wc:=⟨_,rfl⟩
    have HBc:Hid (RowKit.Below W2.heap.size W2 Wc):=by unfold Hid;rw [←hWn];exact HBq.out.alloc HBq.out.size _
    have HXC:Hid (Wc.heap[wq.heap.size]?=some (.cells #[.string zeroB,.int .i64 m0,.int .i64 m1,.bool m2,.string m3,.slice m4 m5 m6,.slice m7 m8 m9,.string sucB,.int .i64 q0,.int .i64 q1,.bool q2,.string q3,.slice q4 q5 q6,.slice q7 q8 q9] 45 (0,0))):=by unfold Hid;rw [←hWn];exact alloc_new _ _
    have HAc:Hid (RowKit.Below wq.heap.size wq Wc):=by unfold Hid;rw [←hWn];exact (Below.refl _ _).alloc (Nat.le_refl _) _
    have hszc:=heap_lt HXC.out
    rw [hWn]
    clear hWn
    refine hK.out _ _ (fun _=>?_) (fun hHeld=>?_)
    ·(try dsimp only)
     exact HGS.out _ HBc.out
    replace hHeld:=hHeld rfl
    clear hK K
    refine tkE (i:=11) (v:=.agg #[.int .i64 3,.string natB,.int .i64 0,.int .i64 2,.int .i64 0,.bool false,.string { data:=#[] },.slice (some ⟨Wa.heap.size,0,none⟩) 1 1,.slice none 0 0,.int .i64 0,.int .i64 0,.bool false,.string { data:=#[] },.slice none 0 0,.slice none 0 0,.int .i64 0,.slice (some ⟨wq.heap.size,0,none⟩) 2 2]) (d:=some 14) rfl (hQ:=fun _ _ _ h=>by cases h.1) (hy:=(Or.inl ⟨by kernel_rfl,fun w hSw=>by go_simp;rfl⟩)) (h:=?_)
    have hL:Wc.heap[Wa.heap.size]?=some (.cells #[.int .i64 0,.slice none 0 0] 75 (0,0)):=(HAc.out.block _ (by omega)).trans ((HAq.out.block _ (by omega)).trans HXL.out)
    have hC:Wc.heap[wq.heap.size]?=some (.cells #[.string zeroB,.int .i64 m0,.int .i64 m1,.bool m2,.string m3,.slice m4 m5 m6,.slice m7 m8 m9,.string sucB,.int .i64 q0,.int .i64 q1,.bool q2,.string q3,.slice q4 q5 q6,.slice q7 q8 q9] 45 (0,0)):=HXC.out
    have hQ:TF Wc (fun k=>k==w.heap.size) (.agg #[.int .i64 q0,.int .i64 q1,.bool q2,.string q3,.slice q4 q5 q6,.slice q7 q8 q9]) sucT:=HQ.out.on HAc.out
    have hR:Wc.heap[w.heap.size]?=some (.cells #[.int .i64 0,.string { data:=#[] },.int .i64 0,.int .i64 0,.int .i64 0,.bool false,.string { data:=#[] },.slice none 0 0,.slice none 0 0,.int .i64 0,.int .i64 0,.bool false,.string { data:=#[] },.slice none 0 0,.slice none 0 0,.int .i64 0,.slice none 0 0] 39 (0,0)):=(HBc.out.block _ (heap_lt HR2.out)).trans HR2.out
    have HTH:Hid (Wc.there w.heap.size 0 (#[.int .i64 3,.string natB,.int .i64 0,.int .i64 2,.int .i64 0,.bool false,.string { data:=#[] },.slice (some ⟨Wa.heap.size,0,none⟩) 1 1,.slice none 0 0,.int .i64 0,.int .i64 0,.bool false,.string { data:=#[] },.slice none 0 0,.slice none 0 0,.int .i64 0,.slice (some ⟨wq.heap.size,0,none⟩) 2 2]:Array Value).size):=there_of hR rfl 0 17 (Nat.le_refl 17)
    have HSY:Hid ((Tryz.prog.info? 39).map (·.size)=some (#[.int .i64 3,.string natB,.int .i64 0,.int .i64 2,.int .i64 0,.bool false,.string { data:=#[] },.slice (some ⟨Wa.heap.size,0,none⟩) 1 1,.slice none 0 0,.int .i64 0,.int .i64 0,.bool false,.string { data:=#[] },.slice none 0 0,.slice none 0 0,.int .i64 0,.slice (some ⟨wq.heap.size,0,none⟩) 2 2]:Array Value).size):=by unfold Hid;kernel_rfl
    have HON:Hid ((#[.int .i64 3,.string natB,.int .i64 0,.int .i64 2,.int .i64 0,.bool false,.string { data:=#[] },.slice (some ⟨Wa.heap.size,0,none⟩) 1 1,.slice none 0 0,.int .i64 0,.int .i64 0,.bool false,.string { data:=#[] },.slice none 0 0,.slice none 0 0,.int .i64 0,.slice (some ⟨wq.heap.size,0,none⟩) 2 2]:Array Value).all (·.oneCell')=true):=by unfold Hid;simp [Value.oneCell']
    have HE:=Hid.mk (nat_end (w:=w) (by omega) (by omega) hR hL hC (TV.leafAny HM.out) hQ (HBW2.out.trans (HBc.out.mono HBW2.out.size)))
    clear hL hC hQ hR
    refine nx1 (i:=12) (h:=?_)
    refine ⟨_,rfl,fun K hK=>?_⟩
    refine ite_go (by kernel_rfl) ?_
    refine wp_store_mid 39 (.tmp 0) (.tmp 14) rfl w.heap.size 0 #[.int .i64 3,.string natB,.int .i64 0,.int .i64 2,.int .i64 0,.bool false,.string { data:=#[] },.slice (some ⟨Wa.heap.size,0,none⟩) 1 1,.slice none 0 0,.int .i64 0,.int .i64 0,.bool false,.string { data:=#[] },.slice none 0 0,.slice none 0 0,.int .i64 0,.slice (some ⟨wq.heap.size,0,none⟩) 2 2] (by kernel_rfl) (by kernel_rfl) HTH.out HSY.out HON.out ?_
    refine hK.out _ _ (fun h=>by cases h) (fun _=>?_)
    clear hK K
    refine wpAnyM_done (by kernel_rfl) ?_ _
    obtain ⟨g1,g2,g3⟩:=HE.out
    exact ⟨rfl,[.int .i64 3,.string natB,.int .i64 0,.int .i64 2,.int .i64 0,.bool false,.string { data:=#[] },.slice (some ⟨Wa.heap.size,0,none⟩) 1 1,.slice none 0 0,.int .i64 0,.int .i64 0,.bool false,.string { data:=#[] },.slice none 0 0,.slice none 0 0,.int .i64 0,.slice (some ⟨wq.heap.size,0,none⟩) 2 2],_,_,_,_,_,_,_,_,_,_,_,_,_,_,rfl,rfl,by simp [Value.oneCell'],g1,g2,g3⟩
   ·refine ⟨_,rfl,fun K hK=>?_⟩
    go_simp
    go_at_call 31
    have hkb:Wa.heap[WS.heap.size]?=some (.cells #[.int .i64 m0,.int .i64 m1,.bool m2,.string m3,.slice m4 m5 m6,.slice m7 m8 m9] 36 (0,0)):=HXK.out
    refine (HCW.out Wa WS.heap.size HBa.out (by omega) hkb).mono ?_
    rintro e wq ⟨v',rfl,⟨q0,q1,q2,q3,q4,q5,q6,q7,q8,q9,rfl⟩,hq,hbq⟩
    have HBq:Hid (RowKit.Below W2.heap.size W2 wq):=HBa.out.trans (hbq.mono HBa.out.size)
    have HAq:=Hid.mk hbq
    have HQ:=Hid.mk hq
    have hszq:=hbq.size
    clear hq hbq hkb
    refine hK.out _ _ (fun _=>?_) (fun hHeld=>?_)
    ·(try dsimp only)
     exact HGS.out _ HBq.out
    replace hHeld:=hHeld rfl
    clear hK K
    refine tkE (i:=9) (v:=.agg #[.string sucB,.int .i64 q0,.int .i64 q1,.bool q2,.string q3,.slice q4 q5 q6,.slice q7 q8 q9]) (d:=some 12) rfl (hQ:=fun _ _ _ h=>by cases h.1) (hy:=(Or.inl ⟨by kernel_rfl,fun w hSw=>by go_simp;rfl⟩)) (h:=?_)
    refine wpAnyM_two (i:=1) (k:=10) (by kernel_rfl) ?_ ?_
    ·refine ⟨_,rfl,fun K hK=>?_⟩
     go_simp
     obtain ⟨Wb,hWn⟩:∃Wb,wq.alloc (.cells #[.int .i64 0,.slice none 0 0] 75)=Wb:=⟨_,rfl⟩
     have HBb:Hid (RowKit.Below W2.heap.size W2 Wb):=by unfold Hid;rw [←hWn];exact HBq.out.alloc HBq.out.size _
     have HXL:Hid (Wb.heap[wq.heap.size]?=some (.cells #[.int .i64 0,.slice none 0 0] 75 (0,0))):=by unfold Hid;rw [←hWn];exact alloc_new _ _
     have HAb:Hid (RowKit.Below wq.heap.size wq Wb):=by unfold Hid;rw [←hWn];exact (Below.refl _ _).alloc (Nat.le_refl _) _
     have hszb:=heap_lt HXL.out
     rw [hWn]
     clear hWn
     refine hK.out _ _ (fun _=>?_) (fun hHeld=>?_)
     ·(try dsimp only)
      exact HGS.out _ HBb.out
     replace hHeld:=hHeld rfl
     clear hK K
     refine tkE (i:=2) (v:=.agg #[.int .i64 2,.int .i64 0,.bool false,.string { data:=#[] },.slice (some ⟨wq.heap.size,0,none⟩) 1 1,.slice none 0 0]) (d:=some 5) rfl (hQ:=fun _ _ _ h=>by cases h.1) (hy:=(Or.inl ⟨by kernel_rfl,fun w hSw=>by go_simp⟩)) (h:=?_)
     refine nx1 (i:=10) (h:=?_)
     refine ⟨_,rfl,fun K hK=>?_⟩
     go_simp
     obtain ⟨Wc,hWn⟩:∃Wc,Wb.alloc (.cells #[.string zeroB,.int .i64 m0,.int .i64 m1,.bool m2,.string m3,.slice m4 m5 m6,.slice m7 m8 m9,.string sucB,.int .i64 q0,.int .i64 q1,.bool q2,.string q3,.slice q4 q5 q6,.slice q7 q8 q9] 45)=Wc:=⟨_,rfl⟩
     have HBc:Hid (RowKit.Below W2.heap.size W2 Wc):=by unfold Hid;rw [←hWn];exact HBb.out.alloc HBb.out.size _
     have HXC:Hid (Wc.heap[Wb.heap.size]?=some (.cells #[.string zeroB,.int .i64 m0,.int .i64 m1,.bool m2,.string m3,.slice m4 m5 m6,.slice m7 m8 m9,.string sucB,.int .i64 q0,.int .i64 q1,.bool q2,.string q3,.slice q4 q5 q6,.slice q7 q8 q9] 45 (0,0))):=by unfold Hid;rw [←hWn];exact alloc_new _ _
     have HAc:Hid (RowKit.Below Wb.heap.size Wb Wc):=by unfold Hid;rw [←hWn];exact (Below.refl _ _).alloc (Nat.le_refl _) _
     have hszc:=heap_lt HXC.out
     rw [hWn]
     clear hWn
     refine hK.out _ _ (fun _=>?_) (fun hHeld=>?_)
     ·(try dsimp only)
      exact HGS.out _ HBc.out
     replace hHeld:=hHeld rfl
     clear hK K
     refine tkE (i:=11) (v:=.agg #[.int .i64 3,.string natB,.int .i64 0,.int .i64 2,.int .i64 0,.bool false,.string { data:=#[] },.slice (some ⟨wq.heap.size,0,none⟩) 1 1,.slice none 0 0,.int .i64 0,.int .i64 0,.bool false,.string { data:=#[] },.slice none 0 0,.slice none 0 0,.int .i64 0,.slice (some ⟨Wb.heap.size,0,none⟩) 2 2]) (d:=some 14) rfl (hQ:=fun _ _ _ h=>by cases h.1) (hy:=(Or.inl ⟨by kernel_rfl,fun w hSw=>by go_simp;rfl⟩)) (h:=?_)
     have hL:Wc.heap[wq.heap.size]?=some (.cells #[.int .i64 0,.slice none 0 0] 75 (0,0)):=(HAc.out.block _ (by omega)).trans HXL.out
     have hC:Wc.heap[Wb.heap.size]?=some (.cells #[.string zeroB,.int .i64 m0,.int .i64 m1,.bool m2,.string m3,.slice m4 m5 m6,.slice m7 m8 m9,.string sucB,.int .i64 q0,.int .i64 q1,.bool q2,.string q3,.slice q4 q5 q6,.slice q7 q8 q9] 45 (0,0)):=HXC.out
     have hQ:TF Wc (fun k=>k==w.heap.size) (.agg #[.int .i64 q0,.int .i64 q1,.bool q2,.string q3,.slice q4 q5 q6,.slice q7 q8 q9]) sucT:=(HQ.out.on HAb.out).on HAc.out
     have hR:Wc.heap[w.heap.size]?=some (.cells #[.int .i64 0,.string { data:=#[] },.int .i64 0,.int .i64 0,.int .i64 0,.bool false,.string { data:=#[] },.slice none 0 0,.slice none 0 0,.int .i64 0,.int .i64 0,.bool false,.string { data:=#[] },.slice none 0 0,.slice none 0 0,.int .i64 0,.slice none 0 0] 39 (0,0)):=(HBc.out.block _ (heap_lt HR2.out)).trans HR2.out
     have HTH:Hid (Wc.there w.heap.size 0 (#[.int .i64 3,.string natB,.int .i64 0,.int .i64 2,.int .i64 0,.bool false,.string { data:=#[] },.slice (some ⟨wq.heap.size,0,none⟩) 1 1,.slice none 0 0,.int .i64 0,.int .i64 0,.bool false,.string { data:=#[] },.slice none 0 0,.slice none 0 0,.int .i64 0,.slice (some ⟨Wb.heap.size,0,none⟩) 2 2]:Array Value).size):=there_of hR rfl 0 17 (Nat.le_refl 17)
     have HSY:Hid ((Tryz.prog.info? 39).map (·.size)=some (#[.int .i64 3,.string natB,.int .i64 0,.int .i64 2,.int .i64 0,.bool false,.string { data:=#[] },.slice (some ⟨wq.heap.size,0,none⟩) 1 1,.slice none 0 0,.int .i64 0,.int .i64 0,.bool false,.string { data:=#[] },.slice none 0 0,.slice none 0 0,.int .i64 0,.slice (some ⟨Wb.heap.size,0,none⟩) 2 2]:Array Value).size):=by unfold Hid;kernel_rfl
     have HON:Hid ((#[.int .i64 3,.string natB,.int .i64 0,.int .i64 2,.int .i64 0,.bool false,.string { data:=#[] },.slice (some ⟨wq.heap.size,0,none⟩) 1 1,.slice none 0 0,.int .i64 0,.int .i64 0,.bool false,.string { data:=#[] },.slice none 0 0,.slice none 0 0,.int .i64 0,.slice (some ⟨Wb.heap.size,0,none⟩) 2 2]:Array Value).all (·.oneCell')=true):=by unfold Hid;simp [Value.oneCell']
     have HE:=Hid.mk (nat_end (w:=w) (by omega) (by omega) hR hL hC (TV.leafAny HM.out) hQ (HBW2.out.trans (HBc.out.mono HBW2.out.size)))
     clear hL hC hQ hR
     refine nx1 (i:=12) (h:=?_)
     refine ⟨_,rfl,fun K hK=>?_⟩
     refine ite_go (by kernel_rfl) ?_
     refine wp_store_mid 39 (.tmp 0) (.tmp 14) rfl w.heap.size 0 #[.int .i64 3,.string natB,.int .i64 0,.int .i64 2,.int .i64 0,.bool false,.string { data:=#[] },.slice (some ⟨wq.heap.size,0,none⟩) 1 1,.slice none 0 0,.int .i64 0,.int .i64 0,.bool false,.string { data:=#[] },.slice none 0 0,.slice none 0 0,.int .i64 0,.slice (some ⟨Wb.heap.size,0,none⟩) 2 2] (by kernel_rfl) (by kernel_rfl) HTH.out HSY.out HON.out ?_
     refine hK.out _ _ (fun h=>by cases h) (fun _=>?_)
     clear hK K
     refine wpAnyM_done (by kernel_rfl) ?_ _
     obtain ⟨g1,g2,g3⟩:=HE.out
     exact ⟨rfl,[.int .i64 3,.string natB,.int .i64 0,.int .i64 2,.int .i64 0,.bool false,.string { data:=#[] },.slice (some ⟨wq.heap.size,0,none⟩) 1 1,.slice none 0 0,.int .i64 0,.int .i64 0,.bool false,.string { data:=#[] },.slice none 0 0,.slice none 0 0,.int .i64 0,.slice (some ⟨Wb.heap.size,0,none⟩) 2 2],_,_,_,_,_,_,_,_,_,_,_,_,_,_,rfl,rfl,by simp [Value.oneCell'],g1,g2,g3⟩
    ·refine ⟨_,rfl,fun K hK=>?_⟩
     go_simp
     obtain ⟨Wb,hWn⟩:∃Wb,wq.alloc (.cells #[.string zeroB,.int .i64 m0,.int .i64 m1,.bool m2,.string m3,.slice m4 m5 m6,.slice m7 m8 m9,.string sucB,.int .i64 q0,.int .i64 q1,.bool q2,.string q3,.slice q4 q5 q6,.slice q7 q8 q9] 45)=Wb:=⟨_,rfl⟩
     have HBb:Hid (RowKit.Below W2.heap.size W2 Wb):=by unfold Hid;rw [←hWn];exact HBq.out.alloc HBq.out.size _
     have HXC:Hid (Wb.heap[wq.heap.size]?=some (.cells #[.string zeroB,.int .i64 m0,.int .i64 m1,.bool m2,.string m3,.slice m4 m5 m6,.slice m7 m8 m9,.string sucB,.int .i64 q0,.int .i64 q1,.bool q2,.string q3,.slice q4 q5 q6,.slice q7 q8 q9] 45 (0,0))):=by unfold Hid;rw [←hWn];exact alloc_new _ _
     have HAb:Hid (RowKit.Below wq.heap.size wq Wb):=by unfold Hid;rw [←hWn];exact (Below.refl _ _).alloc (Nat.le_refl _) _
     have hszb:=heap_lt HXC.out
     rw [hWn]
     clear hWn
     refine hK.out _ _ (fun _=>?_) (fun hHeld=>?_)
     ·(try dsimp only)
      exact HGS.out _ HBb.out
     replace hHeld:=hHeld rfl
     clear hK K
     refine nx1 (i:=1) (h:=?_)
     refine ⟨_,rfl,fun K hK=>?_⟩
     go_simp
     obtain ⟨Wc,hWn⟩:∃Wc,Wb.alloc (.cells #[.int .i64 0,.slice none 0 0] 75)=Wc:=⟨_,rfl⟩
     have HBc:Hid (RowKit.Below W2.heap.size W2 Wc):=by unfold Hid;rw [←hWn];exact HBb.out.alloc HBb.out.size _
     have HXL:Hid (Wc.heap[Wb.heap.size]?=some (.cells #[.int .i64 0,.slice none 0 0] 75 (0,0))):=by unfold Hid;rw [←hWn];exact alloc_new _ _
     have HAc:Hid (RowKit.Below Wb.heap.size Wb Wc):=by unfold Hid;rw [←hWn];exact (Below.refl _ _).alloc (Nat.le_refl _) _
     have hszc:=heap_lt HXL.out
     rw [hWn]
     clear hWn
     refine hK.out _ _ (fun _=>?_) (fun hHeld=>?_)
     ·(try dsimp only)
      exact HGS.out _ HBc.out
     replace hHeld:=hHeld rfl
     clear hK K
     refine tkE (i:=2) (v:=.agg #[.int .i64 2,.int .i64 0,.bool false,.string { data:=#[] },.slice (some ⟨Wb.heap.size,0,none⟩) 1 1,.slice none 0 0]) (d:=some 5) rfl (hQ:=fun _ _ _ h=>by cases h.1) (hy:=(Or.inl ⟨by kernel_rfl,fun w hSw=>by go_simp⟩)) (h:=?_)
     refine tkE (i:=11) (v:=.agg #[.int .i64 3,.string natB,.int .i64 0,.int .i64 2,.int .i64 0,.bool false,.string { data:=#[] },.slice (some ⟨Wb.heap.size,0,none⟩) 1 1,.slice none 0 0,.int .i64 0,.int .i64 0,.bool false,.string { data:=#[] },.slice none 0 0,.slice none 0 0,.int .i64 0,.slice (some ⟨wq.heap.size,0,none⟩) 2 2]) (d:=some 14) rfl (hQ:=fun _ _ _ h=>by cases h.1) (hy:=(Or.inl ⟨by kernel_rfl,fun w hSw=>by go_simp;rfl⟩)) (h:=?_)
     have hL:Wc.heap[Wb.heap.size]?=some (.cells #[.int .i64 0,.slice none 0 0] 75 (0,0)):=HXL.out
     have hC:Wc.heap[wq.heap.size]?=some (.cells #[.string zeroB,.int .i64 m0,.int .i64 m1,.bool m2,.string m3,.slice m4 m5 m6,.slice m7 m8 m9,.string sucB,.int .i64 q0,.int .i64 q1,.bool q2,.string q3,.slice q4 q5 q6,.slice q7 q8 q9] 45 (0,0)):=(HAc.out.block _ (by omega)).trans HXC.out
     have hQ:TF Wc (fun k=>k==w.heap.size) (.agg #[.int .i64 q0,.int .i64 q1,.bool q2,.string q3,.slice q4 q5 q6,.slice q7 q8 q9]) sucT:=(HQ.out.on HAb.out).on HAc.out
     have hR:Wc.heap[w.heap.size]?=some (.cells #[.int .i64 0,.string { data:=#[] },.int .i64 0,.int .i64 0,.int .i64 0,.bool false,.string { data:=#[] },.slice none 0 0,.slice none 0 0,.int .i64 0,.int .i64 0,.bool false,.string { data:=#[] },.slice none 0 0,.slice none 0 0,.int .i64 0,.slice none 0 0] 39 (0,0)):=(HBc.out.block _ (heap_lt HR2.out)).trans HR2.out
     have HTH:Hid (Wc.there w.heap.size 0 (#[.int .i64 3,.string natB,.int .i64 0,.int .i64 2,.int .i64 0,.bool false,.string { data:=#[] },.slice (some ⟨Wb.heap.size,0,none⟩) 1 1,.slice none 0 0,.int .i64 0,.int .i64 0,.bool false,.string { data:=#[] },.slice none 0 0,.slice none 0 0,.int .i64 0,.slice (some ⟨wq.heap.size,0,none⟩) 2 2]:Array Value).size):=there_of hR rfl 0 17 (Nat.le_refl 17)
     have HSY:Hid ((Tryz.prog.info? 39).map (·.size)=some (#[.int .i64 3,.string natB,.int .i64 0,.int .i64 2,.int .i64 0,.bool false,.string { data:=#[] },.slice (some ⟨Wb.heap.size,0,none⟩) 1 1,.slice none 0 0,.int .i64 0,.int .i64 0,.bool false,.string { data:=#[] },.slice none 0 0,.slice none 0 0,.int .i64 0,.slice (some ⟨wq.heap.size,0,none⟩) 2 2]:Array Value).size):=by unfold Hid;kernel_rfl
     have HON:Hid ((#[.int .i64 3,.string natB,.int .i64 0,.int .i64 2,.int .i64 0,.bool false,.string { data:=#[] },.slice (some ⟨Wb.heap.size,0,none⟩) 1 1,.slice none 0 0,.int .i64 0,.int .i64 0,.bool false,.string { data:=#[] },.slice none 0 0,.slice none 0 0,.int .i64 0,.slice (some ⟨wq.heap.size,0,none⟩) 2 2]:Array Value).all (·.oneCell')=true):=by unfold Hid;simp [Value.oneCell']
     have HE:=Hid.mk (nat_end (w:=w) (by omega) (by omega) hR hL hC (TV.leafAny HM.out) hQ (HBW2.out.trans (HBc.out.mono HBW2.out.size)))
     clear hL hC hQ hR
     refine nx1 (i:=12) (h:=?_)
     refine ⟨_,rfl,fun K hK=>?_⟩
     refine ite_go (by kernel_rfl) ?_
     refine wp_store_mid 39 (.tmp 0) (.tmp 14) rfl w.heap.size 0 #[.int .i64 3,.string natB,.int .i64 0,.int .i64 2,.int .i64 0,.bool false,.string { data:=#[] },.slice (some ⟨Wb.heap.size,0,none⟩) 1 1,.slice none 0 0,.int .i64 0,.int .i64 0,.bool false,.string { data:=#[] },.slice none 0 0,.slice none 0 0,.int .i64 0,.slice (some ⟨wq.heap.size,0,none⟩) 2 2] (by kernel_rfl) (by kernel_rfl) HTH.out HSY.out HON.out ?_
     refine hK.out _ _ (fun h=>by cases h) (fun _=>?_)
     clear hK K
     refine wpAnyM_done (by kernel_rfl) ?_ _
     obtain ⟨g1,g2,g3⟩:=HE.out
     exact ⟨rfl,[.int .i64 3,.string natB,.int .i64 0,.int .i64 2,.int .i64 0,.bool false,.string { data:=#[] },.slice (some ⟨Wb.heap.size,0,none⟩) 1 1,.slice none 0 0,.int .i64 0,.int .i64 0,.bool false,.string { data:=#[] },.slice none 0 0,.slice none 0 0,.int .i64 0,.slice (some ⟨wq.heap.size,0,none⟩) 2 2],_,_,_,_,_,_,_,_,_,_,_,_,_,_,rfl,rfl,by simp [Value.oneCell'],g1,g2,g3⟩
 obtain ⟨rfl,zs,z1,z2,z3,z4,z5,z6,z7,z8,z9,z10,z11,z12,z13,z14,rfl,hzl,hzo,hR,hd,hb⟩:=hjoin
 have HSZ:Hid ((Tryz.prog.info? 39).map (·.size)=some zs.length):=by unfold Hid;rw [hzl];kernel_rfl
 have HLD:=run_loadVar_mid (P:=Tryz.prog) W' w.heap.size 0 39 zs _ (range_of (pre:=[]) (post:=[]) hR (by simp) rfl) Tryz.underlying39 rfl HSZ.out
 have HZO:=Hid.mk hzo
 have HD:=Hid.mk hd
 have HBE:=Hid.mk hb
 have HZL:=Hid.mk hzl
 clear hzo hd hb hR hzl
 go_wp2
 exact bodyPost_ret (v:=.agg zs.toArray) (results_cell (s:=0) (t:=39) Tryz.results16 rfl HLD) rfl ⟨zs,HZL.out,HZO.out,rfl,HD.out,HBE.out⟩
end Go.Proofs.YtgfgpjcnfnopnaaGreat
