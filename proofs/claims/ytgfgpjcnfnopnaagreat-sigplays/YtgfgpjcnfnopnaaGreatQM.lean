/- The contract of (*Sig).judged: may a declaration be put? -/
import Derived.Test.YtgfgpjcnfnopnaaGreatQL
namespace Go.Proofs.YtgfgpjcnfnopnaaGreat
open Go.RowKit Go.Sort Go.Lib
theorem wpAnyM_takeE {P:Program}{ops:Array Oper}{Q:Exit→Act→World→Prop}{md:Region.Mode}{S:World→Prop}{late:Nat→Bool}{i:Nat}{oi:Oper}{v:Value}{d:Option Tmp}{fuel:Nat}{listed:Array Bool}{a:Act}{w:World}(hi:ops[i]?=some oi) (hd:oi.dst=d)
  (hs:Region.noSelect ops=true) (hf:Region.free md ops listed i=true) (hr:(Region.ready md ops listed).contains i=true) (hw:waitsM md ops late i=true)
  (hQ:∀c a w,Q (.panic c) (a.put d v) w→Q (.panic c) a w) (hy:YieldsIf P ops S oi v a) (hS:S w)
  (h:wpAnyM P md ops Q S late fuel (listed.setIfInBounds i true) (a.put d v) w):wpAnyM P md ops Q S late (fuel+1) listed a w:=by
 subst hd
 exact wpAnyM_take hi hs hf hr hw hQ hy hS h
theorem tkE {P:Program}{ops:Array Oper}{Q:Exit→Act→World→Prop}{md:Region.Mode}{S:World→Prop}{late:Nat→Bool}{i:Nat}{oi:Oper}{v:Value}{d:Option Tmp}{fuel:Nat}{listed:Array Bool}{a:Act}{w:World}(hi:ops[i]?=some oi) (hd:oi.dst=d:=by kernel_rfl) (hs:Region.noSelect ops=true:=by kernel_rfl) (hf:Region.free md ops listed i=true:=by kernel_rfl) (hr:(Region.ready md ops listed).contains i=true:=by kernel_rfl) (hw:waitsM md ops late i=true:=by kernel_rfl)
 (hQ:∀c a w,Q (.panic c) (a.put d v) w→Q (.panic c) a w:=by exact fun _ _ _ h=>h) (hy:YieldsIf P ops S oi v a) (hS:S w:=by assumption) (h:wpAnyM P md ops Q S late fuel (listed.setIfInBounds i true) (a.put d v) w):wpAnyM P md ops Q S late (fuel+1) listed a w:=wpAnyM_takeE hi hd hs hf hr hw hQ hy hS h
theorem wpAnyM_doneE {P:Program}{ops:Array Oper}{Q:Exit→Act→World→Prop}{md:Region.Mode}{S:World→Prop}{late:Nat→Bool}{listed:Array Bool}{a a':Act}{w:World}(hr:Region.ready md ops listed=[]) (ha:a=a') (h:Q .normal a' w):∀fuel,wpAnyM P md ops Q S late fuel listed a w:=by
 subst ha
 exact wpAnyM_done hr h
theorem mapM_three {P:Program}{w:World}{v1 v2 v3:Value}(f:ResultVar→Sem Value) (x1 x2 x3:ResultVar) (h1:(f x1).run P w=.ok v1 w) (h2:(f x2).run P w=.ok v2 w) (h3:(f x3).run P w=.ok v3 w):((#[x1,x2,x3]:Array ResultVar).mapM f).run P w=.ok #[v1,v2,v3] w:=by
 simp [go_sem,h1,h2,h3]
theorem results_three {P:Program}{fn:Func}{tmps:Array Value}{w:World}{s1 s2 s3:Nat}{t1 t2:TypeId}{p1 p2:Addr}{v1 v2 v3:Value}(hf:fn.results=#[.cell s1 t1,.cell s2 t2,.tmp s3]) (hp1:tmps.getD s1 undef=.pointer (some p1)) (hl1:(loadVar t1 p1).run P w=.ok v1 w) (hp2:tmps.getD s2 undef=.pointer (some p2)) (hl2:(loadVar t2 p2).run P w=.ok v2 w) (hp3:tmps.getD s3 undef=v3):(results fn tmps).run P w=.ok (.tuple #[v1,v2,v3]) w:=by
 unfold results
 rw [hf,Sem.run_bind,mapM_three (v1:=v1) (v2:=v2) (v3:=v3)]
 ·rfl
 ·show Sem.run P ((asAddr (tmps.getD s1 undef)).bind fun q=>loadVar t1 q) w=_
  rw [hp1]
  exact (Sem.run_bind _ _ _ _).trans hl1
 ·show Sem.run P ((asAddr (tmps.getD s2 undef)).bind fun q=>loadVar t2 q) w=_
  rw [hp2]
  exact (Sem.run_bind _ _ _ _).trans hl2
 ·show Sem.run P (pure (tmps.getD s3 undef)) w=_
  rw [hp3]
  rfl
theorem RightD.clean {d:Dl}(h:RightD d):RightD (cleanD d):=by
 obtain ⟨kd,nm,lv,ty,val,pr,cs⟩:=d
 refine ⟨h.kind,h.name,h.levels,⟨smT_clean _ _ h.ty.1,by rw [cleanD,clean_check];exact h.ty.2⟩,fun hk=>?_,fun hk=>?_,fun hk=>?_,fun hk c hc=>?_⟩
 ·have h1:=h.val hk
  change kd=2 at hk
  show okTm (if kd=2 then cleanT val else _)
  rw [if_pos hk]
  exact ⟨smT_clean _ _ h1.1,by rw [clean_check];exact h1.2⟩
 ·have h1:=h.params hk
  change kd=3 at hk
  show 0≤(if kd=3 then pr else 0)∧(if kd=3 then pr else 0)≤60
  rw [if_pos hk]
  exact h1
 ·have h1:=h.len hk
  change kd=3 at hk
  show (if kd=3 then cs.map cleanC else []).length≤40
  rw [if_pos hk,List.length_map]
  exact h1
 ·have h1:=h.ctors hk
  change kd=3 at hk
  change c∈(if kd=3 then cs.map cleanC else []) at hc
  rw [if_pos hk] at hc
  obtain ⟨c0,h0,rfl⟩:=List.mem_map.1 hc
  exact ⟨(h1 c0 h0).1,smT_clean _ _ (h1 c0 h0).2.1,by rw [cleanC,clean_check];exact (h1 c0 h0).2.2⟩
theorem OwnD.of {d:Dl}(hr:RightD d) (hs:smD d):OwnD (cleanD d):=⟨hr.clean,cleanD_clean d,cleanD_sm hs⟩
def JudgeOut (w:World) (ds:List Dl) (d:Dl) (r:Int) (e:Ending) (w':World):Prop:=∃(xs:List Value) (mv:Option Nat),xs.length=17∧(∀v∈xs,v.oneCell'=true)∧e=.returned (.tuple #[.agg xs.toArray,.agg #[.map mv],.int .i64 r])∧RowKit.Below w.heap.size w w'∧(r=0→ED w' (oldB w) xs (cleanD d)∧OwnD (cleanD d)∧ds.length<500∧twiceB ds (cleanD d)=false∧∃mb,mv=some mb∧Tb w' (some mb) 100 (namesM (ds.length:Int) (cleanD d)).1∧w.heap.size≤mb)
theorem ED.val {w:World}{P:Nat→Bool}{xs:List Value}{d:Dl}(h:ED w P xs d):DV w (.agg xs.toArray) d:=h.dv.subF (by rw [maskB_size];exact Nat.le_refl _) (fun _ _ hp=>(maskB_cell hp).2)
theorem Tb.some {w:World}{mv:Option Nat}{n:Nat}{M:ByteArray→Option (Int×Int)}(h:Tb w mv n M) {s:ByteArray}(hs:(M s).isSome=true):∃b,mv=Option.some b:=by
 rcases h.go with ⟨-,h2⟩ | ⟨b,D,h1,-⟩
 ·rw [h2 s] at hs;cases hs
 ·exact ⟨b,h1⟩
theorem meets_is {M:ByteArray→Option (Int×Int)}{d:Dl}{p:Int}(hown:OwnD d):(∃s:ByteArray,s.size≤maxLen∧((namesM p d).1 s).isSome=true∧(M s).isSome=true)↔((namesD d).any fun x=>(M x.1).isSome)=true:=by
 rw [List.any_eq_true]
 constructor
 ·rintro ⟨s,-,h1,h2⟩
  obtain ⟨x,hx,rfl⟩:=namesM_some.1 h1
  exact ⟨x,hx,h2⟩
 ·rintro ⟨x,hx,h2⟩
  have:=namesD_size hown x hx
  have:=maxLen_60
  exact ⟨x.1,by omega,namesM_some.2 ⟨x,hx,rfl⟩,h2⟩
theorem rightOf {d:Dl}{bs:List UInt8}(h:declsRes [d]=.ok bs) (hsm:smD d):RightD d:=by
 unfold declsRes at h
 rw [if_neg (by simp)] at h
 by_cases h1:judgDs [d]≠0
 ·rw [if_pos h1] at h;cases h
 ·have h2:judgDs [d]=0:=Decidable.not_not.1 h1
  unfold judgDs at h2
  by_cases h3:judgD d=0
  ·exact okR.right ⟨hsm,h3⟩
  ·rw [if_neg h3] at h2;exact absurd h2 h3
set_option maxRecDepth 100000 in
set_option maxHeartbeats 8000000 in
theorem sjudged_any {B:Nat}(ds:List Dl) (sb:Nat) (d:Dl) (v:Value) (w:World) (hS:SGG w B sb ds) (hv:DV w v d) (hsm:smD d):Calls Tryz.prog 20 #[.pointer (some ⟨sb,0,none⟩),v] w (JudgeOut w ds d (putRes ds d)):=by
 obtain ⟨t0,t1,t2,t3,t4,t5,t6,t7,t8,t9,v0,v1,v2,v3,v4,v5,v6,v7,v8,v9,ca,cc,rfl,-,-,-⟩:=hv.go
 have mx:=mixed
 have hsb:=hS.lt
 obtain ⟨vs,hvs⟩:∃vs:List Value,vs=[.int .i64 d.kind,.string d.name,.int .i64 d.levels,.int .i64 t0,.int .i64 t1,.bool t2,.string t3,.slice t4 t5 t6,.slice t7 t8 t9,.int .i64 v0,.int .i64 v1,.bool v2,.string v3,.slice v4 v5 v6,.slice v7 v8 v9,.int .i64 d.params,.slice ca d.ctors.length cc]:=⟨_,rfl⟩
 have hva:vs.toArray=#[.int .i64 d.kind,.string d.name,.int .i64 d.levels,.int .i64 t0,.int .i64 t1,.bool t2,.string t3,.slice t4 t5 t6,.slice t7 t8 t9,.int .i64 v0,.int .i64 v1,.bool v2,.string v3,.slice v4 v5 v6,.slice v7 v8 v9,.int .i64 d.params,.slice ca d.ctors.length cc]:=by rw [hvs]
 have hvl:vs.length=17:=by rw [hvs];rfl
 have hvo:∀v∈vs,v.oneCell'=true:=by rw [hvs];simp [Value.oneCell']
 rw [←hva] at hv
 obtain ⟨zz,hzz⟩:∃zz:List Value,zz=[.int .i64 0,.string { data:=#[] },.int .i64 0,.int .i64 0,.int .i64 0,.bool false,.string { data:=#[] },.slice none 0 0,.slice none 0 0,.int .i64 0,.int .i64 0,.bool false,.string { data:=#[] },.slice none 0 0,.slice none 0 0,.int .i64 0,.slice none 0 0]:=⟨_,rfl⟩
 have HZL:Hid (zz.length=17):=by unfold Hid;rw [hzz];rfl
 have HZO:Hid (∀v∈zz,v.oneCell'=true):=by unfold Hid;rw [hzz];simp [Value.oneCell']
 have hza:zz.toArray=#[.int .i64 0,.string { data:=#[] },.int .i64 0,.int .i64 0,.int .i64 0,.bool false,.string { data:=#[] },.slice none 0 0,.slice none 0 0,.int .i64 0,.int .i64 0,.bool false,.string { data:=#[] },.slice none 0 0,.slice none 0 0,.int .i64 0,.slice none 0 0]:=by rw [hzz]
 obtain ⟨W0,hW0⟩:∃W0,((w.alloc (.cells #[.int .i64 d.kind,.string d.name,.int .i64 d.levels,.int .i64 t0,.int .i64 t1,.bool t2,.string t3,.slice t4 t5 t6,.slice t7 t8 t9,.int .i64 v0,.int .i64 v1,.bool v2,.string v3,.slice v4 v5 v6,.slice v7 v8 v9,.int .i64 d.params,.slice ca d.ctors.length cc] 39)).alloc (.cells #[.int .i64 0,.string { data:=#[] },.int .i64 0,.int .i64 0,.int .i64 0,.bool false,.string { data:=#[] },.slice none 0 0,.slice none 0 0,.int .i64 0,.int .i64 0,.bool false,.string { data:=#[] },.slice none 0 0,.slice none 0 0,.int .i64 0,.slice none 0 0] 39)).alloc (.cells #[.map none] 56)=W0:=⟨_,rfl⟩
 have hb0:RowKit.Below w.heap.size w W0:=by rw [←hW0];exact (((Below.refl _ _).alloc (Nat.le_refl _) _).alloc (by simp) _).alloc (by simp;omega) _
 have HA0:Hid (W0.heap[w.heap.size]?=some (.cells vs.toArray 39 (0,0))):=by unfold Hid;rw [←hW0,hva];exact (Below.heap_alloc _ _ _ (by simp;omega)).trans box_at
 have HR0:Hid (W0.heap[(w.heap.size+1)]?=some (.cells zz.toArray 39 (0,0))):=by unfold Hid;rw [←hW0,hza];exact (Below.heap_alloc _ _ _ (by simp)).trans box_at1
 have HY0:Hid (W0.heap[(w.heap.size+1+1)]?=some (.cells #[.map none] 56 (0,0))):=by unfold Hid;rw [←hW0];have:=alloc_new ((w.alloc (.cells #[.int .i64 d.kind,.string d.name,.int .i64 d.levels,.int .i64 t0,.int .i64 t1,.bool t2,.string t3,.slice t4 t5 t6,.slice t7 t8 t9,.int .i64 v0,.int .i64 v1,.bool v2,.string v3,.slice v4 v5 v6,.slice v7 v8 v9,.int .i64 d.params,.slice ca d.ctors.length cc] 39)).alloc (.cells #[.int .i64 0,.string { data:=#[] },.int .i64 0,.int .i64 0,.int .i64 0,.bool false,.string { data:=#[] },.slice none 0 0,.slice none 0 0,.int .i64 0,.int .i64 0,.bool false,.string { data:=#[] },.slice none 0 0,.slice none 0 0,.int .i64 0,.slice none 0 0] 39)) (.cells #[.map none] 56);simpa using this
 have hs0:W0.heap.size=w.heap.size+3:=by rw [←hW0];simp
 have hs0a:=Nat.le_of_eq hs0
 have hs0b:=Nat.le_of_eq hs0.symm
 have HRG:Hid (W0.rangeAt w.heap.size 0 vs):=range_of (pre:=[]) (post:=[]) HA0.out (by simp) rfl
 have HSV:Hid ((Tryz.prog.info? 39).map (·.size)=some vs.length):=by unfold Hid;rw [hvl];kernel_rfl
 have HFO:Hid (List.foldl (fun (cs:Array Value) (x:Value×Nat)=>cs.setIfInBounds x.snd x.fst) #[.int .i64 0,.string { data:=#[] },.int .i64 0,.int .i64 0,.int .i64 0,.bool false,.string { data:=#[] },.slice none 0 0,.slice none 0 0,.int .i64 0,.int .i64 0,.bool false,.string { data:=#[] },.slice none 0 0,.slice none 0 0,.int .i64 0,.slice none 0 0] vs.zipIdx=vs.toArray):=fold_new _ _ (by rw [hvl];rfl)
 have hbX:RowKit.Below w.heap.size w (W0.alloc (.cells vs.toArray 39)):=hb0.alloc (by omega) _
 have HC1:=Decls_any [d] (some ⟨W0.heap.size,0,none⟩) 1 (W0.alloc (.cells vs.toArray 39)) (Or.inr ⟨W0.heap.size,0,rfl,by simp,fun i x hi=>by
  match i with
  | 0 =>
   simp only [List.getElem?_cons_zero,Option.some.injEq] at hi
   subst hi
   exact ⟨vs,hvl,range_of (pre:=[]) (post:=[]) (alloc_new _ _) (by simp) rfl,hvo,hv.on hbX⟩
  | i+1=>simp at hi⟩) (by simp) (by intro x hx;rw [List.mem_singleton.1 hx];exact hsm)
 have HB0:=Hid.mk hb0
 have HW0:=Hid.mk hW0
 have HS:=Hid.mk hS
 have HV:=Hid.mk hv
 have HSM:=Hid.mk hsm
 have HVO:=Hid.mk hvo
 obtain ⟨PR,hPR⟩:∃PR,putRes ds d=PR:=⟨_,rfl⟩
 rw [hPR]
 have HPR:=Hid.mk hPR
 have HVL:=Hid.mk hvl
 clear hb0 hW0 hs0 hS hv hsm hvs hva hvo hzz hza hbX hPR
 go_enter Tryz.func20,Tryz.ntmps20
 go_wp2_with (first | (rw [HW0.out];refine wpList_load_mid rfl 39 _ rfl w.heap.size 0 rfl vs _ HRG.out Tryz.underlying39 rfl HSV.out ?_) | (rw [HFO.out]))
 refine HC1.mono ?_
 rintro e w1 ⟨hans,hb1⟩
 have hs1:=hb1.size
 have hs1':W0.heap.size≤w1.heap.size:=by simp at hs1;omega
 have HB1:Hid (RowKit.Below W0.heap.size W0 w1):=((Below.refl _ W0).alloc (Nat.le_refl _) _).trans (hb1.mono (by simp))
 have HBW:Hid (RowKit.Below w.heap.size w w1):=HB0.out.trans (HB1.out.mono (by omega))
 have HA1:Hid (w1.heap[w.heap.size]?=some (.cells vs.toArray 39 (0,0))):=(HB1.out.block _ (heap_lt HA0.out)).trans HA0.out
 have HR1:Hid (w1.heap[(w.heap.size+1)]?=some (.cells zz.toArray 39 (0,0))):=(HB1.out.block _ (heap_lt HR0.out)).trans HR0.out
 have HY1:Hid (w1.heap[(w.heap.size+1+1)]?=some (.cells #[.map none] 56 (0,0))):=(HB1.out.block _ (heap_lt HY0.out)).trans HY0.out
 clear hb1 HC1 hs1
 have HDR:Hid (∃x,declsRes [d]=x):=⟨_,rfl⟩
 obtain ⟨DR,hDR⟩:=HDR.out
 rw [hDR] at hans
 clear HDR
 cases DR with
 | error r =>
  have HDE:=Hid.mk hDR
  clear hDR
  obtain ⟨hr0,rfl⟩:=hans
  have hr1:(r==0)=false:=by simpa using hr0
  have HPE:Hid (PR=r):=by unfold Hid;rw [←HPR.out];unfold putRes;rw [HDE.out]
  have HLR:=HZL
  have HOR:=HZO
  have HRW:=HR1
  have HYW:=HY1
  go_wp2_with fail
  have HRN:Hid (zz.length=17):=HLR.out
  have HSI:Hid ((Tryz.prog.info? 39).map (·.size)=some zz.length):=by unfold Hid;rw [HLR.out];kernel_rfl
  have HSB:Hid ((Tryz.prog.info? 39).map (·.size)=some zz.toArray.size):=by unfold Hid;rw [List.size_toArray,HLR.out];kernel_rfl
  have HST:Hid ((Tryz.prog.info? 56).map (·.size)=some (#[.map none]:Array Value).size):=by unfold Hid;kernel_rfl
  have HO1:Hid (zz.toArray.all (·.oneCell')=true):=all_oneCell_toArray HOR.out
  have HO2:Hid ((#[.map none]:Array Value).all (·.oneCell')=true):=by unfold Hid;simp [Value.oneCell']
  have HG:Hid (∀W,RowKit.Below w1.heap.size w1 W→W.rangeAt (w.heap.size+1) 0 zz∧W.cell? ⟨(w.heap.size+1+1),0,none⟩=some (.map none)):=fun W h=>⟨range_of (pre:=[]) (post:=[]) ((h.block _ (heap_lt HRW.out)).trans HRW.out) (by simp) rfl,by rw [cell_of_row W _ 0 _ _ _ ((h.block _ (heap_lt HYW.out)).trans HYW.out)];rfl⟩
  refine wp_region_late (S:=fun w'=>w'.rangeAt (w.heap.size+1) 0 zz∧w'.cell? ⟨(w.heap.size+1+1),0,none⟩=some (.map none)) (fun i=>i==5) mx ?_ (fun hHeld=>?_)
  ·(try dsimp only)
   exact HG.out _ (Below.refl _ _).drew
  refine tkE (i:=0) (v:=.agg zz.toArray) (d:=some 16) rfl (hy:=(yieldsIf_load_mid (by kernel_rfl) 39 (.tmp 4) rfl (w.heap.size+1) 0 (by kernel_rfl) zz _ (fun w hSw=>hSw.1) Tryz.underlying39 rfl HSI.out)) (h:=?_)
  refine tkE (i:=1) (v:=.agg #[.map none]) (d:=some 17) rfl (hy:=(Or.inl ⟨by kernel_rfl,fun w hSw=>by go_simp⟩)) (h:=?_)
  refine tkE (i:=2) (v:=.int .i64 r) (d:=some 18) rfl (hy:=(Or.inl ⟨by kernel_rfl,fun _ _=>by kernel_rfl⟩)) (h:=?_)
  have HU1:Hid (w1.drew.there (w.heap.size+1) 0 zz.toArray.size):=there_of (c:=zz.toArray) (t:=39) (n:=zz.toArray.size) HRW.out rfl 0 _ (by omega)
  have hsd1:=(sets_heap (w.heap.size+1) zz.toArray.toList 0 w1.drew)
  have hyd1:(w1.drew.setCells (w.heap.size+1) 0 zz.toArray.toList).heap[(w.heap.size+1+1)]?=some (.cells #[.map none] 56 (0,0)):=(hsd1.2 _ (by omega)).trans HYW.out
  have hrd1:(w1.drew.setCells (w.heap.size+1) 0 zz.toArray.toList).heap[(w.heap.size+1)]?=some (.cells zz.toArray 39 (0,0)):=sets_whole (w:=w1.drew) (c:=zz.toArray) (c':=zz.toArray) HRW.out rfl
  have HU2:Hid ((w1.drew.setCells (w.heap.size+1) 0 zz.toArray.toList).there (w.heap.size+1+1) 0 (#[.map none]:Array Value).size):=there_of (n:=1) hyd1 rfl 0 1 (by omega)
  have hsd2:=(sets_heap (w.heap.size+1+1) (#[.map none]:Array Value).toList 0 (w1.drew.setCells (w.heap.size+1) 0 zz.toArray.toList))
  obtain ⟨WE,hWE⟩:∃WE,(w1.drew.setCells (w.heap.size+1) 0 zz.toArray.toList).setCells (w.heap.size+1+1) 0 (#[.map none]:Array Value).toList=WE:=⟨_,rfl⟩
  have hre:WE.heap[(w.heap.size+1)]?=some (.cells zz.toArray 39 (0,0)):=by rw [←hWE];exact (hsd2.2 _ (by omega)).trans hrd1
  have hye:WE.heap[(w.heap.size+1+1)]?=some (.cells #[.map none] 56 (0,0)):=by rw [←hWE];exact sets_whole (w:=w1.drew.setCells (w.heap.size+1) 0 zz.toArray.toList) (c':=#[.map none]) hyd1 rfl
  have HALL:Hid (∀k,WE.heap[k]?=w1.heap[k]?):=fun k=>by
   by_cases h1:k=(w.heap.size+1+1)
   ·subst h1;rw [hye];exact HYW.out.symm
   ·by_cases h2:k=(w.heap.size+1)
    ·subst h2;rw [hre];exact HRW.out.symm
    ·rw [←hWE];exact (hsd2.2 k h1).trans (hsd1.2 k h2)
  have HBE:Hid (RowKit.Below w.heap.size w WE):=by
   unfold Hid
   rw [←hWE]
   exact below_sets (below_sets (HBW.out.trans ((Below.refl w1.heap.size w1).drew.mono HBW.out.size)) (by omega) _) (by omega) _
  have HSE:Hid (WE.heap.size=w1.heap.size):=by unfold Hid;rw [←hWE];exact hsd2.1.trans hsd1.1
  have HL1:=run_loadVar_mid (P:=Tryz.prog) WE (w.heap.size+1) 0 39 zz _ (range_of (pre:=[]) (post:=[]) hre (by simp) rfl) Tryz.underlying39 rfl HSI.out
  have HL2:=run_loadVar_mid (P:=Tryz.prog) WE (w.heap.size+1+1) 0 56 [.map none] _ (range_of (pre:=[]) (post:=[]) hye rfl rfl) Tryz.underlying56 rfl HST.out
  have HG1:Hid ((w1.drew.setCells (w.heap.size+1) 0 zz.toArray.toList).rangeAt (w.heap.size+1) 0 zz∧(w1.drew.setCells (w.heap.size+1) 0 zz.toArray.toList).cell? ⟨(w.heap.size+1+1),0,none⟩=some (.map none)):=⟨range_of (pre:=[]) (post:=[]) hrd1 (by simp) rfl,by rw [cell_of_row _ _ 0 _ _ _ hyd1];rfl⟩
  have HG2:Hid (((w1.drew.setCells (w.heap.size+1) 0 zz.toArray.toList).setCells (w.heap.size+1+1) 0 (#[.map none]:Array Value).toList).rangeAt (w.heap.size+1) 0 zz∧((w1.drew.setCells (w.heap.size+1) 0 zz.toArray.toList).setCells (w.heap.size+1+1) 0 (#[.map none]:Array Value).toList).cell? ⟨(w.heap.size+1+1),0,none⟩=some (.map none)):=by
   unfold Hid
   rw [hWE]
   exact ⟨range_of (pre:=[]) (post:=[]) hre (by simp) rfl,by rw [cell_of_row _ _ 0 _ _ _ hye];rfl⟩
  have HWE:=Hid.mk hWE
  clear hsd1 hyd1 hrd1 hsd2 hre hye hWE
  refine nx1 (i:=3) (h:=?_)
  refine ⟨_,rfl,fun K hK=>?_⟩
  refine ite_go (by kernel_rfl) ?_
  refine wp_store_mid 39 (.tmp 4) (.tmp 16) rfl (w.heap.size+1) 0 zz.toArray (by kernel_rfl) (by kernel_rfl) HU1.out HSB.out HO1.out (hK.out _ _ (fun _=>HG1.out) (fun _=>?_))
  clear hK K
  refine nx1 (i:=4) (h:=?_)
  refine ⟨_,rfl,fun K hK=>?_⟩
  refine ite_go (by kernel_rfl) ?_
  refine wp_store_mid 56 (.tmp 5) (.tmp 17) rfl (w.heap.size+1+1) 0 #[.map none] (by kernel_rfl) (by kernel_rfl) HU2.out HST.out HO2.out (hK.out _ _ (fun _=>HG2.out) (fun _=>?_))
  clear hK K
  rw [HWE.out]
  refine nx1 (i:=5) (h:=?_)
  refine ⟨_,rfl,fun K hK=>?_⟩
  go_simp
  refine hK.out _ _ (fun h=>by cases h) (fun _=>?_)
  clear hK K
  refine wpAnyM_done (by kernel_rfl) ?_ _
  go_wp2
  refine bodyPost_ret (v:=.tuple #[.agg zz.toArray,.agg #[.map none],.int .i64 r]) (results_three Tryz.results20 (by kernel_rfl) HL1 (by kernel_rfl) HL2 (by kernel_rfl)) rfl ?_
  rw [HPE.out]
  exact ⟨zz,none,HLR.out,HOR.out,rfl,HBE.out,fun h=>absurd h hr0⟩
 | ok bs =>
  obtain ⟨vb,rfl,-⟩:=hans
  have HBX:=HBW
  have HRD:Hid (RightD d):=rightOf hDR HSM.out
  have HOWN:Hid (OwnD (cleanD d)):=OwnD.of HRD.out HSM.out
  have HDE:=Hid.mk hDR
  clear hDR
  have HC2:=bareD_any d (.agg vs.toArray) w1 (HV.out.on HBW.out) HRD.out HSM.out
  have HRG1:Hid (w1.rangeAt w.heap.size 0 vs):=range_of (pre:=[]) (post:=[]) HA1.out (by simp) rfl
  go_wp2_with (refine wpList_load_mid rfl 39 _ rfl w.heap.size 0 rfl vs _ HRG1.out Tryz.underlying39 rfl HSV.out ?_)
  refine HC2.mono ?_
  rintro e w2 ⟨zs,rfl,hE,hb2⟩
  have hs2:=hb2.size
  have hzl:zs.length=17:=hE.len
  have HZN:Hid (∀v∈zs,v.oneCell'=true):=hE.cell
  have hzt:zs.toArray.size=17:=by simp [hzl]
  have hR2:w2.heap[(w.heap.size+1)]?=some (.cells zz.toArray 39 (0,0)):=(hb2.block _ (heap_lt HR1.out)).trans HR1.out
  have hY2:w2.heap[(w.heap.size+1+1)]?=some (.cells #[.map none] 56 (0,0)):=(hb2.block _ (heap_lt HY1.out)).trans HY1.out
  obtain ⟨W3,hW3⟩:∃W3,w2.setCells (w.heap.size+1) 0 zs.toArray.toList=W3:=⟨_,rfl⟩
  have hw3:=sets_heap (w.heap.size+1) zs.toArray.toList 0 w2
  have HR3:Hid (W3.heap[(w.heap.size+1)]?=some (.cells zs.toArray 39 (0,0))):=by unfold Hid;rw [←hW3];exact sets_whole (c':=zs.toArray) hR2 (by rw [List.size_toArray,List.size_toArray,hzl];exact HZL.out)
  have HBW3:Hid (RowKit.Below w.heap.size w W3):=by unfold Hid;rw [←hW3];exact below_sets (HBW.out.trans (hb2.mono HBW.out.size)) (by omega) _
  rw [hW3] at hw3
  have hs3a:=Nat.le_of_eq hw3.1
  have hs3b:=Nat.le_of_eq hw3.1.symm
  have HY3:Hid (W3.heap[(w.heap.size+1+1)]?=some (.cells #[.map none] 56 (0,0))):=(hw3.2 _ (by omega)).trans hY2
  have HE3:Hid (ED W3 (oldB w1) zs (cleanD d)):=ED.moves _ _ _ _ _ _ hE (by omega) fun k h1 h2=>⟨h2,hw3.2 k (by have:=oldB_no h2;omega)⟩
  have HTH:Hid (w2.there (w.heap.size+1) 0 zs.toArray.size):=by unfold Hid;rw [hzt];exact there_of hR2 (by simp [HZL.out]) 0 17 (Nat.le_refl 17)
  have HSZ:Hid ((Tryz.prog.info? 39).map (·.size)=some zs.length):=by unfold Hid;rw [hzl];kernel_rfl
  have HSY:Hid ((Tryz.prog.info? 39).map (·.size)=some zs.toArray.size):=by unfold Hid;rw [hzt];kernel_rfl
  have HON:Hid (zs.toArray.all (·.oneCell')=true):=all_oneCell_toArray HZN.out
  have HRG3:Hid (W3.rangeAt (w.heap.size+1) 0 zs):=range_of (pre:=[]) (post:=[]) HR3.out (by simp) rfl
  have HCT:Hid ((cleanD d).ctors.length≤40):=by
   unfold Hid
   by_cases hk:(cleanD d).kind=3
   ·exact HOWN.out.right.len hk
   ·have hcl:=congrArg Dl.ctors HOWN.out.clean
    rw [cleanD] at hcl
    simp only [if_neg hk] at hcl
    rw [←hcl]
    simp
  have HC3:=terms_any (cleanD d) (.agg zs.toArray) W3 HE3.out.val (by have:=HCT.out;omega)
  have HW3:=Hid.mk hW3
  have HLZ:=Hid.mk hzl
  clear hzt hE hb2 hR2 hY2 hW3 hw3 HC2
  go_wp2_with (first | (refine wpList_store_mid rfl 39 _ _ rfl (w.heap.size+1) 0 zs.toArray rfl rfl HTH.out HSY.out HON.out ?_;rw [HW3.out]) | (refine wpList_load_mid rfl 39 _ rfl (w.heap.size+1) 0 rfl zs _ HRG3.out Tryz.underlying39 rfl HSZ.out ?_))
  refine HC3.mono ?_
  rintro e w4 ⟨a,cap,rfl,htk,hb4⟩
  have HC4:=HasOpen_any (termsD (cleanD d)) a cap w4 htk (by have:=HCT.out;unfold termsD;split<;>simp<;>omega) (fun t ht=>by
   have hs:=HOWN.out.sm
   unfold termsD at ht
   simp only [List.mem_cons,List.mem_append,List.mem_map] at ht
   rcases ht with rfl | ht | ⟨c,hc,rfl⟩
   ·exact hs.ty
   ·split at ht
    ·rw [List.mem_singleton.1 ht];exact hs.val
    ·cases ht
   ·exact (hs.ctors c hc).2)
  have HB4:=Hid.mk hb4
  have hs4:=hb4.size
  clear htk hb4 HC3
  obtain ⟨OP,hOP⟩:∃OP,(termsD (cleanD d)).any openT=OP:=⟨_,rfl⟩
  rw [hOP] at HC4
  have HOP:=Hid.mk hOP
  clear hOP
  go_wp2_with fail
  refine HC4.mono ?_
  rintro e w5 ⟨rfl,hb5⟩
  have hs5:=hb5.size
  have HB5:Hid (RowKit.Below W3.heap.size W3 w5):=HB4.out.trans (hb5.mono hs4)
  have HBW5:Hid (RowKit.Below w.heap.size w w5):=HBW3.out.trans (HB5.out.mono HBW3.out.size)
  have HR5:Hid (w5.heap[(w.heap.size+1)]?=some (.cells zs.toArray 39 (0,0))):=(HB5.out.block _ (heap_lt HR3.out)).trans HR3.out
  have HY5:Hid (w5.heap[(w.heap.size+1+1)]?=some (.cells #[.map none] 56 (0,0))):=(HB5.out.block _ (heap_lt HY3.out)).trans HY3.out
  have HE5:Hid (ED w5 (oldB w1) zs (cleanD d)):=ED.moves _ _ _ _ _ _ HE3.out HB5.out.size fun k h1 h2=>⟨h2,HB5.out.block k h1⟩
  clear hb5 HC4 HB4
  cases OP with
  | true =>
   have HPE:Hid (PR=11):=by unfold Hid;rw [←HPR.out];unfold putRes;rw [HDE.out];simp only;rw [if_pos HOP.out]
   have HLR:=HLZ
   have HOR:=HZN
   have HRW:=HR5
   have HYW:=HY5
   have HBW:=HBW5
   go_wp2_with fail
   have HRN:Hid (zs.length=17):=HLR.out
   have HSI:Hid ((Tryz.prog.info? 39).map (·.size)=some zs.length):=by unfold Hid;rw [HLR.out];kernel_rfl
   have HSB:Hid ((Tryz.prog.info? 39).map (·.size)=some zs.toArray.size):=by unfold Hid;rw [List.size_toArray,HLR.out];kernel_rfl
   have HST:Hid ((Tryz.prog.info? 56).map (·.size)=some (#[.map none]:Array Value).size):=by unfold Hid;kernel_rfl
   have HO1:Hid (zs.toArray.all (·.oneCell')=true):=all_oneCell_toArray HOR.out
   have HO2:Hid ((#[.map none]:Array Value).all (·.oneCell')=true):=by unfold Hid;simp [Value.oneCell']
   have HG:Hid (∀W,RowKit.Below w5.heap.size w5 W→W.rangeAt (w.heap.size+1) 0 zs∧W.cell? ⟨(w.heap.size+1+1),0,none⟩=some (.map none)):=fun W h=>⟨range_of (pre:=[]) (post:=[]) ((h.block _ (heap_lt HRW.out)).trans HRW.out) (by simp) rfl,by rw [cell_of_row W _ 0 _ _ _ ((h.block _ (heap_lt HYW.out)).trans HYW.out)];rfl⟩
   refine wp_region_late (S:=fun w'=>w'.rangeAt (w.heap.size+1) 0 zs∧w'.cell? ⟨(w.heap.size+1+1),0,none⟩=some (.map none)) (fun i=>i==4) mx ?_ (fun hHeld=>?_)
   ·(try dsimp only)
    exact HG.out _ (Below.refl _ _).drew
   refine tkE (i:=0) (v:=.agg zs.toArray) (d:=some 24) rfl (hy:=(yieldsIf_load_mid (by kernel_rfl) 39 (.tmp 4) rfl (w.heap.size+1) 0 (by kernel_rfl) zs _ (fun w hSw=>hSw.1) Tryz.underlying39 rfl HSI.out)) (h:=?_)
   refine tkE (i:=1) (v:=.agg #[.map none]) (d:=some 25) rfl (hy:=(Or.inl ⟨by kernel_rfl,fun w hSw=>by go_simp⟩)) (h:=?_)
   have HU1:Hid (w5.drew.there (w.heap.size+1) 0 zs.toArray.size):=there_of (c:=zs.toArray) (t:=39) (n:=zs.toArray.size) HRW.out rfl 0 _ (by omega)
   have hsd1:=(sets_heap (w.heap.size+1) zs.toArray.toList 0 w5.drew)
   have hyd1:(w5.drew.setCells (w.heap.size+1) 0 zs.toArray.toList).heap[(w.heap.size+1+1)]?=some (.cells #[.map none] 56 (0,0)):=(hsd1.2 _ (by omega)).trans HYW.out
   have hrd1:(w5.drew.setCells (w.heap.size+1) 0 zs.toArray.toList).heap[(w.heap.size+1)]?=some (.cells zs.toArray 39 (0,0)):=sets_whole (w:=w5.drew) (c:=zs.toArray) (c':=zs.toArray) HRW.out rfl
   have HU2:Hid ((w5.drew.setCells (w.heap.size+1) 0 zs.toArray.toList).there (w.heap.size+1+1) 0 (#[.map none]:Array Value).size):=there_of (n:=1) hyd1 rfl 0 1 (by omega)
   have hsd2:=(sets_heap (w.heap.size+1+1) (#[.map none]:Array Value).toList 0 (w5.drew.setCells (w.heap.size+1) 0 zs.toArray.toList))
   obtain ⟨WE,hWE⟩:∃WE,(w5.drew.setCells (w.heap.size+1) 0 zs.toArray.toList).setCells (w.heap.size+1+1) 0 (#[.map none]:Array Value).toList=WE:=⟨_,rfl⟩
   have hre:WE.heap[(w.heap.size+1)]?=some (.cells zs.toArray 39 (0,0)):=by rw [←hWE];exact (hsd2.2 _ (by omega)).trans hrd1
   have hye:WE.heap[(w.heap.size+1+1)]?=some (.cells #[.map none] 56 (0,0)):=by rw [←hWE];exact sets_whole (w:=w5.drew.setCells (w.heap.size+1) 0 zs.toArray.toList) (c':=#[.map none]) hyd1 rfl
   have HALL:Hid (∀k,WE.heap[k]?=w5.heap[k]?):=fun k=>by
    by_cases h1:k=(w.heap.size+1+1)
    ·subst h1;rw [hye];exact HYW.out.symm
    ·by_cases h2:k=(w.heap.size+1)
     ·subst h2;rw [hre];exact HRW.out.symm
     ·rw [←hWE];exact (hsd2.2 k h1).trans (hsd1.2 k h2)
   have HBE:Hid (RowKit.Below w.heap.size w WE):=by
    unfold Hid
    rw [←hWE]
    exact below_sets (below_sets (HBW.out.trans ((Below.refl w5.heap.size w5).drew.mono HBW.out.size)) (by omega) _) (by omega) _
   have HSE:Hid (WE.heap.size=w5.heap.size):=by unfold Hid;rw [←hWE];exact hsd2.1.trans hsd1.1
   have HL1:=run_loadVar_mid (P:=Tryz.prog) WE (w.heap.size+1) 0 39 zs _ (range_of (pre:=[]) (post:=[]) hre (by simp) rfl) Tryz.underlying39 rfl HSI.out
   have HL2:=run_loadVar_mid (P:=Tryz.prog) WE (w.heap.size+1+1) 0 56 [.map none] _ (range_of (pre:=[]) (post:=[]) hye rfl rfl) Tryz.underlying56 rfl HST.out
   have HG1:Hid ((w5.drew.setCells (w.heap.size+1) 0 zs.toArray.toList).rangeAt (w.heap.size+1) 0 zs∧(w5.drew.setCells (w.heap.size+1) 0 zs.toArray.toList).cell? ⟨(w.heap.size+1+1),0,none⟩=some (.map none)):=⟨range_of (pre:=[]) (post:=[]) hrd1 (by simp) rfl,by rw [cell_of_row _ _ 0 _ _ _ hyd1];rfl⟩
   have HG2:Hid (((w5.drew.setCells (w.heap.size+1) 0 zs.toArray.toList).setCells (w.heap.size+1+1) 0 (#[.map none]:Array Value).toList).rangeAt (w.heap.size+1) 0 zs∧((w5.drew.setCells (w.heap.size+1) 0 zs.toArray.toList).setCells (w.heap.size+1+1) 0 (#[.map none]:Array Value).toList).cell? ⟨(w.heap.size+1+1),0,none⟩=some (.map none)):=by
    unfold Hid
    rw [hWE]
    exact ⟨range_of (pre:=[]) (post:=[]) hre (by simp) rfl,by rw [cell_of_row _ _ 0 _ _ _ hye];rfl⟩
   have HWE:=Hid.mk hWE
   clear hsd1 hyd1 hrd1 hsd2 hre hye hWE
   refine nx1 (i:=2) (h:=?_)
   refine ⟨_,rfl,fun K hK=>?_⟩
   refine ite_go (by kernel_rfl) ?_
   refine wp_store_mid 39 (.tmp 4) (.tmp 24) rfl (w.heap.size+1) 0 zs.toArray (by kernel_rfl) (by kernel_rfl) HU1.out HSB.out HO1.out (hK.out _ _ (fun _=>HG1.out) (fun _=>?_))
   clear hK K
   refine nx1 (i:=3) (h:=?_)
   refine ⟨_,rfl,fun K hK=>?_⟩
   refine ite_go (by kernel_rfl) ?_
   refine wp_store_mid 56 (.tmp 5) (.tmp 25) rfl (w.heap.size+1+1) 0 #[.map none] (by kernel_rfl) (by kernel_rfl) HU2.out HST.out HO2.out (hK.out _ _ (fun _=>HG2.out) (fun _=>?_))
   clear hK K
   rw [HWE.out]
   refine nx1 (i:=4) (h:=?_)
   refine ⟨_,rfl,fun K hK=>?_⟩
   go_simp
   refine hK.out _ _ (fun h=>by cases h) (fun _=>?_)
   clear hK K
   refine wpAnyM_done (by kernel_rfl) ?_ _
   go_wp2
   refine bodyPost_ret (v:=.tuple #[.agg zs.toArray,.agg #[.map none],.int .i64 11]) (results_three Tryz.results20 (by kernel_rfl) HL1 (by kernel_rfl) HL2 (by kernel_rfl)) rfl ?_
   rw [HPE.out]
   exact ⟨zs,none,HLR.out,HOR.out,rfl,HBE.out,fun h=>by cases h⟩
  | false =>
   obtain ⟨sa,scap,smv,hsg,-,hT,hmvs⟩:=(HS.out.on HBW5.out).go
   obtain ⟨s0,s1,slt,sfz⟩:=hsg.all
   have HSG:=Hid.mk hsg
   have HT5:=Hid.mk hT
   have HMVS:=Hid.mk hmvs
   clear hsg hT hmvs
   by_cases hL:500≤ds.length
   ·have hL':(500:Int)≤(ds.length:Int):=by omega
    have HPE:Hid (PR=2):=by unfold Hid;rw [←HPR.out];unfold putRes;rw [HDE.out];simp only;rw [if_neg (by rw [HOP.out];decide),if_pos hL]
    have HLR:=HLZ
    have HOR:=HZN
    have HRW:=HR5
    have HYW:=HY5
    have HBW:=HBW5
    go_wp2_with fail
    have HRN:Hid (zs.length=17):=HLR.out
    have HSI:Hid ((Tryz.prog.info? 39).map (·.size)=some zs.length):=by unfold Hid;rw [HLR.out];kernel_rfl
    have HSB:Hid ((Tryz.prog.info? 39).map (·.size)=some zs.toArray.size):=by unfold Hid;rw [List.size_toArray,HLR.out];kernel_rfl
    have HST:Hid ((Tryz.prog.info? 56).map (·.size)=some (#[.map none]:Array Value).size):=by unfold Hid;kernel_rfl
    have HO1:Hid (zs.toArray.all (·.oneCell')=true):=all_oneCell_toArray HOR.out
    have HO2:Hid ((#[.map none]:Array Value).all (·.oneCell')=true):=by unfold Hid;simp [Value.oneCell']
    have HG:Hid (∀W,RowKit.Below w5.heap.size w5 W→W.rangeAt (w.heap.size+1) 0 zs∧W.cell? ⟨(w.heap.size+1+1),0,none⟩=some (.map none)):=fun W h=>⟨range_of (pre:=[]) (post:=[]) ((h.block _ (heap_lt HRW.out)).trans HRW.out) (by simp) rfl,by rw [cell_of_row W _ 0 _ _ _ ((h.block _ (heap_lt HYW.out)).trans HYW.out)];rfl⟩
    refine wp_region_late (S:=fun w'=>w'.rangeAt (w.heap.size+1) 0 zs∧w'.cell? ⟨(w.heap.size+1+1),0,none⟩=some (.map none)) (fun i=>i==4) mx ?_ (fun hHeld=>?_)
    ·(try dsimp only)
     exact HG.out _ (Below.refl _ _).drew
    refine tkE (i:=0) (v:=.agg zs.toArray) (d:=some 32) rfl (hy:=(yieldsIf_load_mid (by kernel_rfl) 39 (.tmp 4) rfl (w.heap.size+1) 0 (by kernel_rfl) zs _ (fun w hSw=>hSw.1) Tryz.underlying39 rfl HSI.out)) (h:=?_)
    refine tkE (i:=1) (v:=.agg #[.map none]) (d:=some 33) rfl (hy:=(Or.inl ⟨by kernel_rfl,fun w hSw=>by go_simp⟩)) (h:=?_)
    have HU1:Hid (w5.drew.there (w.heap.size+1) 0 zs.toArray.size):=there_of (c:=zs.toArray) (t:=39) (n:=zs.toArray.size) HRW.out rfl 0 _ (by omega)
    have hsd1:=(sets_heap (w.heap.size+1) zs.toArray.toList 0 w5.drew)
    have hyd1:(w5.drew.setCells (w.heap.size+1) 0 zs.toArray.toList).heap[(w.heap.size+1+1)]?=some (.cells #[.map none] 56 (0,0)):=(hsd1.2 _ (by omega)).trans HYW.out
    have hrd1:(w5.drew.setCells (w.heap.size+1) 0 zs.toArray.toList).heap[(w.heap.size+1)]?=some (.cells zs.toArray 39 (0,0)):=sets_whole (w:=w5.drew) (c:=zs.toArray) (c':=zs.toArray) HRW.out rfl
    have HU2:Hid ((w5.drew.setCells (w.heap.size+1) 0 zs.toArray.toList).there (w.heap.size+1+1) 0 (#[.map none]:Array Value).size):=there_of (n:=1) hyd1 rfl 0 1 (by omega)
    have hsd2:=(sets_heap (w.heap.size+1+1) (#[.map none]:Array Value).toList 0 (w5.drew.setCells (w.heap.size+1) 0 zs.toArray.toList))
    obtain ⟨WE,hWE⟩:∃WE,(w5.drew.setCells (w.heap.size+1) 0 zs.toArray.toList).setCells (w.heap.size+1+1) 0 (#[.map none]:Array Value).toList=WE:=⟨_,rfl⟩
    have hre:WE.heap[(w.heap.size+1)]?=some (.cells zs.toArray 39 (0,0)):=by rw [←hWE];exact (hsd2.2 _ (by omega)).trans hrd1
    have hye:WE.heap[(w.heap.size+1+1)]?=some (.cells #[.map none] 56 (0,0)):=by rw [←hWE];exact sets_whole (w:=w5.drew.setCells (w.heap.size+1) 0 zs.toArray.toList) (c':=#[.map none]) hyd1 rfl
    have HALL:Hid (∀k,WE.heap[k]?=w5.heap[k]?):=fun k=>by
     by_cases h1:k=(w.heap.size+1+1)
     ·subst h1;rw [hye];exact HYW.out.symm
     ·by_cases h2:k=(w.heap.size+1)
      ·subst h2;rw [hre];exact HRW.out.symm
      ·rw [←hWE];exact (hsd2.2 k h1).trans (hsd1.2 k h2)
    have HBE:Hid (RowKit.Below w.heap.size w WE):=by
     unfold Hid
     rw [←hWE]
     exact below_sets (below_sets (HBW.out.trans ((Below.refl w5.heap.size w5).drew.mono HBW.out.size)) (by omega) _) (by omega) _
    have HSE:Hid (WE.heap.size=w5.heap.size):=by unfold Hid;rw [←hWE];exact hsd2.1.trans hsd1.1
    have HL1:=run_loadVar_mid (P:=Tryz.prog) WE (w.heap.size+1) 0 39 zs _ (range_of (pre:=[]) (post:=[]) hre (by simp) rfl) Tryz.underlying39 rfl HSI.out
    have HL2:=run_loadVar_mid (P:=Tryz.prog) WE (w.heap.size+1+1) 0 56 [.map none] _ (range_of (pre:=[]) (post:=[]) hye rfl rfl) Tryz.underlying56 rfl HST.out
    have HG1:Hid ((w5.drew.setCells (w.heap.size+1) 0 zs.toArray.toList).rangeAt (w.heap.size+1) 0 zs∧(w5.drew.setCells (w.heap.size+1) 0 zs.toArray.toList).cell? ⟨(w.heap.size+1+1),0,none⟩=some (.map none)):=⟨range_of (pre:=[]) (post:=[]) hrd1 (by simp) rfl,by rw [cell_of_row _ _ 0 _ _ _ hyd1];rfl⟩
    have HG2:Hid (((w5.drew.setCells (w.heap.size+1) 0 zs.toArray.toList).setCells (w.heap.size+1+1) 0 (#[.map none]:Array Value).toList).rangeAt (w.heap.size+1) 0 zs∧((w5.drew.setCells (w.heap.size+1) 0 zs.toArray.toList).setCells (w.heap.size+1+1) 0 (#[.map none]:Array Value).toList).cell? ⟨(w.heap.size+1+1),0,none⟩=some (.map none)):=by
     unfold Hid
     rw [hWE]
     exact ⟨range_of (pre:=[]) (post:=[]) hre (by simp) rfl,by rw [cell_of_row _ _ 0 _ _ _ hye];rfl⟩
    have HWE:=Hid.mk hWE
    clear hsd1 hyd1 hrd1 hsd2 hre hye hWE
    refine nx1 (i:=2) (h:=?_)
    refine ⟨_,rfl,fun K hK=>?_⟩
    refine ite_go (by kernel_rfl) ?_
    refine wp_store_mid 39 (.tmp 4) (.tmp 32) rfl (w.heap.size+1) 0 zs.toArray (by kernel_rfl) (by kernel_rfl) HU1.out HSB.out HO1.out (hK.out _ _ (fun _=>HG1.out) (fun _=>?_))
    clear hK K
    refine nx1 (i:=3) (h:=?_)
    refine ⟨_,rfl,fun K hK=>?_⟩
    refine ite_go (by kernel_rfl) ?_
    refine wp_store_mid 56 (.tmp 5) (.tmp 33) rfl (w.heap.size+1+1) 0 #[.map none] (by kernel_rfl) (by kernel_rfl) HU2.out HST.out HO2.out (hK.out _ _ (fun _=>HG2.out) (fun _=>?_))
    clear hK K
    rw [HWE.out]
    refine nx1 (i:=4) (h:=?_)
    refine ⟨_,rfl,fun K hK=>?_⟩
    go_simp
    refine hK.out _ _ (fun h=>by cases h) (fun _=>?_)
    clear hK K
    refine wpAnyM_done (by kernel_rfl) ?_ _
    go_wp2
    refine bodyPost_ret (v:=.tuple #[.agg zs.toArray,.agg #[.map none],.int .i64 2]) (results_three Tryz.results20 (by kernel_rfl) HL1 (by kernel_rfl) HL2 (by kernel_rfl)) rfl ?_
    rw [HPE.out]
    exact ⟨zs,none,HLR.out,HOR.out,rfl,HBE.out,fun h=>by cases h⟩
   ·have hL':¬(500:Int)≤(ds.length:Int):=by omega
    go_wp2_with fail
    have HC6:Calls Tryz.prog 38 #[.agg zs.toArray,.int .i64 (ds.length:Int)] w5.drew fun e w'=>∃mv:Option Nat,e=.returned (.tuple #[.agg #[.map mv],.bool (namesM (ds.length:Int) (cleanD d)).2])∧Tb w' mv 100 (namesM (ds.length:Int) (cleanD d)).1∧(∀b,mv=some b→w5.drew.heap.size≤b)∧RowKit.Below w5.drew.heap.size w5.drew w':=declared_any (cleanD d) (.agg zs.toArray) (ds.length:Int) w5.drew (HE5.out.val.on (Below.refl _ _).drew) HOWN.out.right.name.2 (fun c hc=>by
     by_cases hk:(cleanD d).kind=3
     ·exact (HOWN.out.right.ctors hk c hc).1.2
     ·have hcl:=congrArg Dl.ctors HOWN.out.clean
      rw [cleanD] at hcl
      simp only [if_neg hk] at hcl
      rw [←hcl] at hc
      cases hc) HCT.out
    obtain ⟨OKB,hOKB⟩:∃b,(namesM (ds.length:Int) (cleanD d)).2=b:=⟨_,rfl⟩
    rw [hOKB] at HC6
    have HOKB:=Hid.mk hOKB
    clear hOKB
    have HG:Hid (∀W,RowKit.Below w5.heap.size w5 W→W.rangeAt (w.heap.size+1) 0 zs∧W.cell? ⟨sb,0,none⟩=some (.slice sa ds.length scap)):=fun W h=>⟨range_of (pre:=[]) (post:=[]) ((h.block _ (heap_lt HR5.out)).trans HR5.out) (by simp) rfl,(h.cell (p:=⟨sb,0,none⟩) slt).trans s0⟩
    have HCF:=Hid.mk s0
    have HSLT:=Hid.mk slt
    refine wp_region_late (S:=fun w'=>w'.rangeAt (w.heap.size+1) 0 zs∧w'.cell? ⟨sb,0,none⟩=some (.slice sa ds.length scap)) (fun _=>false) mx ?_ (fun hHeld=>?_)
    ·(try dsimp only)
     exact HG.out _ (Below.refl _ _).drew
    refine tkE (i:=0) (v:=.agg zs.toArray) (d:=some 35) rfl (hy:=(yieldsIf_load_mid (by kernel_rfl) 39 (.tmp 4) rfl (w.heap.size+1) 0 (by kernel_rfl) zs _ (fun w hSw=>hSw.1) Tryz.underlying39 rfl HSZ.out)) (h:=?_)
    refine tkE (i:=1) (v:=.pointer (some ⟨sb,0,none⟩)) (d:=some 36) rfl (hy:=(Or.inl ⟨by kernel_rfl,fun _ _=>by kernel_rfl⟩)) (h:=?_)
    refine tkE (i:=2) (v:=.pointer (some ⟨sb,0,none⟩)) (d:=some 37) rfl (hy:=(Or.inl ⟨by kernel_rfl,fun w hSw=>by go_simp⟩)) (h:=?_)
    refine tkE (i:=3) (v:=.pointer (some ⟨sb,0,none⟩)) (d:=some 38) rfl (hy:=(Or.inl ⟨by kernel_rfl,fun w hSw=>by go_simp⟩)) (h:=?_)
    refine tkE (i:=4) (v:=.slice sa ds.length scap) (d:=some 39) rfl (hy:=(Or.inl ⟨by kernel_rfl,fun w hSw=>by go_simp⟩)) (h:=?_)
    refine tkE (i:=5) (v:=.int .i64 ds.length) (d:=some 40) rfl (hy:=(Or.inl ⟨by kernel_rfl,fun w hSw=>by go_simp⟩)) (h:=?_)
    refine nx1 (i:=6) (h:=?_)
    refine ⟨_,rfl,fun K hK=>?_⟩
    go_simp
    go_at_call 38
    refine HC6.mono ?_
    rintro e w6 ⟨mv,rfl,hT6,hmv,hb6⟩
    obtain ⟨mb,rfl⟩:=hT6.some (s:=(cleanD d).name) (namesM_some.2 ⟨((cleanD d).name,(cleanD d).kind),by unfold namesD;simp,rfl⟩)
    have hmb:=hmv mb rfl
    have HB6:Hid (RowKit.Below w5.heap.size w5 w6):=(Below.refl _ w5).drew.trans hb6
    have hs6:=HB6.out.size
    have HT6:=Hid.mk hT6
    have hmb':w5.heap.size≤mb:=hmb
    clear hb6 hT6 hmv hmb HC6
    refine hK.out _ _ (fun _=>?_) (fun hHeld=>?_)
    ·(try dsimp only)
     exact HG.out _ HB6.out
    replace hHeld:=hHeld rfl
    clear hK K
    refine tkE (i:=7) (v:=.tuple #[.agg #[.map (some mb)],.bool OKB]) (d:=some 34) rfl (hy:=(Or.inl ⟨by kernel_rfl,fun _ _=>by kernel_rfl⟩)) (h:=?_)
    refine tkE (i:=8) (v:=.agg #[.map (some mb)]) (d:=some 42) rfl (hy:=(Or.inl ⟨by kernel_rfl,fun w hSw=>by go_simp⟩)) (h:=?_)
    refine tkE (i:=9) (v:=.bool OKB) (d:=some 43) rfl (hy:=(Or.inl ⟨by kernel_rfl,fun w hSw=>by go_simp⟩)) (h:=?_)
    have hY6:w6.heap[(w.heap.size+1+1)]?=some (.cells #[.map none] 56 (0,0)):=(HB6.out.block _ (heap_lt HY5.out)).trans HY5.out
    have hR6:w6.heap[(w.heap.size+1)]?=some (.cells zs.toArray 39 (0,0)):=(HB6.out.block _ (heap_lt HR5.out)).trans HR5.out
    have HU2:Hid (w6.there (w.heap.size+1+1) 0 (#[.map (some mb)]:Array Value).size):=there_of (n:=1) hY6 rfl 0 1 (by omega)
    have HST:Hid ((Tryz.prog.info? 56).map (·.size)=some (#[.map (some mb)]:Array Value).size):=by unfold Hid;kernel_rfl
    have HO2:Hid ((#[.map (some mb)]:Array Value).all (·.oneCell')=true):=by unfold Hid;simp [Value.oneCell']
    have hsd7:=(sets_heap (w.heap.size+1+1) (#[.map (some mb)]:Array Value).toList 0 w6)
    obtain ⟨W7,hW7⟩:∃W7,w6.setCells (w.heap.size+1+1) 0 (#[.map (some mb)]:Array Value).toList=W7:=⟨_,rfl⟩
    have HY7:Hid (W7.heap[(w.heap.size+1+1)]?=some (.cells #[.map (some mb)] 56 (0,0))):=by unfold Hid;rw [←hW7];exact sets_whole (c':=#[.map (some mb)]) hY6 rfl
    have HB7:Hid (RowKit.Below w.heap.size w W7):=by unfold Hid;rw [←hW7];exact below_sets (HBW5.out.trans (HB6.out.mono HBW5.out.size)) (by omega) _
    rw [hW7] at hsd7
    have HR7:Hid (W7.heap[(w.heap.size+1)]?=some (.cells zs.toArray 39 (0,0))):=(hsd7.2 _ (by omega)).trans hR6
    have hs7a:=Nat.le_of_eq hsd7.1
    have hs7b:=Nat.le_of_eq hsd7.1.symm
    have HK7:Hid (∀k,w5.heap.size≤k→W7.heap[k]?=w6.heap[k]?):=fun k hk=>hsd7.2 k (by have:=heap_lt HY5.out;omega)
    have HE7:Hid (ED W7 (oldB w1) zs (cleanD d)):=ED.moves _ _ _ _ _ _ HE5.out (by omega) fun k h1 h2=>⟨h2,(hsd7.2 k (by have:=oldB_no h2;have:=heap_lt HY1.out;omega)).trans (HB6.out.block k h1)⟩
    have HT7:Hid (Tb W7 (some mb) 100 (namesM (ds.length:Int) (cleanD d)).1):=HT6.out.keep fun b hb=>by cases hb;exact HK7.out mb hmb'
    have HSG7:Hid (W7.cell? ⟨sb,0,none⟩=some (.slice sa ds.length scap)∧W7.cell? ⟨sb,1,none⟩=some (.map smv)∧sb<W7.heap.size):=by
     have h7:=HSG.out.keep ((hsd7.2 sb (by omega)).trans (HB6.out.block sb slt))
     obtain ⟨c0,c1,c2,-⟩:=h7.all
     exact ⟨c0,c1,c2⟩
    have HTS7:Hid (Tb W7 smv (100*ds.length) (tabM ds)):=HT5.out.keep fun b hb=>by
     have hlt:b<w5.heap.size:=by subst hb;exact HT5.out.lt
     have hne:b≠(w.heap.size+1+1):=by
      intro e
      subst hb
      obtain ⟨D',h,-⟩:∃D,w5.ownsMap Tryz.prog 9 readM b (100*ds.length) D∧True:=by
       rcases HT5.out.go with ⟨h,-⟩ | ⟨b',D,h1,h2,-⟩
       ·cases h
       ·cases h1;exact ⟨D,h2,trivial⟩
      obtain ⟨es,ck,h1,-⟩:=h
      rw [e,HY5.out] at h1
      cases h1
     exact (hsd7.2 b hne).trans (HB6.out.block b hlt)
    have HW7:=Hid.mk hW7
    have HGS:Hid (w6.rangeAt (w.heap.size+1) 0 zs∧w6.cell? ⟨sb,0,none⟩=some (.slice sa ds.length scap)):=HG.out _ HB6.out
    have HG7:Hid (W7.rangeAt (w.heap.size+1) 0 zs∧W7.cell? ⟨sb,0,none⟩=some (.slice sa ds.length scap)):=⟨range_of (pre:=[]) (post:=[]) HR7.out (by simp) rfl,HSG7.out.1⟩
    clear hY6 hR6 hsd7 hW7
    refine nx1 (i:=10) (h:=?_)
    refine ⟨_,rfl,fun K hK=>?_⟩
    refine ite_go (by kernel_rfl) ?_
    refine wp_store_mid 56 (.tmp 5) (.tmp 42) rfl (w.heap.size+1+1) 0 #[.map (some mb)] (by kernel_rfl) (by kernel_rfl) HU2.out HST.out HO2.out ?_
    rw [HW7.out]
    refine hK.out _ _ (fun _=>HG7.out) (fun _=>?_)
    clear hK K
    refine nx1 (i:=11) (h:=?_)
    refine ⟨_,rfl,fun K hK=>?_⟩
    go_simp
    refine hK.out _ _ (fun _=>HG7.out) (fun _=>?_)
    clear hK K
    refine wpAnyM_doneE (a':={ tmps:=#[.pointer (some ⟨sb,0,none⟩),.agg #[.int .i64 d.kind,.string d.name,.int .i64 d.levels,.int .i64 t0,.int .i64 t1,.bool t2,.string t3,.slice t4 t5 t6,.slice t7 t8 t9,.int .i64 v0,.int .i64 v1,.bool v2,.string v3,.slice v4 v5 v6,.slice v7 v8 v9,.int .i64 d.params,.slice ca d.ctors.length cc],undef,.pointer (some ⟨w.heap.size,0,none⟩),.pointer (some ⟨(w.heap.size+1),0,none⟩),.pointer (some ⟨(w.heap.size+1+1),0,none⟩),.int .i64 0,.bool OKB,.tuple #[vb,.int .i64 0],.agg vs.toArray,.slice (some ⟨W0.heap.size,0,none⟩) 1 1,.tuple #[vb,.int .i64 0],vb,.int .i64 0,.int .i64 0,.bool false,undef,undef,undef,.agg vs.toArray,.agg zs.toArray,.agg zs.toArray,.slice a (termsD (cleanD d)).length cap,.bool false,undef,undef,.pointer (some ⟨sb,0,none⟩),.pointer (some ⟨sb,0,none⟩),.pointer (some ⟨sb,0,none⟩),.slice sa ds.length scap,.int .i64 ds.length,.bool (decide ((500:Int)≤(ds.length:Int))),undef,undef,.tuple #[.agg #[.map (some mb)],.bool OKB],.agg zs.toArray,.pointer (some ⟨sb,0,none⟩),.pointer (some ⟨sb,0,none⟩),.pointer (some ⟨sb,0,none⟩),.slice sa ds.length scap,.int .i64 ds.length,.tuple #[.agg #[.map (some mb)],.bool OKB],.agg #[.map (some mb)],.bool OKB,undef,undef,undef,undef,undef,undef,undef,undef,undef,undef,undef,undef,undef],defers:=[] }) (by kernel_rfl) (by kernel_rfl) ?_ _
    clear s0 s1 slt sfz HG HGS HG7 HCF HSLT
    obtain ⟨s0,s1,slt⟩:=HSG7.out
    have y0:W7.cell? ⟨(w.heap.size+1+1),0,none⟩=some (.map (some mb)):=by rw [cell_of_row W7 _ 0 _ _ _ HY7.out];rfl
    cases OKB with
    | false =>
     go_wp2_with fail
     refine wp_region_late (S:=fun _=>True) (fun _=>false) mx trivial (fun hHeld=>?_)
     refine tkE (i:=0) (v:=.bool false) (d:=some 44) rfl (hy:=(Or.inl ⟨by kernel_rfl,fun _ _=>by kernel_rfl⟩)) (h:=?_)
     refine tkE (i:=1) (v:=.bool true) (d:=some 45) rfl (hy:=(Or.inl ⟨by kernel_rfl,fun w hSw=>by go_simp⟩)) (h:=?_)
     refine tkE (i:=2) (v:=.bool true) (d:=some 46) rfl (hy:=(Or.inl ⟨by kernel_rfl,fun _ _=>by kernel_rfl⟩)) (h:=?_)
     refine tkE (i:=3) (v:=undef) (d:=some 47) rfl (hy:=(Or.inr ⟨by kernel_rfl,rfl⟩)) (h:=?_)
     refine tkE (i:=4) (v:=undef) (d:=some 48) rfl (hy:=(Or.inr ⟨by kernel_rfl,rfl⟩)) (h:=?_)
     refine tkE (i:=5) (v:=undef) (d:=some 49) rfl (hy:=(Or.inr ⟨by kernel_rfl,rfl⟩)) (h:=?_)
     refine tkE (i:=6) (v:=undef) (d:=some 50) rfl (hy:=(Or.inr ⟨by kernel_rfl,rfl⟩)) (h:=?_)
     refine tkE (i:=7) (v:=undef) (d:=some 51) rfl (hy:=(Or.inr ⟨by kernel_rfl,rfl⟩)) (h:=?_)
     refine tkE (i:=8) (v:=.bool true) (d:=some 52) rfl (hy:=(Or.inl ⟨by kernel_rfl,fun _ _=>by kernel_rfl⟩)) (h:=?_)
     refine wpAnyM_doneE (a':={ tmps:=#[.pointer (some ⟨sb,0,none⟩),.agg #[.int .i64 d.kind,.string d.name,.int .i64 d.levels,.int .i64 t0,.int .i64 t1,.bool t2,.string t3,.slice t4 t5 t6,.slice t7 t8 t9,.int .i64 v0,.int .i64 v1,.bool v2,.string v3,.slice v4 v5 v6,.slice v7 v8 v9,.int .i64 d.params,.slice ca d.ctors.length cc],undef,.pointer (some ⟨w.heap.size,0,none⟩),.pointer (some ⟨(w.heap.size+1),0,none⟩),.pointer (some ⟨(w.heap.size+1+1),0,none⟩),.int .i64 0,.bool false,.tuple #[vb,.int .i64 0],.agg vs.toArray,.slice (some ⟨W0.heap.size,0,none⟩) 1 1,.tuple #[vb,.int .i64 0],vb,.int .i64 0,.int .i64 0,.bool false,undef,undef,undef,.agg vs.toArray,.agg zs.toArray,.agg zs.toArray,.slice a (termsD (cleanD d)).length cap,.bool false,undef,undef,.pointer (some ⟨sb,0,none⟩),.pointer (some ⟨sb,0,none⟩),.pointer (some ⟨sb,0,none⟩),.slice sa ds.length scap,.int .i64 ds.length,.bool (decide ((500:Int)≤(ds.length:Int))),undef,undef,.tuple #[.agg #[.map (some mb)],.bool false],.agg zs.toArray,.pointer (some ⟨sb,0,none⟩),.pointer (some ⟨sb,0,none⟩),.pointer (some ⟨sb,0,none⟩),.slice sa ds.length scap,.int .i64 ds.length,.tuple #[.agg #[.map (some mb)],.bool false],.agg #[.map (some mb)],.bool false,.bool false,.bool true,.bool true,undef,undef,undef,undef,undef,.bool true,undef,undef,undef,undef],defers:=[] }) (by kernel_rfl) (by kernel_rfl) ?_ _
     obtain ⟨W8,hW8⟩:∃W8,W7.drew=W8:=⟨_,rfl⟩
     rw [hW8]
     have HPE:Hid (PR=20):=by unfold Hid;rw [←HPR.out];unfold putRes;rw [HDE.out];simp only;rw [if_neg (by rw [HOP.out];decide),if_neg hL,if_pos (by unfold twiceB;rw [HOKB.out];rfl)]
     have HLR:=HLZ
     have HOR:=HZN
     have HRW:Hid (W8.heap[(w.heap.size+1)]?=some (.cells zs.toArray 39 (0,0))):=by unfold Hid;rw [←hW8];exact HR7.out
     have HYW:Hid (W8.heap[(w.heap.size+1+1)]?=some (.cells #[.map (some mb)] 56 (0,0))):=by unfold Hid;rw [←hW8];exact HY7.out
     have HBW:Hid (RowKit.Below w.heap.size w W8):=by unfold Hid;rw [←hW8];exact HB7.out.trans ((Below.refl _ W7).drew.mono HB7.out.size)
     have hs8:w.heap.size+3≤W8.heap.size:=by rw [←hW8];show _≤W7.heap.size;omega
     clear hW8 y0 s0 s1 slt
     go_wp2_with fail
     have HRN:Hid (zs.length=17):=HLR.out
     have HSI:Hid ((Tryz.prog.info? 39).map (·.size)=some zs.length):=by unfold Hid;rw [HLR.out];kernel_rfl
     have HSB:Hid ((Tryz.prog.info? 39).map (·.size)=some zs.toArray.size):=by unfold Hid;rw [List.size_toArray,HLR.out];kernel_rfl
     have HST:Hid ((Tryz.prog.info? 56).map (·.size)=some (#[.map (some mb)]:Array Value).size):=by unfold Hid;kernel_rfl
     have HO1:Hid (zs.toArray.all (·.oneCell')=true):=all_oneCell_toArray HOR.out
     have HO2:Hid ((#[.map (some mb)]:Array Value).all (·.oneCell')=true):=by unfold Hid;simp [Value.oneCell']
     have HG:Hid (∀W,RowKit.Below W8.heap.size W8 W→W.rangeAt (w.heap.size+1) 0 zs∧W.cell? ⟨(w.heap.size+1+1),0,none⟩=some (.map (some mb))):=fun W h=>⟨range_of (pre:=[]) (post:=[]) ((h.block _ (heap_lt HRW.out)).trans HRW.out) (by simp) rfl,by rw [cell_of_row W _ 0 _ _ _ ((h.block _ (heap_lt HYW.out)).trans HYW.out)];rfl⟩
     refine wp_region_late (S:=fun w'=>w'.rangeAt (w.heap.size+1) 0 zs∧w'.cell? ⟨(w.heap.size+1+1),0,none⟩=some (.map (some mb))) (fun i=>i==4) mx ?_ (fun hHeld=>?_)
     ·(try dsimp only)
      exact HG.out _ (Below.refl _ _).drew
     refine tkE (i:=0) (v:=.agg zs.toArray) (d:=some 53) rfl (hy:=(yieldsIf_load_mid (by kernel_rfl) 39 (.tmp 4) rfl (w.heap.size+1) 0 (by kernel_rfl) zs _ (fun w hSw=>hSw.1) Tryz.underlying39 rfl HSI.out)) (h:=?_)
     refine tkE (i:=1) (v:=.agg #[.map (some mb)]) (d:=some 54) rfl (hy:=(Or.inl ⟨by kernel_rfl,fun w hSw=>by go_simp⟩)) (h:=?_)
     have HU1:Hid (W8.drew.there (w.heap.size+1) 0 zs.toArray.size):=there_of (c:=zs.toArray) (t:=39) (n:=zs.toArray.size) HRW.out rfl 0 _ (by omega)
     have hsd1:=(sets_heap (w.heap.size+1) zs.toArray.toList 0 W8.drew)
     have hyd1:(W8.drew.setCells (w.heap.size+1) 0 zs.toArray.toList).heap[(w.heap.size+1+1)]?=some (.cells #[.map (some mb)] 56 (0,0)):=(hsd1.2 _ (by omega)).trans HYW.out
     have hrd1:(W8.drew.setCells (w.heap.size+1) 0 zs.toArray.toList).heap[(w.heap.size+1)]?=some (.cells zs.toArray 39 (0,0)):=sets_whole (w:=W8.drew) (c:=zs.toArray) (c':=zs.toArray) HRW.out rfl
     have HU2:Hid ((W8.drew.setCells (w.heap.size+1) 0 zs.toArray.toList).there (w.heap.size+1+1) 0 (#[.map (some mb)]:Array Value).size):=there_of (n:=1) hyd1 rfl 0 1 (by omega)
     have hsd2:=(sets_heap (w.heap.size+1+1) (#[.map (some mb)]:Array Value).toList 0 (W8.drew.setCells (w.heap.size+1) 0 zs.toArray.toList))
     obtain ⟨WE,hWE⟩:∃WE,(W8.drew.setCells (w.heap.size+1) 0 zs.toArray.toList).setCells (w.heap.size+1+1) 0 (#[.map (some mb)]:Array Value).toList=WE:=⟨_,rfl⟩
     have hre:WE.heap[(w.heap.size+1)]?=some (.cells zs.toArray 39 (0,0)):=by rw [←hWE];exact (hsd2.2 _ (by omega)).trans hrd1
     have hye:WE.heap[(w.heap.size+1+1)]?=some (.cells #[.map (some mb)] 56 (0,0)):=by rw [←hWE];exact sets_whole (w:=W8.drew.setCells (w.heap.size+1) 0 zs.toArray.toList) (c':=#[.map (some mb)]) hyd1 rfl
     have HALL:Hid (∀k,WE.heap[k]?=W8.heap[k]?):=fun k=>by
      by_cases h1:k=(w.heap.size+1+1)
      ·subst h1;rw [hye];exact HYW.out.symm
      ·by_cases h2:k=(w.heap.size+1)
       ·subst h2;rw [hre];exact HRW.out.symm
       ·rw [←hWE];exact (hsd2.2 k h1).trans (hsd1.2 k h2)
     have HBE:Hid (RowKit.Below w.heap.size w WE):=by
      unfold Hid
      rw [←hWE]
      exact below_sets (below_sets (HBW.out.trans ((Below.refl W8.heap.size W8).drew.mono HBW.out.size)) (by omega) _) (by omega) _
     have HSE:Hid (WE.heap.size=W8.heap.size):=by unfold Hid;rw [←hWE];exact hsd2.1.trans hsd1.1
     have HL1:=run_loadVar_mid (P:=Tryz.prog) WE (w.heap.size+1) 0 39 zs _ (range_of (pre:=[]) (post:=[]) hre (by simp) rfl) Tryz.underlying39 rfl HSI.out
     have HL2:=run_loadVar_mid (P:=Tryz.prog) WE (w.heap.size+1+1) 0 56 [.map (some mb)] _ (range_of (pre:=[]) (post:=[]) hye rfl rfl) Tryz.underlying56 rfl HST.out
     have HG1:Hid ((W8.drew.setCells (w.heap.size+1) 0 zs.toArray.toList).rangeAt (w.heap.size+1) 0 zs∧(W8.drew.setCells (w.heap.size+1) 0 zs.toArray.toList).cell? ⟨(w.heap.size+1+1),0,none⟩=some (.map (some mb))):=⟨range_of (pre:=[]) (post:=[]) hrd1 (by simp) rfl,by rw [cell_of_row _ _ 0 _ _ _ hyd1];rfl⟩
     have HG2:Hid (((W8.drew.setCells (w.heap.size+1) 0 zs.toArray.toList).setCells (w.heap.size+1+1) 0 (#[.map (some mb)]:Array Value).toList).rangeAt (w.heap.size+1) 0 zs∧((W8.drew.setCells (w.heap.size+1) 0 zs.toArray.toList).setCells (w.heap.size+1+1) 0 (#[.map (some mb)]:Array Value).toList).cell? ⟨(w.heap.size+1+1),0,none⟩=some (.map (some mb))):=by
      unfold Hid
      rw [hWE]
      exact ⟨range_of (pre:=[]) (post:=[]) hre (by simp) rfl,by rw [cell_of_row _ _ 0 _ _ _ hye];rfl⟩
     have HWE:=Hid.mk hWE
     clear hsd1 hyd1 hrd1 hsd2 hre hye hWE
     refine nx1 (i:=2) (h:=?_)
     refine ⟨_,rfl,fun K hK=>?_⟩
     refine ite_go (by kernel_rfl) ?_
     refine wp_store_mid 39 (.tmp 4) (.tmp 53) rfl (w.heap.size+1) 0 zs.toArray (by kernel_rfl) (by kernel_rfl) HU1.out HSB.out HO1.out (hK.out _ _ (fun _=>HG1.out) (fun _=>?_))
     clear hK K
     refine nx1 (i:=3) (h:=?_)
     refine ⟨_,rfl,fun K hK=>?_⟩
     refine ite_go (by kernel_rfl) ?_
     refine wp_store_mid 56 (.tmp 5) (.tmp 54) rfl (w.heap.size+1+1) 0 #[.map (some mb)] (by kernel_rfl) (by kernel_rfl) HU2.out HST.out HO2.out (hK.out _ _ (fun _=>HG2.out) (fun _=>?_))
     clear hK K
     rw [HWE.out]
     refine nx1 (i:=4) (h:=?_)
     refine ⟨_,rfl,fun K hK=>?_⟩
     go_simp
     refine hK.out _ _ (fun h=>by cases h) (fun _=>?_)
     clear hK K
     refine wpAnyM_done (by kernel_rfl) ?_ _
     go_wp2
     refine bodyPost_ret (v:=.tuple #[.agg zs.toArray,.agg #[.map (some mb)],.int .i64 20]) (results_three Tryz.results20 (by kernel_rfl) HL1 (by kernel_rfl) HL2 (by kernel_rfl)) rfl ?_
     rw [HPE.out]
     exact ⟨zs,some mb,HLR.out,HOR.out,rfl,HBE.out,fun h=>by cases h⟩
    | true =>
     have HC8:=tmeets_any sb 1 (100*ds.length) 100 mb smv (tabM ds) (namesM (ds.length:Int) (cleanD d)).1 W7.drew s1 (HTS7.out.keep fun _ _=>rfl) (HT7.out.keep fun _ _=>rfl)
     have HG8:Hid (∀W,RowKit.Below W7.heap.size W7 W→W.cell? ⟨sb,1,none⟩=some (.map smv)∧W.cell? ⟨(w.heap.size+1+1),0,none⟩=some (.map (some mb))):=fun W h=>⟨(h.cell (p:=⟨sb,1,none⟩) slt).trans s1,(h.cell (p:=⟨(w.heap.size+1+1),0,none⟩) (heap_lt HY7.out)).trans y0⟩
     go_wp2_with fail
     refine wp_region_late (S:=fun w'=>w'.cell? ⟨sb,1,none⟩=some (.map smv)∧w'.cell? ⟨(w.heap.size+1+1),0,none⟩=some (.map (some mb))) (fun _=>false) mx ?_ (fun hHeld=>?_)
     ·(try dsimp only)
      exact HG8.out _ (Below.refl _ _).drew
     refine tkE (i:=0) (v:=.bool true) (d:=some 44) rfl (hy:=(Or.inl ⟨by kernel_rfl,fun _ _=>by kernel_rfl⟩)) (h:=?_)
     refine tkE (i:=1) (v:=.bool false) (d:=some 45) rfl (hy:=(Or.inl ⟨by kernel_rfl,fun w hSw=>by go_simp⟩)) (h:=?_)
     refine tkE (i:=2) (v:=.bool false) (d:=some 46) rfl (hy:=(Or.inl ⟨by kernel_rfl,fun _ _=>by kernel_rfl⟩)) (h:=?_)
     refine tkE (i:=3) (v:=.pointer (some ⟨sb,0,none⟩)) (d:=some 47) rfl (hy:=(Or.inl ⟨by kernel_rfl,fun _ _=>by kernel_rfl⟩)) (h:=?_)
     refine tkE (i:=4) (v:=.pointer (some ⟨sb,0,none⟩)) (d:=some 48) rfl (hy:=(Or.inl ⟨by kernel_rfl,fun w hSw=>by go_simp⟩)) (h:=?_)
     refine tkE (i:=5) (v:=.pointer (some ⟨sb,1,none⟩)) (d:=some 49) rfl (hy:=(Or.inl ⟨by kernel_rfl,fun w hSw=>by go_simp⟩)) (h:=?_)
     refine tkE (i:=6) (v:=.agg #[.map (some mb)]) (d:=some 50) rfl (hy:=(Or.inl ⟨by kernel_rfl,fun w hSw=>by go_simp⟩)) (h:=?_)
     refine nx1 (i:=7) (h:=?_)
     refine ⟨_,rfl,fun K hK=>?_⟩
     go_simp
     go_at_call 39
     refine HC8.mono ?_
     rintro e w8 ⟨⟨q,rfl,hq⟩,hb8⟩
     have HB8:Hid (RowKit.Below W7.heap.size W7 w8):=(Below.refl _ W7).drew.trans hb8
     have HQ:Hid (twiceB ds (cleanD d)=q):=by
      unfold Hid twiceB
      rw [HOKB.out]
      have h1:=hq.trans (meets_is HOWN.out)
      cases q
      ·cases h2:((namesD (cleanD d)).any fun x=>(tabM ds x.1).isSome)
       ·rfl
       ·rw [h2] at h1;exact absurd (h1.2 rfl) (by decide)
      ·rw [h1.1 rfl];rfl
     clear hq hb8 HC8
     refine hK.out _ _ (fun _=>?_) (fun hHeld=>?_)
     ·(try dsimp only)
      exact HG8.out _ HB8.out
     replace hHeld:=hHeld rfl
     clear hK K
     refine tkE (i:=8) (v:=.bool q) (d:=some 52) rfl (hy:=(Or.inl ⟨by kernel_rfl,fun _ _=>by kernel_rfl⟩)) (h:=?_)
     refine wpAnyM_doneE (a':={ tmps:=#[.pointer (some ⟨sb,0,none⟩),.agg #[.int .i64 d.kind,.string d.name,.int .i64 d.levels,.int .i64 t0,.int .i64 t1,.bool t2,.string t3,.slice t4 t5 t6,.slice t7 t8 t9,.int .i64 v0,.int .i64 v1,.bool v2,.string v3,.slice v4 v5 v6,.slice v7 v8 v9,.int .i64 d.params,.slice ca d.ctors.length cc],undef,.pointer (some ⟨w.heap.size,0,none⟩),.pointer (some ⟨(w.heap.size+1),0,none⟩),.pointer (some ⟨(w.heap.size+1+1),0,none⟩),.int .i64 0,.bool true,.tuple #[vb,.int .i64 0],.agg vs.toArray,.slice (some ⟨W0.heap.size,0,none⟩) 1 1,.tuple #[vb,.int .i64 0],vb,.int .i64 0,.int .i64 0,.bool false,undef,undef,undef,.agg vs.toArray,.agg zs.toArray,.agg zs.toArray,.slice a (termsD (cleanD d)).length cap,.bool false,undef,undef,.pointer (some ⟨sb,0,none⟩),.pointer (some ⟨sb,0,none⟩),.pointer (some ⟨sb,0,none⟩),.slice sa ds.length scap,.int .i64 ds.length,.bool (decide ((500:Int)≤(ds.length:Int))),undef,undef,.tuple #[.agg #[.map (some mb)],.bool true],.agg zs.toArray,.pointer (some ⟨sb,0,none⟩),.pointer (some ⟨sb,0,none⟩),.pointer (some ⟨sb,0,none⟩),.slice sa ds.length scap,.int .i64 ds.length,.tuple #[.agg #[.map (some mb)],.bool true],.agg #[.map (some mb)],.bool true,.bool true,.bool false,.bool false,.pointer (some ⟨sb,0,none⟩),.pointer (some ⟨sb,0,none⟩),.pointer (some ⟨sb,1,none⟩),.agg #[.map (some mb)],.bool q,.bool q,undef,undef,undef,undef],defers:=[] }) (by kernel_rfl) (by kernel_rfl) ?_ _
     have HLR:=HLZ
     have HOR:=HZN
     have HRW:Hid (w8.heap[(w.heap.size+1)]?=some (.cells zs.toArray 39 (0,0))):=(HB8.out.block _ (heap_lt HR7.out)).trans HR7.out
     have HYW:Hid (w8.heap[(w.heap.size+1+1)]?=some (.cells #[.map (some mb)] 56 (0,0))):=(HB8.out.block _ (heap_lt HY7.out)).trans HY7.out
     have HBW:Hid (RowKit.Below w.heap.size w w8):=HB7.out.trans (HB8.out.mono HB7.out.size)
     have hs8:w.heap.size+3≤w8.heap.size:=by have:=HB8.out.size;omega
     have HE8:Hid (ED w8 (oldB w1) zs (cleanD d)):=ED.moves _ _ _ _ _ _ HE7.out HB8.out.size fun k h1 h2=>⟨h2,HB8.out.block k h1⟩
     have HT8:Hid (Tb w8 (some mb) 100 (namesM (ds.length:Int) (cleanD d)).1):=HT7.out.keep fun b hb=>HB8.out.block b (by cases hb;exact HT7.out.lt)
     clear y0 s0 s1 slt
     cases q with
     | true =>
      have HPE:Hid (PR=20):=by unfold Hid;rw [←HPR.out];unfold putRes;rw [HDE.out];simp only;rw [if_neg (by rw [HOP.out];decide),if_neg hL,if_pos HQ.out]
      go_wp2_with fail
      have HRN:Hid (zs.length=17):=HLR.out
      have HSI:Hid ((Tryz.prog.info? 39).map (·.size)=some zs.length):=by unfold Hid;rw [HLR.out];kernel_rfl
      have HSB:Hid ((Tryz.prog.info? 39).map (·.size)=some zs.toArray.size):=by unfold Hid;rw [List.size_toArray,HLR.out];kernel_rfl
      have HST:Hid ((Tryz.prog.info? 56).map (·.size)=some (#[.map (some mb)]:Array Value).size):=by unfold Hid;kernel_rfl
      have HO1:Hid (zs.toArray.all (·.oneCell')=true):=all_oneCell_toArray HOR.out
      have HO2:Hid ((#[.map (some mb)]:Array Value).all (·.oneCell')=true):=by unfold Hid;simp [Value.oneCell']
      have HG:Hid (∀W,RowKit.Below w8.heap.size w8 W→W.rangeAt (w.heap.size+1) 0 zs∧W.cell? ⟨(w.heap.size+1+1),0,none⟩=some (.map (some mb))):=fun W h=>⟨range_of (pre:=[]) (post:=[]) ((h.block _ (heap_lt HRW.out)).trans HRW.out) (by simp) rfl,by rw [cell_of_row W _ 0 _ _ _ ((h.block _ (heap_lt HYW.out)).trans HYW.out)];rfl⟩
      refine wp_region_late (S:=fun w'=>w'.rangeAt (w.heap.size+1) 0 zs∧w'.cell? ⟨(w.heap.size+1+1),0,none⟩=some (.map (some mb))) (fun i=>i==4) mx ?_ (fun hHeld=>?_)
      ·(try dsimp only)
       exact HG.out _ (Below.refl _ _).drew
      refine tkE (i:=0) (v:=.agg zs.toArray) (d:=some 53) rfl (hy:=(yieldsIf_load_mid (by kernel_rfl) 39 (.tmp 4) rfl (w.heap.size+1) 0 (by kernel_rfl) zs _ (fun w hSw=>hSw.1) Tryz.underlying39 rfl HSI.out)) (h:=?_)
      refine tkE (i:=1) (v:=.agg #[.map (some mb)]) (d:=some 54) rfl (hy:=(Or.inl ⟨by kernel_rfl,fun w hSw=>by go_simp⟩)) (h:=?_)
      have HU1:Hid (w8.drew.there (w.heap.size+1) 0 zs.toArray.size):=there_of (c:=zs.toArray) (t:=39) (n:=zs.toArray.size) HRW.out rfl 0 _ (by omega)
      have hsd1:=(sets_heap (w.heap.size+1) zs.toArray.toList 0 w8.drew)
      have hyd1:(w8.drew.setCells (w.heap.size+1) 0 zs.toArray.toList).heap[(w.heap.size+1+1)]?=some (.cells #[.map (some mb)] 56 (0,0)):=(hsd1.2 _ (by omega)).trans HYW.out
      have hrd1:(w8.drew.setCells (w.heap.size+1) 0 zs.toArray.toList).heap[(w.heap.size+1)]?=some (.cells zs.toArray 39 (0,0)):=sets_whole (w:=w8.drew) (c:=zs.toArray) (c':=zs.toArray) HRW.out rfl
      have HU2:Hid ((w8.drew.setCells (w.heap.size+1) 0 zs.toArray.toList).there (w.heap.size+1+1) 0 (#[.map (some mb)]:Array Value).size):=there_of (n:=1) hyd1 rfl 0 1 (by omega)
      have hsd2:=(sets_heap (w.heap.size+1+1) (#[.map (some mb)]:Array Value).toList 0 (w8.drew.setCells (w.heap.size+1) 0 zs.toArray.toList))
      obtain ⟨WE,hWE⟩:∃WE,(w8.drew.setCells (w.heap.size+1) 0 zs.toArray.toList).setCells (w.heap.size+1+1) 0 (#[.map (some mb)]:Array Value).toList=WE:=⟨_,rfl⟩
      have hre:WE.heap[(w.heap.size+1)]?=some (.cells zs.toArray 39 (0,0)):=by rw [←hWE];exact (hsd2.2 _ (by omega)).trans hrd1
      have hye:WE.heap[(w.heap.size+1+1)]?=some (.cells #[.map (some mb)] 56 (0,0)):=by rw [←hWE];exact sets_whole (w:=w8.drew.setCells (w.heap.size+1) 0 zs.toArray.toList) (c':=#[.map (some mb)]) hyd1 rfl
      have HALL:Hid (∀k,WE.heap[k]?=w8.heap[k]?):=fun k=>by
       by_cases h1:k=(w.heap.size+1+1)
       ·subst h1;rw [hye];exact HYW.out.symm
       ·by_cases h2:k=(w.heap.size+1)
        ·subst h2;rw [hre];exact HRW.out.symm
        ·rw [←hWE];exact (hsd2.2 k h1).trans (hsd1.2 k h2)
      have HBE:Hid (RowKit.Below w.heap.size w WE):=by
       unfold Hid
       rw [←hWE]
       exact below_sets (below_sets (HBW.out.trans ((Below.refl w8.heap.size w8).drew.mono HBW.out.size)) (by omega) _) (by omega) _
      have HSE:Hid (WE.heap.size=w8.heap.size):=by unfold Hid;rw [←hWE];exact hsd2.1.trans hsd1.1
      have HL1:=run_loadVar_mid (P:=Tryz.prog) WE (w.heap.size+1) 0 39 zs _ (range_of (pre:=[]) (post:=[]) hre (by simp) rfl) Tryz.underlying39 rfl HSI.out
      have HL2:=run_loadVar_mid (P:=Tryz.prog) WE (w.heap.size+1+1) 0 56 [.map (some mb)] _ (range_of (pre:=[]) (post:=[]) hye rfl rfl) Tryz.underlying56 rfl HST.out
      have HG1:Hid ((w8.drew.setCells (w.heap.size+1) 0 zs.toArray.toList).rangeAt (w.heap.size+1) 0 zs∧(w8.drew.setCells (w.heap.size+1) 0 zs.toArray.toList).cell? ⟨(w.heap.size+1+1),0,none⟩=some (.map (some mb))):=⟨range_of (pre:=[]) (post:=[]) hrd1 (by simp) rfl,by rw [cell_of_row _ _ 0 _ _ _ hyd1];rfl⟩
      have HG2:Hid (((w8.drew.setCells (w.heap.size+1) 0 zs.toArray.toList).setCells (w.heap.size+1+1) 0 (#[.map (some mb)]:Array Value).toList).rangeAt (w.heap.size+1) 0 zs∧((w8.drew.setCells (w.heap.size+1) 0 zs.toArray.toList).setCells (w.heap.size+1+1) 0 (#[.map (some mb)]:Array Value).toList).cell? ⟨(w.heap.size+1+1),0,none⟩=some (.map (some mb))):=by
       unfold Hid
       rw [hWE]
       exact ⟨range_of (pre:=[]) (post:=[]) hre (by simp) rfl,by rw [cell_of_row _ _ 0 _ _ _ hye];rfl⟩
      have HWE:=Hid.mk hWE
      clear hsd1 hyd1 hrd1 hsd2 hre hye hWE
      refine nx1 (i:=2) (h:=?_)
      refine ⟨_,rfl,fun K hK=>?_⟩
      refine ite_go (by kernel_rfl) ?_
      refine wp_store_mid 39 (.tmp 4) (.tmp 53) rfl (w.heap.size+1) 0 zs.toArray (by kernel_rfl) (by kernel_rfl) HU1.out HSB.out HO1.out (hK.out _ _ (fun _=>HG1.out) (fun _=>?_))
      clear hK K
      refine nx1 (i:=3) (h:=?_)
      refine ⟨_,rfl,fun K hK=>?_⟩
      refine ite_go (by kernel_rfl) ?_
      refine wp_store_mid 56 (.tmp 5) (.tmp 54) rfl (w.heap.size+1+1) 0 #[.map (some mb)] (by kernel_rfl) (by kernel_rfl) HU2.out HST.out HO2.out (hK.out _ _ (fun _=>HG2.out) (fun _=>?_))
      clear hK K
      rw [HWE.out]
      refine nx1 (i:=4) (h:=?_)
      refine ⟨_,rfl,fun K hK=>?_⟩
      go_simp
      refine hK.out _ _ (fun h=>by cases h) (fun _=>?_)
      clear hK K
      refine wpAnyM_done (by kernel_rfl) ?_ _
      go_wp2
      refine bodyPost_ret (v:=.tuple #[.agg zs.toArray,.agg #[.map (some mb)],.int .i64 20]) (results_three Tryz.results20 (by kernel_rfl) HL1 (by kernel_rfl) HL2 (by kernel_rfl)) rfl ?_
      rw [HPE.out]
      exact ⟨zs,some mb,HLR.out,HOR.out,rfl,HBE.out,fun h=>by cases h⟩
     | false =>
      have HPE:Hid (PR=0):=by unfold Hid;rw [←HPR.out];unfold putRes;rw [HDE.out];simp only;rw [if_neg (by rw [HOP.out];decide),if_neg hL,if_neg (by rw [HQ.out];decide)]
      go_wp2_with fail
      have HRN:Hid (zs.length=17):=HLR.out
      have HSI:Hid ((Tryz.prog.info? 39).map (·.size)=some zs.length):=by unfold Hid;rw [HLR.out];kernel_rfl
      have HSB:Hid ((Tryz.prog.info? 39).map (·.size)=some zs.toArray.size):=by unfold Hid;rw [List.size_toArray,HLR.out];kernel_rfl
      have HST:Hid ((Tryz.prog.info? 56).map (·.size)=some (#[.map (some mb)]:Array Value).size):=by unfold Hid;kernel_rfl
      have HO1:Hid (zs.toArray.all (·.oneCell')=true):=all_oneCell_toArray HOR.out
      have HO2:Hid ((#[.map (some mb)]:Array Value).all (·.oneCell')=true):=by unfold Hid;simp [Value.oneCell']
      have HG:Hid (∀W,RowKit.Below w8.heap.size w8 W→W.rangeAt (w.heap.size+1) 0 zs∧W.cell? ⟨(w.heap.size+1+1),0,none⟩=some (.map (some mb))):=fun W h=>⟨range_of (pre:=[]) (post:=[]) ((h.block _ (heap_lt HRW.out)).trans HRW.out) (by simp) rfl,by rw [cell_of_row W _ 0 _ _ _ ((h.block _ (heap_lt HYW.out)).trans HYW.out)];rfl⟩
      refine wp_region_late (S:=fun w'=>w'.rangeAt (w.heap.size+1) 0 zs∧w'.cell? ⟨(w.heap.size+1+1),0,none⟩=some (.map (some mb))) (fun i=>i==4) mx ?_ (fun hHeld=>?_)
      ·(try dsimp only)
       exact HG.out _ (Below.refl _ _).drew
      refine tkE (i:=0) (v:=.agg zs.toArray) (d:=some 55) rfl (hy:=(yieldsIf_load_mid (by kernel_rfl) 39 (.tmp 4) rfl (w.heap.size+1) 0 (by kernel_rfl) zs _ (fun w hSw=>hSw.1) Tryz.underlying39 rfl HSI.out)) (h:=?_)
      refine tkE (i:=1) (v:=.agg #[.map (some mb)]) (d:=some 56) rfl (hy:=(Or.inl ⟨by kernel_rfl,fun w hSw=>by go_simp⟩)) (h:=?_)
      have HU1:Hid (w8.drew.there (w.heap.size+1) 0 zs.toArray.size):=there_of (c:=zs.toArray) (t:=39) (n:=zs.toArray.size) HRW.out rfl 0 _ (by omega)
      have hsd1:=(sets_heap (w.heap.size+1) zs.toArray.toList 0 w8.drew)
      have hyd1:(w8.drew.setCells (w.heap.size+1) 0 zs.toArray.toList).heap[(w.heap.size+1+1)]?=some (.cells #[.map (some mb)] 56 (0,0)):=(hsd1.2 _ (by omega)).trans HYW.out
      have hrd1:(w8.drew.setCells (w.heap.size+1) 0 zs.toArray.toList).heap[(w.heap.size+1)]?=some (.cells zs.toArray 39 (0,0)):=sets_whole (w:=w8.drew) (c:=zs.toArray) (c':=zs.toArray) HRW.out rfl
      have HU2:Hid ((w8.drew.setCells (w.heap.size+1) 0 zs.toArray.toList).there (w.heap.size+1+1) 0 (#[.map (some mb)]:Array Value).size):=there_of (n:=1) hyd1 rfl 0 1 (by omega)
      have hsd2:=(sets_heap (w.heap.size+1+1) (#[.map (some mb)]:Array Value).toList 0 (w8.drew.setCells (w.heap.size+1) 0 zs.toArray.toList))
      obtain ⟨WE,hWE⟩:∃WE,(w8.drew.setCells (w.heap.size+1) 0 zs.toArray.toList).setCells (w.heap.size+1+1) 0 (#[.map (some mb)]:Array Value).toList=WE:=⟨_,rfl⟩
      have hre:WE.heap[(w.heap.size+1)]?=some (.cells zs.toArray 39 (0,0)):=by rw [←hWE];exact (hsd2.2 _ (by omega)).trans hrd1
      have hye:WE.heap[(w.heap.size+1+1)]?=some (.cells #[.map (some mb)] 56 (0,0)):=by rw [←hWE];exact sets_whole (w:=w8.drew.setCells (w.heap.size+1) 0 zs.toArray.toList) (c':=#[.map (some mb)]) hyd1 rfl
      have HALL:Hid (∀k,WE.heap[k]?=w8.heap[k]?):=fun k=>by
       by_cases h1:k=(w.heap.size+1+1)
       ·subst h1;rw [hye];exact HYW.out.symm
       ·by_cases h2:k=(w.heap.size+1)
        ·subst h2;rw [hre];exact HRW.out.symm
        ·rw [←hWE];exact (hsd2.2 k h1).trans (hsd1.2 k h2)
      have HBE:Hid (RowKit.Below w.heap.size w WE):=by
       unfold Hid
       rw [←hWE]
       exact below_sets (below_sets (HBW.out.trans ((Below.refl w8.heap.size w8).drew.mono HBW.out.size)) (by omega) _) (by omega) _
      have HSE:Hid (WE.heap.size=w8.heap.size):=by unfold Hid;rw [←hWE];exact hsd2.1.trans hsd1.1
      have HL1:=run_loadVar_mid (P:=Tryz.prog) WE (w.heap.size+1) 0 39 zs _ (range_of (pre:=[]) (post:=[]) hre (by simp) rfl) Tryz.underlying39 rfl HSI.out
      have HL2:=run_loadVar_mid (P:=Tryz.prog) WE (w.heap.size+1+1) 0 56 [.map (some mb)] _ (range_of (pre:=[]) (post:=[]) hye rfl rfl) Tryz.underlying56 rfl HST.out
      have HG1:Hid ((w8.drew.setCells (w.heap.size+1) 0 zs.toArray.toList).rangeAt (w.heap.size+1) 0 zs∧(w8.drew.setCells (w.heap.size+1) 0 zs.toArray.toList).cell? ⟨(w.heap.size+1+1),0,none⟩=some (.map (some mb))):=⟨range_of (pre:=[]) (post:=[]) hrd1 (by simp) rfl,by rw [cell_of_row _ _ 0 _ _ _ hyd1];rfl⟩
      have HG2:Hid (((w8.drew.setCells (w.heap.size+1) 0 zs.toArray.toList).setCells (w.heap.size+1+1) 0 (#[.map (some mb)]:Array Value).toList).rangeAt (w.heap.size+1) 0 zs∧((w8.drew.setCells (w.heap.size+1) 0 zs.toArray.toList).setCells (w.heap.size+1+1) 0 (#[.map (some mb)]:Array Value).toList).cell? ⟨(w.heap.size+1+1),0,none⟩=some (.map (some mb))):=by
       unfold Hid
       rw [hWE]
       exact ⟨range_of (pre:=[]) (post:=[]) hre (by simp) rfl,by rw [cell_of_row _ _ 0 _ _ _ hye];rfl⟩
      have HWE:=Hid.mk hWE
      clear hsd1 hyd1 hrd1 hsd2 hre hye hWE
      refine nx1 (i:=2) (h:=?_)
      refine ⟨_,rfl,fun K hK=>?_⟩
      refine ite_go (by kernel_rfl) ?_
      refine wp_store_mid 39 (.tmp 4) (.tmp 55) rfl (w.heap.size+1) 0 zs.toArray (by kernel_rfl) (by kernel_rfl) HU1.out HSB.out HO1.out (hK.out _ _ (fun _=>HG1.out) (fun _=>?_))
      clear hK K
      refine nx1 (i:=3) (h:=?_)
      refine ⟨_,rfl,fun K hK=>?_⟩
      refine ite_go (by kernel_rfl) ?_
      refine wp_store_mid 56 (.tmp 5) (.tmp 56) rfl (w.heap.size+1+1) 0 #[.map (some mb)] (by kernel_rfl) (by kernel_rfl) HU2.out HST.out HO2.out (hK.out _ _ (fun _=>HG2.out) (fun _=>?_))
      clear hK K
      rw [HWE.out]
      refine nx1 (i:=4) (h:=?_)
      refine ⟨_,rfl,fun K hK=>?_⟩
      go_simp
      refine hK.out _ _ (fun h=>by cases h) (fun _=>?_)
      clear hK K
      refine wpAnyM_done (by kernel_rfl) ?_ _
      go_wp2
      refine bodyPost_ret (v:=.tuple #[.agg zs.toArray,.agg #[.map (some mb)],.int .i64 0]) (results_three Tryz.results20 (by kernel_rfl) HL1 (by kernel_rfl) HL2 (by kernel_rfl)) rfl ?_
      rw [HPE.out]
      refine ⟨zs,some mb,HLR.out,HOR.out,rfl,HBE.out,fun _=>⟨ED.moves _ _ _ _ _ _ HE8.out (Nat.le_of_eq HSE.out.symm) fun k h1 h2=>⟨oldB_new (by have:=oldB_no h2;have:=HBX.out.size;omega),HALL.out k⟩,HOWN.out,by omega,HQ.out,mb,rfl,HT8.out.keep fun b _=>HALL.out b,by have:=HBW5.out.size;omega⟩⟩
end Go.Proofs.YtgfgpjcnfnopnaaGreat
