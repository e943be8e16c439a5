/- The contracts of New, orEmpty, Kinds, told and Get of package sig. -/
import Derived.Test.YtgfgpjcnfnopnaaGreatQM
namespace Go.Proofs.YtgfgpjcnfnopnaaGreat
set_option maxRecDepth 100000
set_option maxHeartbeats 40000000
open Go.RowKit Go.Sort Go.Lib
theorem orEmpty_any (sb:Nat) (w:World):Calls Tryz.prog 19 #[.pointer (some ⟨sb,0,none⟩)] w fun e w'=>e=.returned (.pointer (some ⟨sb,0,none⟩))∧w'=w:=by
 go_enter Tryz.func19,Tryz.ntmps19
 go_wp2
 go_ret
 exact ⟨rfl,rfl⟩
theorem SB.new (w:World):SB (w.alloc (.cells #[.slice none 0 0,.map none] 58)) w.heap.size (.slice none 0 0) (.map none):=by
 obtain ⟨c0,c1,-,fz⟩:=cells2f (alloc_new w (.cells #[.slice none 0 0,.map none] 58))
 exact ⟨c0,c1,fz⟩
theorem New_any (w:World):Calls Tryz.prog 6 #[] w fun e w'=>e=.returned (.pointer (some ⟨w.heap.size,0,none⟩))∧SG w' w.heap.size []∧RowKit.Below w.heap.size w w':=by
 go_enter Tryz.func6,Tryz.ntmps6
 go_wp2
 go_ret
 exact ⟨rfl,⟨⟨none,0,none,SB.new w,RowX.nil _ _ _ _ _ _,⟨Or.inl ⟨rfl,fun _=>rfl⟩⟩,fun b h=>(by cases h),rfl⟩,Nat.le_refl _,by simp,fun d hd=>(by cases hd),fun _=>(SB.new w).c0⟩,(Below.refl _ _).alloc (Nat.le_refl _) _⟩
theorem Kinds_any (w:World):Calls Tryz.prog 17 #[] w fun e w'=>e=.returned (.tuple #[.int .i64 0,.int .i64 1,.int .i64 2,.int .i64 3,.int .i64 4,.int .i64 5])∧w'=w:=by
 go_enter Tryz.func17,Tryz.ntmps17
 go_wp2
 exact bodyPost_ret (v:=.tuple #[.int .i64 0,.int .i64 1,.int .i64 2,.int .i64 3,.int .i64 4,.int .i64 5]) (by simp [results,Tryz.results17,go_sem]) rfl ⟨rfl,rfl⟩
def zeroD:Dl:=⟨0,{ data:=#[] },0,.mk 0 0 false { data:=#[] } [] [],.mk 0 0 false { data:=#[] } [] [],0,[]⟩
theorem zeroTm_sm:smT 1000000 (.mk 0 0 false { data:=#[] } [] []):=(smT_mk _ _ _ _ _ _ _).2 ⟨by decide,by simp,by simp,by simp,by simp⟩
theorem zeroD_ed (w:World) (P:Nat→Bool):ED w P [.int .i64 0,.string { data:=#[] },.int .i64 0,.int .i64 0,.int .i64 0,.bool false,.string { data:=#[] },.slice none 0 0,.slice none 0 0,.int .i64 0,.int .i64 0,.bool false,.string { data:=#[] },.slice none 0 0,.slice none 0 0,.int .i64 0,.slice none 0 0] zeroD :=
 ⟨rfl,by simp [Value.oneCell'],⟨⟨0,0,false,{ data:=#[] },none,0,0,none,0,0,0,0,false,{ data:=#[] },none,0,0,none,0,0,none,0,rfl,TV.leaf _ _ _ _,TV.leaf _ _ _ _,Or.inl rfl⟩⟩,⟨by decide,zeroTm_sm,zeroTm_sm,by decide,fun c hc=>by cases hc⟩⟩
theorem namesM_place {p:Int}{d:Dl}{s:ByteArray}{x:Int×Int}(h:(namesM p d).1 s=some x):x.1=p:=by
 have gen:∀(l:List (ByteArray×Int)) (st:(ByteArray→Option (Int×Int))×Bool),(∀y,st.1 s=some y→y.1=p)→∀y,(l.foldl (putN p) st).1 s=some y→y.1=p:=by
  intro l
  induction l with
  | nil=>intro st h;exact h
  | cons a l ih =>
   intro st h
   refine ih _ ?_
   intro y hy
   unfold putN at hy
   split at hy
   ·exact h y hy
   ·unfold updM at hy
    simp only at hy
    split at hy
    ·cases hy;rfl
    ·exact h y hy
 exact gen _ _ (by simp) x h
theorem tabM_place {ds:List Dl}{s:ByteArray}{x:Int×Int}(h:tabM ds s=some x):∃k:Nat,k<ds.length∧x.1=(k:Int):=by
 have gen:∀(l:List (Dl×Nat)) (M:ByteArray→Option (Int×Int)),(l.foldl (fun M x=>joinM M (namesM (x.2:Int) x.1).1) M) s=some x→M s=some x∨∃y∈l,x.1=(y.2:Int):=by
  intro l
  induction l with
  | nil=>intro M h;exact Or.inl h
  | cons a l ih =>
   intro M h
   rcases ih _ h with h | ⟨y,hy,h⟩
   ·dsimp only [joinM] at h
    split at h
    ·exact Or.inr ⟨a,List.mem_cons_self ..,namesM_place h⟩
    ·exact Or.inl h
   ·exact Or.inr ⟨y,List.mem_cons_of_mem _ hy,h⟩
 rcases gen _ _ h with h | ⟨y,hy,h⟩
 ·cases h
 ·refine ⟨y.2,?_,h⟩
  have:=List.snd_lt_of_mem_zipIdx hy
  simpa using this
def getRes (ds:List Dl) (s:ByteArray):Dl×Int:=match tabM ds s with
 | none=>(zeroD,0)
 | some x=>(ds.getD x.1.toNat zeroD,x.2)
theorem mapM_two {P:Program}{w:World}{v1 v2:Value}(f:ResultVar→Sem Value) (x1 x2:ResultVar) (h1:(f x1).run P w=.ok v1 w) (h2:(f x2).run P w=.ok v2 w):((#[x1,x2]:Array ResultVar).mapM f).run P w=.ok #[v1,v2] w:=by
 simp [go_sem,h1,h2]
theorem results_two {P:Program}{fn:Func}{tmps:Array Value}{w:World}{s1 s3:Nat}{t1:TypeId}{p1:Addr}{v1 v3:Value}(hf:fn.results=#[.cell s1 t1,.tmp s3]) (hp1:tmps.getD s1 undef=.pointer (some p1)) (hl1:(loadVar t1 p1).run P w=.ok v1 w) (hp3:tmps.getD s3 undef=v3):(results fn tmps).run P w=.ok (.tuple #[v1,v3]) w:=by
 unfold results
 rw [hf,Sem.run_bind,mapM_two (v1:=v1) (v2:=v3)]
 ·rfl
 ·show Sem.run P ((asAddr (tmps.getD s1 undef)).bind fun q=>loadVar t1 q) w=_
  rw [hp1]
  exact (Sem.run_bind _ _ _ _).trans hl1
 ·show Sem.run P (pure (tmps.getD s3 undef)) w=_
  rw [hp3]
  rfl
theorem told_any {B:Nat}(ds:List Dl) (sb k:Nat) (d:Dl) (w:World) (hS:SGG w B sb ds) (hk:ds[k]?=some d):Calls Tryz.prog 27 #[.pointer (some ⟨sb,0,none⟩),.int .i64 k] w fun e w'=>∃zs:List Value,e=.returned (.agg zs.toArray)∧ED w' (oldB w) zs d∧RowKit.Below w.heap.size w w':=by
 have hlt:k<ds.length:=(List.getElem?_eq_some_iff.1 hk).1
 have hsb:=hS.lt
 have hown:=hS.own d (List.mem_of_getElem? hk)
 obtain ⟨a,cap,mv,h1,h2,-,-⟩:=hS.go
 obtain ⟨g,xs,rfl,hg1,hg2,hxl,hrg,hEx⟩:=h2.at (EDx.moves sb) (fun _ _=>rfl) hk
 have hE:=hEx.ed
 obtain ⟨W0,hW0⟩:∃W0,w.alloc (.cells #[.int .i64 0,.string { data:=#[] },.int .i64 0,.int .i64 0,.int .i64 0,.bool false,.string { data:=#[] },.slice none 0 0,.slice none 0 0,.int .i64 0,.int .i64 0,.bool false,.string { data:=#[] },.slice none 0 0,.slice none 0 0,.int .i64 0,.slice none 0 0] 39)=W0:=⟨_,rfl⟩
 have hb0:RowKit.Below w.heap.size w W0:=by rw [←hW0];exact (Below.refl _ _).alloc (Nat.le_refl _) _
 have HR0:Hid (W0.heap[w.heap.size]?=some (.cells #[.int .i64 0,.string { data:=#[] },.int .i64 0,.int .i64 0,.int .i64 0,.bool false,.string { data:=#[] },.slice none 0 0,.slice none 0 0,.int .i64 0,.int .i64 0,.bool false,.string { data:=#[] },.slice none 0 0,.slice none 0 0,.int .i64 0,.slice none 0 0] 39 (0,0))):=by unfold Hid;rw [←hW0];exact alloc_new _ _
 have hs0:w.heap.size<W0.heap.size:=heap_lt HR0.out
 obtain ⟨s0,s1,slt,sfz⟩:=(h1.keep (hb0.block sb hsb)).all
 have HRG:Hid (W0.rangeAt g (k*17) xs):=fun j v hj=>(hb0.cell (p:=⟨g,k*17+j,none⟩) hg2).trans (maskB_cell (hrg j v hj)).2
 have HSX:Hid ((Tryz.prog.info? 39).map (·.size)=some xs.length):=by unfold Hid;rw [hxl];kernel_rfl
 have HC:=bareD_any d (.agg xs.toArray) W0 (hE.val.on hb0) hown.right hown.sm
 rw [hown.clean] at HC
 have HW0:=Hid.mk hW0
 have HB0:=Hid.mk hb0
 have zk:(k:Int)<(ds.length:Int):=by omega
 have zk0:(0:Int)≤(k:Int):=by omega
 clear hb0 hW0 hS hk hown h1 h2 hrg hE hEx
 go_enter Tryz.func27,Tryz.ntmps27
 go_wp2_with (first | (rw [HW0.out]) | (refine wpList_load_mid rfl 39 _ rfl g (k*17) rfl xs _ HRG.out Tryz.underlying39 rfl HSX.out ?_))
 refine HC.mono ?_
 rintro e w1 ⟨zs,rfl,hE,hb1⟩
 have hzl:zs.length=17:=hE.len
 have hzt:zs.toArray.size=17:=by simp [hzl]
 have hR1:w1.heap[w.heap.size]?=some (.cells #[.int .i64 0,.string { data:=#[] },.int .i64 0,.int .i64 0,.int .i64 0,.bool false,.string { data:=#[] },.slice none 0 0,.slice none 0 0,.int .i64 0,.int .i64 0,.bool false,.string { data:=#[] },.slice none 0 0,.slice none 0 0,.int .i64 0,.slice none 0 0] 39 (0,0)):=(hb1.block _ hs0).trans HR0.out
 have HTH:Hid (w1.there w.heap.size 0 zs.toArray.size):=by unfold Hid;rw [hzt];exact there_of hR1 rfl 0 17 (Nat.le_refl 17)
 have HSY:Hid ((Tryz.prog.info? 39).map (·.size)=some zs.toArray.size):=by unfold Hid;rw [hzt];kernel_rfl
 have HSZ:Hid ((Tryz.prog.info? 39).map (·.size)=some zs.length):=by unfold Hid;rw [hzl];kernel_rfl
 have HON:Hid (zs.toArray.all (·.oneCell')=true):=all_oneCell_toArray hE.cell
 have hw2:=sets_heap w.heap.size zs.toArray.toList 0 w1
 have hR2:(w1.setCells w.heap.size 0 zs.toArray.toList).heap[w.heap.size]?=some (.cells zs.toArray 39 (0,0)):=sets_whole (c':=zs.toArray) hR1 (by rw [hzt];rfl)
 have hs1:=hb1.size
 have HE2:Hid (ED (w1.setCells w.heap.size 0 zs.toArray.toList) (oldB w) zs d):=ED.moves _ _ _ _ _ _ hE (Nat.le_of_eq hw2.1.symm) fun k h1 h2=>⟨oldB_new (by have:=oldB_no h2;omega),hw2.2 k (by have:=oldB_no h2;omega)⟩
 have HB2:Hid (RowKit.Below w.heap.size w (w1.setCells w.heap.size 0 zs.toArray.toList)):=below_sets (HB0.out.trans (hb1.mono (by omega))) (Nat.le_refl _) _
 have HL:=run_loadVar_mid (P:=Tryz.prog) (w1.setCells w.heap.size 0 zs.toArray.toList) w.heap.size 0 39 zs _ (range_of (pre:=[]) (post:=[]) hR2 (by simp) rfl) Tryz.underlying39 rfl HSZ.out
 clear hE hb1 hzt hR1 hw2 hR2 HC s0 s1 slt sfz
 go_wp2_with (refine wpList_store_mid rfl 39 _ _ rfl w.heap.size 0 zs.toArray rfl rfl HTH.out HSY.out HON.out ?_)
 exact bodyPost_ret (v:=.agg zs.toArray) (results_cell (s:=4) (t:=39) Tryz.results27 rfl HL) rfl ⟨zs,rfl,HE2.out,HB2.out⟩
theorem Get_any {B:Nat}(ds:List Dl) (sb:Nat) (s:ByteArray) (w:World) (hS:SGG w B sb ds) (hs:s.size≤maxLen):Calls Tryz.prog 13 #[.pointer (some ⟨sb,0,none⟩),.string s] w fun e w'=>∃zs:List Value,e=.returned (.tuple #[.agg zs.toArray,.int .i64 (getRes ds s).2])∧ED w' (oldB w) zs (getRes ds s).1∧RowKit.Below w.heap.size w w':=by
 have mx:=mixed
 have hsb:=hS.lt
 obtain ⟨zz,hzz⟩:∃zz:List Value,zz=[.int .i64 0,.string { data:=#[] },.int .i64 0,.int .i64 0,.int .i64 0,.bool false,.string { data:=#[] },.slice none 0 0,.slice none 0 0,.int .i64 0,.int .i64 0,.bool false,.string { data:=#[] },.slice none 0 0,.slice none 0 0,.int .i64 0,.slice none 0 0]:=⟨_,rfl⟩
 have hza:zz.toArray=#[.int .i64 0,.string { data:=#[] },.int .i64 0,.int .i64 0,.int .i64 0,.bool false,.string { data:=#[] },.slice none 0 0,.slice none 0 0,.int .i64 0,.int .i64 0,.bool false,.string { data:=#[] },.slice none 0 0,.slice none 0 0,.int .i64 0,.slice none 0 0]:=by rw [hzz]
 have hzl:zz.length=17:=by rw [hzz];rfl
 have hzt:zz.toArray.size=17:=by rw [hzz];rfl
 have HZE:Hid (∀W P,ED W P zz zeroD):=fun W P=>by rw [hzz];exact zeroD_ed W P
 obtain ⟨W0,hW0⟩:∃W0,w.alloc (.cells #[.int .i64 0,.string { data:=#[] },.int .i64 0,.int .i64 0,.int .i64 0,.bool false,.string { data:=#[] },.slice none 0 0,.slice none 0 0,.int .i64 0,.int .i64 0,.bool false,.string { data:=#[] },.slice none 0 0,.slice none 0 0,.int .i64 0,.slice none 0 0] 39)=W0:=⟨_,rfl⟩
 have hb0:RowKit.Below w.heap.size w W0:=by rw [←hW0];exact (Below.refl _ _).alloc (Nat.le_refl _) _
 have HR0:Hid (W0.heap[w.heap.size]?=some (.cells zz.toArray 39 (0,0))):=by unfold Hid;rw [←hW0,hza];exact alloc_new _ _
 have hs0:w.heap.size<W0.heap.size:=heap_lt HR0.out
 have hS0:=hS.on hb0
 obtain ⟨a,cap,mv,h1,-,h3,-⟩:=hS0.go
 obtain ⟨s0,s1,slt,sfz⟩:=h1.all
 have HC0:=orEmpty_any sb W0
 have HC1:=tget_any sb 1 (100*ds.length) mv (tabM ds) s W0 s1 h3 hs
 have HW0:=Hid.mk hW0
 have HB0:=Hid.mk hb0
 have HS0:=Hid.mk hS0
 obtain ⟨GR,hGR⟩:∃GR,getRes ds s=GR:=⟨_,rfl⟩
 rw [hGR]
 have HGR:=Hid.mk hGR
 have HZA:=Hid.mk hza
 clear hb0 hW0 hS hS0 h1 h3 hzz hGR hza
 go_enter Tryz.func13,Tryz.ntmps13
 go_wp2_with (rw [HW0.out])
 refine HC0.mono ?_
 rintro e w9 ⟨rfl,hw9⟩
 have hw9':=hw9.symm
 subst hw9'
 go_wp2_with fail
 refine HC1.mono ?_
 rintro e w1 ⟨p,q,rfl,hx,hb1⟩
 have hs1:=hb1.size
 obtain ⟨W2,hW2⟩:∃W2,w1.alloc (.cells #[.int .i64 p,.int .i64 q] 63)=W2:=⟨_,rfl⟩
 have hb2:RowKit.Below w1.heap.size w1 W2:=by rw [←hW2];exact (Below.refl _ _).alloc (Nat.le_refl _) _
 have hM2:W2.heap[w1.heap.size]?=some (.cells #[.int .i64 p,.int .i64 q] 63 (0,0)):=by rw [←hW2];exact alloc_new _ _
 have hs2:=heap_lt hM2
 have HB2:Hid (RowKit.Below w.heap.size w W2):=HB0.out.trans ((hb1.trans (hb2.mono hs1)).mono (by omega))
 have HS2:Hid (SGG W2 B sb ds):=HS0.out.on (hb1.trans (hb2.mono hs1))
 have HR2:Hid (W2.heap[w.heap.size]?=some (.cells zz.toArray 39 (0,0))):=(hb2.block _ (by omega)).trans ((hb1.block _ hs0).trans HR0.out)
 obtain ⟨m0,m1,mlt,mfz⟩:=cells2f hM2
 have HW2:=Hid.mk hW2
 have HSMe:Hid ((Tryz.prog.info? 63).map (·.size)=some (#[.int .i64 p,.int .i64 q]:Array Value).size):=by unfold Hid;kernel_rfl
 have HOMe:Hid ((#[.int .i64 p,.int .i64 q]:Array Value).all (·.oneCell')=true):=by unfold Hid;simp [Value.oneCell']
 have HX:=Hid.mk hx
 clear hb1 hb2 hM2 hW2 hx HC1 HC0 s0 s1 slt sfz
 obtain ⟨TM,hTM⟩:∃TM,tabM ds s=TM:=⟨_,rfl⟩
 have HTM:=Hid.mk hTM
 rw [hTM]
 clear hTM
 cases TM with
 | none =>
  have HG0:Hid (GR=(zeroD,0)):=by unfold Hid;rw [←HGR.out];unfold getRes;rw [HTM.out]
  have HTH:Hid (W2.there w.heap.size 0 zz.toArray.size):=there_of HR2.out rfl 0 _ (by omega)
  have HSY:Hid ((Tryz.prog.info? 39).map (·.size)=some zz.toArray.size):=by unfold Hid;rw [hzt];kernel_rfl
  have HSZ:Hid ((Tryz.prog.info? 39).map (·.size)=some zz.length):=by unfold Hid;rw [hzl];kernel_rfl
  have HON:Hid (zz.toArray.all (·.oneCell')=true):=all_oneCell_toArray (HZE.out W2 (fun _=>false)).cell
  have hR3:(W2.setCells w.heap.size 0 zz.toArray.toList).heap[w.heap.size]?=some (.cells zz.toArray 39 (0,0)):=sets_whole (c:=zz.toArray) (c':=zz.toArray) HR2.out rfl
  have HB3:Hid (RowKit.Below w.heap.size w (W2.setCells w.heap.size 0 zz.toArray.toList)):=below_sets HB2.out (Nat.le_refl _) _
  have HL:=run_loadVar_mid (P:=Tryz.prog) (W2.setCells w.heap.size 0 zz.toArray.toList) w.heap.size 0 39 zz _ (range_of (pre:=[]) (post:=[]) hR3 (by simp) rfl) Tryz.underlying39 rfl HSZ.out
  clear hR3 hzl hzt
  go_wp2_with (first | (refine wpList_store_new rfl 63 _ _ rfl rfl rfl HSMe.out rfl HOMe.out ?_;rw [HW2.out]) | (rw [←HZA.out];refine wpList_store_mid rfl 39 _ _ rfl w.heap.size 0 zz.toArray rfl rfl HTH.out HSY.out HON.out ?_))
  refine bodyPost_ret (v:=.tuple #[.agg zz.toArray,.int .i64 0]) (results_two Tryz.results13 rfl HL rfl) rfl ?_
  rw [HG0.out]
  exact ⟨zz,rfl,HZE.out _ _,HB3.out⟩
 | some x =>
  obtain ⟨k,hk,hxk⟩:=tabM_place HTM.out
  have hxe:=HX.out x HTM.out
  have hp:p=(k:Int):=by rw [←hxk,hxe]
  subst hp
  have hd:ds[k]?=some ds[k]:=List.getElem?_eq_getElem hk
  have HG1:Hid (GR=(ds[k],q)):=by unfold Hid;rw [←HGR.out];unfold getRes;rw [HTM.out,hxe];simp [List.getD,hd]
  have HCT:Hid (∀W,RowKit.Below W2.heap.size W2 W→Calls Tryz.prog 27 #[.pointer (some ⟨sb,0,none⟩),.int .i64 k] W fun e w'=>∃zs:List Value,e=.returned (.agg zs.toArray)∧ED w' (oldB W) zs ds[k]∧RowKit.Below W.heap.size W w'):=fun W h=>told_any ds sb k ds[k] W (HS2.out.on h) hd
  have HMC:Hid (∀W,RowKit.Below W2.heap.size W2 W→W.cell? ⟨w1.heap.size,0,none⟩=some (.int .i64 k)∧W.cell? ⟨w1.heap.size,1,none⟩=some (.int .i64 q)):=fun W h=>⟨(h.cell (p:=⟨w1.heap.size,0,none⟩) mlt).trans m0,(h.cell (p:=⟨w1.heap.size,1,none⟩) mlt).trans m1⟩
  clear hd hxk hxe
  generalize ds[k]=dk at *
  go_wp2_with (first | (refine wpList_store_new rfl 63 _ _ rfl rfl rfl HSMe.out rfl HOMe.out ?_;rw [HW2.out]))
  refine wp_region_late (S:=fun w'=>w'.cell? ⟨w1.heap.size,0,none⟩=some (.int .i64 k)∧w'.cell? ⟨w1.heap.size,1,none⟩=some (.int .i64 q)) (fun i=>i==7) mx ?_ (fun hHeld=>?_)
  ·(try dsimp only)
   exact HMC.out _ (Below.refl _ _).drew
  refine tkE (i:=0) (v:=.pointer (some ⟨sb,0,none⟩)) (d:=some 21) rfl (hy:=(Or.inl ⟨by kernel_rfl,fun _ _=>by kernel_rfl⟩)) (h:=?_)
  refine tkE (i:=1) (v:=.pointer (some ⟨w1.heap.size,0,none⟩)) (d:=some 22) rfl (hy:=(Or.inl ⟨by kernel_rfl,fun w hSw=>by go_simp⟩)) (h:=?_)
  refine tkE (i:=2) (v:=.int .i64 k) (d:=some 23) rfl (hy:=(Or.inl ⟨by kernel_rfl,fun w hSw=>by go_simp⟩)) (h:=?_)
  refine tkE (i:=4) (v:=.pointer (some ⟨w1.heap.size,1,none⟩)) (d:=some 25) rfl (hy:=(Or.inl ⟨by kernel_rfl,fun w hSw=>by go_simp⟩)) (h:=?_)
  refine tkE (i:=5) (v:=.int .i64 q) (d:=some 26) rfl (hy:=(Or.inl ⟨by kernel_rfl,fun w hSw=>by go_simp⟩)) (h:=?_)
  refine nx1 (i:=3) (h:=?_)
  refine ⟨_,rfl,fun K hK=>?_⟩
  go_simp
  go_at_call 27
  refine (HCT.out _ (Below.refl _ _).drew).mono ?_
  rintro e w3 ⟨zs,rfl,hE,hb3⟩
  have HB3:Hid (RowKit.Below W2.heap.size W2 w3):=(Below.refl _ W2).drew.trans hb3
  have HE3:Hid (ED w3 (oldB W2) zs dk):=hE
  have hyl:zs.length=17:=hE.len
  have hyt:zs.toArray.size=17:=by simp [hyl]
  have hs3:=HB3.out.size
  have hR3:w3.heap[w.heap.size]?=some (.cells zz.toArray 39 (0,0)):=(HB3.out.block _ (heap_lt HR2.out)).trans HR2.out
  have HTH:Hid (w3.there w.heap.size 0 zs.toArray.size):=by unfold Hid;rw [hyt];exact there_of hR3 hzt 0 17 (Nat.le_refl 17)
  have HSY:Hid ((Tryz.prog.info? 39).map (·.size)=some zs.toArray.size):=by unfold Hid;rw [hyt];kernel_rfl
  have HSZ:Hid ((Tryz.prog.info? 39).map (·.size)=some zs.length):=by unfold Hid;rw [hyl];kernel_rfl
  have HON:Hid (zs.toArray.all (·.oneCell')=true):=all_oneCell_toArray hE.cell
  have hw4:=sets_heap w.heap.size zs.toArray.toList 0 w3
  obtain ⟨W4,hW4⟩:∃W4,w3.setCells w.heap.size 0 zs.toArray.toList=W4:=⟨_,rfl⟩
  have hR4:W4.heap[w.heap.size]?=some (.cells zs.toArray 39 (0,0)):=by rw [←hW4];exact sets_whole (c':=zs.toArray) hR3 (by rw [hyt];exact hzt)
  have HB4:Hid (RowKit.Below w.heap.size w W4):=by unfold Hid;rw [←hW4];exact below_sets (HB2.out.trans (HB3.out.mono HB2.out.size)) (Nat.le_refl _) _
  rw [hW4] at hw4
  have HE4:Hid (ED W4 (oldB w) zs dk):=ED.moves _ _ _ _ _ _ HE3.out (Nat.le_of_eq hw4.1.symm) fun k h1 h2=>⟨oldB_new (by have:=oldB_no h2;omega),hw4.2 k (by have:=oldB_no h2;omega)⟩
  have HL:=run_loadVar_mid (P:=Tryz.prog) W4 w.heap.size 0 39 zs _ (range_of (pre:=[]) (post:=[]) hR4 (by simp) rfl) Tryz.underlying39 rfl HSZ.out
  have HS4:Hid (W4.cell? ⟨w1.heap.size,0,none⟩=some (.int .i64 k)∧W4.cell? ⟨w1.heap.size,1,none⟩=some (.int .i64 q)):=by
   have hbk:=hw4.2 w1.heap.size (by omega)
   exact ⟨(World.cell?_of_block (a:=⟨w1.heap.size,0,none⟩) hbk).trans (HMC.out _ HB3.out).1,(World.cell?_of_block (a:=⟨w1.heap.size,1,none⟩) hbk).trans (HMC.out _ HB3.out).2⟩
  have HW4:=Hid.mk hW4
  clear hE hb3 hyt hR3 hw4 hR4 hW4
  refine hK.out _ _ (fun _=>?_) (fun hHeld=>?_)
  ·(try dsimp only)
   exact HMC.out _ HB3.out
  clear hK K
  refine nx1 (i:=6) (h:=?_)
  refine ⟨_,rfl,fun K hK=>?_⟩
  refine ite_go (by kernel_rfl) ?_
  refine wp_store_mid 39 (.tmp 4) (.tmp 24) rfl w.heap.size 0 zs.toArray (by kernel_rfl) (by kernel_rfl) HTH.out HSY.out HON.out ?_
  rw [HW4.out]
  refine hK.out _ _ (fun _=>HS4.out) (fun _=>?_)
  clear hK K
  refine nx1 (i:=7) (h:=?_)
  refine ⟨_,rfl,fun K hK=>?_⟩
  go_simp
  refine hK.out _ _ (fun h=>by cases h) (fun _=>?_)
  clear hK K
  refine wpAnyM_done (by kernel_rfl) ?_ _
  go_wp2
  refine bodyPost_ret (v:=.tuple #[.agg zs.toArray,.int .i64 q]) (results_two Tryz.results13 (by kernel_rfl) HL (by kernel_rfl)) rfl ?_
  rw [HG1.out]
  exact ⟨zs,rfl,HE4.out,HB4.out⟩
def kindIn (d:Dl) (s:ByteArray):Option Int:=((namesD d).find? fun x=>decide (x.1=s)).map Prod.snd
def rget:List Dl→ByteArray→Dl×Int
 | [],_=>(zeroD,0)
 | d::ds,s=>match kindIn d s with
  | some k=>(d,k)
  | none=>rget ds s
theorem updM_at (M:ByteArray→Option (Int×Int)) (s:ByteArray) (x:Int×Int) (s':ByteArray):updM M s x s'=if s'=s then some x else M s':=by
 unfold updM
 by_cases h:s'=s
 ·subst h;simp
 ·rw [if_neg h,if_neg fun e=>h (keyS_one (by unfold keyS;rw [e]))]
theorem fold_find (p:Int):∀(l:List (ByteArray×Int)) (st:(ByteArray→Option (Int×Int))×Bool) (s:ByteArray),(l.foldl (putN p) st).1 s=match st.1 s with
  | some x=>some x
  | none=>(l.find? fun x=>decide (x.1=s)).map fun x=>(p,x.2)
 | [],st,s=>by cases h:st.1 s<;>simp [h]
 | x::l,st,s=>by
  rw [List.foldl_cons,fold_find p l]
  unfold putN
  by_cases hx:(st.1 x.1).isSome=true
  ·rw [if_pos hx]
   cases h:st.1 s with
   | some y=>simp
   | none =>
    have hne:x.1≠s:=fun e=>by rw [e,h] at hx;cases hx
    simp [hne]
  ·rw [if_neg hx]
   have hx':st.1 x.1=none:=by
    cases h:st.1 x.1 with
    | none=>rfl
    | some y=>rw [h] at hx;exact absurd rfl hx
   simp only [updM_at]
   by_cases e:s=x.1
   ·subst e
    simp [hx']
   ·have hne:x.1≠s:=fun e2=>e e2.symm
    rw [if_neg e]
    simp [hne]
theorem namesM_kind (p:Int) (d:Dl) (s:ByteArray):(namesM p d).1 s=(kindIn d s).map fun k=>(p,k):=by
 unfold namesM kindIn
 rw [fold_find]
 simp [Function.comp_def]
inductive Fine:List Dl→Prop
 | nil:Fine []
 | snoc {ds:List Dl} {d:Dl}:Fine ds→twiceB ds d=false→Fine (ds++[d])
theorem rget_snoc (ds:List Dl) (d:Dl) (s:ByteArray):rget (ds++[d]) s=if ds.any (fun x=>(kindIn x s).isSome)=true then rget ds s else match kindIn d s with
  | some k=>(d,k)
  | none=>(zeroD,0):=by
 induction ds with
 | nil=>simp [rget]
 | cons x ds ih =>
  rw [List.cons_append]
  unfold rget
  cases h:kindIn x s with
  | some k=>simp [h]
  | none =>
   simp only [ih,List.any_cons,h,Option.isSome_none,Bool.false_or]
theorem tabM_any:∀{ds:List Dl},Fine ds→∀s,(tabM ds s).isSome=ds.any fun x=>(kindIn x s).isSome:=by
 intro ds hf s
 induction hf with
 | nil=>simp [tabM]
 | @snoc ds d hf ht ih =>
  rw [tabM_snoc]
  unfold joinM
  rw [namesM_kind,List.any_append,←ih]
  cases h:kindIn d s with
  | some k=>simp [h]
  | none=>simp [h]
theorem fine_get {ds:List Dl}(hf:Fine ds) (s:ByteArray):rget ds s=getRes ds s:=by
 induction hf with
 | nil=>simp [rget,getRes,tabM]
 | @snoc ds d hf ht ih =>
  rw [rget_snoc,←tabM_any hf]
  unfold getRes at ih ⊢
  rw [tabM_snoc]
  unfold joinM
  rw [namesM_kind]
  cases hk:kindIn d s with
  | some k =>
   have hn:tabM ds s=none:=by
    unfold twiceB at ht
    rw [Bool.or_eq_false_iff] at ht
    unfold kindIn at hk
    rw [Option.map_eq_some_iff] at hk
    obtain ⟨x,hx,-⟩:=hk
    have h1:=List.find?_some hx
    have h2:=List.any_eq_false.1 ht.2 x (List.mem_of_find?_eq_some hx)
    rw [of_decide_eq_true h1] at h2
    cases h3:tabM ds s with
    | none=>rfl
    | some y=>rw [h3] at h2;exact absurd rfl h2
   simp [hn]
  | none =>
   cases h3:tabM ds s with
   | none=>simp
   | some y =>
    rw [h3] at ih
    simp only [Option.isSome_some,Option.map_none,Option.isSome_none,Bool.false_eq_true,if_false,if_true]
    rw [ih]
    obtain ⟨j,hj,hy⟩:=tabM_place h3
    simp only [hy,Int.toNat_natCast]
    rw [List.getD_eq_getElem?_getD,List.getD_eq_getElem?_getD,List.getElem?_append_left hj]
end Go.Proofs.YtgfgpjcnfnopnaaGreat
