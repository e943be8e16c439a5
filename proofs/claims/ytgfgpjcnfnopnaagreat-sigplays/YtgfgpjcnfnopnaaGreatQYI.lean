/- Plain facts for SigNames: the names of a family of up to thirty constructors. -/
import Derived.Test.YtgfgpjcnfnopnaaGreatQR
import Derived.Test.YtgfgpjcnfnopnaaGreatQYH
import Derived.Test.YtgfgpjcnfnopnaaGreatNC
namespace Go.Proofs.YtgfgpjcnfnopnaaGreat
set_option maxRecDepth 100000
set_option maxHeartbeats 40000000
open Go.RowKit Go.Sort Go.Lib
def axD (s:ByteArray):Dl:=⟨1,s,0,setT,.mk 0 0 false { data:=#[] } [] [],0,[]⟩
def preB (d:Dl):Bool:=match declsRes [d] with
 | .error _=>false
 | .ok _=>!(termsD (cleanD d)).any openT
theorem putRes_pre {ds:List Dl}{d:Dl}(h:preB d=true):putRes ds d=if 500≤ds.length then 2 else if twiceB ds (cleanD d)=true then 20 else 0:=by
 unfold preB at h
 unfold putRes
 cases hd:declsRes [d] with
 | error e=>rw [hd] at h;cases h
 | ok bs =>
  rw [hd] at h
  simp only at h ⊢
  rw [if_neg (by simpa using h)]
theorem pre_nat:preB natD=true:=by decide +kernel
theorem pre_zero:preB (axD zeroB)=true:=by decide +kernel
theorem fold_nodup (p:Int):∀(l:List (ByteArray×Int)) (st:(ByteArray→Option (Int×Int))×Bool),(l.map Prod.fst).Nodup→(∀x∈l,st.1 x.1=none)→(l.foldl (putN p) st).2=st.2∧(∀x∈l,(l.foldl (putN p) st).1 x.1=some (p,x.2))∧∀s,s ∉ l.map Prod.fst→(l.foldl (putN p) st).1 s=st.1 s
 | [],st,_,_=>⟨rfl,fun x hx=>(by cases hx),fun _ _=>rfl⟩
 | x::l,st,hn,hs=>by
  rw [List.map_cons,List.nodup_cons] at hn
  have hx:=hs x (List.mem_cons_self ..)
  have hp:putN p st x=(updM st.1 x.1 (p,x.2),st.2):=by unfold putN;rw [if_neg (by rw [hx];decide)]
  have hup:∀s,s≠x.1→updM st.1 x.1 (p,x.2) s=st.1 s:=fun s h=>by
   unfold updM
   rw [if_neg fun e=>h (keyS_one (by unfold keyS;rw [e]))]
  obtain ⟨h1,h2,h3⟩:=fold_nodup p l (updM st.1 x.1 (p,x.2),st.2) hn.2 (fun y hy=>by
   have hne:y.1≠x.1:=fun e=>hn.1 (by rw [←e];exact List.mem_map_of_mem hy)
   exact (hup _ hne).trans (hs y (List.mem_cons_of_mem _ hy)))
  rw [List.foldl_cons,hp]
  refine ⟨h1,fun y hy=>?_,fun s hs'=>?_⟩
  ·rcases List.mem_cons.1 hy with rfl | hy
   ·rw [h3 _ hn.1]
    show updM st.1 y.1 (p,y.2) y.1=_
    unfold updM
    rw [if_pos rfl]
   ·exact h2 y hy
  ·rw [List.map_cons,List.mem_cons,not_or] at hs'
   rw [h3 s hs'.2]
   exact hup s hs'.1
theorem namesM_nodup {p:Int}{d:Dl}(h:((namesD d).map Prod.fst).Nodup):(namesM p d).2=true∧(∀x∈namesD d,(namesM p d).1 x.1=some (p,x.2))∧∀s,s ∉ (namesD d).map Prod.fst→(namesM p d).1 s=none :=
 fold_nodup p (namesD d) (fun _=>none,true) h (fun _ _=>rfl)
theorem tabM_one (d:Dl):tabM [d]=joinM (fun _=>none) (namesM 0 d).1:=tabM_snoc [] d
theorem tabM_one_at {d:Dl}(s:ByteArray):tabM [d] s=(namesM 0 d).1 s:=by
 rw [tabM_one]
 unfold joinM
 split
 ·rfl
 ·rename_i h
  cases h2:(namesM 0 d).1 s with
  | none=>rfl
  | some x=>rw [h2] at h;exact absurd rfl h
theorem clean_ax (s:ByteArray):cleanD (axD s)=axD s:=rfl
theorem ax_names (s:ByteArray):namesD (axD s)=[(s,1)]:=rfl
theorem ax_twice (ds:List Dl) (s:ByteArray):twiceB ds (axD s)=(tabM ds s).isSome:=by
 unfold twiceB namesM
 rw [ax_names]
 simp [putN]
theorem twice_nil (d:Dl) (h:((namesD d).map Prod.fst).Nodup):twiceB [] d=false:=by
 unfold twiceB
 rw [(namesM_nodup h).1]
 simp [tabM]
theorem nat_names:(namesD natD).map Prod.fst=[natB,natB++elimB,zeroB,sucB]:=rfl
theorem nat_nodup:((namesD natD).map Prod.fst).Nodup:=by rw [nat_names];decide +kernel
theorem clean_nat:cleanD natD=natD:=rfl
theorem put_nat:putRes [] natD=0:=by
 rw [putRes_pre pre_nat,clean_nat,twice_nil _ nat_nodup];rfl
theorem get_suc:tabM [natD] sucB=some (0,6):=by
 rw [tabM_one_at]
 exact (namesM_nodup nat_nodup).2.1 (sucB,6) (by unfold namesD;simp [natD])
theorem put_zero:putRes [natD] (axD zeroB)=20:=by
 have hz:tabM [natD] zeroB=some (0,4):=by
  rw [tabM_one_at]
  exact (namesM_nodup nat_nodup).2.1 (zeroB,4) (by unfold namesD;simp [natD])
 rw [putRes_pre pre_zero,clean_ax,ax_twice,if_neg (by simp),hz];rfl
theorem sm_leafs:smT 1000000 natT∧smT 1000000 setT∧smT 1000000 sucT:=by
 have h1:smT 1000000 natT:=(smT_mk _ _ _ _ _ _ _).2 ⟨by decide,by simp,by simp,by simp,by simp⟩
 refine ⟨h1,(smT_mk _ _ _ _ _ _ _).2 ⟨by decide,by simp,by simp,by simp,by simp⟩,(smT_mk _ _ _ _ _ _ _).2 ⟨by decide,by simp,by simp,by simp,?_⟩⟩
 intro k hk
 simp at hk
 rw [hk]
 exact h1
theorem sm_nat:smD natD:=by
 refine ⟨by decide,sm_leafs.2.1,zeroTm_sm,by decide,fun c hc=>?_⟩
 simp [natD] at hc
 rcases hc with rfl | rfl
 ·exact ⟨by decide,sm_leafs.1⟩
 ·exact ⟨by decide,sm_leafs.2.2⟩
theorem sm_ax {s:ByteArray}(h:s.size≤60):smD (axD s):=⟨by show s.size≤_;omega,sm_leafs.2.1,zeroTm_sm,by simp [axD],fun c hc=>by cases hc⟩
theorem ax_dv {w:World}{s:ByteArray}{t0 t1 t2 t3 t4 t5 t6 t7 t8 t9:_}(ht:TV w (.agg #[.int .i64 t0,.int .i64 t1,.bool t2,.string t3,.slice t4 t5 t6,.slice t7 t8 t9]) setT):DV w (.agg #[.int .i64 1,.string s,.int .i64 0,.int .i64 t0,.int .i64 t1,.bool t2,.string t3,.slice t4 t5 t6,.slice t7 t8 t9,.int .i64 0,.int .i64 0,.bool false,.string { data:=#[] },.slice none 0 0,.slice none 0 0,.int .i64 0,.slice none 0 0]) (axD s) :=
 ⟨t0,t1,t2,t3,t4,t5,t6,t7,t8,t9,0,0,false,{ data:=#[] },none,0,0,none,0,0,none,0,rfl,ht,TV.leaf _ _ _ _,Or.inl rfl⟩
theorem getRes_at {ds:List Dl}{s:ByteArray}{k:Nat}{q:Int}{d:Dl}(h:tabM ds s=some ((k:Int),q)) (hd:ds[k]?=some d):getRes ds s=(d,q):=by
 unfold getRes
 rw [h]
 simp [List.getD,hd]
theorem alive5_any (w:World):Calls Tryz.prog 4 #[] w fun e w'=>e=.returned (.bool true)∧RowKit.Below w.heap.size w w':=by
 have HC1:=New_any w
 go_enter Tryz.func4,Tryz.ntmps4
 go_wp2_with fail
 refine HC1.mono ?_
 rintro e w1 ⟨rfl,hS1,hb1⟩
 have HC2:=Nat5_any w1
 have HS1:=Hid.mk hS1
 have HB1:=Hid.mk hb1
 have hl1:=hS1.lt
 have hs1:=hb1.size
 clear hS1 hb1 HC1
 go_wp2_with fail
 refine HC2.mono ?_
 rintro e w2 ⟨zs,-,-,rfl,hd2,hb2⟩
 have HC3:=Put_any [] w.heap.size natD _ w2 (HS1.out.on hb2) hd2 sm_nat
 rw [put_nat,if_pos rfl,clean_nat,List.nil_append] at HC3
 have HB2:Hid (RowKit.Below w.heap.size w w2):=HB1.out.trans (hb2.mono hs1)
 have hs2:=hb2.size
 clear hd2 hb2 HC2
 go_wp2_with fail
 refine HC3.mono ?_
 rintro e w3 ⟨rfl,hS3,hb3,-⟩
 have HC4:=Get_any [natD] w.heap.size sucB w3 hS3 (by decide)
 rw [getRes_at (k:=0) (q:=6) (d:=natD) get_suc rfl] at HC4
 have HS3:=Hid.mk hS3
 have HB3:Hid (RowKit.Below w.heap.size w w3):=HB2.out.trans hb3
 have hs3:=hb3.size
 clear hS3 hb3 HC3
 go_wp2_with fail
 refine HC4.mono ?_
 rintro e w4 ⟨ys,rfl,hE4,hb4⟩
 obtain ⟨t0,t1,t2,t3,t4,t5,t6,t7,t8,t9,v0,v1,v2,v3,v4,v5,v6,v7,v8,v9,ca,cc,hz,-,-,-⟩:=hE4.val.go
 rw [hz]
 have hs4:=hb4.size
 obtain ⟨W5,hW5⟩:∃W5,w4.alloc (.cells #[.int .i64 natD.kind,.string natD.name,.int .i64 natD.levels,.int .i64 t0,.int .i64 t1,.bool t2,.string t3,.slice t4 t5 t6,.slice t7 t8 t9,.int .i64 v0,.int .i64 v1,.bool v2,.string v3,.slice v4 v5 v6,.slice v7 v8 v9,.int .i64 natD.params,.slice ca natD.ctors.length cc] 39)=W5:=⟨_,rfl⟩
 have hb5:RowKit.Below w4.heap.size w4 W5:=by rw [←hW5];exact (Below.refl _ _).alloc (Nat.le_refl _) _
 have HX5:Hid (W5.heap[w4.heap.size]?=some (.cells #[.int .i64 natD.kind,.string natD.name,.int .i64 natD.levels,.int .i64 t0,.int .i64 t1,.bool t2,.string t3,.slice t4 t5 t6,.slice t7 t8 t9,.int .i64 v0,.int .i64 v1,.bool v2,.string v3,.slice v4 v5 v6,.slice v7 v8 v9,.int .i64 natD.params,.slice ca natD.ctors.length cc] 39 (0,0))):=by unfold Hid;rw [←hW5];exact alloc_new _ _
 have HSA:Hid ((Tryz.prog.info? 39).map (·.size)=some (#[.int .i64 natD.kind,.string natD.name,.int .i64 natD.levels,.int .i64 t0,.int .i64 t1,.bool t2,.string t3,.slice t4 t5 t6,.slice t7 t8 t9,.int .i64 v0,.int .i64 v1,.bool v2,.string v3,.slice v4 v5 v6,.slice v7 v8 v9,.int .i64 natD.params,.slice ca natD.ctors.length cc]:Array Value).size):=by unfold Hid;kernel_rfl
 have HONE:Hid ((#[.int .i64 natD.kind,.string natD.name,.int .i64 natD.levels,.int .i64 t0,.int .i64 t1,.bool t2,.string t3,.slice t4 t5 t6,.slice t7 t8 t9,.int .i64 v0,.int .i64 v1,.bool v2,.string v3,.slice v4 v5 v6,.slice v7 v8 v9,.int .i64 natD.params,.slice ca natD.ctors.length cc]:Array Value).all (·.oneCell')=true):=by unfold Hid;simp [Value.oneCell']
 have HN5:Hid (NotIn W5 w.heap.size w4.heap.size):=(HS3.out.on hb4).notIn (Nat.le_refl _) hb5
 have HS5:Hid (SG W5 w.heap.size [natD]):=HS3.out.on (hb4.trans (hb5.mono hs4))
 have HB5:Hid (RowKit.Below w.heap.size w W5):=HB3.out.trans ((hb4.trans (hb5.mono hs4)).mono (by omega))
 have hs5:=heap_lt HX5.out
 have HC6:=Nat5_any W5
 have HW5:=Hid.mk hW5
 clear hE4 hb4 hb5 hW5 hz HC4
 go_wp2_with (refine wpList_store_new rfl 39 _ _ rfl rfl rfl HSA.out rfl HONE.out ?_;rw [HW5.out])
 refine HC6.mono ?_
 rintro e w6 ⟨us,-,-,rfl,hd6,hb6⟩
 obtain ⟨x0,x1,x2,x3,x4,x5,x6,x7,x8,x9,y0,y1,y2,y3,y4,y5,y6,y7,y8,y9,da,dc,hz,htt,-,-⟩:=hd6.go
 rw [hz]
 have HC7:=Put_any [natD] w.heap.size (axD zeroB) _ w6 (HS5.out.on hb6) (ax_dv htt) (sm_ax (by decide))
 rw [put_zero,if_neg (by decide)] at HC7
 have HN6:Hid (NotIn w6 w.heap.size w4.heap.size):=HN5.out.keep (hb6.block _ (by omega))
 have HB6:Hid (RowKit.Below w.heap.size w w6):=HB5.out.trans (hb6.mono (by omega))
 have HX6:Hid (w6.heap[w4.heap.size]?=some (.cells #[.int .i64 natD.kind,.string natD.name,.int .i64 natD.levels,.int .i64 t0,.int .i64 t1,.bool t2,.string t3,.slice t4 t5 t6,.slice t7 t8 t9,.int .i64 v0,.int .i64 v1,.bool v2,.string v3,.slice v4 v5 v6,.slice v7 v8 v9,.int .i64 natD.params,.slice ca natD.ctors.length cc] 39 (0,0))):=(hb6.block _ hs5).trans HX5.out
 have hs6:=hb6.size
 clear hd6 hb6 hz htt HC6
 have hfd:∀W:World,Sem.run Tryz.prog (Instr.field 39 (.agg #[.int .i64 natD.kind,.string natD.name,.int .i64 natD.levels,.int .i64 x0,.int .i64 x1,.bool x2,.string x3,.slice x4 x5 x6,.slice x7 x8 x9,.int .i64 y0,.int .i64 y1,.bool y2,.string y3,.slice y4 y5 y6,.slice y7 y8 y9,.int .i64 natD.params,.slice da natD.ctors.length dc]) 3) W=.ok (.agg #[.int .i64 x0,.int .i64 x1,.bool x2,.string x3,.slice x4 x5 x6,.slice x7 x8 x9]) W:=fun W=>by kernel_rfl
 go_wp2_with fail
 refine HC7.mono ?_
 rintro e w7 ⟨rfl,-,hb7,hN7⟩
 have HB7:Hid (RowKit.Below w.heap.size w w7):=HB6.out.trans hb7
 have HX7:Hid (w7.heap[w4.heap.size]?=some (.cells #[.int .i64 natD.kind,.string natD.name,.int .i64 natD.levels,.int .i64 t0,.int .i64 t1,.bool t2,.string t3,.slice t4 t5 t6,.slice t7 t8 t9,.int .i64 v0,.int .i64 v1,.bool v2,.string v3,.slice v4 v5 v6,.slice v7 v8 v9,.int .i64 natD.params,.slice ca natD.ctors.length cc] 39 (0,0))):=((hN7 _ (by omega) (HN6.out)).1).trans HX6.out
 have HC8:=Kinds_any w7
 clear HC7 hfd hb7 hN7
 go_wp2_with fail
 refine HC8.mono ?_
 rintro e w9 ⟨rfl,hw9⟩
 have hw9':=hw9.symm
 subst hw9'
 clear hw9 HC8
 obtain ⟨-,q1,-,-,-,-,-,-,-,-,-,-,-,-,-,-,-,q17⟩:=cells17 HX7.out
 have hnm:natD.name=natB:=rfl
 rw [hnm] at q1
 have hnb:natB=⟨#[78,97,116]⟩:=rfl
 rw [hnb] at q1
 go_wp2_with fail
 refine (num5_any _ _).mono ?_
 rintro e w9 ⟨rfl,hw9⟩
 have hw9':=hw9.symm
 subst hw9'
 clear hw9
 go_wp2_with fail
 refine (num5_any _ _).mono ?_
 rintro e w9 ⟨rfl,hw9⟩
 have hw9':=hw9.symm
 subst hw9'
 clear hw9
 go_wp2
 go_ret
 exact ⟨rfl,HB7.out⟩
theorem getRes_sm {ds:List Dl}(ho:∀d∈ds,OwnD d) (s:ByteArray):smD (getRes ds s).1:=by
 unfold getRes
 cases h:tabM ds s with
 | none=>exact (zeroD_ed Inhabited.default (fun _=>false)).sm
 | some x =>
  obtain ⟨k,hk,hx⟩:=tabM_place h
  simp only [hx,Int.toNat_natCast]
  rw [List.getD_eq_getElem?_getD,List.getElem?_eq_getElem hk]
  exact (ho _ (List.getElem_mem hk)).sm
theorem OutOK.on {B:Nat}{w w':World}{a:Option Addr}{ds:List Dl}(h:OutOK B w a ds) (hb:RowKit.Below w.heap.size w w') (_hB:B≤w.heap.size):OutOK B w' a ds:=by
 rcases h with h | ⟨g,ha,hB,hz,h⟩
 ·exact Or.inl h
 ·by_cases hne:ds=[]
  ·exact Or.inl hne
  ·obtain ⟨d0,hd0⟩:=List.exists_mem_of_ne_nil ds hne
   obtain ⟨i0,hi0⟩:=List.getElem?_of_mem hd0
   obtain ⟨⟨u0,hu0⟩,-⟩:=h i0 d0 hi0
   have hg:g<w.heap.size:=World.block_lt_of_cell? w _ hu0
   refine Or.inr ⟨g,ha,hB,fun o=>(World.frozen?_of_block (a:=⟨g,o,none⟩) (hb.block g hg)).trans (hz o),fun i d hi=>?_⟩
   obtain ⟨⟨u,hu⟩,ca,cc,h2,h3⟩:=h i d hi
   refine ⟨⟨u,(hb.cell (p:=⟨g,i*17+1,none⟩) hg).trans hu⟩,ca,cc,(hb.cell (p:=⟨g,i*17+16,none⟩) hg).trans h2,fun hn=>?_⟩
   obtain ⟨g2,k1,k2,k3,k4,k5⟩:=h3 hn
   obtain ⟨u2,hu2⟩:=k5 0 (by omega)
   have hg2:g2<w.heap.size:=World.block_lt_of_cell? w _ hu2
   exact ⟨g2,k1,k2,k3,fun o=>(World.frozen?_of_block (a:=⟨g2,o,none⟩) (hb.block g2 hg2)).trans (k4 o),fun k hk=>by
    obtain ⟨u3,hu3⟩:=k5 k hk
    exact ⟨u3,(hb.cell (p:=⟨g2,k*7,none⟩) hg2).trans hu3⟩⟩
theorem plays_walk (l more:List Dl) (ns:List ByteArray) (la ma na:Option Addr) (lc mc nc:Nat) (w:World) (hl:DL w la l) (hm:DL w ma more) (hn:STR w na ns) (okl:∀d∈l,okDo d) (okm:∀d∈more,okDo d) (lenl:l.length≤8796093022208) (lenm:more.length≤8796093022208) (hns:∀s∈ns,s.size≤maxLen):Calls Tryz.prog 3 #[.slice la l.length lc,.slice ma more.length mc,.slice na ns.length nc] w fun e w'=>e=.returned (.bool true)∧RowKit.Below w.heap.size w w':=by
 have HC1:=alive5_any w
 have HL:=Hid.mk hl
 have HM:=Hid.mk hm
 have HN:=Hid.mk hn
 have HOKL:=Hid.mk okl
 have HOKM:=Hid.mk okm
 have HNS:=Hid.mk hns
 clear hl hm hn okl okm hns
 go_enter Tryz.func3,Tryz.ntmps3
 go_wp2_with fail
 refine HC1.mono ?_
 rintro e w1 ⟨rfl,hb1⟩
 have HB1:=Hid.mk hb1
 have HC2:=Big3_any l la lc w1 (HL.out.on hb1) HOKL.out lenl
 clear hb1 HC1
 go_wp2_with fail
 refine HC2.mono ?_
 rintro e w2 ⟨⟨q1,rfl,hq1⟩,hb2⟩
 have HB2:Hid (RowKit.Below w.heap.size w w2):=HB1.out.trans (hb2.mono HB1.out.size)
 have HQ1:=Hid.mk hq1
 clear hb2 hq1 HC2
 cases q1 with
 | true =>
  go_wp2
  go_ret
  exact ⟨rfl,HB2.out⟩
 | false =>
  have HC3:=Big3_any more ma mc w2 (HM.out.on HB2.out) HOKM.out lenm
  go_wp2_with fail
  refine HC3.mono ?_
  rintro e w3 ⟨⟨q2,rfl,hq2⟩,hb3⟩
  have HB3:Hid (RowKit.Below w.heap.size w w3):=HB2.out.trans (hb3.mono HB2.out.size)
  have HQ2:=Hid.mk hq2
  clear hb3 hq2 HC3
  cases q2 with
  | true =>
   go_wp2
   go_ret
   exact ⟨rfl,HB3.out⟩
  | false =>
   by_cases h50:(50:Int)<(ns.length:Int)
   ·go_wp2
    go_ret
    exact ⟨rfl,HB3.out⟩
   have hn50:ns.length≤50:=by omega
   have HSMl:Hid (∀d∈l,smD d):=fun d hd=>((HQ1.out (by trivial)).2 d hd).sm (HOKL.out d hd)
   have HSMmore:Hid (∀d∈more,smD d):=fun d hd=>((HQ2.out (by trivial)).2 d hd).sm (HOKM.out d hd)
   have HROOMl:Hid (∀d∈l,judgDs [d]=0→(encDs [d]).length≤50000000000000):=fun d hd hj=>encDs_most (by simp) (fun x hx=>by rw [List.mem_singleton.1 hx];exact (HQ1.out (by trivial)).2 d hd) (judgDs_ok (fun x hx=>by rw [List.mem_singleton.1 hx];exact HSMl.out d hd) hj)
   have HROOMmore:Hid (∀d∈more,judgDs [d]=0→(encDs [d]).length≤50000000000000):=fun d hd hj=>encDs_most (by simp) (fun x hx=>by rw [List.mem_singleton.1 hx];exact (HQ2.out (by trivial)).2 d hd) (judgDs_ok (fun x hx=>by rw [List.mem_singleton.1 hx];exact HSMmore.out d hd) hj)
   have hl600:l.length≤600:=(HQ1.out (by trivial)).1
   have hm600:more.length≤600:=(HQ2.out (by trivial)).1
   have HC4:=New_any w3
   go_wp2_with fail
   refine HC4.mono ?_
   rintro e w4 ⟨rfl,hS4,hb4⟩
   obtain ⟨sb,hsbE⟩:∃sb,sb=w3.heap.size:=⟨_,rfl⟩
   rw [←hsbE] at hS4 ⊢
   have hsb:w.heap.size≤sb:=by have:=HB3.out.size;omega
   have hs4:=hS4.lt
   have HS4:Hid (SGG w4 sb sb []):=hS4
   have HB4:Hid (RowKit.Below w.heap.size w w4):=HB3.out.trans (hb4.mono HB3.out.size)
   have hsw4:=HB4.out.size
   clear hS4 hb4 HC4 hsbE
   obtain ⟨rb,hrbE⟩:∃rb,rb=w4.heap.size:=⟨_,rfl⟩
   obtain ⟨W5,hW5⟩:∃W5,w4.alloc (.cells #[.slice none 0 0] 30)=W5:=⟨_,rfl⟩
   have hb5:RowKit.Below w4.heap.size w4 W5:=by rw [←hW5];exact (Below.refl _ _).alloc (Nat.le_refl _) _
   have HT0:Hid (Two W5 sb rb []):=⟨HS4.out.on hb5,⟨⟨none,0,by rw [←hW5,hrbE];exact alloc_new _ _,Or.inl rfl,fun _=>rfl⟩,inB_no.2 (HS4.out.notIn (by omega) hb5)⟩,Fine.nil⟩
   have HB0:Hid (RowKit.Below w.heap.size w W5):=HB4.out.trans (hb5.mono hsw4)
   have hrw:w.heap.size≤rb:=by omega
   have HW5:=Hid.mk hW5
   clear hb5 hW5
   go_wp2_with (rw [HW5.out])
   rw [←hrbE]
   clear hrbE
   go_loopw [11] (fun i wr=>∃(k:Nat) (ds:List Dl),k≤l.length∧i=.int .i64 k∧Two wr sb rb ds∧RowKit.Below w.heap.size w wr) (fun i _=>l.length - (intOf i).toNat)
   case atStart=>exact ⟨0,[],Nat.zero_le _,rfl,HT0.out,HB0.out⟩
   case round =>
    obtain ⟨k,ds,hk,rfl,hT,hb⟩:=hrel
    have HT:=Hid.mk hT
    have HBW:=Hid.mk hb
    have hsr:=hb.size
    clear hT hb
    by_cases hlt:k<l.length
    ·obtain ⟨lb,lo,rfl,hlb,hds⟩:=HL.out.resolve_left (by intro e;rw [e] at hlt;simp at hlt)
     obtain ⟨xs,hxl,hrg,hxo,hdv⟩:=(hds k _ (List.getElem?_eq_getElem hlt)).go
     have hsm:=HSMl.out _ (List.getElem_mem hlt)
     have hroom:=HROOMl.out _ (List.getElem_mem hlt)
     generalize l[k]=d at *
     have HSX:Hid ((Tryz.prog.info? 39).map (·.size)=some xs.length):=by unfold Hid;rw [hxl];kernel_rfl
     have HRGW:Hid (∀W,RowKit.Below w.heap.size w W→W.rangeAt lb (lo+k*17) xs):=fun W h j v hj=>(h.cell (p:=⟨lb,lo+k*17+j,none⟩) hlb).trans (hrg j v hj)
     have HDV:Hid (DV w (.agg xs.toArray) d):=hdv
     have HSMD:=Hid.mk hsm
     have HRMD:=Hid.mk hroom
     have zi:(k:Int)<(l.length:Int):=by omega
     clear hds hrg hxo hdv hsm hroom
     have HC1:=Put_any ds sb d (.agg xs.toArray) wr HT.out.s (HDV.out.on HBW.out) HSMD.out
     have HMW:Hid (wr.rangeAt lb (lo+k*17) xs):=HRGW.out _ HBW.out
     obtain ⟨PR,hPR⟩:∃PR,putRes ds d=PR:=⟨_,rfl⟩
     rw [hPR] at HC1
     have HPR:=Hid.mk hPR
     clear hPR
     go_wp2_with (refine wpList_load_mid rfl 39 _ rfl lb (lo+k*17) rfl xs _ HMW.out Tryz.underlying39 rfl HSX.out ?_)
     refine HC1.mono ?_
     rintro e w1 ⟨rfl,hS1,hb1,hn1⟩
     have hR1:RS w1 (inB w1 sb) rb ds:=HT.out.r.move hb1.size (fun j hj hp=>⟨inB_no.2 (hn1 j hj (inB_no.1 hp)).2,(hn1 j hj (inB_no.1 hp)).1⟩)
     have HBW1:Hid (RowKit.Below w.heap.size w w1):=HBW.out.trans (hb1.mono hsb)
     have HC2:=rPut_any ds rb (inB w1 sb) d (.agg xs.toArray) w1 hR1 (fun j hj=>inB_lt hS1 hj) HT.out.s.own HT.out.s.len HT.out.f (HDV.out.on HBW1.out) HSMD.out HRMD.out
     have HMW1:Hid (w1.rangeAt lb (lo+k*17) xs):=HRGW.out _ HBW1.out
     unfold RPutOut at HC2
     rw [HPR.out] at HC2
     have HS1:=Hid.mk hS1
     have HR1:=Hid.mk hR1
     clear hS1 hb1 hn1 hR1 HC1
     go_wp2_with (refine wpList_load_mid rfl 39 _ rfl lb (lo+k*17) rfl xs _ HMW1.out Tryz.underlying39 rfl HSX.out ?_)
     refine HC2.mono ?_
     rintro e w2 ⟨rfl,hR2,hk2⟩
     have HT2:Hid (Two w2 sb rb (if PR=0 then ds++[cleanD d] else ds)):=Two.put HS1.out HR1.out hR2 hk2 (put_fine2 HT.out.f HPR.out)
     have HBW2:Hid (RowKit.Below w.heap.size w w2):=HBW1.out.trans (hk2.below HBW1.out.size fun j hj=>by omega)
     clear hR2 hk2 HC2
     have HCN:=num5_any PR w2
     go_wp2_with fail
     refine HCN.mono ?_
     rintro e w9 ⟨rfl,hw9⟩
     have hw9':=hw9.symm
     subst hw9'
     clear HCN
     go_wp2
     exact ⟨⟨k+1,_,hlt,by go_num,HT2.out,HBW2.out⟩,by simp [intOf];omega⟩
    ·have zk:¬(k:Int)<(l.length:Int):=by omega
     obtain ⟨WC,rfl⟩:∃W,W=wr:=⟨_,rfl⟩
     have HTC:=HT
     have HWC:=HBW
     have HC3:=SCopy_any ds sb WC HT.out.s
     clear hk
     go_wp2_with fail
     refine HC3.mono ?_
     rintro e w3 ⟨cb,rfl,hS3,hb3⟩
     have HS3:=Hid.mk hS3
     have HB3:=Hid.mk hb3
     clear hS3 hb3 HC3
     go_wp2
     go_loopw [15] (fun i wr=>∃(k:Nat) (dc:List Dl),k≤more.length∧i=.int .i64 k∧SGG wr WC.heap.size cb dc∧RowKit.Below WC.heap.size WC wr) (fun i _=>more.length - (intOf i).toNat)
     case atStart=>exact ⟨0,ds,Nat.zero_le _,rfl,HS3.out,HB3.out⟩
     case round =>
      obtain ⟨k,dc,hk,rfl,hS,hb⟩:=hrel
      have HSC:=Hid.mk hS
      have HBR:=Hid.mk hb
      have HBW:Hid (RowKit.Below w.heap.size w wr):=HWC.out.trans (hb.mono HWC.out.size)
      clear hS hb
      by_cases hlt:k<more.length
      ·obtain ⟨lb,lo,rfl,hlb,hds⟩:=HM.out.resolve_left (by intro e;rw [e] at hlt;simp at hlt)
       obtain ⟨xs,hxl,hrg,hxo,hdv⟩:=(hds k _ (List.getElem?_eq_getElem hlt)).go
       have hsm:=HSMmore.out _ (List.getElem_mem hlt)
       have hroom:=HROOMmore.out _ (List.getElem_mem hlt)
       generalize more[k]=d at *
       have HSX:Hid ((Tryz.prog.info? 39).map (·.size)=some xs.length):=by unfold Hid;rw [hxl];kernel_rfl
       have HRGW:Hid (∀W,RowKit.Below w.heap.size w W→W.rangeAt lb (lo+k*17) xs):=fun W h j v hj=>(h.cell (p:=⟨lb,lo+k*17+j,none⟩) hlb).trans (hrg j v hj)
       have HDV:Hid (DV w (.agg xs.toArray) d):=hdv
       have HSMD:=Hid.mk hsm
       have HRMD:=Hid.mk hroom
       have zi:(k:Int)<(more.length:Int):=by omega
       clear hds hrg hxo hdv hsm hroom
       have HC4:=Put_any dc cb d (.agg xs.toArray) wr HSC.out (HDV.out.on HBW.out) HSMD.out
       have HMW:Hid (wr.rangeAt lb (lo+k*17) xs):=HRGW.out _ HBW.out
       obtain ⟨PR,hPR⟩:∃PR,putRes dc d=PR:=⟨_,rfl⟩
       rw [hPR] at HC4
       clear hPR
       go_wp2_with (refine wpList_load_mid rfl 39 _ rfl lb (lo+k*17) rfl xs _ HMW.out Tryz.underlying39 rfl HSX.out ?_)
       refine HC4.mono ?_
       rintro e w4 ⟨rfl,hS4,hb4,-⟩
       have HS4:=Hid.mk hS4
       have HB4:Hid (RowKit.Below WC.heap.size WC w4):=HBR.out.trans hb4
       clear hS4 hb4 HC4
       go_wp2
       exact ⟨⟨k+1,_,hlt,by go_num,HS4.out,HB4.out⟩,by simp [intOf];omega⟩
      ·have zk:¬(k:Int)<(more.length:Int):=by omega
       obtain ⟨WD,rfl⟩:∃W,W=wr:=⟨_,rfl⟩
       have HTD:Hid (Two WD sb rb ds):=HTC.out.on HBR.out
       have HWD:=HBW
       clear hk
       have HC5:=ListW_any ds sb WD HTD.out.s
       go_wp2_with fail
       refine HC5.mono ?_
       rintro e w5 ⟨oa,ocap,rfl,hrow,hb5⟩
       obtain ⟨hdl,hok⟩:=hrow.outW (fun k hk=>oldB_new hk) (fun k hk=>by unfold oldB;simpa using hk)
       have HT5:=HTD.out.on hb5
       obtain ⟨la5,lc5,hcr5,hLr5⟩:=HT5.r.cell
       have HC6:=ExactDecls_yes ds oa la5 ocap lc5 w5 hdl hLr5 (by have:=HT5.s.len;omega) (fun d hd=>(HT5.s.own d hd).sm)
       have HB5:=Hid.mk hb5
       have HOK5:=Hid.mk hok
       have HOWN:Hid (∀d∈ds,OwnD d):=HT5.s.own
       have hlen5:=HT5.s.len
       clear hrow hb5 hdl hok HT5 hLr5 HC5
       go_wp2_with fail
       refine HC6.mono ?_
       rintro e w6 ⟨rfl,hb6⟩
       have HBL3:Hid (RowKit.Below WD.heap.size WD w6):=HB5.out.trans (hb6.mono HB5.out.size)
       have HOK:Hid (OutOK WD.heap.size w6 oa ds):=HOK5.out.on hb6 HB5.out.size
       clear hb6 HC6
       go_wp2
       go_loopw [17] (fun i wr=>∃k:Nat,k≤ds.length∧i=.int .i64 k∧OutOK WD.heap.size wr oa ds∧RowKit.Below WD.heap.size WD wr) (fun i _=>ds.length - (intOf i).toNat)
       case atStart=>exact ⟨0,Nat.zero_le _,rfl,HOK.out,HBL3.out⟩
       case round =>
        obtain ⟨k,hk,rfl,hok,hb⟩:=hrel
        have HOKR:=Hid.mk hok
        have HBR:=Hid.mk hb
        clear hok hb
        by_cases hlt:k<ds.length
        ·obtain ⟨g,rfl,hgB,hgz,hel⟩:=HOKR.out.resolve_left (by intro e;rw [e] at hlt;simp at hlt)
         obtain ⟨⟨u,hu⟩,-⟩:=hel k _ (List.getElem?_eq_getElem hlt)
         have hz1:=hgz (k*17+1)
         have zk:(k:Int)<(ds.length:Int):=by omega
         have HOK2:Hid (OutOK WD.heap.size (wr.setCell ⟨g,k*17+1,none⟩ (.string ⟨#[63]⟩)) (some ⟨g,0,none⟩) ds):=HOKR.out.set g (k*17+1) _ (fun _ _ _ i=>by omega)
         have HB2:Hid (RowKit.Below WD.heap.size WD (wr.setCell ⟨g,k*17+1,none⟩ (.string ⟨#[63]⟩))):=HBR.out.setCell (p:=⟨g,k*17+1,none⟩) hgB _
         have HKD:Hid (ds[k]?=some ds[k]):=List.getElem?_eq_getElem hlt
         have hcl:ds[k].ctors.length≤1000000:=(HOWN.out _ (List.getElem_mem hlt)).sm.len
         generalize ds[k]=dk at *
         clear hel hgz
         go_wp2_with fail
         obtain ⟨WQ,rfl⟩:∃W,W=wr:=⟨_,rfl⟩
         go_loopw [18] (fun i wr=>∃j:Nat,j≤dk.ctors.length∧i=.int .i64 j∧OutOK WD.heap.size wr (some ⟨g,0,none⟩) ds∧RowKit.Below WD.heap.size WD wr) (fun i _=>dk.ctors.length - (intOf i).toNat)
         case atStart=>exact ⟨0,Nat.zero_le _,rfl,HOK2.out,HB2.out⟩
         case round =>
          obtain ⟨j,hj,rfl,hok,hb⟩:=hrel
          have HOK3:=Hid.mk hok
          have HB3:=Hid.mk hb
          clear hok hb
          obtain ⟨g',hge,-,-,hel⟩:=HOK3.out.resolve_left (by intro e;rw [e] at hlt;simp at hlt)
          simp only [Option.some.injEq,Addr.mk.injEq,and_true] at hge
          subst hge
          obtain ⟨-,ca,cc,h16,hct⟩:=hel k dk HKD.out
          clear hel
          by_cases hjl:j<dk.ctors.length
          ·obtain ⟨g2,rfl,hg2B,hg2n,hg2z,hcs⟩:=hct (by omega)
           obtain ⟨u2,hu2⟩:=hcs j hjl
           have hz2:=hg2z (j*7)
           have zj:(j:Int)<(dk.ctors.length:Int):=by omega
           have HOK4:Hid (OutOK WD.heap.size (wr.setCell ⟨g2,j*7,none⟩ (.string ⟨#[63]⟩)) (some ⟨g,0,none⟩) ds):=HOK3.out.set g2 (j*7) _ (fun g9 he e i=>by
            simp only [Option.some.injEq,Addr.mk.injEq,and_true] at he
            exact absurd (e.trans he.symm) hg2n)
           have HB4:Hid (RowKit.Below WD.heap.size WD (wr.setCell ⟨g2,j*7,none⟩ (.string ⟨#[63]⟩))):=HB3.out.setCell (p:=⟨g2,j*7,none⟩) hg2B _
           clear hct hcs hg2z
           go_wp2
           exact ⟨⟨j+1,hjl,by go_num,HOK4.out,HB4.out⟩,by simp [intOf];omega⟩
          ·obtain rfl:j=dk.ctors.length:=by omega
           have zj:¬(dk.ctors.length:Int)<(dk.ctors.length:Int):=by omega
           clear hct
           go_wp2
           exact ⟨⟨k+1,hlt,by go_num,HOK3.out,HB3.out⟩,by simp [intOf];omega⟩
        ·have zk:¬(k:Int)<(ds.length:Int):=by omega
         have HBL4:=HBR
         go_wp2
         clear hk zk
         go_loopw [19] (fun i wr=>∃k:Nat,k≤ns.length∧i=.int .i64 k∧RowKit.Below WD.heap.size WD wr) (fun i _=>ns.length - (intOf i).toNat)
         case atStart=>exact ⟨0,Nat.zero_le _,rfl,HBL4.out⟩
         case round =>
          obtain ⟨k,hk,rfl,hb⟩:=hrel
          have HBR:=Hid.mk hb
          have hsr:=hb.size
          have HBW:Hid (RowKit.Below w.heap.size w wr):=HWD.out.trans (hb.mono HWD.out.size)
          have HTR:Hid (Two wr sb rb ds):=HTD.out.on hb
          clear hb
          by_cases hlt:k<ns.length
          ·obtain ⟨nb,no,rfl,hnb,hss⟩:=HN.out.resolve_left (by intro e;rw [e] at hlt;simp at hlt)
           have hck:wr.cell? ⟨nb,no+k,none⟩=some (.string ns[k]):=(HBW.out.cell (p:=⟨nb,no+k,none⟩) hnb).trans (hss k _ (List.getElem?_eq_getElem hlt))
           have hsz:=HNS.out _ (List.getElem_mem hlt)
           have zk:(k:Int)<(ns.length:Int):=by omega
           clear hss
           generalize ns[k]=sk at *
           have HC1:=Get_any ds sb sk wr HTR.out.s hsz
           obtain ⟨GR,hGR⟩:∃GR,getRes ds sk=GR:=⟨_,rfl⟩
           have hrg:=fine_get HTR.out.f sk
           rw [hGR] at HC1 hrg
           have HRG:=Hid.mk hrg
           have HGSM:Hid (smD GR.1):=by
            unfold Hid;rw [←hGR];exact getRes_sm HTR.out.s.own sk
           have HSZ:=Hid.mk hsz
           clear hGR hrg hsz
           go_wp2_with fail
           refine HC1.mono ?_
           rintro e w1 ⟨zs,rfl,hE,hb1⟩
           have hs1:=hb1.size
           have hzl:zs.length=17:=hE.len
           have hzt:zs.toArray.size=17:=by simp [hzl]
           have HSA:Hid ((Tryz.prog.info? 39).map (·.size)=some zs.toArray.size):=by unfold Hid;rw [hzt];kernel_rfl
           have HSL:Hid ((Tryz.prog.info? 39).map (·.size)=some zs.length):=by unfold Hid;rw [hzl];kernel_rfl
           have HXT:Hid ((#[.int .i64 0,.string { data:=#[] },.int .i64 0,.int .i64 0,.int .i64 0,.bool false,.string { data:=#[] },.slice none 0 0,.slice none 0 0,.int .i64 0,.int .i64 0,.bool false,.string { data:=#[] },.slice none 0 0,.slice none 0 0,.int .i64 0,.slice none 0 0]:Array Value).size=zs.toArray.size):=by unfold Hid;rw [hzt];rfl
           have HONE:Hid (zs.toArray.all (·.oneCell')=true):=all_oneCell_toArray hE.cell
           obtain ⟨W2,hW2⟩:∃W2,w1.alloc (.cells zs.toArray 39)=W2:=⟨_,rfl⟩
           have hb2:RowKit.Below w1.heap.size w1 W2:=by rw [←hW2];exact (Below.refl _ _).alloc (Nat.le_refl _) _
           have hX2:W2.heap[w1.heap.size]?=some (.cells zs.toArray 39 (0,0)):=by rw [←hW2];exact alloc_new _ _
           have HB2:Hid (RowKit.Below wr.heap.size wr W2):=hb1.trans (hb2.mono hs1)
           have HDV1:Hid (DV W2 (.agg zs.toArray) GR.1):=hE.val.on hb2
           have HX2:=Hid.mk hX2
           have HW2:=Hid.mk hW2
           have hs2:=hb2.size
           have hck2:W2.cell? ⟨nb,no+k,none⟩=some (.string sk):=(HB2.out.cell (p:=⟨nb,no+k,none⟩) (by have:=HBW.out.size;show nb<_;omega)).trans hck
           have HT2:Hid (Two W2 sb rb ds):=HTR.out.on HB2.out
           obtain ⟨la,lc,hcr,hLr⟩:=HT2.out.r.cell
           have HC2:=rGet_any ds rb la lc sk W2 hcr hLr HT2.out.s.own HT2.out.s.len
           rw [HRG.out] at HC2
           clear hb1 hb2 hE hX2 hW2 hzt HC1 hck hLr
           go_wp2_with (refine wpList_store_new rfl 39 _ _ rfl rfl rfl HSA.out HXT.out HONE.out ?_;rw [HW2.out])
           refine HC2.mono ?_
           rintro e w3 ⟨ys,hyl,hyo,rfl,hdy,hb3⟩
           have hs3:=hb3.size
           have hyt:ys.toArray.size=17:=by simp [hyl]
           have HSA2:Hid ((Tryz.prog.info? 39).map (·.size)=some ys.toArray.size):=by unfold Hid;rw [hyt];kernel_rfl
           have HSL2:Hid ((Tryz.prog.info? 39).map (·.size)=some ys.length):=by unfold Hid;rw [hyl];kernel_rfl
           have HXT2:Hid ((#[.int .i64 0,.string { data:=#[] },.int .i64 0,.int .i64 0,.int .i64 0,.bool false,.string { data:=#[] },.slice none 0 0,.slice none 0 0,.int .i64 0,.int .i64 0,.bool false,.string { data:=#[] },.slice none 0 0,.slice none 0 0,.int .i64 0,.slice none 0 0]:Array Value).size=ys.toArray.size):=by unfold Hid;rw [hyt];rfl
           have HONE2:Hid (ys.toArray.all (·.oneCell')=true):=all_oneCell_toArray hyo
           obtain ⟨W4,hW4⟩:∃W4,w3.alloc (.cells ys.toArray 39)=W4:=⟨_,rfl⟩
           have hb4:RowKit.Below w3.heap.size w3 W4:=by rw [←hW4];exact (Below.refl _ _).alloc (Nat.le_refl _) _
           have hX4:W4.heap[w3.heap.size]?=some (.cells ys.toArray 39 (0,0)):=by rw [←hW4];exact alloc_new _ _
           have HB4:Hid (RowKit.Below wr.heap.size wr W4):=HB2.out.trans ((hb3.trans (hb4.mono hs3)).mono HB2.out.size)
           have HM1:Hid (W4.rangeAt w1.heap.size 0 zs):=range_of (pre:=[]) (post:=[]) (((hb3.trans (hb4.mono hs3)).block _ (heap_lt HX2.out)).trans HX2.out) (by simp) rfl
           have HM2:Hid (W4.rangeAt w3.heap.size 0 ys):=range_of (pre:=[]) (post:=[]) hX4 (by simp) rfl
           have HC5:=ExactDecl_yes GR.1 (.agg zs.toArray) (.agg ys.toArray) W4 (HDV1.out.on (hb3.trans (hb4.mono hs3))) (hdy.on hb4) HGSM.out
           have HW4:=Hid.mk hW4
           obtain ⟨GK,hGK⟩:∃GK,GR.2=GK:=⟨_,rfl⟩
           rw [hGK]
           clear hb3 hb4 hX4 hdy hyo hyt hW4 HC2 hGK
           go_wp2_with (first | (refine wpList_store_new rfl 39 _ _ rfl rfl rfl HSA2.out HXT2.out HONE2.out ?_;rw [HW4.out]) | (refine wpList_load_midG (by kernel_rfl) 39 _ rfl w1.heap.size 0 rfl zs _ HM1.out Tryz.underlying39 rfl HSL.out ?_) | (refine wpList_load_midG (by kernel_rfl) 39 _ rfl w3.heap.size 0 rfl ys _ HM2.out Tryz.underlying39 rfl HSL2.out ?_))
           refine HC5.mono ?_
           rintro e w5 ⟨rfl,hb5⟩
           have HB5:Hid (RowKit.Below WD.heap.size WD w5):=HBR.out.trans ((HB4.out.trans (hb5.mono HB4.out.size)).mono hsr)
           clear hb5 HC5
           go_wp2
           exact ⟨⟨k+1,hlt,by go_num,HB5.out⟩,by simp [intOf];omega⟩
          ·have zk:¬(k:Int)<(ns.length:Int):=by omega
           go_wp2
           go_ret
           exact ⟨rfl,HBW.out⟩
end Go.Proofs.YtgfgpjcnfnopnaaGreat
