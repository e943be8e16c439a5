/- The contract of the reference's May. -/
import Derived.Test.YtgfgpjcnfnopnaaGreatQYD
import Derived.Test.YtgfgpjcnfnopnaaGreatLE
namespace Go.Proofs.YtgfgpjcnfnopnaaGreat
open Go.RowKit Go.Sort Go.Lib
theorem putRes_judg {ds:List Dl}{d:Dl}(h:judgD d≠0):putRes ds d=judgD d:=by
 unfold putRes declsRes
 have:judgDs [d]=judgD d:=by unfold judgDs;rw [if_neg h]
 rw [if_neg (by simp),this,if_pos h]
def MayJ (rb x:Nat) (A1:Value) (o1:Bool) (W0:World) (e:Exit) (a':Act) (W':World):Prop:=e=.exit 0∧(∃z5 z7 z13 z14 z15 z16 z17 z18 z19 z20 z21 z22 z23 z24 z25 z26 z27 z28 z29 z30 z31 z32 z33 z34 z35 z36 z37 z38 z39 z40 z41 z42 z43 z44 z45 z46 z47 z48 z49 z50 z51 z52 z53 z54 z55 z56 z57 z58 z59 z60 z61 z62 z63 z64:Value,a'={ tmps:=#[.pointer (some ⟨rb,0,none⟩),A1,undef,.pointer (some ⟨x,0,none⟩),.int .i64 0,z5,.bool o1,z7,undef,undef,undef,undef,undef,z13,z14,z15,z16,z17,z18,z19,z20,z21,z22,z23,z24,z25,z26,z27,z28,z29,z30,z31,z32,z33,z34,z35,z36,z37,z38,z39,z40,z41,z42,z43,z44,z45,z46,z47,z48,z49,z50,z51,z52,z53,z54,z55,z56,z57,z58,z59,z60,z61,z62,z63,z64,undef,undef,undef,undef,undef,undef,undef,undef,undef,undef,undef,undef,undef,undef,undef,undef,undef,undef,undef,undef,undef,undef,undef,undef,undef,undef,undef,undef,undef,undef,undef,undef,undef,undef,undef,undef,undef,undef,undef,undef],defers:=[] })∧RowKit.Below W0.heap.size W0 W'
theorem MayJ.of {rb x:Nat}{A1:Value}{o1 o2:Bool}{W0:World}{e:Exit}{a':Act}{W':World}(h:o2=o1) (hj:MayJ rb x A1 o2 W0 e a' W'):MayJ rb x A1 o1 W0 e a' W':=h ▸ hj
set_option maxRecDepth 100000 in
set_option maxHeartbeats 16000000 in
theorem rMay_any (ds:List Dl) (rb:Nat) (la:Option Addr) (lc:Nat) (d:Dl) (v:Value) (w:World) (hc:w.cell? ⟨rb,0,none⟩=some (.slice la ds.length lc)) (hL:DL w la ds) (hown:∀d∈ds,OwnD d) (hlen:ds.length≤500) (hf:Fine ds) (hv:DV w v d) (hsm:smD d) (hroom:judgDs [d]=0→(encDs [d]).length≤50000000000000):Calls Tryz.prog 22 #[.pointer (some ⟨rb,0,none⟩),v] w fun e w'=>e=.returned (.int .i64 (putRes ds d))∧RowKit.Below w.heap.size w w':=by
 have mx:=mixed
 have hrb:rb<w.heap.size:=World.block_lt_of_cell? w _ hc
 obtain ⟨t0,t1,t2,t3,t4,t5,t6,t7,t8,t9,v0,v1,v2,v3,v4,v5,v6,v7,v8,v9,ca,cc,rfl,htt,htv,hck⟩:=hv.go
 obtain ⟨kd,nm,lv,ty,val,pr,cs⟩:=d
 simp only at htt htv hck hv
 obtain ⟨vs,hvs⟩:∃vs:List Value,vs=[.int .i64 kd,.string nm,.int .i64 lv,.int .i64 t0,.int .i64 t1,.bool t2,.string t3,.slice t4 t5 t6,.slice t7 t8 t9,.int .i64 v0,.int .i64 v1,.bool v2,.string v3,.slice v4 v5 v6,.slice v7 v8 v9,.int .i64 pr,.slice ca cs.length cc]:=⟨_,rfl⟩
 have hva:vs.toArray=#[.int .i64 kd,.string nm,.int .i64 lv,.int .i64 t0,.int .i64 t1,.bool t2,.string t3,.slice t4 t5 t6,.slice t7 t8 t9,.int .i64 v0,.int .i64 v1,.bool v2,.string v3,.slice v4 v5 v6,.slice v7 v8 v9,.int .i64 pr,.slice ca cs.length cc]:=by rw [hvs]
 have hvl:vs.length=17:=by rw [hvs];rfl
 have hvo:∀v∈vs,v.oneCell'=true:=by rw [hvs];simp [Value.oneCell']
 have HV:Hid (DV w (.agg vs.toArray) (⟨kd,nm,lv,ty,val,pr,cs⟩:Dl)):=by unfold Hid;rw [hva];exact hv
 obtain ⟨W0,hW0⟩:∃W0,w.alloc (.cells #[.int .i64 kd,.string nm,.int .i64 lv,.int .i64 t0,.int .i64 t1,.bool t2,.string t3,.slice t4 t5 t6,.slice t7 t8 t9,.int .i64 v0,.int .i64 v1,.bool v2,.string v3,.slice v4 v5 v6,.slice v7 v8 v9,.int .i64 pr,.slice ca cs.length cc] 39)=W0:=⟨_,rfl⟩
 have hb0:RowKit.Below w.heap.size w W0:=by rw [←hW0];exact (Below.refl _ _).alloc (Nat.le_refl _) _
 have HX0:Hid (W0.heap[w.heap.size]?=some (.cells #[.int .i64 kd,.string nm,.int .i64 lv,.int .i64 t0,.int .i64 t1,.bool t2,.string t3,.slice t4 t5 t6,.slice t7 t8 t9,.int .i64 v0,.int .i64 v1,.bool v2,.string v3,.slice v4 v5 v6,.slice v7 v8 v9,.int .i64 pr,.slice ca cs.length cc] 39 (0,0))):=by unfold Hid;rw [←hW0];exact alloc_new _ _
 have HXV:Hid (W0.heap[w.heap.size]?=some (.cells vs.toArray 39 (0,0))):=by unfold Hid;rw [hva];exact HX0.out
 have hs0:=heap_lt HX0.out
 have HBOX:Hid (∀W,RowKit.Below W0.heap.size W0 W→W.heap[w.heap.size]?=some (.cells #[.int .i64 kd,.string nm,.int .i64 lv,.int .i64 t0,.int .i64 t1,.bool t2,.string t3,.slice t4 t5 t6,.slice t7 t8 t9,.int .i64 v0,.int .i64 v1,.bool v2,.string v3,.slice v4 v5 v6,.slice v7 v8 v9,.int .i64 pr,.slice ca cs.length cc] 39 (0,0))):=fun W h=>(h.block _ hs0).trans HX0.out
 have HRGS:Hid (∀W,RowKit.Below W0.heap.size W0 W→W.rangeAt w.heap.size 0 vs):=fun W h=>range_of (pre:=[]) (post:=[]) ((h.block _ hs0).trans HXV.out) (by simp) rfl
 have HRG:Hid (W0.rangeAt w.heap.size 0 vs):=HRGS.out _ (Below.refl _ _)
 have HSV:Hid ((Tryz.prog.info? 39).map (·.size)=some vs.length):=by unfold Hid;rw [hvl];kernel_rfl
 have HFO:Hid (List.foldl (fun (cs:Array Value) (x:Value×Nat)=>cs.setIfInBounds x.snd x.fst) #[.int .i64 0,.string { data:=#[] },.int .i64 0,.int .i64 0,.int .i64 0,.bool false,.string { data:=#[] },.slice none 0 0,.slice none 0 0,.int .i64 0,.int .i64 0,.bool false,.string { data:=#[] },.slice none 0 0,.slice none 0 0,.int .i64 0,.slice none 0 0] vs.zipIdx=vs.toArray):=fold_new _ _ (by rw [hvl];rfl)
 have HC1:=rCheckDecl_any (⟨kd,nm,lv,ty,val,pr,cs⟩:Dl) (.agg vs.toArray) W0 (HV.out.on hb0) hsm
 obtain ⟨PR,hPR⟩:∃PR,putRes ds (⟨kd,nm,lv,ty,val,pr,cs⟩:Dl)=PR:=⟨_,rfl⟩
 rw [hPR]
 obtain ⟨JD,hJD⟩:∃JD,judgD (⟨kd,nm,lv,ty,val,pr,cs⟩:Dl)=JD:=⟨_,rfl⟩
 rw [hJD] at HC1
 have HPR:=Hid.mk hPR
 have HJD:=Hid.mk hJD
 have HW0:=Hid.mk hW0
 have HB0:=Hid.mk hb0
 have HL:=Hid.mk hL
 have HOWN:=Hid.mk hown
 have HC:=Hid.mk hc
 have HF:=Hid.mk hf
 have HSM:=Hid.mk hsm
 have HSMC:Hid (∀c∈cs,c.1.size≤140737488351232∧smT 1000000 c.2):=hsm.ctors
 have HROOM:=Hid.mk hroom
 have hcl1:cs.length≤1000000:=hsm.len
 have HTT:=Hid.mk htt
 have HTV:=Hid.mk htv
 have HCK:=Hid.mk hck
 have HVO:=Hid.mk hvo
 clear hb0 hW0 hL hown hc hf hsm hroom htt htv hck hv hPR hJD hvs hva hvo
 go_enter Tryz.func22,Tryz.ntmps22
 go_wp2_with (first | (rw [HW0.out];(refine wpList_load_mid rfl 39 _ rfl w.heap.size 0 rfl vs _ HRG.out Tryz.underlying39 rfl HSV.out ?_)) | (refine wpList_load_mid rfl 39 _ rfl w.heap.size 0 rfl vs _ HRG.out Tryz.underlying39 rfl HSV.out ?_))
 refine HC1.mono ?_
 rintro e w1 ⟨rfl,hb1⟩
 have HB1:=Hid.mk hb1
 have hs1:=hb1.size
 clear hb1 HC1
 by_cases hj0:JD=0
 rotate_left
 ·have hjb:(JD != 0)=true:=by simpa using hj0
  have HPJ:Hid (PR=JD):=by unfold Hid;rw [←HPR.out,←HJD.out,putRes_judg (by rw [HJD.out];exact hj0)]
  go_wp2
  go_ret
  exact ⟨by rw [HPJ.out];rfl,HB0.out.trans (HB1.out.mono HB0.out.size)⟩
 subst hj0
 have hbX:RowKit.Below w.heap.size w (w1.alloc (.cells vs.toArray 39)):=(HB0.out.trans (HB1.out.mono HB0.out.size)).alloc (by omega) _
 have HC2:=rDecls_any [(⟨kd,nm,lv,ty,val,pr,cs⟩:Dl)] (some ⟨w1.heap.size,0,none⟩) 1 (w1.alloc (.cells vs.toArray 39)) (Or.inr ⟨w1.heap.size,0,rfl,by simp,fun i x hi=>by
  match i with
  | 0 =>
   simp only [List.getElem?_cons_zero,Option.some.injEq] at hi
   subst hi
   exact ⟨vs,hvl,range_of (pre:=[]) (post:=[]) (alloc_new _ _) (by simp) rfl,HVO.out,HV.out.on hbX⟩
  | i+1=>simp at hi⟩) (by simp) (by intro x hx;rw [List.mem_singleton.1 hx];exact HSM.out) HROOM.out
 have HRG1:Hid (w1.rangeAt w.heap.size 0 vs):=HRGS.out _ HB1.out
 clear hbX
 go_wp2_with (first | (refine wpList_load_mid rfl 39 _ rfl w.heap.size 0 rfl vs _ HRG1.out Tryz.underlying39 rfl HSV.out ?_) | (rw [HFO.out]))
 refine HC2.mono ?_
 rintro e w2 ⟨hans,hb2⟩
 have HB2:Hid (RowKit.Below W0.heap.size W0 w2):=HB1.out.trans (((Below.refl _ w1).alloc (Nat.le_refl _) _).trans (hb2.mono (by simp)) |>.mono hs1)
 have hs2:=HB2.out.size
 clear hb2 HC2
 have HDR:Hid (∃x,declsRes [(⟨kd,nm,lv,ty,val,pr,cs⟩:Dl)]=x):=⟨_,rfl⟩
 obtain ⟨DR,hDR⟩:=HDR.out
 rw [hDR] at hans
 clear HDR
 cases DR with
 | error r =>
  obtain ⟨hr0,rfl⟩:=hans
  have hrb2:(r != 0)=true:=by simpa using hr0
  have HPE:Hid (PR=r):=by unfold Hid;rw [←HPR.out];unfold putRes;rw [hDR]
  clear hDR hr0
  go_wp2
  go_ret
  exact ⟨by rw [HPE.out];rfl,HB0.out.trans (HB2.out.mono HB0.out.size)⟩
 | ok bs =>
  obtain ⟨vb,rfl,-⟩:=hans
  have HRD:Hid (RightD (⟨kd,nm,lv,ty,val,pr,cs⟩:Dl)):=rightOf hDR HSM.out
  have HLEN40:Hid ((⟨kd,nm,lv,ty,val,pr,cs⟩:Dl).kind=3→(⟨kd,nm,lv,ty,val,pr,cs⟩:Dl).ctors.length≤40):=HRD.out.len
  have HNM60:Hid ((⟨kd,nm,lv,ty,val,pr,cs⟩:Dl).name.size≤60):=HRD.out.name.2
  obtain ⟨OP,hOP⟩:∃OP,(termsD (cleanD (⟨kd,nm,lv,ty,val,pr,cs⟩:Dl))).any openT=OP:=⟨_,rfl⟩
  have HPO:Hid (PR=if OP=true then 11 else if 500≤ds.length then 2 else if twiceB ds (cleanD (⟨kd,nm,lv,ty,val,pr,cs⟩:Dl))=true then 20 else 0):=by
   unfold Hid;rw [←HPR.out];unfold putRes;rw [hDR,hOP]
  have HOPE:Hid (OP=(openT ty||(decide (kd=2)&&openT val)||(decide (kd=3)&&cs.any fun c=>openT c.2))):=by unfold Hid;rw [←hOP];exact clean_terms (⟨kd,nm,lv,ty,val,pr,cs⟩:Dl)
  clear hDR hOP
  have HF1:=rFree_any ty _ w2 (HTT.out.on (HB0.out.trans (HB2.out.mono HB0.out.size))) HSM.out.ty
  have HO1:Hid (openT ty=decide (0<tfreeR ty)):=rfl
  obtain ⟨q0,q1,q2,q3,q4,q5,q6,q7,q8,q9,q10,q11,q12,q13,q14,q15,q16,q17⟩:=cells17 (HBOX.out w2 HB2.out)
  go_wp2_with fail
  refine HF1.mono ?_
  rintro e w3 ⟨rfl,hb3⟩
  have HB3:Hid (RowKit.Below W0.heap.size W0 w3):=HB2.out.trans (hb3.mono hs2)
  have hs3:=HB3.out.size
  generalize tfreeR ty=f1 at *
  clear hb3 HF1 q0 q1 q2 q3 q4 q5 q6 q7 q8 q9 q10 q11 q12 q13 q14 q15 q16 q17
  obtain ⟨q0,q1,q2,q3,q4,q5,q6,q7,q8,q9,q10,q11,q12,q13,q14,q15,q16,q17⟩:=cells17 (HBOX.out w3 HB3.out)
  by_cases hf1:0<f1
  ·have HO0:Hid ((openT ty||(decide (kd=2)&&openT val))=true):=by unfold Hid;rw [HO1.out];simp [hf1]
   have HBL:=HB3
   go_wp2
   clear q0 q1 q2 q3 q4 q5 q6 q7 q8 q9 q10 q11 q12 q13 q14 q15 q16 q17
   obtain ⟨o1,ho1⟩:∃o1,(true||(decide (kd=3)&&cs.any fun c=>openT c.2))=o1:=⟨_,rfl⟩
   obtain ⟨PJ,hPJ⟩:∃PJ:Nat→Bool,PJ=fun j=>(true||(decide (kd=3)&&(cs.take j).any fun c=>openT c.2)):=⟨_,rfl⟩
   have HPJ0:Hid (PJ 0=(true)):=by unfold Hid;rw [hPJ];simp
   have HPJs:Hid ((kd:Int)=3→∀(j:Nat) (hjl:j<cs.length) (OJ:Bool),PJ j=OJ→PJ (j+1)=(OJ||openT cs[j].2)):=fun h j hjl OJ hO=>by
    rw [←hO,hPJ]
    simp only
    rw [List.take_succ_eq_append_getElem hjl,List.any_append,h]
    simp
   have HPJe:Hid ((kd:Int)=3→PJ cs.length=o1):=fun _=>by rw [hPJ,←ho1];simp only;rw [List.take_length]
   have HPJn:Hid (¬(kd:Int)=3→∀j,PJ j=o1):=fun h j=>by rw [hPJ,←ho1];simp [h]
   have HOP0:Hid (OP=o1):=by unfold Hid;rw [HOPE.out,HO0.out,ho1]
   have HO1T:Hid (o1=true):=by unfold Hid;rw [←ho1];rfl
   clear hPJ ho1
   refine Code.wp_mono (Q:=MayJ rb w.heap.size (.agg #[.int .i64 kd,.string nm,.int .i64 lv,.int .i64 t0,.int .i64 t1,.bool t2,.string t3,.slice t4 t5 t6,.slice t7 t8 t9,.int .i64 v0,.int .i64 v1,.bool v2,.string v3,.slice v4 v5 v6,.slice v7 v8 v9,.int .i64 pr,.slice ca cs.length cc]) o1 W0) (fun e a' W' hjoin=>?_) ?_
   ·obtain ⟨rfl,⟨z5,z7,z13,z14,z15,z16,z17,z18,z19,z20,z21,z22,z23,z24,z25,z26,z27,z28,z29,z30,z31,z32,z33,z34,z35,z36,z37,z38,z39,z40,z41,z42,z43,z44,z45,z46,z47,z48,z49,z50,z51,z52,z53,z54,z55,z56,z57,z58,z59,z60,z61,z62,z63,z64,rfl⟩,hbJ⟩:=hjoin
    obtain ⟨WR,rfl⟩:∃W,W=W':=⟨_,rfl⟩
    have HBJ:=Hid.mk hbJ
    have HBWR:Hid (RowKit.Below w.heap.size w WR):=HB0.out.trans (hbJ.mono HB0.out.size)
    obtain ⟨q0,q1,q2,q3,q4,q5,q6,q7,q8,q9,q10,q11,q12,q13,q14,q15,q16,q17⟩:=cells17 (HBOX.out WR hbJ)
    have HOP:=HOP0
    clear hbJ HPJ0 HPJs HPJe HPJn
    dsimp only
    cases o1 with
    | true =>
     have HP11:Hid (PR=11):=by unfold Hid;rw [HPO.out,if_pos HOP.out]
     go_wp2
     go_ret
     exact ⟨by rw [HP11.out];rfl,HBWR.out⟩
    | false =>
     exact absurd HO1T.out (by decide)
   ·
    go_loopw [6,7] (fun op i wr=>∃j:Nat,j≤cs.length∧i=.int .i64 j∧op=.bool (PJ j)∧RowKit.Below W0.heap.size W0 wr) (fun _ i _=>cs.length - (intOf i).toNat)
    case atStart=>exact ⟨0,Nat.zero_le _,rfl,by rw [HPJ0.out],HBL.out⟩
    case round =>
     obtain ⟨j,hj,rfl,hop,hb⟩:=hrel
     obtain ⟨OJ,hOJ⟩:∃OJ,PJ j=OJ:=⟨_,rfl⟩
     rw [hOJ] at hop
     subst hop
     have HOJ:=Hid.mk hOJ
     have HBL2:=Hid.mk hb
     have hsr:=hb.size
     obtain ⟨q0,q1,q2,q3,q4,q5,q6,q7,q8,q9,q10,q11,q12,q13,q14,q15,q16,q17⟩:=cells17 (HBOX.out wr hb)
     clear hOJ hb
     by_cases hk3:kd=3
     ·subst hk3
      by_cases hjl:j<cs.length
      ·obtain ⟨xb,xo,rfl,hxb,hxc⟩:=HCK.out.resolve_left (by intro e;rw [e] at hjl;simp at hjl)
       have hBwr:RowKit.Below w.heap.size w wr:=HB0.out.trans (HBL2.out.mono HB0.out.size)
       have hct:=(hxc j _ (List.getElem?_eq_getElem hjl)).2
       have hsc:=(HSMC.out _ (List.getElem_mem hjl)).2
       have HTKC:Hid (PJ (j+1)=(OJ||openT cs[j].2)):=HPJs.out rfl j hjl OJ HOJ.out
       have zj:(j:Int)<(cs.length:Int):=by omega
       generalize cs[j].2=cty at *
       obtain ⟨m0,m1,m2,m3,m4,m5,m6,m7,m8,m9,e0,e1,e2,e3,e4,e5,hctv⟩:=(hct.on hBwr).valE
       have HFC:=rFree_any cty _ wr hctv hsc
       have hxb2:xb<wr.heap.size:=by have:=hBwr.size;omega
       clear hxc hct hctv hsc hBwr
       cases OJ with
       | true =>
        clear HFC
        go_wp2
        exact ⟨⟨j+1,hjl,by go_num,by rw [HTKC.out];rfl,HBL2.out⟩,by simp [intOf];omega⟩
       | false =>
        go_wp2_with fail
        refine HFC.mono ?_
        rintro e w9 ⟨rfl,hb9⟩
        have HB9:Hid (RowKit.Below W0.heap.size W0 w9):=HBL2.out.trans (hb9.mono HBL2.out.size)
        have HOF:Hid (openT cty=decide (0<tfreeR cty)):=rfl
        generalize tfreeR cty=fc at *
        clear hb9 HFC
        go_wp2
        exact ⟨⟨j+1,hjl,by go_num,by rw [HTKC.out,HOF.out];rfl,HB9.out⟩,by simp [intOf];omega⟩
      ·obtain rfl:j=cs.length:=by omega
       have zj:¬(cs.length:Int)<(cs.length:Int):=by omega
       have HOE2:Hid (OJ=o1):=by unfold Hid;rw [←HOJ.out];exact HPJe.out rfl
       go_wp2
       exact MayJ.of HOE2.out ⟨rfl,⟨_,_,_,_,_,_,_,_,_,_,_,_,_,_,_,_,_,_,_,_,_,_,_,_,_,_,_,_,_,_,_,_,_,_,_,_,_,_,_,_,_,_,_,_,_,_,_,_,_,_,_,_,_,_,rfl⟩,HBL2.out⟩
     have HOE2:Hid (OJ=o1):=by unfold Hid;rw [←HOJ.out];exact HPJn.out hk3 j
     have hk3':(kd==(3:Int))=false:=by simpa using hk3
     clear hk3
     by_cases hjl:(j:Int)<(cs.length:Int)
     ·go_wp2
      exact MayJ.of HOE2.out ⟨rfl,⟨_,_,_,_,_,_,_,_,_,_,_,_,_,_,_,_,_,_,_,_,_,_,_,_,_,_,_,_,_,_,_,_,_,_,_,_,_,_,_,_,_,_,_,_,_,_,_,_,_,_,_,_,_,_,rfl⟩,HBL2.out⟩
     ·go_wp2
      exact MayJ.of HOE2.out ⟨rfl,⟨_,_,_,_,_,_,_,_,_,_,_,_,_,_,_,_,_,_,_,_,_,_,_,_,_,_,_,_,_,_,_,_,_,_,_,_,_,_,_,_,_,_,_,_,_,_,_,_,_,_,_,_,_,_,rfl⟩,HBL2.out⟩
  have HF0:Hid (decide (0<f1)=false):=by unfold Hid;simpa using hf1
  by_cases hk2:kd=2
  ·have HK2:=Hid.mk hk2
   subst hk2
   have HF2:=rFree_any val _ w3 (HTV.out.on (HB0.out.trans (HB3.out.mono HB0.out.size))) HSM.out.val
   have HO2:Hid (openT val=decide (0<tfreeR val)):=rfl
   go_wp2_with fail
   refine HF2.mono ?_
   rintro e w4 ⟨rfl,hb4⟩
   have HB4:Hid (RowKit.Below W0.heap.size W0 w4):=HB3.out.trans (hb4.mono hs3)
   have hs4:=HB4.out.size
   generalize tfreeR val=f2 at *
   have HO0:Hid ((openT ty||(decide ((2:Int)=2)&&openT val))=decide (0<f2)):=by unfold Hid;rw [HO1.out,HO2.out,HF0.out];simp
   have HBL:=HB4
   clear hb4 HF2 q0 q1 q2 q3 q4 q5 q6 q7 q8 q9 q10 q11 q12 q13 q14 q15 q16 q17
   go_wp2
   obtain ⟨o1,ho1⟩:∃o1,(decide (0<f2)||(decide ((2:Int)=3)&&cs.any fun c=>openT c.2))=o1:=⟨_,rfl⟩
   obtain ⟨PJ,hPJ⟩:∃PJ:Nat→Bool,PJ=fun j=>(decide (0<f2)||(decide ((2:Int)=3)&&(cs.take j).any fun c=>openT c.2)):=⟨_,rfl⟩
   have HPJ0:Hid (PJ 0=(decide (0<f2))):=by unfold Hid;rw [hPJ];simp
   have HPJs:Hid (((2:Int):Int)=3→∀(j:Nat) (hjl:j<cs.length) (OJ:Bool),PJ j=OJ→PJ (j+1)=(OJ||openT cs[j].2)):=fun h=>absurd h (by decide)
   have HPJe:Hid (((2:Int):Int)=3→PJ cs.length=o1):=fun _=>by rw [hPJ,←ho1];simp only;rw [List.take_length]
   have HPJn:Hid (¬((2:Int):Int)=3→∀j,PJ j=o1):=fun h j=>by rw [hPJ,←ho1];simp [h]
   have HOP0:Hid (OP=o1):=by unfold Hid;rw [HOPE.out,HO0.out,ho1]
   clear hPJ ho1
   refine Code.wp_mono (Q:=MayJ rb w.heap.size (.agg #[.int .i64 2,.string nm,.int .i64 lv,.int .i64 t0,.int .i64 t1,.bool t2,.string t3,.slice t4 t5 t6,.slice t7 t8 t9,.int .i64 v0,.int .i64 v1,.bool v2,.string v3,.slice v4 v5 v6,.slice v7 v8 v9,.int .i64 pr,.slice ca cs.length cc]) o1 W0) (fun e a' W' hjoin=>?_) ?_
   ·obtain ⟨rfl,⟨z5,z7,z13,z14,z15,z16,z17,z18,z19,z20,z21,z22,z23,z24,z25,z26,z27,z28,z29,z30,z31,z32,z33,z34,z35,z36,z37,z38,z39,z40,z41,z42,z43,z44,z45,z46,z47,z48,z49,z50,z51,z52,z53,z54,z55,z56,z57,z58,z59,z60,z61,z62,z63,z64,rfl⟩,hbJ⟩:=hjoin
    obtain ⟨WR,rfl⟩:∃W,W=W':=⟨_,rfl⟩
    have HBJ:=Hid.mk hbJ
    have HBWR:Hid (RowKit.Below w.heap.size w WR):=HB0.out.trans (hbJ.mono HB0.out.size)
    obtain ⟨q0,q1,q2,q3,q4,q5,q6,q7,q8,q9,q10,q11,q12,q13,q14,q15,q16,q17⟩:=cells17 (HBOX.out WR hbJ)
    have HOP:=HOP0
    clear hbJ HPJ0 HPJs HPJe HPJn
    dsimp only
    cases o1 with
    | true =>
     have HP11:Hid (PR=11):=by unfold Hid;rw [HPO.out,if_pos HOP.out]
     go_wp2
     go_ret
     exact ⟨by rw [HP11.out];rfl,HBWR.out⟩
    | false =>
     have hcr:WR.cell? ⟨rb,0,none⟩=some (.slice la ds.length lc):=(HBWR.out.cell (p:=⟨rb,0,none⟩) hrb).trans HC.out
     by_cases h5:500≤ds.length
     ·have z5':(500:Int)≤(ds.length:Int):=by omega
      have HP2:Hid (PR=2):=by unfold Hid;rw [HPO.out,if_neg (by rw [HOP.out];simp),if_pos h5]
      clear q0 q1 q2 q3 q4 q5 q6 q7 q8 q9 q10 q11 q12 q13 q14 q15 q16 q17
      go_wp2
      go_ret
      exact ⟨by rw [HP2.out];rfl,HBWR.out⟩
     have z5':¬(500:Int)≤(ds.length:Int):=by omega
     have HPT:Hid (PR=if twiceB ds (cleanD (⟨2,nm,lv,ty,val,pr,cs⟩:Dl))=true then 20 else 0):=by unfold Hid;rw [HPO.out,if_neg (by rw [HOP.out];simp),if_neg h5]
     have HRG:Hid (WR.rangeAt w.heap.size 0 vs):=HRGS.out WR HBJ.out
     have HCN:=rnames_any (⟨2,nm,lv,ty,val,pr,cs⟩:Dl) (.agg vs.toArray) WR (HV.out.on HBWR.out) HLEN40.out HNM60.out
     obtain ⟨RN,hRN⟩:∃RN,rnames (⟨2,nm,lv,ty,val,pr,cs⟩:Dl)=RN:=⟨_,rfl⟩
     have hRL:RN.length≤42:=by rw [←hRN];exact rnames_len HLEN40.out
     rw [hRN] at HCN
     have HTWI:Hid (twiceB ds (cleanD (⟨2,nm,lv,ty,val,pr,cs⟩:Dl))=true↔∃i,wrongAt ds RN i):=by unfold Hid;rw [←hRN];exact may_twice HF.out HOWN.out _
     clear hRN q0 q1 q2 q3 q4 q5 q6 q7 q8 q9 q10 q11 q12 q13 q14 q15 q16 q17
     go_wp2_with (refine wpList_load_mid rfl 39 _ rfl w.heap.size 0 rfl vs _ HRG.out Tryz.underlying39 rfl HSV.out ?_)
     refine HCN.mono ?_
     rintro e w5 ⟨g,cap,rfl,hg1,hg2,hgc,hb5⟩
     have HGC:=Hid.mk hgc
     have HB5:Hid (RowKit.Below w.heap.size w w5):=HBWR.out.trans (hb5.mono HBWR.out.size)
     have hs5:=HB5.out.size
     clear hgc hb5 HCN hcr
     go_wp2
     go_loopw [9] (fun i wr=>∃k:Nat,k≤RN.length∧i=.int .i64 k∧(∀i',i'<k→¬wrongAt ds RN i')∧RowKit.Below w5.heap.size w5 wr) (fun i _=>RN.length - (intOf i).toNat)
     case atStart=>exact ⟨0,Nat.zero_le _,rfl,fun i' h=>absurd h (Nat.not_lt_zero _),Below.refl _ _⟩
     case round =>
      obtain ⟨k,hk,rfl,hbef,hb⟩:=hrel
      have HBEF:=Hid.mk hbef
      have HBR:=Hid.mk hb
      have hsr:=hb.size
      clear hbef hb
      by_cases hkl:k<RN.length
      ·have hsk:RN[k]?=some RN[k]:=List.getElem?_eq_getElem hkl
       have hck':wr.cell? ⟨g,k,none⟩=some (.string RN[k]):=(HBR.out.cell (p:=⟨g,k,none⟩) hg2).trans (HGC.out k _ hsk)
       have HSK:=Hid.mk hsk
       have HBRw:Hid (RowKit.Below w.heap.size w wr):=HB5.out.trans (HBR.out.mono hs5)
       have zk:(k:Int)<(RN.length:Int):=by omega
       clear hsk
       generalize RN[k]=sk at *
       have HCG:=rGet_any ds rb la lc sk wr ((HBRw.out.cell (p:=⟨rb,0,none⟩) hrb).trans HC.out) (HL.out.on HBRw.out) HOWN.out hlen
       obtain ⟨KG,hKG⟩:∃KG,(rget ds sk).2=KG:=⟨_,rfl⟩
       rw [hKG] at HCG
       have HKG:=Hid.mk hKG
       clear hKG
       go_wp2_with fail
       refine HCG.mono ?_
       rintro e w6 ⟨zs,hzl,hzo,rfl,-,hb6⟩
       have hs6:=hb6.size
       have hzt:zs.toArray.size=17:=by simp [hzl]
       have HSA:Hid ((Tryz.prog.info? 39).map (·.size)=some zs.toArray.size):=by unfold Hid;rw [hzt];kernel_rfl
       have HXT:Hid ((#[.int .i64 0,.string { data:=#[] },.int .i64 0,.int .i64 0,.int .i64 0,.bool false,.string { data:=#[] },.slice none 0 0,.slice none 0 0,.int .i64 0,.int .i64 0,.bool false,.string { data:=#[] },.slice none 0 0,.slice none 0 0,.int .i64 0,.slice none 0 0]:Array Value).size=zs.toArray.size):=by unfold Hid;rw [hzt];rfl
       have HONE:Hid (zs.toArray.all (·.oneCell')=true):=all_oneCell_toArray hzo
       obtain ⟨W7,hW7⟩:∃W7,w6.alloc (.cells zs.toArray 39)=W7:=⟨_,rfl⟩
       have HB7:Hid (RowKit.Below w5.heap.size w5 W7):=by unfold Hid;rw [←hW7];exact (HBR.out.trans (hb6.mono hsr)).alloc (by omega) _
       have HW7:=Hid.mk hW7
       have hs7:=HB7.out.size
       clear hW7 hb6 HCG hzo hck' hzt
       by_cases hk0:KG=0
       rotate_left
       ·have hkb:(KG != 0)=true:=by simpa using hk0
        have HP20:Hid (PR=20):=by unfold Hid;rw [HPT.out,if_pos (HTWI.out.2 ⟨k,sk,HSK.out,Or.inl (by rw [HKG.out];exact hk0)⟩)]
        clear hk0
        go_wp2_with (refine wpList_store_new rfl 39 _ _ rfl rfl rfl HSA.out HXT.out HONE.out ?_;rw [HW7.out])
        go_ret
        exact ⟨by rw [HP20.out];rfl,HB5.out.trans (HB7.out.mono hs5)⟩
       ·subst hk0
        go_wp2_with (refine wpList_store_new rfl 39 _ _ rfl rfl rfl HSA.out HXT.out HONE.out ?_;rw [HW7.out])
        obtain ⟨WQ,rfl⟩:∃W,W=wr:=⟨_,rfl⟩
        go_loopw [12] (fun i wr'=>∃m:Nat,m≤k∧i=.int .i64 m∧(∀m',m'<m→RN[m']?≠some sk)∧RowKit.Below w5.heap.size w5 wr') (fun i _=>k - (intOf i).toNat)
        case atStart=>exact ⟨0,Nat.zero_le _,rfl,fun m' h=>absurd h (Nat.not_lt_zero _),HB7.out⟩
        case round =>
         obtain ⟨m,hm,rfl,hbm,hb8⟩:=hrel
         have HBM:=Hid.mk hbm
         have HB8:=Hid.mk hb8
         clear hbm hb8
         by_cases hml:m<k
         ·have hmR:RN[m]?=some RN[m]:=List.getElem?_eq_getElem (by omega)
          have c1:wr.cell? ⟨g,m,none⟩=some (.string (RN[m]'(by omega))):=(HB8.out.cell (p:=⟨g,m,none⟩) hg2).trans (HGC.out m _ hmR)
          have c2:wr.cell? ⟨g,k,none⟩=some (.string sk):=(HB8.out.cell (p:=⟨g,k,none⟩) hg2).trans (HGC.out k _ HSK.out)
          have HMR:=Hid.mk hmR
          have zm:(m:Int)<(k:Int):=by omega
          have zm2:(m:Int)<(RN.length:Int):=by omega
          clear hmR
          generalize (RN[m]'(by omega))=sm at *
          by_cases he:sk=sm
          ·subst he
           have HP20:Hid (PR=20):=by unfold Hid;rw [HPT.out,if_pos (HTWI.out.2 ⟨k,sk,HSK.out,Or.inr ⟨m,hml,HMR.out⟩⟩)]
           go_wp2_with fail
           go_quiet (fail)
           go_wp2
           go_ret
           exact ⟨by rw [HP20.out];rfl,HB5.out.trans ((below_drewN HB8.out _).mono hs5)⟩
          ·have hne:=toList_ne he
           have HNX:Hid (∀m',m'<m+1→RN[m']?≠some sk):=fun m' h=>by
            by_cases e:m'<m
            ·exact HBM.out m' e
            ·have:m'=m:=by omega
             subst this
             rw [HMR.out]
             intro h2
             exact he (Option.some.inj h2).symm
           clear he
           go_wp2_with fail
           go_quiet (fail)
           go_wp2
           exact ⟨⟨m+1,hml,by go_num,HNX.out,below_drewN HB8.out _⟩,by simp [intOf];omega⟩
         ·obtain rfl:m=k:=by omega
          have zm:¬(m:Int)<(m:Int):=by omega
          have HNW:Hid (∀i',i'<m+1→¬wrongAt ds RN i'):=fun i' h=>by
           by_cases e:i'<m
           ·exact HBEF.out i' e
           ·have:i'=m:=by omega
            subst this
            rintro ⟨s2,hs2,h3 | ⟨j,hj,h3⟩⟩
            ·rw [HSK.out] at hs2
             rw [←Option.some.inj hs2] at h3
             exact h3 HKG.out
            ·rw [HSK.out] at hs2
             rw [←Option.some.inj hs2] at h3
             exact HBM.out j hj h3
          go_wp2
          exact ⟨⟨m+1,hkl,by go_num,HNW.out,HB8.out⟩,by simp [intOf];omega⟩
      ·obtain rfl:k=RN.length:=by omega
       have zk:¬(RN.length:Int)<(RN.length:Int):=by omega
       have HP0:Hid (PR=0):=by
        unfold Hid
        rw [HPT.out,if_neg]
        intro h
        obtain ⟨i,hi⟩:=HTWI.out.1 h
        obtain ⟨s2,hs2,h3⟩:=hi
        exact HBEF.out i (List.getElem?_eq_some_iff.1 hs2).1 ⟨s2,hs2,h3⟩
       go_wp2
       go_ret
       exact ⟨by rw [HP0.out];rfl,HB5.out.trans (HBR.out.mono hs5)⟩
   ·
    go_loopw [6,7] (fun op i wr=>∃j:Nat,j≤cs.length∧i=.int .i64 j∧op=.bool (PJ j)∧RowKit.Below W0.heap.size W0 wr) (fun _ i _=>cs.length - (intOf i).toNat)
    case atStart=>exact ⟨0,Nat.zero_le _,rfl,by rw [HPJ0.out,HF0.out];rfl,HBL.out⟩
    case round =>
     obtain ⟨j,hj,rfl,hop,hb⟩:=hrel
     obtain ⟨OJ,hOJ⟩:∃OJ,PJ j=OJ:=⟨_,rfl⟩
     rw [hOJ] at hop
     subst hop
     have HOJ:=Hid.mk hOJ
     have HBL2:=Hid.mk hb
     have hsr:=hb.size
     obtain ⟨q0,q1,q2,q3,q4,q5,q6,q7,q8,q9,q10,q11,q12,q13,q14,q15,q16,q17⟩:=cells17 (HBOX.out wr hb)
     clear hOJ hb
     have hk3:¬((2:Int):Int)=3:=by decide
     have HOE2:Hid (OJ=o1):=by unfold Hid;rw [←HOJ.out];exact HPJn.out hk3 j
     clear hk3
     by_cases hjl:(j:Int)<(cs.length:Int)
     ·go_wp2
      exact MayJ.of HOE2.out ⟨rfl,⟨_,_,_,_,_,_,_,_,_,_,_,_,_,_,_,_,_,_,_,_,_,_,_,_,_,_,_,_,_,_,_,_,_,_,_,_,_,_,_,_,_,_,_,_,_,_,_,_,_,_,_,_,_,_,rfl⟩,HBL2.out⟩
     ·go_wp2
      exact MayJ.of HOE2.out ⟨rfl,⟨_,_,_,_,_,_,_,_,_,_,_,_,_,_,_,_,_,_,_,_,_,_,_,_,_,_,_,_,_,_,_,_,_,_,_,_,_,_,_,_,_,_,_,_,_,_,_,_,_,_,_,_,_,_,rfl⟩,HBL2.out⟩
  ·have hk2':(kd==2)=false:=by simpa using hk2
   have HO0:Hid ((openT ty||(decide (kd=2)&&openT val))=false):=by unfold Hid;rw [HO1.out,HF0.out];simp [hk2]
   have HBL:=HB3
   have HK2:=Hid.mk hk2
   clear hk2
   go_wp2
   clear q0 q1 q2 q3 q4 q5 q6 q7 q8 q9 q10 q11 q12 q13 q14 q15 q16 q17
   obtain ⟨o1,ho1⟩:∃o1,(false||(decide (kd=3)&&cs.any fun c=>openT c.2))=o1:=⟨_,rfl⟩
   obtain ⟨PJ,hPJ⟩:∃PJ:Nat→Bool,PJ=fun j=>(false||(decide (kd=3)&&(cs.take j).any fun c=>openT c.2)):=⟨_,rfl⟩
   have HPJ0:Hid (PJ 0=(false)):=by unfold Hid;rw [hPJ];simp
   have HPJs:Hid ((kd:Int)=3→∀(j:Nat) (hjl:j<cs.length) (OJ:Bool),PJ j=OJ→PJ (j+1)=(OJ||openT cs[j].2)):=fun h j hjl OJ hO=>by
    rw [←hO,hPJ]
    simp only
    rw [List.take_succ_eq_append_getElem hjl,List.any_append,h]
    simp
   have HPJe:Hid ((kd:Int)=3→PJ cs.length=o1):=fun _=>by rw [hPJ,←ho1];simp only;rw [List.take_length]
   have HPJn:Hid (¬(kd:Int)=3→∀j,PJ j=o1):=fun h j=>by rw [hPJ,←ho1];simp [h]
   have HOP0:Hid (OP=o1):=by unfold Hid;rw [HOPE.out,HO0.out,ho1]
   clear hPJ ho1
   refine Code.wp_mono (Q:=MayJ rb w.heap.size (.agg #[.int .i64 kd,.string nm,.int .i64 lv,.int .i64 t0,.int .i64 t1,.bool t2,.string t3,.slice t4 t5 t6,.slice t7 t8 t9,.int .i64 v0,.int .i64 v1,.bool v2,.string v3,.slice v4 v5 v6,.slice v7 v8 v9,.int .i64 pr,.slice ca cs.length cc]) o1 W0) (fun e a' W' hjoin=>?_) ?_
   ·obtain ⟨rfl,⟨z5,z7,z13,z14,z15,z16,z17,z18,z19,z20,z21,z22,z23,z24,z25,z26,z27,z28,z29,z30,z31,z32,z33,z34,z35,z36,z37,z38,z39,z40,z41,z42,z43,z44,z45,z46,z47,z48,z49,z50,z51,z52,z53,z54,z55,z56,z57,z58,z59,z60,z61,z62,z63,z64,rfl⟩,hbJ⟩:=hjoin
    obtain ⟨WR,rfl⟩:∃W,W=W':=⟨_,rfl⟩
    have HBJ:=Hid.mk hbJ
    have HBWR:Hid (RowKit.Below w.heap.size w WR):=HB0.out.trans (hbJ.mono HB0.out.size)
    obtain ⟨q0,q1,q2,q3,q4,q5,q6,q7,q8,q9,q10,q11,q12,q13,q14,q15,q16,q17⟩:=cells17 (HBOX.out WR hbJ)
    have HOP:=HOP0
    clear hbJ HPJ0 HPJs HPJe HPJn
    dsimp only
    cases o1 with
    | true =>
     have HP11:Hid (PR=11):=by unfold Hid;rw [HPO.out,if_pos HOP.out]
     go_wp2
     go_ret
     exact ⟨by rw [HP11.out];rfl,HBWR.out⟩
    | false =>
     have hcr:WR.cell? ⟨rb,0,none⟩=some (.slice la ds.length lc):=(HBWR.out.cell (p:=⟨rb,0,none⟩) hrb).trans HC.out
     by_cases h5:500≤ds.length
     ·have z5':(500:Int)≤(ds.length:Int):=by omega
      have HP2:Hid (PR=2):=by unfold Hid;rw [HPO.out,if_neg (by rw [HOP.out];simp),if_pos h5]
      clear q0 q1 q2 q3 q4 q5 q6 q7 q8 q9 q10 q11 q12 q13 q14 q15 q16 q17
      go_wp2
      go_ret
      exact ⟨by rw [HP2.out];rfl,HBWR.out⟩
     have z5':¬(500:Int)≤(ds.length:Int):=by omega
     have HPT:Hid (PR=if twiceB ds (cleanD (⟨kd,nm,lv,ty,val,pr,cs⟩:Dl))=true then 20 else 0):=by unfold Hid;rw [HPO.out,if_neg (by rw [HOP.out];simp),if_neg h5]
     have HRG:Hid (WR.rangeAt w.heap.size 0 vs):=HRGS.out WR HBJ.out
     have HCN:=rnames_any (⟨kd,nm,lv,ty,val,pr,cs⟩:Dl) (.agg vs.toArray) WR (HV.out.on HBWR.out) HLEN40.out HNM60.out
     obtain ⟨RN,hRN⟩:∃RN,rnames (⟨kd,nm,lv,ty,val,pr,cs⟩:Dl)=RN:=⟨_,rfl⟩
     have hRL:RN.length≤42:=by rw [←hRN];exact rnames_len HLEN40.out
     rw [hRN] at HCN
     have HTWI:Hid (twiceB ds (cleanD (⟨kd,nm,lv,ty,val,pr,cs⟩:Dl))=true↔∃i,wrongAt ds RN i):=by unfold Hid;rw [←hRN];exact may_twice HF.out HOWN.out _
     clear hRN q0 q1 q2 q3 q4 q5 q6 q7 q8 q9 q10 q11 q12 q13 q14 q15 q16 q17
     go_wp2_with (refine wpList_load_mid rfl 39 _ rfl w.heap.size 0 rfl vs _ HRG.out Tryz.underlying39 rfl HSV.out ?_)
     refine HCN.mono ?_
     rintro e w5 ⟨g,cap,rfl,hg1,hg2,hgc,hb5⟩
     have HGC:=Hid.mk hgc
     have HB5:Hid (RowKit.Below w.heap.size w w5):=HBWR.out.trans (hb5.mono HBWR.out.size)
     have hs5:=HB5.out.size
     clear hgc hb5 HCN hcr
     go_wp2
     go_loopw [9] (fun i wr=>∃k:Nat,k≤RN.length∧i=.int .i64 k∧(∀i',i'<k→¬wrongAt ds RN i')∧RowKit.Below w5.heap.size w5 wr) (fun i _=>RN.length - (intOf i).toNat)
     case atStart=>exact ⟨0,Nat.zero_le _,rfl,fun i' h=>absurd h (Nat.not_lt_zero _),Below.refl _ _⟩
     case round =>
      obtain ⟨k,hk,rfl,hbef,hb⟩:=hrel
      have HBEF:=Hid.mk hbef
      have HBR:=Hid.mk hb
      have hsr:=hb.size
      clear hbef hb
      by_cases hkl:k<RN.length
      ·have hsk:RN[k]?=some RN[k]:=List.getElem?_eq_getElem hkl
       have hck':wr.cell? ⟨g,k,none⟩=some (.string RN[k]):=(HBR.out.cell (p:=⟨g,k,none⟩) hg2).trans (HGC.out k _ hsk)
       have HSK:=Hid.mk hsk
       have HBRw:Hid (RowKit.Below w.heap.size w wr):=HB5.out.trans (HBR.out.mono hs5)
       have zk:(k:Int)<(RN.length:Int):=by omega
       clear hsk
       generalize RN[k]=sk at *
       have HCG:=rGet_any ds rb la lc sk wr ((HBRw.out.cell (p:=⟨rb,0,none⟩) hrb).trans HC.out) (HL.out.on HBRw.out) HOWN.out hlen
       obtain ⟨KG,hKG⟩:∃KG,(rget ds sk).2=KG:=⟨_,rfl⟩
       rw [hKG] at HCG
       have HKG:=Hid.mk hKG
       clear hKG
       go_wp2_with fail
       refine HCG.mono ?_
       rintro e w6 ⟨zs,hzl,hzo,rfl,-,hb6⟩
       have hs6:=hb6.size
       have hzt:zs.toArray.size=17:=by simp [hzl]
       have HSA:Hid ((Tryz.prog.info? 39).map (·.size)=some zs.toArray.size):=by unfold Hid;rw [hzt];kernel_rfl
       have HXT:Hid ((#[.int .i64 0,.string { data:=#[] },.int .i64 0,.int .i64 0,.int .i64 0,.bool false,.string { data:=#[] },.slice none 0 0,.slice none 0 0,.int .i64 0,.int .i64 0,.bool false,.string { data:=#[] },.slice none 0 0,.slice none 0 0,.int .i64 0,.slice none 0 0]:Array Value).size=zs.toArray.size):=by unfold Hid;rw [hzt];rfl
       have HONE:Hid (zs.toArray.all (·.oneCell')=true):=all_oneCell_toArray hzo
       obtain ⟨W7,hW7⟩:∃W7,w6.alloc (.cells zs.toArray 39)=W7:=⟨_,rfl⟩
       have HB7:Hid (RowKit.Below w5.heap.size w5 W7):=by unfold Hid;rw [←hW7];exact (HBR.out.trans (hb6.mono hsr)).alloc (by omega) _
       have HW7:=Hid.mk hW7
       have hs7:=HB7.out.size
       clear hW7 hb6 HCG hzo hck' hzt
       by_cases hk0:KG=0
       rotate_left
       ·have hkb:(KG != 0)=true:=by simpa using hk0
        have HP20:Hid (PR=20):=by unfold Hid;rw [HPT.out,if_pos (HTWI.out.2 ⟨k,sk,HSK.out,Or.inl (by rw [HKG.out];exact hk0)⟩)]
        clear hk0
        go_wp2_with (refine wpList_store_new rfl 39 _ _ rfl rfl rfl HSA.out HXT.out HONE.out ?_;rw [HW7.out])
        go_ret
        exact ⟨by rw [HP20.out];rfl,HB5.out.trans (HB7.out.mono hs5)⟩
       ·subst hk0
        go_wp2_with (refine wpList_store_new rfl 39 _ _ rfl rfl rfl HSA.out HXT.out HONE.out ?_;rw [HW7.out])
        obtain ⟨WQ,rfl⟩:∃W,W=wr:=⟨_,rfl⟩
        go_loopw [12] (fun i wr'=>∃m:Nat,m≤k∧i=.int .i64 m∧(∀m',m'<m→RN[m']?≠some sk)∧RowKit.Below w5.heap.size w5 wr') (fun i _=>k - (intOf i).toNat)
        case atStart=>exact ⟨0,Nat.zero_le _,rfl,fun m' h=>absurd h (Nat.not_lt_zero _),HB7.out⟩
        case round =>
         obtain ⟨m,hm,rfl,hbm,hb8⟩:=hrel
         have HBM:=Hid.mk hbm
         have HB8:=Hid.mk hb8
         clear hbm hb8
         by_cases hml:m<k
         ·have hmR:RN[m]?=some RN[m]:=List.getElem?_eq_getElem (by omega)
          have c1:wr.cell? ⟨g,m,none⟩=some (.string (RN[m]'(by omega))):=(HB8.out.cell (p:=⟨g,m,none⟩) hg2).trans (HGC.out m _ hmR)
          have c2:wr.cell? ⟨g,k,none⟩=some (.string sk):=(HB8.out.cell (p:=⟨g,k,none⟩) hg2).trans (HGC.out k _ HSK.out)
          have HMR:=Hid.mk hmR
          have zm:(m:Int)<(k:Int):=by omega
          have zm2:(m:Int)<(RN.length:Int):=by omega
          clear hmR
          generalize (RN[m]'(by omega))=sm at *
          by_cases he:sk=sm
          ·subst he
           have HP20:Hid (PR=20):=by unfold Hid;rw [HPT.out,if_pos (HTWI.out.2 ⟨k,sk,HSK.out,Or.inr ⟨m,hml,HMR.out⟩⟩)]
           go_wp2_with fail
           go_quiet (fail)
           go_wp2
           go_ret
           exact ⟨by rw [HP20.out];rfl,HB5.out.trans ((below_drewN HB8.out _).mono hs5)⟩
          ·have hne:=toList_ne he
           have HNX:Hid (∀m',m'<m+1→RN[m']?≠some sk):=fun m' h=>by
            by_cases e:m'<m
            ·exact HBM.out m' e
            ·have:m'=m:=by omega
             subst this
             rw [HMR.out]
             intro h2
             exact he (Option.some.inj h2).symm
           clear he
           go_wp2_with fail
           go_quiet (fail)
           go_wp2
           exact ⟨⟨m+1,hml,by go_num,HNX.out,below_drewN HB8.out _⟩,by simp [intOf];omega⟩
         ·obtain rfl:m=k:=by omega
          have zm:¬(m:Int)<(m:Int):=by omega
          have HNW:Hid (∀i',i'<m+1→¬wrongAt ds RN i'):=fun i' h=>by
           by_cases e:i'<m
           ·exact HBEF.out i' e
           ·have:i'=m:=by omega
            subst this
            rintro ⟨s2,hs2,h3 | ⟨j,hj,h3⟩⟩
            ·rw [HSK.out] at hs2
             rw [←Option.some.inj hs2] at h3
             exact h3 HKG.out
            ·rw [HSK.out] at hs2
             rw [←Option.some.inj hs2] at h3
             exact HBM.out j hj h3
          go_wp2
          exact ⟨⟨m+1,hkl,by go_num,HNW.out,HB8.out⟩,by simp [intOf];omega⟩
      ·obtain rfl:k=RN.length:=by omega
       have zk:¬(RN.length:Int)<(RN.length:Int):=by omega
       have HP0:Hid (PR=0):=by
        unfold Hid
        rw [HPT.out,if_neg]
        intro h
        obtain ⟨i,hi⟩:=HTWI.out.1 h
        obtain ⟨s2,hs2,h3⟩:=hi
        exact HBEF.out i (List.getElem?_eq_some_iff.1 hs2).1 ⟨s2,hs2,h3⟩
       go_wp2
       go_ret
       exact ⟨by rw [HP0.out];rfl,HB5.out.trans (HBR.out.mono hs5)⟩
   ·
    go_loopw [6,7] (fun op i wr=>∃j:Nat,j≤cs.length∧i=.int .i64 j∧op=.bool (PJ j)∧RowKit.Below W0.heap.size W0 wr) (fun _ i _=>cs.length - (intOf i).toNat)
    case atStart=>exact ⟨0,Nat.zero_le _,rfl,by rw [HPJ0.out,HF0.out],HBL.out⟩
    case round =>
     obtain ⟨j,hj,rfl,hop,hb⟩:=hrel
     obtain ⟨OJ,hOJ⟩:∃OJ,PJ j=OJ:=⟨_,rfl⟩
     rw [hOJ] at hop
     subst hop
     have HOJ:=Hid.mk hOJ
     have HBL2:=Hid.mk hb
     have hsr:=hb.size
     obtain ⟨q0,q1,q2,q3,q4,q5,q6,q7,q8,q9,q10,q11,q12,q13,q14,q15,q16,q17⟩:=cells17 (HBOX.out wr hb)
     clear hOJ hb
     by_cases hk3:kd=3
     ·subst hk3
      by_cases hjl:j<cs.length
      ·obtain ⟨xb,xo,rfl,hxb,hxc⟩:=HCK.out.resolve_left (by intro e;rw [e] at hjl;simp at hjl)
       have hBwr:RowKit.Below w.heap.size w wr:=HB0.out.trans (HBL2.out.mono HB0.out.size)
       have hct:=(hxc j _ (List.getElem?_eq_getElem hjl)).2
       have hsc:=(HSMC.out _ (List.getElem_mem hjl)).2
       have HTKC:Hid (PJ (j+1)=(OJ||openT cs[j].2)):=HPJs.out rfl j hjl OJ HOJ.out
       have zj:(j:Int)<(cs.length:Int):=by omega
       generalize cs[j].2=cty at *
       obtain ⟨m0,m1,m2,m3,m4,m5,m6,m7,m8,m9,e0,e1,e2,e3,e4,e5,hctv⟩:=(hct.on hBwr).valE
       have HFC:=rFree_any cty _ wr hctv hsc
       have hxb2:xb<wr.heap.size:=by have:=hBwr.size;omega
       clear hxc hct hctv hsc hBwr
       cases OJ with
       | true =>
        clear HFC
        go_wp2
        exact ⟨⟨j+1,hjl,by go_num,by rw [HTKC.out];rfl,HBL2.out⟩,by simp [intOf];omega⟩
       | false =>
        go_wp2_with fail
        refine HFC.mono ?_
        rintro e w9 ⟨rfl,hb9⟩
        have HB9:Hid (RowKit.Below W0.heap.size W0 w9):=HBL2.out.trans (hb9.mono HBL2.out.size)
        have HOF:Hid (openT cty=decide (0<tfreeR cty)):=rfl
        generalize tfreeR cty=fc at *
        clear hb9 HFC
        go_wp2
        exact ⟨⟨j+1,hjl,by go_num,by rw [HTKC.out,HOF.out];rfl,HB9.out⟩,by simp [intOf];omega⟩
      ·obtain rfl:j=cs.length:=by omega
       have zj:¬(cs.length:Int)<(cs.length:Int):=by omega
       have HOE2:Hid (OJ=o1):=by unfold Hid;rw [←HOJ.out];exact HPJe.out rfl
       go_wp2
       exact MayJ.of HOE2.out ⟨rfl,⟨_,_,_,_,_,_,_,_,_,_,_,_,_,_,_,_,_,_,_,_,_,_,_,_,_,_,_,_,_,_,_,_,_,_,_,_,_,_,_,_,_,_,_,_,_,_,_,_,_,_,_,_,_,_,rfl⟩,HBL2.out⟩
     have HOE2:Hid (OJ=o1):=by unfold Hid;rw [←HOJ.out];exact HPJn.out hk3 j
     have hk3':(kd==(3:Int))=false:=by simpa using hk3
     clear hk3
     by_cases hjl:(j:Int)<(cs.length:Int)
     ·go_wp2
      exact MayJ.of HOE2.out ⟨rfl,⟨_,_,_,_,_,_,_,_,_,_,_,_,_,_,_,_,_,_,_,_,_,_,_,_,_,_,_,_,_,_,_,_,_,_,_,_,_,_,_,_,_,_,_,_,_,_,_,_,_,_,_,_,_,_,rfl⟩,HBL2.out⟩
     ·go_wp2
      exact MayJ.of HOE2.out ⟨rfl,⟨_,_,_,_,_,_,_,_,_,_,_,_,_,_,_,_,_,_,_,_,_,_,_,_,_,_,_,_,_,_,_,_,_,_,_,_,_,_,_,_,_,_,_,_,_,_,_,_,_,_,_,_,_,_,rfl⟩,HBL2.out⟩
end Go.Proofs.YtgfgpjcnfnopnaaGreat
