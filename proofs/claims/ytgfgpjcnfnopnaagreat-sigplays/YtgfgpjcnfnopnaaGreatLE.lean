/- The contract of the reference's Decls. -/
import Derived.Test.YtgfgpjcnfnopnaaGreatLA
import Derived.Test.YtgfgpjcnfnopnaaGreatKE
import Derived.Test.YtgfgpjcnfnopnaaGreatEH
namespace Go.Proofs.YtgfgpjcnfnopnaaGreat
open Go.RowKit Go.Sort Go.Lib
set_option maxRecDepth 100000 in
set_option maxHeartbeats 8000000 in
theorem rDecls_any (ds:List Dl) (a:Option Addr) (cap:Nat) (w:World) (hS:DL w a ds) (hn:ds.length≤1000000) (hsm:∀d∈ds,smD d) (hroom:judgDs ds=0→(encDs ds).length≤50000000000000):Calls Tryz.prog 42 #[.slice a ds.length cap] w fun e w'=>AnsB w.heap.size e w' (declsRes ds)∧RowKit.Below w.heap.size w w':=by
 have HR:Hid (declsRes ds=if 500<ds.length then .error 2 else if judgDs ds≠0 then .error (judgDs ds) else if 1000000<(encDs ds).length then .error 2 else .ok (encDs ds)):=rfl
 generalize declsRes ds=R at HR ⊢
 have HJ:Hid (∃J,judgDs ds=J):=⟨_,rfl⟩
 obtain ⟨J,hJ⟩:=HJ.out
 rw [hJ] at HR hroom
 have HJ1:=Hid.mk hJ
 have HS:=Hid.mk hS
 have HSM:=Hid.mk hsm
 have HRM:=Hid.mk hroom
 clear hS hsm hJ HJ hroom
 go_enter Tryz.func42,Tryz.ntmps42
 by_cases hl:(500:Int)<(ds.length:Int)
 ·go_wp2
  go_ret2
  rw [HR.out,if_pos (by omega)]
  exact ⟨⟨by decide,rfl⟩,Below.refl _ _⟩
 have hl2:¬500<ds.length:=by omega
 have HR2:Hid (R=if J≠0 then .error J else if 1000000<(encDs ds).length then .error 2 else .ok (encDs ds)):=by unfold Hid;rw [HR.out,if_neg hl2]
 clear hl2 HR
 go_wp2
 go_loopw [4] (fun i wr=>∃k:Nat,k≤ds.length∧i=.int .i64 k∧RowKit.Below w.heap.size w wr∧judgDs (ds.drop k)=J) (fun i _=>ds.length - (intOf i).toNat)
 case atStart=>exact ⟨0,Nat.zero_le _,rfl,Below.refl _ _,by rw [List.drop_zero];exact HJ1.out⟩
 case round =>
  obtain ⟨k,hk,rfl,hbr,hjd⟩:=hrel
  have HBR:=Hid.mk hbr
  have HJD:=Hid.mk hjd
  clear hbr hjd
  by_cases hlt:k<ds.length
  ·obtain ⟨cb,co,rfl,hcb0,hcs⟩:=HS.out.resolve_left (by intro e;rw [e] at hlt;simp at hlt)
   have hsk:=HSM.out _ (List.getElem_mem hlt)
   have hd0:=hcs k _ (List.getElem?_eq_getElem hlt)
   have hjs:=HJD.out
   rw [List.drop_eq_getElem_cons hlt] at hjs
   generalize ds[k]=kk at *
   have HJS:Hid ((if judgD kk=0 then judgDs (ds.drop (k+1)) else judgD kk)=J):=hjs
   obtain ⟨vs,hvl,hrg,hone,hdv⟩:=hd0.go
   have hrw:wr.rangeAt cb (co+k*17) vs:=fun j v hj=>(HBR.out.cell (p:=⟨cb,co+k*17+j,none⟩) hcb0).trans (hrg j v hj)
   have HRG:=Hid.mk hrw
   have HSZ:Hid ((Tryz.prog.info? 39).map (·.size)=some vs.length):=by unfold Hid;rw [hvl];kernel_rfl
   have HC:=rCheckDecl_any kk _ wr (hdv.on HBR.out) hsk
   clear hdv hd0 hcs hsk hrg hrw hone hvl hjs
   generalize judgD kk=JK at *
   have zk:(k:Int)<(ds.length:Int):=by omega
   go_wp2_with (first | (refine wpList_load_mid rfl 39 _ rfl cb (co+k*17) rfl vs _ HRG.out Tryz.underlying39 rfl HSZ.out ?_))
   refine HC.mono ?_
   rintro e w2 ⟨rfl,hb2⟩
   have HB2:Hid (RowKit.Below w.heap.size w w2):=HBR.out.trans (hb2.mono HBR.out.size)
   clear hb2 HC HRG HSZ
   by_cases hc:JK=0
   ·subst hc
    go_wp2
    exact ⟨⟨k+1,hlt,by go_num,HB2.out,by have:=HJS.out;simpa using this⟩,by simp [intOf];omega⟩
   ·have hc':(JK != 0)=true:=by simpa using hc
    have HRE:Hid (R=.error JK∧JK≠0):=by
     have hJJ:J=JK:=by have:=HJS.out;rw [if_neg hc] at this;exact this.symm
     refine ⟨?_,hc⟩
     rw [HR2.out,hJJ,if_pos hc]
    go_wp2
    go_ret2
    rw [HRE.out.1]
    exact ⟨⟨HRE.out.2,rfl⟩,HB2.out⟩
  ·have hJ0:J=0:=by have:=HJD.out;rw [List.drop_of_length_le (by omega)] at this;exact this.symm
   have HRE:Hid (R=if 1000000<(encDs ds).length then .error 2 else .ok (encDs ds)):=by unfold Hid;rw [HR2.out,hJ0,if_neg (by simp)]
   have HOK:Hid (∀d∈ds,okD d):=judgDs_ok HSM.out (HJ1.out.trans hJ0)
   have HRO:Hid ((encDs ds).length≤50000000000000):=HRM.out hJ0
   have HN:=rnum_any w.heap.size (.slice none 0 0) [] ds.length wr (OY.nil _ _) HBR.out.size (by omega) (by simp)
   clear hJ0 HR2 HJD HJ1 HSM HRM
   go_wp2_with fail
   refine HN.mono ?_
   rintro e w1 ⟨v1,rfl,hO1,hg1⟩
   rw [List.nil_append] at hO1
   have HO1:=Hid.mk hO1
   have HB1:Hid (RowKit.Below w.heap.size w w1):=HBR.out.trans (hg1.toBelow (OY.nil _ _) HBR.out.size)
   have hn9:=numB_9 (n:=ds.length) (by omega)
   clear hO1 hg1 HN
   go_wp2
   go_loopw [6,7] (fun x i wr=>∃(k:Nat) (u:Value),k≤ds.length∧i=.int .i64 k∧u=x∧OY w.heap.size wr u (numB ds.length++(ds.take k).flatMap encD)∧(numB ds.length++(ds.take k).flatMap encD).length≤1000000∧RowKit.Below w.heap.size w wr) (fun _ i _=>ds.length - (intOf i).toNat)
   case atStart=>exact ⟨0,_,Nat.zero_le _,rfl,rfl,by simpa using HO1.out,by simp;omega,HB1.out⟩
   case round =>
    obtain ⟨k,u,hk,rfl,hux,hO,hlen,hbr⟩:=hrel
    subst hux
    have HO:=Hid.mk hO
    have HBR2:=Hid.mk hbr
    have hbs:=hbr.size
    clear hO hbr
    by_cases hlt:k<ds.length
    ·obtain ⟨cb,co,rfl,hcb0,hcs⟩:=HS.out.resolve_left (by intro e;rw [e] at hlt;simp at hlt)
     have hok:=HOK.out _ (List.getElem_mem hlt)
     have hd0:=hcs k _ (List.getElem?_eq_getElem hlt)
     have hfl:=flat_kid (f:=encD) (List.getElem?_eq_getElem hlt)
     have HTK:Hid ((ds.take (k+1)).flatMap encD=(ds.take k).flatMap encD++encD ds[k]):=flatMap_take (List.getElem?_eq_getElem hlt)
     generalize ds[k]=kk at *
     have hroom:=HRO.out
     rw [encDs,List.length_append] at hroom
     obtain ⟨vs,hvl,hrg,hone,hdv⟩:=hd0.go
     obtain ⟨t0,t1,t2,t3,t4,t5,t6,t7,t8,t9,v0,v1,v2,v3,v4,v5,v6,v7,v8,v9,ca,cc,hv,htt,htv,hck⟩:=hdv.go
     obtain ⟨kd,nm,lv,ty,val,pr,cs⟩:=kk
     simp only at hv htt htv hck
     simp only [Value.agg.injEq] at hv
     have hrw:wr.rangeAt cb (co+k*17) vs:=fun j v hj=>(HBR2.out.cell (p:=⟨cb,co+k*17+j,none⟩) hcb0).trans (hrg j v hj)
     have HRG:=Hid.mk hrw
     have HSZ:Hid ((Tryz.prog.info? 39).map (·.size)=some vs.length):=by unfold Hid;rw [hvl];kernel_rfl
     have HSA:Hid ((Tryz.prog.info? 39).map (·.size)=some vs.toArray.size):=by unfold Hid;rw [List.size_toArray,hvl];kernel_rfl
     have HONE:Hid (vs.toArray.all (·.oneCell')=true):=all_oneCell_toArray hone
     have HS17:Hid (17=vs.toArray.size):=by unfold Hid;rw [List.size_toArray,hvl]
     obtain ⟨W1,hW1⟩:∃W1,wr.alloc (.cells vs.toArray 39)=W1:=⟨_,rfl⟩
     have hb1:RowKit.Below wr.heap.size wr W1:=by rw [←hW1];exact (Below.refl _ _).alloc (Nat.le_refl _) _
     have HX1:Hid (W1.heap[wr.heap.size]?=some (.cells #[.int .i64 kd,.string nm,.int .i64 lv,.int .i64 t0,.int .i64 t1,.bool t2,.string t3,.slice t4 t5 t6,.slice t7 t8 t9,.int .i64 v0,.int .i64 v1,.bool v2,.string v3,.slice v4 v5 v6,.slice v7 v8 v9,.int .i64 pr,.slice ca cs.length cc] 39 (0,0))):=by unfold Hid;rw [←hW1,←hv];exact alloc_new _ _
     have HW1:=Hid.mk hW1
     have HTT:=Hid.mk htt
     have HTV:=Hid.mk htv
     have HCK:=Hid.mk hck
     have hnmz:=hok.name
     have hkdz:=hok.kind
     have hlvz:=hok.levels
     simp only at hnmz hkdz hlvz
     have HOK1:=Hid.mk hok
     generalize hBS:numB ds.length++(ds.take k).flatMap encD=BS at *
     have HG1:Hid (GrwV u u W1 W1.drew):=GrwV.below u (Below.refl _ W1).drew
     have HG01:Hid (GrwV u u wr W1):=GrwV.below u hb1
     have HOD:Hid (OY w.heap.size W1.drew u BS):=(HO.out.move fun k hk=>hb1.block k (HO.out.lt hk).2:OY w.heap.size W1 u BS).move fun k _=>rfl
     have hs1:=hb1.size
     have HC1:=Hid.mk (rnum_any w.heap.size u BS kd.toNat W1.drew HOD.out (by simp only [World.drew];omega) (by omega) (by omega))
     rw [show ((kd.toNat:Nat):Int)=kd by omega] at HC1
     have h9a:=numB_9 (n:=kd.toNat) (by omega)
     have h9b:=numB_9 (n:=lv.toNat) (by omega)
     obtain ⟨q0,q1,q2,q3,q4,q5,q6,q7,q8,q9,q10,q11,q12,q13,q14,q15,q16,q17⟩:=cells17 HX1.out
     have zk:(k:Int)<(ds.length:Int):=by omega
     clear hd0 hcs hrg hrw hone hvl hdv hv htt htv hck hok hb1 hW1
     go_wp2_with (first | (refine wpList_load_mid rfl 39 _ rfl cb (co+k*17) rfl vs _ HRG.out Tryz.underlying39 rfl HSZ.out ?_) | (refine wpList_store_new rfl 39 _ _ rfl rfl rfl HSA.out (by exact HS17.out) HONE.out ?_;rw [HW1.out]))
     refine wp_region_held_drew (S:=fun w'=>w'.cell? ⟨wr.heap.size,0,none⟩=some (.int .i64 kd)∧w'.cell? ⟨wr.heap.size,1,none⟩=some (.string nm)∧w'.cell? ⟨wr.heap.size,2,none⟩=some (.int .i64 lv)) (by kernel_rfl) ?_ (fun hHeld=>?_)
     ·(try dsimp only)
      exact ⟨q0,q1,q2⟩
     refine wpAnyH_take (i:=0) (v:=?_) rfl (by kernel_rfl) (by kernel_rfl) (by kernel_rfl) (fun _ _ _ h=>h) (Or.inl ⟨by rfl,?_⟩) (by assumption) ?_
     rotate_left
     ·(intro w hSw;(try dsimp only at hSw);go_simp;(try with_reducible rfl))
     refine wpAnyH_take (i:=1) (v:=?_) rfl (by kernel_rfl) (by kernel_rfl) (by kernel_rfl) (fun _ _ _ h=>h) (Or.inl ⟨by rfl,?_⟩) (by assumption) ?_
     rotate_left
     ·(intro w hSw;(try dsimp only at hSw);go_simp;(try with_reducible rfl))
     refine wpAnyH_take (i:=2) (v:=?_) rfl (by kernel_rfl) (by kernel_rfl) (by kernel_rfl) (fun _ _ _ h=>h) (Or.inl ⟨by rfl,?_⟩) (by assumption) ?_
     rotate_left
     ·(intro w hSw;(try dsimp only at hSw);go_simp;(try with_reducible rfl))
     refine wpAnyH_take (i:=4) (v:=?_) rfl (by kernel_rfl) (by kernel_rfl) (by kernel_rfl) (fun _ _ _ h=>h) (Or.inl ⟨by rfl,?_⟩) (by assumption) ?_
     rotate_left
     ·(intro w hSw;(try dsimp only at hSw);go_simp;(try with_reducible rfl))
     refine wpAnyH_take (i:=5) (v:=?_) rfl (by kernel_rfl) (by kernel_rfl) (by kernel_rfl) (fun _ _ _ h=>h) (Or.inl ⟨by rfl,?_⟩) (by assumption) ?_
     rotate_left
     ·(intro w hSw;(try dsimp only at hSw);go_simp;(try with_reducible rfl))
     refine wpAnyH_take (i:=7) (v:=?_) rfl (by kernel_rfl) (by kernel_rfl) (by kernel_rfl) (fun _ _ _ h=>h) (Or.inl ⟨by rfl,?_⟩) (by assumption) ?_
     rotate_left
     ·(intro w hSw;(try dsimp only at hSw);go_simp;(try with_reducible rfl))
     refine wpAnyH_take (i:=8) (v:=?_) rfl (by kernel_rfl) (by kernel_rfl) (by kernel_rfl) (fun _ _ _ h=>h) (Or.inl ⟨by rfl,?_⟩) (by assumption) ?_
     rotate_left
     ·(intro w hSw;(try dsimp only at hSw);go_simp;(try with_reducible rfl))
     refine wpAnyH_ready (rs:=[3]) (by kernel_rfl) (by simp) ?_
     refine AllReadyH.cons rfl (fun K hK=>?_) AllReadyH.nil
     go_simp
     go_at_call 57
     refine HC1.out.mono ?_
     rintro e w2 ⟨u2,rfl,hO2,hg2⟩
     have HO2:=Hid.mk hO2
     have HG2:Hid (GrwV u u2 W1 w2):=HG1.out.trans hg2
     have hsz2:=HG2.out.kept.size
     clear q0 q1 q2 q3 q4 q5 q6 q7 q8 q9 q10 q11 q12 q13 q14 q15 q16 q17
     obtain ⟨q0,q1,q2,q3,q4,q5,q6,q7,q8,q9,q10,q11,q12,q13,q14,q15,q16,q17⟩:=cells17 (HG2.out.box HO.out HX1.out (Nat.le_refl _))
     have HC2:=rtext_any w.heap.size u2 (BS++numB kd.toNat) nm w2 hO2 (by omega) hnmz.1 (by omega) (by simp;omega)
     clear hO2 hg2
     dsimp only
     refine hK.out _ _ ?_ (fun hHeld=>?_)
     ·(try dsimp only)
      exact ⟨q0,q1,q2⟩
     clear hK K
     refine wpAnyH_ready (rs:=[6]) (by kernel_rfl) (by simp) ?_
     refine AllReadyH.cons rfl (fun K hK=>?_) AllReadyH.nil
     go_simp
     go_at_call 58
     refine HC2.mono ?_
     rintro e w3 ⟨u3,rfl,hO3,hg3⟩
     have HO3:=Hid.mk hO3
     have HG3:Hid (GrwV u u3 W1 w3):=HG2.out.trans hg3
     have hsz3:=HG3.out.kept.size
     clear q0 q1 q2 q3 q4 q5 q6 q7 q8 q9 q10 q11 q12 q13 q14 q15 q16 q17 HC2
     obtain ⟨q0,q1,q2,q3,q4,q5,q6,q7,q8,q9,q10,q11,q12,q13,q14,q15,q16,q17⟩:=cells17 (HG3.out.box HO.out HX1.out (Nat.le_refl _))
     have hnl:(nameB nm).length≤69:=by unfold nameB;rw [List.length_append];have h1:=numB_9 (n:=nm.size) (by omega);have h2:nm.data.toList.length=nm.size:=rfl;omega
     have HC3:=rnum_any w.heap.size u3 (BS++numB kd.toNat++nameB nm) lv.toNat w3 hO3 (by omega) (by omega) (by simp only [List.length_append];omega)
     rw [show ((lv.toNat:Nat):Int)=lv by omega] at HC3
     clear hO3 hg3
     dsimp only
     refine hK.out _ _ ?_ (fun hHeld=>?_)
     ·(try dsimp only)
      exact ⟨q0,q1,q2⟩
     clear hK K
     refine wpAnyH_ready (rs:=[9]) (by kernel_rfl) (by simp) ?_
     refine AllReadyH.cons rfl (fun K hK=>?_) AllReadyH.nil
     go_simp
     go_at_call 57
     refine HC3.mono ?_
     rintro e w4 ⟨u4,rfl,hO4,hg4⟩
     have HO4:=Hid.mk hO4
     have HG4:Hid (GrwV u u4 W1 w4):=HG3.out.trans hg4
     have hsz4:=HG4.out.kept.size
     clear q0 q1 q2 q3 q4 q5 q6 q7 q8 q9 q10 q11 q12 q13 q14 q15 q16 q17 HC3
     obtain ⟨q0,q1,q2,q3,q4,q5,q6,q7,q8,q9,q10,q11,q12,q13,q14,q15,q16,q17⟩:=cells17 (HG4.out.box HO.out HX1.out (Nat.le_refl _))
     clear hO4 hg4
     dsimp only
     refine hK.out _ _ ?_ (fun hHeld=>?_)
     ·(try dsimp only)
      exact ⟨q0,q1,q2⟩
     clear hK K
     refine wpAnyH_take (i:=10) (v:=?_) rfl (by kernel_rfl) (by kernel_rfl) (by kernel_rfl) (fun _ _ _ h=>h) (Or.inl ⟨by rfl,?_⟩) (by assumption) ?_
     rotate_left
     ·(intro w hSw;(try dsimp only at hSw);go_simp;(try with_reducible rfl))
     refine wpAnyH_done (by kernel_rfl) ?_ _
     clear hHeld HC1
     have HB4:Hid (RowKit.Below w.heap.size w w4):=HBR2.out.trans ((HG01.out.trans HG4.out).toBelow HO.out hbs)
     have hel:BS.length+((numB kd.toNat).length+((nameB nm).length+((numB lv.toNat).length+((encT ty).length+(encF ⟨kd,nm,lv,ty,val,pr,cs⟩).length))))≤50000000000000+9:=by
      rw [encD] at hfl
      simp only [List.length_append] at hfl
      rw [←hBS,List.length_append]
      omega
     have HC4:=rterm_any w ty HOK1.out.ty.1 HOK1.out.ty.2 u4 _ _ w4 HTT.out HB4.out HO4.out (by simp only [List.length_append];omega)
     go_wp2_with fail
     refine HC4.mono ?_
     rintro e w5 ⟨u5',rfl,hO5,hg5⟩
     have HO5:=Hid.mk hO5
     have HG5:Hid (GrwV u u5' W1 w5):=HG4.out.trans hg5
     have hsz5:=HG5.out.kept.size
     clear q0 q1 q2 q3 q4 q5 q6 q7 q8 q9 q10 q11 q12 q13 q14 q15 q16 q17 HC4
     obtain ⟨q0,q1,q2,q3,q4,q5,q6,q7,q8,q9,q10,q11,q12,q13,q14,q15,q16,q17⟩:=cells17 (HG5.out.box HO.out HX1.out (Nat.le_refl _))
     clear hO5 hg5
     by_cases hk2:kd=2
     ·subst hk2
      have HB5:Hid (RowKit.Below w.heap.size w w5):=HBR2.out.trans ((HG01.out.trans HG5.out).toBelow HO.out hbs)
      have hEF:encF ⟨2,nm,lv,ty,val,pr,cs⟩=encT val:=by rw [encF,if_pos rfl]
      have HC5:=rterm_any w val (HOK1.out.val rfl).1 (HOK1.out.val rfl).2 u5' _ _ w5 HTV.out HB5.out HO5.out (by rw [hEF] at hel;simp only [List.length_append];omega)
      go_wp2_with fail
      refine HC5.mono ?_
      rintro e w6 ⟨u6',rfl,hO6,hg6⟩
      have HG6:Hid (GrwV u u6' W1 w6):=HG5.out.trans hg6
      have HBE:Hid (RowKit.Below w.heap.size w w6):=HBR2.out.trans ((HG01.out.trans HG6.out).toBelow HO.out hbs)
      clear q0 q1 q2 q3 q4 q5 q6 q7 q8 q9 q10 q11 q12 q13 q14 q15 q16 q17 HC5 hg6
      obtain ⟨q0,q1,q2,q3,q4,q5,q6,q7,q8,q9,q10,q11,q12,q13,q14,q15,q16,q17⟩:=cells17 (HG6.out.box HO.out HX1.out (Nat.le_refl _))
      obtain ⟨EL,hEL⟩:∃EL,EL=BS++encD ⟨2,nm,lv,ty,val,pr,cs⟩:=⟨_,rfl⟩
      have hOE:OY w.heap.size w6 u6' EL:=by rw [hEL,encD,hEF];simpa using hO6
      clear hO6
      have HEL:Hid (EL=numB ds.length++(ds.take (k+1)).flatMap encD):=by unfold Hid;rw [hEL,HTK.out,←hBS,List.append_assoc]
      have hle:EL.length≤(encDs ds).length:=by
       rw [HEL.out,encDs,List.length_append,List.length_append]
       have:=flat_take_le (f:=encD) ds (k+1)
       omega
      have HOE:=Hid.mk hOE
      obtain ⟨xa,xc,rfl,-⟩:=hOE.shape
      clear hOE hEL
      by_cases hbig:(1000000:Int)<(EL.length:Int)
      ·go_wp2
       go_ret2
       rw [HRE.out,if_pos (by omega)]
       exact ⟨⟨by decide,rfl⟩,HBE.out⟩
      ·have HLE:Hid (EL.length≤1000000):=by unfold Hid;omega
       go_wp2
       exact ⟨⟨k+1,_,hlt,by go_num,rfl,by rw [←HEL.out];exact HOE.out,by rw [←HEL.out];exact HLE.out,HBE.out⟩,by simp [intOf];omega⟩
     by_cases hk3:kd=3
     ·subst hk3
      have hfam:=HOK1.out.fam rfl
      simp only at hfam
      obtain ⟨hp0,hp1,hc40,hcall⟩:=hfam
      have HCALL:=Hid.mk hcall
      have hEF:encF ⟨3,nm,lv,ty,val,pr,cs⟩=numB pr.toNat++(numB cs.length++cs.flatMap encC):=by rw [encF,if_neg (by simp),if_pos rfl]
      rw [hEF] at hel
      simp only [List.length_append] at hel
      obtain ⟨BT,hBT⟩:∃BT,BT=BS++numB (3:Int).toNat++nameB nm++numB lv.toNat++encT ty:=⟨_,rfl⟩
      have HBT:=Hid.mk hBT
      have hBTl:BT.length+((numB pr.toNat).length+((numB cs.length).length+(cs.flatMap encC).length))≤50000000000009:=by rw [hBT];simp only [List.length_append];omega
      have HO5':Hid (OY w.heap.size w5 u5' BT):=by unfold Hid;rw [hBT];exact HO5.out
      have HOD5:Hid (OY w.heap.size w5.drew u5' BT):=HO5'.out.move fun k _=>rfl
      have HG5d:Hid (GrwV u u5' W1 w5.drew):=HG5.out.trans (GrwV.below u5' (Below.refl _ w5).drew)
      have HC6:=rnum_any w.heap.size u5' BT pr.toNat w5.drew HOD5.out (by simp only [World.drew];omega) (by omega) (by omega)
      rw [show ((pr.toNat:Nat):Int)=pr by omega] at HC6
      clear hcall hBT hel
      go_wp2_with fail
      refine wp_region_held_drew (S:=fun w'=>w'.cell? ⟨wr.heap.size,15,none⟩=some (.int .i64 pr)∧w'.cell? ⟨wr.heap.size,16,none⟩=some (.slice ca cs.length cc)) (by kernel_rfl) ?_ (fun hHeld=>?_)
      ·(try dsimp only)
       exact ⟨q15,q16⟩
      refine wpAnyH_take (i:=0) (v:=?_) rfl (by kernel_rfl) (by kernel_rfl) (by kernel_rfl) (fun _ _ _ h=>h) (Or.inl ⟨by rfl,?_⟩) (by assumption) ?_
      rotate_left
      ·(intro w hSw;(try dsimp only at hSw);go_simp;(try with_reducible rfl))
      refine wpAnyH_take (i:=1) (v:=?_) rfl (by kernel_rfl) (by kernel_rfl) (by kernel_rfl) (fun _ _ _ h=>h) (Or.inl ⟨by rfl,?_⟩) (by assumption) ?_
      rotate_left
      ·(intro w hSw;(try dsimp only at hSw);go_simp;(try with_reducible rfl))
      refine wpAnyH_take (i:=2) (v:=?_) rfl (by kernel_rfl) (by kernel_rfl) (by kernel_rfl) (fun _ _ _ h=>h) (Or.inl ⟨by rfl,?_⟩) (by assumption) ?_
      rotate_left
      ·(intro w hSw;(try dsimp only at hSw);go_simp;(try with_reducible rfl))
      refine wpAnyH_take (i:=4) (v:=?_) rfl (by kernel_rfl) (by kernel_rfl) (by kernel_rfl) (fun _ _ _ h=>h) (Or.inl ⟨by rfl,?_⟩) (by assumption) ?_
      rotate_left
      ·(intro w hSw;(try dsimp only at hSw);go_simp;(try with_reducible rfl))
      refine wpAnyH_take (i:=5) (v:=?_) rfl (by kernel_rfl) (by kernel_rfl) (by kernel_rfl) (fun _ _ _ h=>h) (Or.inl ⟨by rfl,?_⟩) (by assumption) ?_
      rotate_left
      ·(intro w hSw;(try dsimp only at hSw);go_simp;(try with_reducible rfl))
      refine wpAnyH_take (i:=6) (v:=?_) rfl (by kernel_rfl) (by kernel_rfl) (by kernel_rfl) (fun _ _ _ h=>h) (Or.inl ⟨by rfl,?_⟩) (by assumption) ?_
      rotate_left
      ·(intro w hSw;(try dsimp only at hSw);go_simp;(try with_reducible rfl))
      refine wpAnyH_ready (rs:=[3]) (by kernel_rfl) (by simp) ?_
      refine AllReadyH.cons rfl (fun K hK=>?_) AllReadyH.nil
      go_simp
      go_at_call 57
      refine HC6.mono ?_
      rintro e w6 ⟨u6,rfl,hO6,hg6⟩
      have HG6:Hid (GrwV u u6 W1 w6):=HG5d.out.trans hg6
      have hsz6:=HG6.out.kept.size
      clear q0 q1 q2 q3 q4 q5 q6 q7 q8 q9 q10 q11 q12 q13 q14 q15 q16 q17 HC6
      obtain ⟨q0,q1,q2,q3,q4,q5,q6,q7,q8,q9,q10,q11,q12,q13,q14,q15,q16,q17⟩:=cells17 (HG6.out.box HO.out HX1.out (Nat.le_refl _))
      have HC7:=rnum_any w.heap.size u6 (BT++numB pr.toNat) cs.length w6 hO6 (by omega) (by omega) (by simp only [List.length_append];omega)
      clear hO6 hg6
      dsimp only
      refine hK.out _ _ ?_ (fun hHeld=>?_)
      ·(try dsimp only)
       exact ⟨q15,q16⟩
      clear hK K
      refine wpAnyH_ready (rs:=[7]) (by kernel_rfl) (by simp) ?_
      refine AllReadyH.cons rfl (fun K hK=>?_) AllReadyH.nil
      go_simp
      go_at_call 57
      refine HC7.mono ?_
      rintro e w7 ⟨u7,rfl,hO7,hg7⟩
      have HO7:=Hid.mk hO7
      have HG7:Hid (GrwV u u7 W1 w7):=HG6.out.trans hg7
      clear q0 q1 q2 q3 q4 q5 q6 q7 q8 q9 q10 q11 q12 q13 q14 q15 q16 q17 HC7
      obtain ⟨q0,q1,q2,q3,q4,q5,q6,q7,q8,q9,q10,q11,q12,q13,q14,q15,q16,q17⟩:=cells17 (HG7.out.box HO.out HX1.out (Nat.le_refl _))
      clear hO7 hg7
      dsimp only
      refine hK.out _ _ ?_ (fun hHeld=>?_)
      ·(try dsimp only)
       exact ⟨q15,q16⟩
      clear hK K
      refine wpAnyH_take (i:=8) (v:=?_) rfl (by kernel_rfl) (by kernel_rfl) (by kernel_rfl) (fun _ _ _ h=>h) (Or.inl ⟨by rfl,?_⟩) (by assumption) ?_
      rotate_left
      ·(intro w hSw;(try dsimp only at hSw);go_simp;(try with_reducible rfl))
      refine wpAnyH_done (by kernel_rfl) ?_ _
      clear hHeld
      go_wp2
      obtain ⟨WO,rfl⟩:∃W,W=wr:=⟨_,rfl⟩
      go_loopw [6,9] (fun x i wr2=>∃(j:Nat) (y:Value),j≤cs.length∧i=.int .i64 j∧y=x∧OY w.heap.size wr2 y (BT++numB pr.toNat++numB cs.length++(cs.take j).flatMap encC)∧GrwV u y W1 wr2) (fun _ i _=>cs.length - (intOf i).toNat)
      case atStart=>exact ⟨0,_,Nat.zero_le _,rfl,rfl,by simpa using HO7.out,HG7.out⟩
      case round =>
       obtain ⟨j,y,hj,rfl,hyx,hOy,hgy⟩:=hrel
       subst hyx
       have HGY:=Hid.mk hgy
       have HBY:Hid (RowKit.Below w.heap.size w wr):=HBR2.out.trans ((HG01.out.trans hgy).toBelow HO.out hbs)
       have hszy:=hgy.kept.size
       have hbsy:=HBY.out.size
       clear q0 q1 q2 q3 q4 q5 q6 q7 q8 q9 q10 q11 q12 q13 q14 q15 q16 q17
       obtain ⟨q0,q1,q2,q3,q4,q5,q6,q7,q8,q9,q10,q11,q12,q13,q14,q15,q16,q17⟩:=cells17 (hgy.box HO.out HX1.out (Nat.le_refl _))
       clear hgy
       by_cases hjt:j<cs.length
       ·obtain ⟨xb,xo,rfl,hxb,hxc⟩:=HCK.out.resolve_left (by intro e;rw [e] at hjt;simp at hjt)
        have hcj:=hxc j _ (List.getElem?_eq_getElem hjt)
        have hokc:=HCALL.out _ (List.getElem_mem hjt)
        have hflc:=flat_kid (f:=encC) (List.getElem?_eq_getElem hjt)
        have HTC:Hid ((cs.take (j+1)).flatMap encC=(cs.take j).flatMap encC++encC cs[j]):=flatMap_take (List.getElem?_eq_getElem hjt)
        generalize cs[j]=cj at *
        obtain ⟨cnm,cty⟩:=cj
        obtain ⟨hc0,hct⟩:=hcj
        obtain ⟨m0,m1,m2,m3,l1,l2,l3,k1,k2,k3,e0,e1,e2,e3,e4,e5,hctv⟩:=hct.valE
        have HSX:Hid (∀w',RowKit.Below w.heap.size w w'→w'.cell? ⟨xb,xo+j*7,none⟩=some (.string cnm)∧w'.cell? ⟨xb,xo+j*7+1,none⟩=some (.int .i64 m0)∧w'.cell? ⟨xb,xo+j*7+1+1,none⟩=some (.int .i64 m1)∧w'.cell? ⟨xb,xo+j*7+1+2,none⟩=some (.bool m2)∧w'.cell? ⟨xb,xo+j*7+1+3,none⟩=some (.string m3)∧w'.cell? ⟨xb,xo+j*7+1+4,none⟩=some (.slice l1 l2 l3)∧w'.cell? ⟨xb,xo+j*7+1+5,none⟩=some (.slice k1 k2 k3)):=fun W hW=>⟨(hW.cell (p:=⟨xb,_,none⟩) hxb).trans hc0,(hW.cell (p:=⟨xb,_,none⟩) hxb).trans e0,(hW.cell (p:=⟨xb,_,none⟩) hxb).trans e1,(hW.cell (p:=⟨xb,_,none⟩) hxb).trans e2,(hW.cell (p:=⟨xb,_,none⟩) hxb).trans e3,(hW.cell (p:=⟨xb,_,none⟩) hxb).trans e4,(hW.cell (p:=⟨xb,_,none⟩) hxb).trans e5⟩
        have HCTV:=Hid.mk hctv
        have HOKC:=Hid.mk hokc
        rw [encC,List.length_append] at hflc
        simp only at hflc
        obtain ⟨BJx,hBJ⟩:∃BJx,BJx=BT++numB pr.toNat++numB cs.length++(cs.take j).flatMap encC:=⟨_,rfl⟩
        have hBJl:BJx.length+((nameB cnm).length+(encT cty).length)≤50000000000009:=by rw [hBJ];simp only [List.length_append];omega
        have HOYJ:Hid (OY w.heap.size wr.drew y BJx):=by unfold Hid;rw [hBJ];exact hOy.move fun k _=>rfl
        have HBD:Hid (RowKit.Below w.heap.size w wr.drew):=HBY.out.drew
        have HGYd:Hid (GrwV u y W1 wr.drew):=HGY.out.trans (GrwV.below y (Below.refl _ wr).drew)
        have HBJ:=Hid.mk hBJ
        have HC8:=rtext_any w.heap.size y BJx cnm wr.drew HOYJ.out (by simp only [World.drew];omega) hokc.1 (by have:=hokc.2.1;simp only at this;omega) (by omega)
        obtain ⟨s1,s2,s3,s4,s5,s6,s7⟩:=HSX.out wr HBY.out
        have zj:(j:Int)<(cs.length:Int):=by omega
        clear hOy hc0 hct e0 e1 e2 e3 e4 e5 hctv hokc hxc hBJ
        go_wp2_with fail
        refine wp_region_held_drew (S:=fun w'=>w'.cell? ⟨WO.heap.size,16,none⟩=some (.slice (some ⟨xb,xo,none⟩) cs.length cc)∧w'.cell? ⟨xb,xo+j*7,none⟩=some (.string cnm)∧w'.cell? ⟨xb,xo+j*7+1,none⟩=some (.int .i64 m0)∧w'.cell? ⟨xb,xo+j*7+1+1,none⟩=some (.int .i64 m1)∧w'.cell? ⟨xb,xo+j*7+1+2,none⟩=some (.bool m2)∧w'.cell? ⟨xb,xo+j*7+1+3,none⟩=some (.string m3)∧w'.cell? ⟨xb,xo+j*7+1+4,none⟩=some (.slice l1 l2 l3)∧w'.cell? ⟨xb,xo+j*7+1+5,none⟩=some (.slice k1 k2 k3)) (by kernel_rfl) ?_ (fun hHeld=>?_)
        ·(try dsimp only)
         exact ⟨q16,HSX.out _ HBD.out⟩
        refine wpAnyH_take (i:=0) (v:=?_) rfl (by kernel_rfl) (by kernel_rfl) (by kernel_rfl) (fun _ _ _ h=>h) (Or.inl ⟨by rfl,?_⟩) (by assumption) ?_
        rotate_left
        ·(intro w hSw;(try dsimp only at hSw);go_simp;(try with_reducible rfl))
        refine wpAnyH_take (i:=1) (v:=?_) rfl (by kernel_rfl) (by kernel_rfl) (by kernel_rfl) (fun _ _ _ h=>h) (Or.inl ⟨by rfl,?_⟩) (by assumption) ?_
        rotate_left
        ·(intro w hSw;(try dsimp only at hSw);go_simp;(try with_reducible rfl))
        refine wpAnyH_take (i:=2) (v:=?_) rfl (by kernel_rfl) (by kernel_rfl) (by kernel_rfl) (fun _ _ _ h=>h) (Or.inl ⟨by rfl,?_⟩) (by assumption) ?_
        rotate_left
        ·(intro w hSw;(try dsimp only at hSw);go_simp;(try with_reducible rfl))
        refine wpAnyH_take (i:=3) (v:=?_) rfl (by kernel_rfl) (by kernel_rfl) (by kernel_rfl) (fun _ _ _ h=>h) (Or.inl ⟨by rfl,?_⟩) (by assumption) ?_
        rotate_left
        ·(intro w hSw;(try dsimp only at hSw);go_simp;(try with_reducible rfl))
        refine wpAnyH_take (i:=4) (v:=?_) rfl (by kernel_rfl) (by kernel_rfl) (by kernel_rfl) (fun _ _ _ h=>h) (Or.inl ⟨by rfl,?_⟩) (by assumption) ?_
        rotate_left
        ·(intro w hSw;(try dsimp only at hSw);go_simp;(try with_reducible rfl))
        refine wpAnyH_take (i:=5) (v:=?_) rfl (by kernel_rfl) (by kernel_rfl) (by kernel_rfl) (fun _ _ _ h=>h) (Or.inl ⟨by rfl,?_⟩) (by assumption) ?_
        rotate_left
        ·(intro w hSw;(try dsimp only at hSw);go_simp;(try with_reducible rfl))
        refine wpAnyH_take (i:=6) (v:=?_) rfl (by kernel_rfl) (by kernel_rfl) (by kernel_rfl) (fun _ _ _ h=>h) (Or.inl ⟨by rfl,?_⟩) (by assumption) ?_
        rotate_left
        ·(intro w hSw;(try dsimp only at hSw);go_simp;(try with_reducible rfl))
        refine wpAnyH_take (i:=8) (v:=?_) rfl (by kernel_rfl) (by kernel_rfl) (by kernel_rfl) (fun _ _ _ h=>h) (Or.inl ⟨by rfl,?_⟩) (by assumption) ?_
        rotate_left
        ·(intro w hSw;(try dsimp only at hSw);go_simp;(try with_reducible rfl))
        refine wpAnyH_take (i:=9) (v:=?_) rfl (by kernel_rfl) (by kernel_rfl) (by kernel_rfl) (fun _ _ _ h=>h) (Or.inl ⟨by rfl,?_⟩) (by assumption) ?_
        rotate_left
        ·(intro w hSw;(try dsimp only at hSw);go_simp;(try with_reducible rfl))
        refine wpAnyH_take (i:=10) (v:=?_) rfl (by kernel_rfl) (by kernel_rfl) (by kernel_rfl) (fun _ _ _ h=>h) (Or.inl ⟨by rfl,?_⟩) (by assumption) ?_
        rotate_left
        ·(intro w hSw;(try dsimp only at hSw);go_simp;(try with_reducible rfl))
        refine wpAnyH_take (i:=11) (v:=?_) rfl (by kernel_rfl) (by kernel_rfl) (by kernel_rfl) (fun _ _ _ h=>h) (Or.inl ⟨by rfl,?_⟩) (by assumption) ?_
        rotate_left
        ·(intro w hSw;(try dsimp only at hSw);go_simp;(try with_reducible rfl))
        refine wpAnyH_take (i:=12) (v:=?_) rfl (by kernel_rfl) (by kernel_rfl) (by kernel_rfl) (fun _ _ _ h=>h) (Or.inl ⟨by rfl,?_⟩) (by assumption) ?_
        rotate_left
        ·(intro w hSw;(try dsimp only at hSw);go_simp;(try with_reducible rfl))
        refine wpAnyH_take (i:=13) (v:=?_) rfl (by kernel_rfl) (by kernel_rfl) (by kernel_rfl) (fun _ _ _ h=>h) (Or.inl ⟨by rfl,?_⟩) (by assumption) ?_
        rotate_left
        ·(intro w hSw;(try dsimp only at hSw);go_simp;(try with_reducible rfl))
        refine wpAnyH_ready (rs:=[7]) (by kernel_rfl) (by simp) ?_
        refine AllReadyH.cons rfl (fun K hK=>?_) AllReadyH.nil
        go_simp
        go_at_call 58
        refine HC8.mono ?_
        rintro e w8 ⟨u8,rfl,hO8,hg8⟩
        have HG8:Hid (GrwV u u8 W1 w8):=HGYd.out.trans hg8
        have HB8:Hid (RowKit.Below w.heap.size w w8):=HBR2.out.trans ((HG01.out.trans HG8.out).toBelow HO.out hbs)
        clear q0 q1 q2 q3 q4 q5 q6 q7 q8 q9 q10 q11 q12 q13 q14 q15 q16 q17 HC8 s1 s2 s3 s4 s5 s6 s7
        obtain ⟨q0,q1,q2,q3,q4,q5,q6,q7,q8,q9,q10,q11,q12,q13,q14,q15,q16,q17⟩:=cells17 (HG8.out.box HO.out HX1.out (Nat.le_refl _))
        have HC9:=rterm_any w cty HOKC.out.2.2.1 HOKC.out.2.2.2 u8 _ _ w8 HCTV.out HB8.out hO8 (by simp only [List.length_append];omega)
        clear hO8 hg8
        dsimp only
        refine hK.out _ _ ?_ (fun hHeld=>?_)
        ·(try dsimp only)
         exact ⟨q16,HSX.out _ HB8.out⟩
        clear hK K
        refine wpAnyH_ready (rs:=[14]) (by kernel_rfl) (by simp) ?_
        refine AllReadyH.cons rfl (fun K hK=>?_) AllReadyH.nil
        go_simp
        go_at_call 59
        refine HC9.mono ?_
        rintro e w9 ⟨u9,rfl,hO9,hg9⟩
        have HG9:Hid (GrwV u u9 W1 w9):=HG8.out.trans hg9
        have HB9:Hid (RowKit.Below w.heap.size w w9):=HBR2.out.trans ((HG01.out.trans HG9.out).toBelow HO.out hbs)
        have HO9:Hid (OY w.heap.size w9 u9 (BT++numB pr.toNat++numB cs.length++(cs.take (j+1)).flatMap encC)):=by
         unfold Hid
         rw [HTC.out,encC]
         rw [HBJ.out] at hO9
         simpa using hO9
        clear q0 q1 q2 q3 q4 q5 q6 q7 q8 q9 q10 q11 q12 q13 q14 q15 q16 q17 HC9 hO9 hg9
        obtain ⟨q0,q1,q2,q3,q4,q5,q6,q7,q8,q9,q10,q11,q12,q13,q14,q15,q16,q17⟩:=cells17 (HG9.out.box HO.out HX1.out (Nat.le_refl _))
        dsimp only
        refine hK.out _ _ ?_ (fun hHeld=>?_)
        ·(try dsimp only)
         exact ⟨q16,HSX.out _ HB9.out⟩
        clear hK K
        refine wpAnyH_take (i:=15) (v:=?_) rfl (by kernel_rfl) (by kernel_rfl) (by kernel_rfl) (fun _ _ _ h=>h) (Or.inl ⟨by rfl,?_⟩) (by assumption) ?_
        rotate_left
        ·(intro w hSw;(try dsimp only at hSw);go_simp;(try with_reducible rfl))
        refine wpAnyH_done (by kernel_rfl) ?_ _
        clear hHeld
        go_wp2
        exact ⟨⟨j+1,_,hjt,by go_num,rfl,HO9.out,HG9.out⟩,by simp [intOf];omega⟩
       ·obtain rfl:j=cs.length:=by omega
        rw [List.take_length] at hOy
        obtain ⟨EL,hEL⟩:∃EL,EL=BS++encD ⟨3,nm,lv,ty,val,pr,cs⟩:=⟨_,rfl⟩
        have hOE:OY w.heap.size wr y EL:=by rw [hEL,encD,hEF];rw [HBT.out] at hOy;simpa using hOy
        clear hOy
        have HEL:Hid (EL=numB ds.length++(ds.take (k+1)).flatMap encD):=by unfold Hid;rw [hEL,HTK.out,←hBS,List.append_assoc]
        have hle:EL.length≤(encDs ds).length:=by
         rw [HEL.out,encDs,List.length_append,List.length_append]
         have:=flat_take_le (f:=encD) ds (k+1)
         omega
        have HOE:=Hid.mk hOE
        obtain ⟨xa,xc,rfl,-⟩:=hOE.shape
        clear hOE hEL
        by_cases hbig:(1000000:Int)<(EL.length:Int)
        ·go_wp2
         go_ret2
         rw [HRE.out,if_pos (by omega)]
         exact ⟨⟨by decide,rfl⟩,HBY.out⟩
        ·have HLE:Hid (EL.length≤1000000):=by unfold Hid;omega
         go_wp2
         exact ⟨⟨k+1,_,hlt,by go_num,rfl,by rw [←HEL.out];exact HOE.out,by rw [←HEL.out];exact HLE.out,HBY.out⟩,by simp [intOf];omega⟩
     ·have g2:(kd==2)=false:=by simpa using hk2
      have g3:(kd==3)=false:=by simpa using hk3
      have HBE:Hid (RowKit.Below w.heap.size w w5):=HBR2.out.trans ((HG01.out.trans HG5.out).toBelow HO.out hbs)
      have hEF:encF ⟨kd,nm,lv,ty,val,pr,cs⟩=[]:=by rw [encF,if_neg hk2,if_neg hk3]
      obtain ⟨EL,hEL⟩:∃EL,EL=BS++encD ⟨kd,nm,lv,ty,val,pr,cs⟩:=⟨_,rfl⟩
      have hOE:OY w.heap.size w5 u5' EL:=by rw [hEL,encD,hEF];simpa using HO5.out
      clear hk2 hk3
      have HEL:Hid (EL=numB ds.length++(ds.take (k+1)).flatMap encD):=by unfold Hid;rw [hEL,HTK.out,←hBS,List.append_assoc]
      have hle:EL.length≤(encDs ds).length:=by
       rw [HEL.out,encDs,List.length_append,List.length_append]
       have:=flat_take_le (f:=encD) ds (k+1)
       omega
      have HOE:=Hid.mk hOE
      obtain ⟨xa,xc,rfl,-⟩:=hOE.shape
      clear hOE hEL
      by_cases hbig:(1000000:Int)<(EL.length:Int)
      ·go_wp2
       go_ret2
       rw [HRE.out,if_pos (by omega)]
       exact ⟨⟨by decide,rfl⟩,HBE.out⟩
      ·have HLE:Hid (EL.length≤1000000):=by unfold Hid;omega
       go_wp2
       exact ⟨⟨k+1,_,hlt,by go_num,rfl,by rw [←HEL.out];exact HOE.out,by rw [←HEL.out];exact HLE.out,HBE.out⟩,by simp [intOf];omega⟩
    ·obtain rfl:k=ds.length:=by omega
     rw [List.take_length] at HO hlen
     have HOF:Hid (OY w.heap.size wr u (encDs ds)):=HO.out
     have HLF:Hid ((encDs ds).length≤1000000):=hlen
     clear HO hlen
     go_wp2
     go_ret2
     rw [HRE.out,if_neg (by have:=HLF.out;omega)]
     exact ⟨⟨_,rfl,HOF.out⟩,HBR2.out⟩
end Go.Proofs.YtgfgpjcnfnopnaaGreat
