/- The contract of sig.declared. -/
import Derived.Test.YtgfgpjcnfnopnaaGreatQH
import Derived.Test.YtgfgpjcnfnopnaaGreatQA
namespace Go.Proofs.YtgfgpjcnfnopnaaGreat
open Go.RowKit Go.Sort Go.Lib
theorem maxLen_60:1000≤maxLen:=by decide
set_option maxRecDepth 100000 in
set_option maxHeartbeats 8000000 in
theorem declared_any (d:Dl) (v:Value) (place:Int) (w:World) (hv:DV w v d) (hn:d.name.size≤60) (hcn:∀c∈d.ctors,c.1.size≤60) (hcl:d.ctors.length≤40):Calls Tryz.prog 38 #[v,.int .i64 place] w fun e w'=>∃mv:Option Nat,e=.returned (.tuple #[.agg #[.map mv],.bool ((namesD d).foldl (putN place) (fun _=>none,true)).2])∧Tb w' mv 100 ((namesD d).foldl (putN place) (fun _=>none,true)).1∧(∀b,mv=some b→w.heap.size≤b)∧RowKit.Below w.heap.size w w':=by
 obtain ⟨t0,t1,t2,t3,t4,t5,t6,t7,t8,t9,v0,v1,v2,v3,v4,v5,v6,v7,v8,v9,ca,cc,rfl,-,-,hck⟩:=hv.go
 clear hv
 obtain ⟨kd,nm,lv,ty,val,pr,cs⟩:=d
 simp only at hck hn hcn hcl
 have mx:=maxLen_60
 obtain ⟨W0,hW0⟩:∃W0,((w.alloc (.cells #[.int .i64 kd,.string nm,.int .i64 lv,.int .i64 t0,.int .i64 t1,.bool t2,.string t3,.slice t4 t5 t6,.slice t7 t8 t9,.int .i64 v0,.int .i64 v1,.bool v2,.string v3,.slice v4 v5 v6,.slice v7 v8 v9,.int .i64 pr,.slice ca cs.length cc] 39)).alloc (.cells #[.map none] 56)).alloc (.cells #[.map none] 56)=W0:=⟨_,rfl⟩
 have hb0:RowKit.Below w.heap.size w W0:=by rw [←hW0];exact (((Below.refl _ _).alloc (Nat.le_refl _) _).alloc (by simp) _).alloc (by simp;omega) _
 have hs0:W0.heap.size=w.heap.size+3:=by rw [←hW0];simp
 have hs0a:=Nat.le_of_eq hs0
 have hs0b:=Nat.le_of_eq hs0.symm
 have HA0:Hid (W0.heap[w.heap.size]?=some (.cells #[.int .i64 kd,.string nm,.int .i64 lv,.int .i64 t0,.int .i64 t1,.bool t2,.string t3,.slice t4 t5 t6,.slice t7 t8 t9,.int .i64 v0,.int .i64 v1,.bool v2,.string v3,.slice v4 v5 v6,.slice v7 v8 v9,.int .i64 pr,.slice ca cs.length cc] 39 (0,0))):=by unfold Hid;rw [←hW0];exact (Below.heap_alloc _ _ _ (by simp;omega)).trans box_at
 have HR0:Hid (W0.heap[w.heap.size+1]?=some (.cells #[.map none] 56 (0,0))):=by unfold Hid;rw [←hW0];exact (Below.heap_alloc _ _ _ (by simp)).trans box_at1
 have hT0:W0.heap[(w.heap.size+1+1)]?=some (.cells #[.map none] 56 (0,0)):=by rw [←hW0];have:=alloc_new ((w.alloc (.cells #[.int .i64 kd,.string nm,.int .i64 lv,.int .i64 t0,.int .i64 t1,.bool t2,.string t3,.slice t4 t5 t6,.slice t7 t8 t9,.int .i64 v0,.int .i64 v1,.bool v2,.string v3,.slice v4 v5 v6,.slice v7 v8 v9,.int .i64 pr,.slice ca cs.length cc] 39)).alloc (.cells #[.map none] 56)) (.cells #[.map none] 56);simpa using this
 have hBX:BoxT W0 (w.heap.size+1+1) (w.heap.size+1+1) 0 (fun _=>none):=⟨none,by rw [cell_of_row W0 _ 0 _ _ _ hT0];rfl,fun o=>by simp [World.frozen?,hT0],⟨Or.inl ⟨rfl,fun _=>rfl⟩⟩,by simp,Nat.le_refl _,fun b h=>by cases h⟩
 have HC1:=tput_box (w.heap.size+1+1) (w.heap.size+1+1) 0 (fun _=>none) nm place kd W0 hBX (by omega) (by omega) (by omega)
 have HB0:=Hid.mk hb0
 have HW0:=Hid.mk hW0
 have HCK:=Hid.mk hck
 have HCN:=Hid.mk hcn
 obtain ⟨q0,q1,q2,q3,q4,q5,q6,q7,q8,q9,q10,q11,q12,q13,q14,q15,q16,q17⟩:=cells17 HA0.out
 clear hb0 hW0 hs0 hT0 hBX hck hcn
 go_enter Tryz.func38,Tryz.ntmps38
 go_wp2_with fail
 rw [HW0.out]
 refine HC1.mono ?_
 rintro e w1 ⟨rfl,hbx1,hb1⟩
 have hM1:BoxT w1 (w.heap.size+1+1) (w.heap.size+1+1) 1 (updM (fun _=>none) nm (place,kd)):=by simpa using hbx1
 have HBX1:=Hid.mk hM1
 have HB1:=Hid.mk hb1
 have HA1:Hid (w1.heap[w.heap.size]?=some (.cells #[.int .i64 kd,.string nm,.int .i64 lv,.int .i64 t0,.int .i64 t1,.bool t2,.string t3,.slice t4 t5 t6,.slice t7 t8 t9,.int .i64 v0,.int .i64 v1,.bool v2,.string v3,.slice v4 v5 v6,.slice v7 v8 v9,.int .i64 pr,.slice ca cs.length cc] 39 (0,0))):=(hb1.block _ (by omega)).trans HA0.out
 have hs1:=hb1.size
 clear hbx1 hb1 hM1 HC1 q0 q1 q2 q3 q4 q5 q6 q7 q8 q9 q10 q11 q12 q13 q14 q15 q16 q17
 obtain ⟨q0,q1,q2,q3,q4,q5,q6,q7,q8,q9,q10,q11,q12,q13,q14,q15,q16,q17⟩:=cells17 HA1.out
 have HQS:Hid (∃q,((updM (fun _=>none) nm (place,kd)) (nm++elimB)).isSome=q):=⟨_,rfl⟩
 by_cases hk3:kd=3
 ·subst hk3
  have hel:(nm++elimB).size≤maxLen:=by
   have:(nm++elimB).size=nm.size+5:=by simp [elimB];rfl
   omega
  have HC2:=tput_box (w.heap.size+1+1) (w.heap.size+1+1) 1 _ (nm++elimB) place 5 w1 HBX1.out (by omega) hel (by omega)
  obtain ⟨q,hq⟩:=HQS.out
  rw [hq] at HC2
  go_wp2_with fail
  refine HC2.mono ?_
  rintro e w2 ⟨rfl,hbx2,hb2⟩
  have HBC:Hid (RowKit.Below (w.heap.size+1+1) W0 w2):=HB1.out.trans (hb2.mono (Nat.le_refl _))
  have HQE:=Hid.mk hq
  clear hb2 HC2 hq
  cases q with
  | true =>
   have HBXC:Hid (BoxT w2 (w.heap.size+1+1) (w.heap.size+1+1) 2 (updM (fun _=>none) nm (place,3))):=by unfold Hid;simpa using hbx2
   clear hbx2
   have HAE:Hid (w2.heap[w.heap.size]?=some (.cells #[.int .i64 3,.string nm,.int .i64 lv,.int .i64 t0,.int .i64 t1,.bool t2,.string t3,.slice t4 t5 t6,.slice t7 t8 t9,.int .i64 v0,.int .i64 v1,.bool v2,.string v3,.slice v4 v5 v6,.slice v7 v8 v9,.int .i64 pr,.slice ca cs.length cc] 39 (0,0))):=(HBC.out.block _ (by omega)).trans HA0.out
   have hsE:=HBC.out.size
   obtain ⟨STE,hSTE⟩:∃STE:(ByteArray→Option (Int×Int))×Bool,STE=(updM (fun _=>none) nm (place,3),false):=⟨_,rfl⟩
   have HBXE:Hid (BoxT w2 (w.heap.size+1+1) (w.heap.size+1+1) 2 STE.1):=by unfold Hid;rw [hSTE];exact HBXC.out
   have hokE:STE.2=false:=by rw [hSTE]
   have HFO:Hid ((namesD ⟨3,nm,lv,ty,val,pr,cs⟩).foldl (putN place) (fun _=>none,true)=(cs.zipIdx.map fun c=>(c.1.1,4+2*(c.2:Int))).foldl (putN place) STE):=by unfold Hid;rw [hSTE];simp [namesD,putN,HQE.out]
   have HOKE:=Hid.mk hokE
   clear q0 q1 q2 q3 q4 q5 q6 q7 q8 q9 q10 q11 q12 q13 q14 q15 q16 q17 hSTE hokE
   obtain ⟨q0,q1,q2,q3,q4,q5,q6,q7,q8,q9,q10,q11,q12,q13,q14,q15,q16,q17⟩:=cells17 HAE.out
   go_wp2
   clear q0 q1 q2 q3 q4 q5 q6 q7 q8 q9 q10 q11 q12 q13 q14 q15 q16 q17
   go_loopw [7,32] (fun ok i wr=>∃k:Nat,k≤cs.length∧i=.int .i64 k∧ok=.bool (((cs.zipIdx.take k).map fun c=>(c.1.1,4+2*(c.2:Int))).foldl (putN place) STE).2∧BoxT wr (w.heap.size+1+1) (w.heap.size+1+1) (2+k) (((cs.zipIdx.take k).map fun c=>(c.1.1,4+2*(c.2:Int))).foldl (putN place) STE).1∧RowKit.Below (w.heap.size+1+1) W0 wr) (fun _ i _=>cs.length - (intOf i).toNat)
   case atStart=>exact ⟨0,Nat.zero_le _,rfl,by rw [List.take_zero,List.map_nil,List.foldl_nil,HOKE.out],by rw [List.take_zero,List.map_nil,List.foldl_nil];exact HBXE.out,HBC.out⟩
   case round =>
    obtain ⟨k,hk,rfl,hok,hbx,hb⟩:=hrel
    subst hok
    obtain ⟨ST,hST⟩:∃ST,((cs.zipIdx.take k).map fun c=>(c.1.1,4+2*(c.2:Int))).foldl (putN place) STE=ST:=⟨_,rfl⟩
    rw [hST] at hbx ⊢
    have HST:=Hid.mk hST
    have HBX:=Hid.mk hbx
    have HBR:=Hid.mk hb
    have hsr:=hb.size
    clear hbx hb hST
    by_cases hlt:k<cs.length
    rotate_left
    ·obtain rfl:k=cs.length:=by omega
     obtain ⟨mv,g1,g2,g3,g4,g5,g6⟩:=HBX.out.go
     have HTB:Hid (Tb wr mv 100 ST.1):=g3.more (by omega)
     have HMV:=Hid.mk g6
     have hR:wr.heap[w.heap.size+1]?=some (.cells #[.map none] 56 (0,0)):=(HBR.out.block _ (by omega)).trans HR0.out
     have r0:wr.cell? ⟨w.heap.size+1,0,none⟩=some (.map none):=by rw [cell_of_row wr _ 0 _ _ _ hR];rfl
     have rz:∀o,wr.frozen? ⟨w.heap.size+1,o,none⟩=false:=fun o=>by simp [World.frozen?,hR]
     have HEQ:Hid ((namesD ⟨3,nm,lv,ty,val,pr,cs⟩).foldl (putN place) (fun _=>none,true)=ST):=by
      unfold Hid
      rw [HFO.out,←HST.out,List.take_of_length_le (by simp)]
     clear g3 g6 hR
     go_wp2
     rw [HEQ.out]
     refine bodyPost_ret (v:=.tuple #[.agg #[.map mv],.bool ST.2]) (by simp [results,Tryz.results38,go_sem,r0]) rfl ⟨mv,rfl,HTB.out.keep (fun b hb=>Below.heap_setCell _ _ _ _ (by have:=HMV.out b hb;simp only;omega)),fun b hb=>by have:=HMV.out b hb;omega,?_⟩
     exact (HB0.out.trans (HBR.out.mono (by omega))).setCell (p:=⟨w.heap.size+1,0,none⟩) (by simp only;omega) _
    obtain ⟨xb,xo,rfl,hxb,hxc⟩:=HCK.out.resolve_left (by intro e;rw [e] at hlt;simp at hlt)
    have hcj:=hxc k _ (List.getElem?_eq_getElem hlt)
    have hnk:=HCN.out _ (List.getElem_mem hlt)
    have HTK:Hid (((cs.zipIdx.take (k+1)).map fun c=>(c.1.1,4+2*(c.2:Int))).foldl (putN place) STE=putN place ST (cs[k].1,4+2*(k:Int))):=by
     unfold Hid
     rw [←HST.out,List.take_succ_eq_append_getElem (by simpa using hlt),List.map_append,List.foldl_append]
     simp
    generalize cs[k]=cj at *
    obtain ⟨cn,cty⟩:=cj
    simp only at hcj hnk
    obtain ⟨hc0,hct⟩:=hcj
    obtain ⟨m0,m1,m2,m3,m4,m5,m6,m7,m8,m9,e0,e1,e2,e3,e4,e5,-⟩:=hct.valE
    have HBW:Hid (RowKit.Below w.heap.size w wr):=HB0.out.trans (HBR.out.mono (by omega))
    have HM7:Hid (wr.rangeAt xb (xo+k*7) [.string cn,.int .i64 m0,.int .i64 m1,.bool m2,.string m3,.slice m4 m5 m6,.slice m7 m8 m9]):=by
     have hB:∀(o:Nat) (v:Value),w.cell? ⟨xb,o,none⟩=some v→wr.cell? ⟨xb,o,none⟩=some v:=fun o v hv=>(HBW.out.cell (p:=⟨xb,o,none⟩) hxb).trans hv
     exact range7 (hB _ _ hc0) (hB _ _ e0) (hB _ _ e1) (hB _ _ e2) (hB _ _ e3) (hB _ _ e4) (hB _ _ e5)
    have HS7:Hid ((Tryz.prog.info? 45).map (·.size)=some ([.string cn,.int .i64 m0,.int .i64 m1,.bool m2,.string m3,.slice m4 m5 m6,.slice m7 m8 m9]:List Value).length):=by unfold Hid;kernel_rfl
    have HSA:Hid ((Tryz.prog.info? 45).map (·.size)=some (#[.string cn,.int .i64 m0,.int .i64 m1,.bool m2,.string m3,.slice m4 m5 m6,.slice m7 m8 m9]:Array Value).size):=by unfold Hid;kernel_rfl
    have HONE:Hid (((#[.string cn,.int .i64 m0,.int .i64 m1,.bool m2,.string m3,.slice m4 m5 m6,.slice m7 m8 m9]:Array Value)).all (·.oneCell')=true):=by unfold Hid;simp [Value.oneCell']
    obtain ⟨W4,hW4⟩:∃W4,wr.alloc (.cells #[.string cn,.int .i64 m0,.int .i64 m1,.bool m2,.string m3,.slice m4 m5 m6,.slice m7 m8 m9] 45)=W4:=⟨_,rfl⟩
    have hb4:RowKit.Below wr.heap.size wr W4:=by rw [←hW4];exact (Below.refl _ _).alloc (Nat.le_refl _) _
    have hY4:W4.heap[wr.heap.size]?=some (.cells #[.string cn,.int .i64 m0,.int .i64 m1,.bool m2,.string m3,.slice m4 m5 m6,.slice m7 m8 m9] 45 (0,0)):=by rw [←hW4];exact alloc_new _ _
    obtain ⟨y0,y1,y2,y3,y4,y5,y6,-⟩:=cells7 hY4
    have hs4:=hb4.size
    have HB4:=Hid.mk hb4
    have HW4:=Hid.mk hW4
    have hQ:∃q,(ST.1 cn).isSome=q:=⟨_,rfl⟩
    obtain ⟨q,hq⟩:=hQ
    have HC5:=tput_box (w.heap.size+1+1) (w.heap.size+1+1) (2+k) ST.1 cn place (4+2*(k:Int)) W4 (HBX.out.on hb4) (by omega) (by omega) (by omega)
    rw [hq] at HC5
    have HQE2:=Hid.mk hq
    have zk:(k:Int)<(cs.length:Int):=by omega
    clear hc0 hct e0 e1 e2 e3 e4 e5 hxc hb4 hY4 hW4 hq
    go_wp2_with (first | (refine wpList_load_mid rfl 45 _ rfl xb (xo+k*7) rfl [.string cn,.int .i64 m0,.int .i64 m1,.bool m2,.string m3,.slice m4 m5 m6,.slice m7 m8 m9] _ HM7.out Tryz.underlying45 rfl HS7.out ?_) | (refine wpList_store_new rfl 45 _ _ rfl rfl rfl HSA.out rfl HONE.out ?_;rw [HW4.out]))
    refine HC5.mono ?_
    rintro e w5 ⟨rfl,hbx5,hb5⟩
    have HBX5:=Hid.mk hbx5
    have HB5:Hid (RowKit.Below (w.heap.size+1+1) W0 w5):=HBR.out.trans ((HB4.out.mono (by omega)).trans (hb5.mono (Nat.le_refl _)))
    clear hbx5 hb5 HC5 y0 y1 y2 y3 y4 y5 y6
    cases q with
    | true =>
     have HP:Hid (putN place ST (cn,4+2*(k:Int))=(ST.1,false)):=by unfold Hid putN;rw [if_pos HQE2.out]
     go_wp2
     exact ⟨⟨k+1,hlt,by go_num,by rw [HTK.out,HP.out],by rw [HTK.out,HP.out];simpa [Nat.add_assoc] using HBX5.out,HB5.out⟩,by simp [intOf];omega⟩
    | false =>
     have HP:Hid (putN place ST (cn,4+2*(k:Int))=(updM ST.1 cn (place,4+2*(k:Int)),ST.2)):=by unfold Hid putN;rw [if_neg (by rw [HQE2.out];decide)]
     go_wp2
     exact ⟨⟨k+1,hlt,by go_num,by rw [HTK.out,HP.out],by rw [HTK.out,HP.out];simpa [Nat.add_assoc] using HBX5.out,HB5.out⟩,by simp [intOf];omega⟩
  | false =>
   have HBXC:Hid (BoxT w2 (w.heap.size+1+1) (w.heap.size+1+1) 2 (updM (updM (fun _=>none) nm (place,3)) (nm++elimB) (place,5))):=by unfold Hid;simpa using hbx2
   clear hbx2
   have HAE:Hid (w2.heap[w.heap.size]?=some (.cells #[.int .i64 3,.string nm,.int .i64 lv,.int .i64 t0,.int .i64 t1,.bool t2,.string t3,.slice t4 t5 t6,.slice t7 t8 t9,.int .i64 v0,.int .i64 v1,.bool v2,.string v3,.slice v4 v5 v6,.slice v7 v8 v9,.int .i64 pr,.slice ca cs.length cc] 39 (0,0))):=(HBC.out.block _ (by omega)).trans HA0.out
   have hsE:=HBC.out.size
   obtain ⟨STE,hSTE⟩:∃STE:(ByteArray→Option (Int×Int))×Bool,STE=(updM (updM (fun _=>none) nm (place,3)) (nm++elimB) (place,5),true):=⟨_,rfl⟩
   have HBXE:Hid (BoxT w2 (w.heap.size+1+1) (w.heap.size+1+1) 2 STE.1):=by unfold Hid;rw [hSTE];exact HBXC.out
   have hokE:STE.2=true:=by rw [hSTE]
   have HFO:Hid ((namesD ⟨3,nm,lv,ty,val,pr,cs⟩).foldl (putN place) (fun _=>none,true)=(cs.zipIdx.map fun c=>(c.1.1,4+2*(c.2:Int))).foldl (putN place) STE):=by unfold Hid;rw [hSTE];simp [namesD,putN,HQE.out]
   have HOKE:=Hid.mk hokE
   clear q0 q1 q2 q3 q4 q5 q6 q7 q8 q9 q10 q11 q12 q13 q14 q15 q16 q17 hSTE hokE
   obtain ⟨q0,q1,q2,q3,q4,q5,q6,q7,q8,q9,q10,q11,q12,q13,q14,q15,q16,q17⟩:=cells17 HAE.out
   go_wp2
   clear q0 q1 q2 q3 q4 q5 q6 q7 q8 q9 q10 q11 q12 q13 q14 q15 q16 q17
   go_loopw [7,32] (fun ok i wr=>∃k:Nat,k≤cs.length∧i=.int .i64 k∧ok=.bool (((cs.zipIdx.take k).map fun c=>(c.1.1,4+2*(c.2:Int))).foldl (putN place) STE).2∧BoxT wr (w.heap.size+1+1) (w.heap.size+1+1) (2+k) (((cs.zipIdx.take k).map fun c=>(c.1.1,4+2*(c.2:Int))).foldl (putN place) STE).1∧RowKit.Below (w.heap.size+1+1) W0 wr) (fun _ i _=>cs.length - (intOf i).toNat)
   case atStart=>exact ⟨0,Nat.zero_le _,rfl,by rw [List.take_zero,List.map_nil,List.foldl_nil,HOKE.out],by rw [List.take_zero,List.map_nil,List.foldl_nil];exact HBXE.out,HBC.out⟩
   case round =>
    obtain ⟨k,hk,rfl,hok,hbx,hb⟩:=hrel
    subst hok
    obtain ⟨ST,hST⟩:∃ST,((cs.zipIdx.take k).map fun c=>(c.1.1,4+2*(c.2:Int))).foldl (putN place) STE=ST:=⟨_,rfl⟩
    rw [hST] at hbx ⊢
    have HST:=Hid.mk hST
    have HBX:=Hid.mk hbx
    have HBR:=Hid.mk hb
    have hsr:=hb.size
    clear hbx hb hST
    by_cases hlt:k<cs.length
    rotate_left
    ·obtain rfl:k=cs.length:=by omega
     obtain ⟨mv,g1,g2,g3,g4,g5,g6⟩:=HBX.out.go
     have HTB:Hid (Tb wr mv 100 ST.1):=g3.more (by omega)
     have HMV:=Hid.mk g6
     have hR:wr.heap[w.heap.size+1]?=some (.cells #[.map none] 56 (0,0)):=(HBR.out.block _ (by omega)).trans HR0.out
     have r0:wr.cell? ⟨w.heap.size+1,0,none⟩=some (.map none):=by rw [cell_of_row wr _ 0 _ _ _ hR];rfl
     have rz:∀o,wr.frozen? ⟨w.heap.size+1,o,none⟩=false:=fun o=>by simp [World.frozen?,hR]
     have HEQ:Hid ((namesD ⟨3,nm,lv,ty,val,pr,cs⟩).foldl (putN place) (fun _=>none,true)=ST):=by
      unfold Hid
      rw [HFO.out,←HST.out,List.take_of_length_le (by simp)]
     clear g3 g6 hR
     go_wp2
     rw [HEQ.out]
     refine bodyPost_ret (v:=.tuple #[.agg #[.map mv],.bool ST.2]) (by simp [results,Tryz.results38,go_sem,r0]) rfl ⟨mv,rfl,HTB.out.keep (fun b hb=>Below.heap_setCell _ _ _ _ (by have:=HMV.out b hb;simp only;omega)),fun b hb=>by have:=HMV.out b hb;omega,?_⟩
     exact (HB0.out.trans (HBR.out.mono (by omega))).setCell (p:=⟨w.heap.size+1,0,none⟩) (by simp only;omega) _
    obtain ⟨xb,xo,rfl,hxb,hxc⟩:=HCK.out.resolve_left (by intro e;rw [e] at hlt;simp at hlt)
    have hcj:=hxc k _ (List.getElem?_eq_getElem hlt)
    have hnk:=HCN.out _ (List.getElem_mem hlt)
    have HTK:Hid (((cs.zipIdx.take (k+1)).map fun c=>(c.1.1,4+2*(c.2:Int))).foldl (putN place) STE=putN place ST (cs[k].1,4+2*(k:Int))):=by
     unfold Hid
     rw [←HST.out,List.take_succ_eq_append_getElem (by simpa using hlt),List.map_append,List.foldl_append]
     simp
    generalize cs[k]=cj at *
    obtain ⟨cn,cty⟩:=cj
    simp only at hcj hnk
    obtain ⟨hc0,hct⟩:=hcj
    obtain ⟨m0,m1,m2,m3,m4,m5,m6,m7,m8,m9,e0,e1,e2,e3,e4,e5,-⟩:=hct.valE
    have HBW:Hid (RowKit.Below w.heap.size w wr):=HB0.out.trans (HBR.out.mono (by omega))
    have HM7:Hid (wr.rangeAt xb (xo+k*7) [.string cn,.int .i64 m0,.int .i64 m1,.bool m2,.string m3,.slice m4 m5 m6,.slice m7 m8 m9]):=by
     have hB:∀(o:Nat) (v:Value),w.cell? ⟨xb,o,none⟩=some v→wr.cell? ⟨xb,o,none⟩=some v:=fun o v hv=>(HBW.out.cell (p:=⟨xb,o,none⟩) hxb).trans hv
     exact range7 (hB _ _ hc0) (hB _ _ e0) (hB _ _ e1) (hB _ _ e2) (hB _ _ e3) (hB _ _ e4) (hB _ _ e5)
    have HS7:Hid ((Tryz.prog.info? 45).map (·.size)=some ([.string cn,.int .i64 m0,.int .i64 m1,.bool m2,.string m3,.slice m4 m5 m6,.slice m7 m8 m9]:List Value).length):=by unfold Hid;kernel_rfl
    have HSA:Hid ((Tryz.prog.info? 45).map (·.size)=some (#[.string cn,.int .i64 m0,.int .i64 m1,.bool m2,.string m3,.slice m4 m5 m6,.slice m7 m8 m9]:Array Value).size):=by unfold Hid;kernel_rfl
    have HONE:Hid (((#[.string cn,.int .i64 m0,.int .i64 m1,.bool m2,.string m3,.slice m4 m5 m6,.slice m7 m8 m9]:Array Value)).all (·.oneCell')=true):=by unfold Hid;simp [Value.oneCell']
    obtain ⟨W4,hW4⟩:∃W4,wr.alloc (.cells #[.string cn,.int .i64 m0,.int .i64 m1,.bool m2,.string m3,.slice m4 m5 m6,.slice m7 m8 m9] 45)=W4:=⟨_,rfl⟩
    have hb4:RowKit.Below wr.heap.size wr W4:=by rw [←hW4];exact (Below.refl _ _).alloc (Nat.le_refl _) _
    have hY4:W4.heap[wr.heap.size]?=some (.cells #[.string cn,.int .i64 m0,.int .i64 m1,.bool m2,.string m3,.slice m4 m5 m6,.slice m7 m8 m9] 45 (0,0)):=by rw [←hW4];exact alloc_new _ _
    obtain ⟨y0,y1,y2,y3,y4,y5,y6,-⟩:=cells7 hY4
    have hs4:=hb4.size
    have HB4:=Hid.mk hb4
    have HW4:=Hid.mk hW4
    have hQ:∃q,(ST.1 cn).isSome=q:=⟨_,rfl⟩
    obtain ⟨q,hq⟩:=hQ
    have HC5:=tput_box (w.heap.size+1+1) (w.heap.size+1+1) (2+k) ST.1 cn place (4+2*(k:Int)) W4 (HBX.out.on hb4) (by omega) (by omega) (by omega)
    rw [hq] at HC5
    have HQE2:=Hid.mk hq
    have zk:(k:Int)<(cs.length:Int):=by omega
    clear hc0 hct e0 e1 e2 e3 e4 e5 hxc hb4 hY4 hW4 hq
    go_wp2_with (first | (refine wpList_load_mid rfl 45 _ rfl xb (xo+k*7) rfl [.string cn,.int .i64 m0,.int .i64 m1,.bool m2,.string m3,.slice m4 m5 m6,.slice m7 m8 m9] _ HM7.out Tryz.underlying45 rfl HS7.out ?_) | (refine wpList_store_new rfl 45 _ _ rfl rfl rfl HSA.out rfl HONE.out ?_;rw [HW4.out]))
    refine HC5.mono ?_
    rintro e w5 ⟨rfl,hbx5,hb5⟩
    have HBX5:=Hid.mk hbx5
    have HB5:Hid (RowKit.Below (w.heap.size+1+1) W0 w5):=HBR.out.trans ((HB4.out.mono (by omega)).trans (hb5.mono (Nat.le_refl _)))
    clear hbx5 hb5 HC5 y0 y1 y2 y3 y4 y5 y6
    cases q with
    | true =>
     have HP:Hid (putN place ST (cn,4+2*(k:Int))=(ST.1,false)):=by unfold Hid putN;rw [if_pos HQE2.out]
     go_wp2
     exact ⟨⟨k+1,hlt,by go_num,by rw [HTK.out,HP.out],by rw [HTK.out,HP.out];simpa [Nat.add_assoc] using HBX5.out,HB5.out⟩,by simp [intOf];omega⟩
    | false =>
     have HP:Hid (putN place ST (cn,4+2*(k:Int))=(updM ST.1 cn (place,4+2*(k:Int)),ST.2)):=by unfold Hid putN;rw [if_neg (by rw [HQE2.out];decide)]
     go_wp2
     exact ⟨⟨k+1,hlt,by go_num,by rw [HTK.out,HP.out],by rw [HTK.out,HP.out];simpa [Nat.add_assoc] using HBX5.out,HB5.out⟩,by simp [intOf];omega⟩
 ·have g3:(kd==3)=false:=by simpa using hk3
  have HBC:=HB1
  have HBXC:Hid (BoxT w1 (w.heap.size+1+1) (w.heap.size+1+1) 2 (updM (fun _=>none) nm (place,kd))):=by
   obtain ⟨mv,h1,h2,h3,h4,h5,h6⟩:=HBX1.out.go
   exact ⟨mv,h1,h2,h3.more (by omega),h4,h5,h6⟩
  have HAE:Hid (w1.heap[w.heap.size]?=some (.cells #[.int .i64 kd,.string nm,.int .i64 lv,.int .i64 t0,.int .i64 t1,.bool t2,.string t3,.slice t4 t5 t6,.slice t7 t8 t9,.int .i64 v0,.int .i64 v1,.bool v2,.string v3,.slice v4 v5 v6,.slice v7 v8 v9,.int .i64 pr,.slice ca cs.length cc] 39 (0,0))):=(HBC.out.block _ (by omega)).trans HA0.out
  have hsE:=HBC.out.size
  obtain ⟨STE,hSTE⟩:∃STE:(ByteArray→Option (Int×Int))×Bool,STE=(updM (fun _=>none) nm (place,kd),true):=⟨_,rfl⟩
  have HBXE:Hid (BoxT w1 (w.heap.size+1+1) (w.heap.size+1+1) 2 STE.1):=by unfold Hid;rw [hSTE];exact HBXC.out
  have hokE:STE.2=true:=by rw [hSTE]
  have HFO:Hid ((namesD ⟨kd,nm,lv,ty,val,pr,cs⟩).foldl (putN place) (fun _=>none,true)=(cs.zipIdx.map fun c=>(c.1.1,4+2*(c.2:Int))).foldl (putN place) STE):=by unfold Hid;rw [hSTE];simp [namesD,putN,hk3]
  have HOKE:=Hid.mk hokE
  clear q0 q1 q2 q3 q4 q5 q6 q7 q8 q9 q10 q11 q12 q13 q14 q15 q16 q17 hSTE hokE
  obtain ⟨q0,q1,q2,q3,q4,q5,q6,q7,q8,q9,q10,q11,q12,q13,q14,q15,q16,q17⟩:=cells17 HAE.out
  go_wp2
  clear q0 q1 q2 q3 q4 q5 q6 q7 q8 q9 q10 q11 q12 q13 q14 q15 q16 q17
  go_loopw [7,32] (fun ok i wr=>∃k:Nat,k≤cs.length∧i=.int .i64 k∧ok=.bool (((cs.zipIdx.take k).map fun c=>(c.1.1,4+2*(c.2:Int))).foldl (putN place) STE).2∧BoxT wr (w.heap.size+1+1) (w.heap.size+1+1) (2+k) (((cs.zipIdx.take k).map fun c=>(c.1.1,4+2*(c.2:Int))).foldl (putN place) STE).1∧RowKit.Below (w.heap.size+1+1) W0 wr) (fun _ i _=>cs.length - (intOf i).toNat)
  case atStart=>exact ⟨0,Nat.zero_le _,rfl,by rw [List.take_zero,List.map_nil,List.foldl_nil,HOKE.out],by rw [List.take_zero,List.map_nil,List.foldl_nil];exact HBXE.out,HBC.out⟩
  case round =>
   obtain ⟨k,hk,rfl,hok,hbx,hb⟩:=hrel
   subst hok
   obtain ⟨ST,hST⟩:∃ST,((cs.zipIdx.take k).map fun c=>(c.1.1,4+2*(c.2:Int))).foldl (putN place) STE=ST:=⟨_,rfl⟩
   rw [hST] at hbx ⊢
   have HST:=Hid.mk hST
   have HBX:=Hid.mk hbx
   have HBR:=Hid.mk hb
   have hsr:=hb.size
   clear hbx hb hST
   by_cases hlt:k<cs.length
   rotate_left
   ·obtain rfl:k=cs.length:=by omega
    obtain ⟨mv,g1,g2,g3,g4,g5,g6⟩:=HBX.out.go
    have HTB:Hid (Tb wr mv 100 ST.1):=g3.more (by omega)
    have HMV:=Hid.mk g6
    have hR:wr.heap[w.heap.size+1]?=some (.cells #[.map none] 56 (0,0)):=(HBR.out.block _ (by omega)).trans HR0.out
    have r0:wr.cell? ⟨w.heap.size+1,0,none⟩=some (.map none):=by rw [cell_of_row wr _ 0 _ _ _ hR];rfl
    have rz:∀o,wr.frozen? ⟨w.heap.size+1,o,none⟩=false:=fun o=>by simp [World.frozen?,hR]
    have HEQ:Hid ((namesD ⟨kd,nm,lv,ty,val,pr,cs⟩).foldl (putN place) (fun _=>none,true)=ST):=by
     unfold Hid
     rw [HFO.out,←HST.out,List.take_of_length_le (by simp)]
    clear g3 g6 hR
    go_wp2
    rw [HEQ.out]
    refine bodyPost_ret (v:=.tuple #[.agg #[.map mv],.bool ST.2]) (by simp [results,Tryz.results38,go_sem,r0]) rfl ⟨mv,rfl,HTB.out.keep (fun b hb=>Below.heap_setCell _ _ _ _ (by have:=HMV.out b hb;simp only;omega)),fun b hb=>by have:=HMV.out b hb;omega,?_⟩
    exact (HB0.out.trans (HBR.out.mono (by omega))).setCell (p:=⟨w.heap.size+1,0,none⟩) (by simp only;omega) _
   obtain ⟨xb,xo,rfl,hxb,hxc⟩:=HCK.out.resolve_left (by intro e;rw [e] at hlt;simp at hlt)
   have hcj:=hxc k _ (List.getElem?_eq_getElem hlt)
   have hnk:=HCN.out _ (List.getElem_mem hlt)
   have HTK:Hid (((cs.zipIdx.take (k+1)).map fun c=>(c.1.1,4+2*(c.2:Int))).foldl (putN place) STE=putN place ST (cs[k].1,4+2*(k:Int))):=by
    unfold Hid
    rw [←HST.out,List.take_succ_eq_append_getElem (by simpa using hlt),List.map_append,List.foldl_append]
    simp
   generalize cs[k]=cj at *
   obtain ⟨cn,cty⟩:=cj
   simp only at hcj hnk
   obtain ⟨hc0,hct⟩:=hcj
   obtain ⟨m0,m1,m2,m3,m4,m5,m6,m7,m8,m9,e0,e1,e2,e3,e4,e5,-⟩:=hct.valE
   have HBW:Hid (RowKit.Below w.heap.size w wr):=HB0.out.trans (HBR.out.mono (by omega))
   have HM7:Hid (wr.rangeAt xb (xo+k*7) [.string cn,.int .i64 m0,.int .i64 m1,.bool m2,.string m3,.slice m4 m5 m6,.slice m7 m8 m9]):=by
    have hB:∀(o:Nat) (v:Value),w.cell? ⟨xb,o,none⟩=some v→wr.cell? ⟨xb,o,none⟩=some v:=fun o v hv=>(HBW.out.cell (p:=⟨xb,o,none⟩) hxb).trans hv
    exact range7 (hB _ _ hc0) (hB _ _ e0) (hB _ _ e1) (hB _ _ e2) (hB _ _ e3) (hB _ _ e4) (hB _ _ e5)
   have HS7:Hid ((Tryz.prog.info? 45).map (·.size)=some ([.string cn,.int .i64 m0,.int .i64 m1,.bool m2,.string m3,.slice m4 m5 m6,.slice m7 m8 m9]:List Value).length):=by unfold Hid;kernel_rfl
   have HSA:Hid ((Tryz.prog.info? 45).map (·.size)=some (#[.string cn,.int .i64 m0,.int .i64 m1,.bool m2,.string m3,.slice m4 m5 m6,.slice m7 m8 m9]:Array Value).size):=by unfold Hid;kernel_rfl
   have HONE:Hid (((#[.string cn,.int .i64 m0,.int .i64 m1,.bool m2,.string m3,.slice m4 m5 m6,.slice m7 m8 m9]:Array Value)).all (·.oneCell')=true):=by unfold Hid;simp [Value.oneCell']
   obtain ⟨W4,hW4⟩:∃W4,wr.alloc (.cells #[.string cn,.int .i64 m0,.int .i64 m1,.bool m2,.string m3,.slice m4 m5 m6,.slice m7 m8 m9] 45)=W4:=⟨_,rfl⟩
   have hb4:RowKit.Below wr.heap.size wr W4:=by rw [←hW4];exact (Below.refl _ _).alloc (Nat.le_refl _) _
   have hY4:W4.heap[wr.heap.size]?=some (.cells #[.string cn,.int .i64 m0,.int .i64 m1,.bool m2,.string m3,.slice m4 m5 m6,.slice m7 m8 m9] 45 (0,0)):=by rw [←hW4];exact alloc_new _ _
   obtain ⟨y0,y1,y2,y3,y4,y5,y6,-⟩:=cells7 hY4
   have hs4:=hb4.size
   have HB4:=Hid.mk hb4
   have HW4:=Hid.mk hW4
   have hQ:∃q,(ST.1 cn).isSome=q:=⟨_,rfl⟩
   obtain ⟨q,hq⟩:=hQ
   have HC5:=tput_box (w.heap.size+1+1) (w.heap.size+1+1) (2+k) ST.1 cn place (4+2*(k:Int)) W4 (HBX.out.on hb4) (by omega) (by omega) (by omega)
   rw [hq] at HC5
   have HQE2:=Hid.mk hq
   have zk:(k:Int)<(cs.length:Int):=by omega
   clear hc0 hct e0 e1 e2 e3 e4 e5 hxc hb4 hY4 hW4 hq
   go_wp2_with (first | (refine wpList_load_mid rfl 45 _ rfl xb (xo+k*7) rfl [.string cn,.int .i64 m0,.int .i64 m1,.bool m2,.string m3,.slice m4 m5 m6,.slice m7 m8 m9] _ HM7.out Tryz.underlying45 rfl HS7.out ?_) | (refine wpList_store_new rfl 45 _ _ rfl rfl rfl HSA.out rfl HONE.out ?_;rw [HW4.out]))
   refine HC5.mono ?_
   rintro e w5 ⟨rfl,hbx5,hb5⟩
   have HBX5:=Hid.mk hbx5
   have HB5:Hid (RowKit.Below (w.heap.size+1+1) W0 w5):=HBR.out.trans ((HB4.out.mono (by omega)).trans (hb5.mono (Nat.le_refl _)))
   clear hbx5 hb5 HC5 y0 y1 y2 y3 y4 y5 y6
   cases q with
   | true =>
    have HP:Hid (putN place ST (cn,4+2*(k:Int))=(ST.1,false)):=by unfold Hid putN;rw [if_pos HQE2.out]
    go_wp2
    exact ⟨⟨k+1,hlt,by go_num,by rw [HTK.out,HP.out],by rw [HTK.out,HP.out];simpa [Nat.add_assoc] using HBX5.out,HB5.out⟩,by simp [intOf];omega⟩
   | false =>
    have HP:Hid (putN place ST (cn,4+2*(k:Int))=(updM ST.1 cn (place,4+2*(k:Int)),ST.2)):=by unfold Hid putN;rw [if_neg (by rw [HQE2.out];decide)]
    go_wp2
    exact ⟨⟨k+1,hlt,by go_num,by rw [HTK.out,HP.out],by rw [HTK.out,HP.out];simpa [Nat.add_assoc] using HBX5.out,HB5.out⟩,by simp [intOf];omega⟩
end Go.Proofs.YtgfgpjcnfnopnaaGreat
