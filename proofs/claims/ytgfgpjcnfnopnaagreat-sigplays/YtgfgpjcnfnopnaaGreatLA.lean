/- The contracts of the reference's named and CheckDecl. -/
import Derived.Test.YtgfgpjcnfnopnaaGreatKD
import Derived.Test.YtgfgpjcnfnopnaaGreatFE
namespace Go.Proofs.YtgfgpjcnfnopnaaGreat
set_option maxRecDepth 100000
set_option maxHeartbeats 40000000
open Go.RowKit Go.Sort
theorem named_any (s:ByteArray) (w:World) (hs:s.size≤140737488351232):Calls Tryz.prog 55 #[.string s] w fun e w'=>e=.returned (.bool (namedB s))∧w'=w:=by
 unfold namedB
 cases h1:(s.toList==[])
 ·by_cases h2:s.size≤60
  ·have h3:(s.size:Int)≤60:=by omega
   rw [decide_eq_true h2]
   go_enter Tryz.func55,Tryz.ntmps55
   go_wp2
   go_ret
   exact ⟨rfl,rfl⟩
  ·have h3:¬(s.size:Int)≤60:=by omega
   rw [decide_eq_false h2]
   go_enter Tryz.func55,Tryz.ntmps55
   go_wp2
   go_ret
   exact ⟨rfl,rfl⟩
 ·go_enter Tryz.func55,Tryz.ntmps55
  go_wp2
  go_ret
  exact ⟨rfl,rfl⟩
theorem rCheckDecl_any (d:Dl) (v:Value) (w:World) (hv:DV w v d) (hsm:smD d):Calls Tryz.prog 41 #[v] w fun e w'=>e=.returned (.int .i64 (judgD d))∧RowKit.Below w.heap.size w w':=by
 have hsz:d.ctors.length≤1000000:=hsm.len
 have HSC:=Hid.mk hsm.ctors
 have HIS:=fun (W:World)=>named_any d.name W hsm.name
 obtain ⟨t0,t1,t2,t3,t4,t5,t6,t7,t8,t9,v0,v1,v2,v3,v4,v5,v6,v7,v8,v9,ca,cc,rfl,htt,htv,hck⟩:=hv.go
 have HCT:=fun (W:World) (h:RowKit.Below w.heap.size w W)=>rCheck_any d.ty _ W (htt.on h) hsm.ty
 have HCV:=fun (W:World) (h:RowKit.Below w.heap.size w W)=>rCheck_any d.val _ W (htv.on h) hsm.val
 obtain ⟨R,hR⟩:∃R,judgD d=R:=⟨_,rfl⟩
 rw [hR]
 have HRR:Hid (judgD d=R):=hR
 unfold judgD at HRR
 have HCK:=Hid.mk hck
 clear hR htt htv hck hv hsm
 obtain ⟨kd,nm,lv,ty,val,pr,cs⟩:=d
 simp only at HIS HCT HCV HRR HCK HSC hsz ⊢
 obtain ⟨JF,hJF⟩:∃JF,judgF ⟨kd,nm,lv,ty,val,pr,cs⟩=JF:=⟨_,rfl⟩
 rw [hJF] at HRR
 have HJF:=Hid.mk hJF
 clear hJF
 generalize namedB nm=NB at *
 generalize checkT ty=C1 at *
 generalize checkT val=C2 at *
 have HJ:Hid ((kd<1→R=10)∧(3<kd→R=10)∧(NB=false→R=10)∧(1≤kd→kd≤3→NB=true→(lv<0→R=13)∧(8<lv→R=13)∧(0≤lv→lv≤8→(if C1≠0 then C1 else if kd=2 then C2 else if kd=3 then JF else 0)=R))):=by
  have h:=HRR.out
  refine ⟨fun h1=>?_,fun h1=>?_,fun h1=>?_,fun h1 h2 h3=>⟨fun h4=>?_,fun h4=>?_,fun h4 h5=>?_⟩⟩
  ·rw [if_pos (Or.inl h1)] at h;exact h.symm
  ·rw [if_pos (Or.inr (Or.inl h1))] at h;exact h.symm
  ·rw [if_pos (Or.inr (Or.inr h1))] at h;exact h.symm
  ·rw [if_neg (by rw [h3];intro e;rcases e with e | e | e;omega;omega;cases e),if_pos (Or.inl h4)] at h;exact h.symm
  ·rw [if_neg (by rw [h3];intro e;rcases e with e | e | e;omega;omega;cases e),if_pos (Or.inr h4)] at h;exact h.symm
  ·rw [if_neg (by rw [h3];intro e;rcases e with e | e | e;omega;omega;cases e),if_neg (by omega)] at h;exact h
 clear HRR
 obtain ⟨W0,hW0⟩:∃W0,w.alloc (.cells #[.int .i64 kd,.string nm,.int .i64 lv,.int .i64 t0,.int .i64 t1,.bool t2,.string t3,.slice t4 t5 t6,.slice t7 t8 t9,.int .i64 v0,.int .i64 v1,.bool v2,.string v3,.slice v4 v5 v6,.slice v7 v8 v9,.int .i64 pr,.slice ca cs.length cc] 39)=W0:=⟨_,rfl⟩
 have hb0:RowKit.Below w.heap.size w W0:=by rw [←hW0];exact (Below.refl _ _).alloc (Nat.le_refl _) _
 have HX0:Hid (W0.heap[w.heap.size]?=some (.cells #[.int .i64 kd,.string nm,.int .i64 lv,.int .i64 t0,.int .i64 t1,.bool t2,.string t3,.slice t4 t5 t6,.slice t7 t8 t9,.int .i64 v0,.int .i64 v1,.bool v2,.string v3,.slice v4 v5 v6,.slice v7 v8 v9,.int .i64 pr,.slice ca cs.length cc] 39 (0,0))):=by unfold Hid;rw [←hW0];exact alloc_new _ _
 have HB0:=Hid.mk hb0
 have HW0:=Hid.mk hW0
 obtain ⟨q0,q1,q2,q3,q4,q5,q6,q7,q8,q9,q10,q11,q12,q13,q14,q15,q16,q17⟩:=cells17 HX0.out
 clear hW0 hb0
 go_enter Tryz.func41,Tryz.ntmps41
 go_wp2_with (rw [HW0.out])
 refine (HIS _).mono ?_
 rintro e wI ⟨rfl,hwI⟩
 rw [hwI]
 clear hwI
 by_cases hk1:kd<1
 ·go_wp2
  go_ret
  exact ⟨by rw [HJ.out.1 hk1];rfl,HB0.out⟩
 by_cases hk3:3<kd
 ·go_wp2
  go_ret
  exact ⟨by rw [HJ.out.2.1 hk3];rfl,HB0.out⟩
 cases NB
 ·go_wp2
  go_ret
  exact ⟨by rw [HJ.out.2.2.1 (by trivial)];rfl,HB0.out⟩
 by_cases hl0:lv<0
 ·go_wp2
  go_ret
  exact ⟨by rw [(HJ.out.2.2.2 (by omega) (by omega) (by trivial)).1 hl0];rfl,HB0.out⟩
 by_cases hl8:8<lv
 ·go_wp2
  go_ret
  exact ⟨by rw [(HJ.out.2.2.2 (by omega) (by omega) (by trivial)).2.1 hl8];rfl,HB0.out⟩
 have HRS:Hid ((if C1≠0 then C1 else if kd=2 then C2 else if kd=3 then JF else 0)=R):=(HJ.out.2.2.2 (by omega) (by omega) (by trivial)).2.2 (by omega) (by omega)
 clear HJ
 have HC1:=HCT W0 HB0.out
 go_wp2_with fail
 refine HC1.mono ?_
 rintro e w1 ⟨rfl,hb1⟩
 have HB1:Hid (RowKit.Below w.heap.size w w1):=HB0.out.trans (hb1.mono HB0.out.size)
 have HX1:=Hid.mk ((hb1.block _ (Array.getElem?_eq_some_iff.1 HX0.out).1).trans HX0.out)
 have HC2:=HCV w1 HB1.out
 have hb1s:=HB1.out.size
 clear hb1 HC1 HCT HCV HIS q0 q1 q2 q3 q4 q5 q6 q7 q8 q9 q10 q11 q12 q13 q14 q15 q16 q17
 obtain ⟨q0,q1,q2,q3,q4,q5,q6,q7,q8,q9,q10,q11,q12,q13,q14,q15,q16,q17⟩:=cells17 HX1.out
 by_cases hc1:C1=0
 rotate_left
 ·have hc1':(C1 != 0)=true:=by simpa using hc1
  have hc1'':(C1==0)=false:=by simpa using hc1
  go_wp2
  go_ret
  exact ⟨by have:=HRS.out;rw [if_pos hc1] at this;rw [←this];rfl,HB1.out⟩
 subst hc1
 by_cases hk:kd=2
 ·subst hk
  go_wp2_with fail
  refine HC2.mono ?_
  rintro e w2 ⟨rfl,hb2⟩
  have HB2:Hid (RowKit.Below w.heap.size w w2):=HB1.out.trans (hb2.mono HB1.out.size)
  have hX2:=(hb2.block _ (Array.getElem?_eq_some_iff.1 HX1.out).1).trans HX1.out
  clear hb2 HC2 q0 q1 q2 q3 q4 q5 q6 q7 q8 q9 q10 q11 q12 q13 q14 q15 q16 q17
  obtain ⟨q0,q1,q2,q3,q4,q5,q6,q7,q8,q9,q10,q11,q12,q13,q14,q15,q16,q17⟩:=cells17 hX2
  clear hX2
  by_cases hc2:C2=0
  ·subst hc2
   go_wp2
   go_ret
   exact ⟨by have:=HRS.out;simp at this;rw [←this];rfl,HB2.out⟩
  ·have hc2':(C2 != 0)=true:=by simpa using hc2
   go_wp2
   go_ret
   exact ⟨by have:=HRS.out;simp at this;rw [←this];rfl,HB2.out⟩
 clear HC2
 by_cases hk':kd=3
 rotate_left
 ·have g2:(kd==2)=false:=by simpa using hk
  have g3:(kd != 3)=true:=by simpa using hk'
  go_wp2
  go_ret
  exact ⟨by have:=HRS.out;simp [hk,hk'] at this;rw [←this];rfl,HB1.out⟩
 subst hk'
 have HRJ:Hid (JF=R):=by have:=HRS.out;simp at this;exact this
 clear HRS
 by_cases hp0:pr<0
 ·go_wp2
  go_ret
  exact ⟨by rw [←HRJ.out,←HJF.out];simp [judgF,hp0],HB1.out⟩
 by_cases hp1:60<pr
 ·go_wp2
  go_ret
  exact ⟨by rw [←HRJ.out,←HJF.out];simp [judgF,hp1],HB1.out⟩
 by_cases hl:(40:Int)<(cs.length:Int)
 ·go_wp2
  go_ret
  exact ⟨by rw [←HRJ.out,←HJF.out];simp [judgF,show 40<cs.length by omega],HB1.out⟩
 have HRC:Hid (judgC cs=R):=by unfold Hid;rw [←HRJ.out,←HJF.out];simp [judgF,hp0,hp1,show ¬40<cs.length by omega]
 go_wp2
 go_loopw [5] (fun i wr=>∃k:Nat,k≤cs.length∧i=.int .i64 k∧RowKit.Below w1.heap.size w1 wr∧judgC (cs.drop k)=R) (fun i _=>cs.length - (intOf i).toNat)
 case atStart=>exact ⟨0,Nat.zero_le _,rfl,Below.refl _ _,by rw [List.drop_zero];exact HRC.out⟩
 case round =>
  obtain ⟨k,hk,rfl,hb,hjd⟩:=hrel
  have HBR:=Hid.mk hb
  have HBW:Hid (RowKit.Below w.heap.size w wr):=HB1.out.trans (hb.mono HB1.out.size)
  have HJD:=Hid.mk hjd
  have HXr:=Hid.mk ((hb.block _ (Array.getElem?_eq_some_iff.1 HX1.out).1).trans HX1.out)
  clear hb hjd q0 q1 q2 q3 q4 q5 q6 q7 q8 q9 q10 q11 q12 q13 q14 q15 q16 q17
  obtain ⟨q0,q1,q2,q3,q4,q5,q6,q7,q8,q9,q10,q11,q12,q13,q14,q15,q16,q17⟩:=cells17 HXr.out
  by_cases hlt:k<cs.length
  ·obtain ⟨cb,co,rfl,hcb0,hcs⟩:=(HCK.out.on HBW.out).resolve_left (by intro e;rw [e] at hlt;simp at hlt)
   obtain ⟨cn,ht⟩:=hcs k _ (List.getElem?_eq_getElem hlt)
   obtain ⟨hs1,hs2⟩:=HSC.out _ (List.getElem_mem hlt)
   obtain ⟨x0,x1,x2,x3,x4,x5,x6,x7,x8,x9,c0,c1,c2,c3,c4,c5,htv⟩:=ht.valE
   have hjs:=HJD.out
   rw [List.drop_eq_getElem_cons hlt] at hjs
   generalize cs[k]=kk at *
   obtain ⟨cnm,ctm⟩:=kk
   simp only at cn hs1 hs2 htv
   have HJS:Hid ((if namedB cnm=false then 10 else if checkT ctm=0 then judgC (cs.drop (k+1)) else checkT ctm)=R):=hjs
   have d0:wr.cell? ⟨cb,co+k*7+1,none⟩=some _:=c0
   have d1:wr.cell? ⟨cb,co+k*7+2,none⟩=some _:=c1
   have d2:wr.cell? ⟨cb,co+k*7+3,none⟩=some _:=c2
   have d3:wr.cell? ⟨cb,co+k*7+4,none⟩=some _:=c3
   have d4:wr.cell? ⟨cb,co+k*7+5,none⟩=some _:=c4
   have d5:wr.cell? ⟨cb,co+k*7+6,none⟩=some _:=c5
   have HIS:=named_any cnm wr hs1
   have HCH:=rCheck_any ctm _ wr htv hs2
   have zk:(k:Int)<(cs.length:Int):=by omega
   clear htv ht hcs hjs c0 c1 c2 c3 c4 c5 hs1 hs2
   generalize namedB cnm=NB at *
   generalize checkT ctm=CT at *
   go_wp2_with fail
   refine HIS.mono ?_
   rintro e wI ⟨rfl,hwI⟩
   rw [hwI]
   clear hwI
   cases NB
   ·go_wp2
    go_ret
    exact ⟨by rw [←HJS.out];rfl,HBW.out⟩
   ·go_wp2_with fail
    refine HCH.mono ?_
    rintro e w2 ⟨rfl,hb2⟩
    have HB2:Hid (RowKit.Below w1.heap.size w1 w2):=HBR.out.trans (hb2.mono HBR.out.size)
    have HB2W:Hid (RowKit.Below w.heap.size w w2):=HBW.out.trans (hb2.mono HBW.out.size)
    clear hb2 HCH HIS
    by_cases hc:CT=0
    ·subst hc
     go_wp2
     exact ⟨⟨k+1,hlt,by go_num,HB2.out,by have:=HJS.out;simpa using this⟩,by simp [intOf];omega⟩
    ·have hc':(CT != 0)=true:=by simpa using hc
     go_wp2
     go_ret
     exact ⟨by have:=HJS.out;simp [hc] at this;rw [←this];rfl,HB2W.out⟩
  ·go_wp2
   go_ret
   exact ⟨by have:=HJD.out;rw [List.drop_of_length_le (by omega)] at this;rw [←this];rfl,HBW.out⟩
end Go.Proofs.YtgfgpjcnfnopnaaGreat
