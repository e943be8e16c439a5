/- Declarations: plain, and in memory. -/
import Derived.Deep.MidRow
import Derived.Deep.WholeRow
import Derived.Test.YtgfgpjcnfnopnaaGreatOA
namespace Go.Proofs.YtgfgpjcnfnopnaaGreat
set_option maxRecDepth 100000
set_option maxHeartbeats 40000000
open Go.RowKit Go.Sort
structure Dl where
 kind:Int
 name:ByteArray
 levels:Int
 ty:Tm
 val:Tm
 params:Int
 ctors:List (ByteArray×Tm)
def CK (w:World) (a:Option Addr) (cs:List (ByteArray×Tm)):Prop:=cs=[]∨∃b o,a=some ⟨b,o,none⟩∧b<w.heap.size∧∀i c,cs[i]?=some c→w.cell? ⟨b,o+i*7,none⟩=some (.string c.1)∧TC w b (o+i*7+1) c.2
theorem CK.on {w w':World}{a:Option Addr}{cs:List (ByteArray×Tm)}(h:CK w a cs) (hb:RowKit.Below w.heap.size w w'):CK w' a cs:=by
 rcases h with h | ⟨b,o,ha,hlt,h⟩
 ·exact Or.inl h
 ·exact Or.inr ⟨b,o,ha,Nat.lt_of_lt_of_le hlt hb.size,fun i c hi=>⟨(hb.cell (p:=⟨b,o+i*7,none⟩) hlt).trans (h i c hi).1,(h i c hi).2.on hb⟩⟩
structure DV (w:World) (v:Value) (d:Dl):Prop where
 go:∃(t0 t1:Int) (t2:Bool) (t3:ByteArray) (t4:Option Addr) (t5 t6:Nat) (t7:Option Addr) (t8 t9:Nat) (v0 v1:Int) (v2:Bool) (v3:ByteArray) (v4:Option Addr) (v5 v6:Nat) (v7:Option Addr) (v8 v9:Nat) (ca:Option Addr) (cc:Nat),v=.agg #[.int .i64 d.kind,.string d.name,.int .i64 d.levels,.int .i64 t0,.int .i64 t1,.bool t2,.string t3,.slice t4 t5 t6,.slice t7 t8 t9,.int .i64 v0,.int .i64 v1,.bool v2,.string v3,.slice v4 v5 v6,.slice v7 v8 v9,.int .i64 d.params,.slice ca d.ctors.length cc]∧TV w (.agg #[.int .i64 t0,.int .i64 t1,.bool t2,.string t3,.slice t4 t5 t6,.slice t7 t8 t9]) d.ty∧TV w (.agg #[.int .i64 v0,.int .i64 v1,.bool v2,.string v3,.slice v4 v5 v6,.slice v7 v8 v9]) d.val∧CK w ca d.ctors
theorem DV.on {w w':World}{v:Value}{d:Dl}(h:DV w v d) (hb:RowKit.Below w.heap.size w w'):DV w' v d:=by
 obtain ⟨t0,t1,t2,t3,t4,t5,t6,t7,t8,t9,v0,v1,v2,v3,v4,v5,v6,v7,v8,v9,ca,cc,h1,h2,h3,h4⟩:=h.go
 exact ⟨t0,t1,t2,t3,t4,t5,t6,t7,t8,t9,v0,v1,v2,v3,v4,v5,v6,v7,v8,v9,ca,cc,h1,h2.on hb,h3.on hb,h4.on hb⟩
structure DCl (w:World) (b o:Nat) (d:Dl):Prop where
 go:∃cs:List Value,cs.length=17∧w.rangeAt b o cs∧(∀v∈cs,v.oneCell'=true)∧DV w (.agg cs.toArray) d
theorem DCl.on {w w':World}{b o:Nat}{d:Dl}(h:DCl w b o d) (hb:RowKit.Below w.heap.size w w') (hlt:b<w.heap.size):DCl w' b o d:=by
 obtain ⟨cs,h1,h2,h3,h4⟩:=h.go
 exact ⟨cs,h1,fun j v hj=>(hb.cell (p:=⟨b,o+j,none⟩) hlt).trans (h2 j v hj),h3,h4.on hb⟩
def DL (w:World) (a:Option Addr) (ds:List Dl):Prop:=ds=[]∨∃b o,a=some ⟨b,o,none⟩∧b<w.heap.size∧∀i d,ds[i]?=some d→DCl w b (o+i*17) d
theorem DL.on {w w':World}{a:Option Addr}{ds:List Dl}(h:DL w a ds) (hb:RowKit.Below w.heap.size w w'):DL w' a ds:=by
 rcases h with h | ⟨b,o,ha,hlt,h⟩
 ·exact Or.inl h
 ·exact Or.inr ⟨b,o,ha,Nat.lt_of_lt_of_le hlt hb.size,fun i d hi=>(h i d hi).on hb hlt⟩
theorem cells7 {w:World}{b:Nat}{u0 u1 u2 u3 u4 u5 u6:Value}{t:TypeId}(h:w.heap[b]?=some (.cells #[u0,u1,u2,u3,u4,u5,u6] t (0,0))):w.cell? ⟨b,0,none⟩=some u0∧w.cell? ⟨b,1,none⟩=some u1∧w.cell? ⟨b,2,none⟩=some u2∧w.cell? ⟨b,3,none⟩=some u3∧w.cell? ⟨b,4,none⟩=some u4∧w.cell? ⟨b,5,none⟩=some u5∧w.cell? ⟨b,6,none⟩=some u6∧b<w.heap.size :=
 ⟨by rw [cell_of_row _ b 0 _ _ _ h];rfl,by rw [cell_of_row _ b 1 _ _ _ h];rfl,by rw [cell_of_row _ b 2 _ _ _ h];rfl,by rw [cell_of_row _ b 3 _ _ _ h];rfl,by rw [cell_of_row _ b 4 _ _ _ h];rfl,by rw [cell_of_row _ b 5 _ _ _ h];rfl,by rw [cell_of_row _ b 6 _ _ _ h];rfl,(Array.getElem?_eq_some_iff.1 h).1⟩
theorem cells17 {w:World}{b:Nat}{u0 u1 u2 u3 u4 u5 u6 u7 u8 u9 u10 u11 u12 u13 u14 u15 u16:Value}{t:TypeId}(h:w.heap[b]?=some (.cells #[u0,u1,u2,u3,u4,u5,u6,u7,u8,u9,u10,u11,u12,u13,u14,u15,u16] t (0,0))):w.cell? ⟨b,0,none⟩=some u0∧w.cell? ⟨b,1,none⟩=some u1∧w.cell? ⟨b,2,none⟩=some u2∧w.cell? ⟨b,3,none⟩=some u3∧w.cell? ⟨b,4,none⟩=some u4∧w.cell? ⟨b,5,none⟩=some u5∧w.cell? ⟨b,6,none⟩=some u6∧w.cell? ⟨b,7,none⟩=some u7∧w.cell? ⟨b,8,none⟩=some u8∧w.cell? ⟨b,9,none⟩=some u9∧w.cell? ⟨b,10,none⟩=some u10∧w.cell? ⟨b,11,none⟩=some u11∧w.cell? ⟨b,12,none⟩=some u12∧w.cell? ⟨b,13,none⟩=some u13∧w.cell? ⟨b,14,none⟩=some u14∧w.cell? ⟨b,15,none⟩=some u15∧w.cell? ⟨b,16,none⟩=some u16∧b<w.heap.size :=
 ⟨by rw [cell_of_row _ b 0 _ _ _ h];rfl,by rw [cell_of_row _ b 1 _ _ _ h];rfl,by rw [cell_of_row _ b 2 _ _ _ h];rfl,by rw [cell_of_row _ b 3 _ _ _ h];rfl,by rw [cell_of_row _ b 4 _ _ _ h];rfl,by rw [cell_of_row _ b 5 _ _ _ h];rfl,by rw [cell_of_row _ b 6 _ _ _ h];rfl,by rw [cell_of_row _ b 7 _ _ _ h];rfl,by rw [cell_of_row _ b 8 _ _ _ h];rfl,by rw [cell_of_row _ b 9 _ _ _ h];rfl,by rw [cell_of_row _ b 10 _ _ _ h];rfl,by rw [cell_of_row _ b 11 _ _ _ h];rfl,by rw [cell_of_row _ b 12 _ _ _ h];rfl,by rw [cell_of_row _ b 13 _ _ _ h];rfl,by rw [cell_of_row _ b 14 _ _ _ h];rfl,by rw [cell_of_row _ b 15 _ _ _ h];rfl,by rw [cell_of_row _ b 16 _ _ _ h];rfl,(Array.getElem?_eq_some_iff.1 h).1⟩
structure okD (d:Dl):Prop where
 kind:1≤d.kind∧d.kind≤3
 name:0<d.name.size∧d.name.size≤60
 levels:0≤d.levels∧d.levels≤8
 ty:smT 1000000 d.ty∧formedB d.ty=true
 val:d.kind=2→smT 1000000 d.val∧formedB d.val=true
 fam:d.kind=3→0≤d.params∧d.params≤60∧d.ctors.length≤40∧∀c∈d.ctors,0<c.1.size∧c.1.size≤60∧smT 1000000 c.2∧formedB c.2=true
def namedB (s:ByteArray):Bool:=!(s.toList==[])&&decide (s.size≤60)
theorem namedB_size {s:ByteArray}(h:namedB s=true):0<s.size∧s.size≤60:=by
 unfold namedB at h
 simp at h
 refine ⟨?_,h.2⟩
 rcases Nat.eq_zero_or_pos s.size with hz | hz
 ·exfalso
  apply h.1
  have h0:s.data=#[]:=Array.eq_empty_of_size_eq_zero hz
  cases s with
  | mk d=>simp only at h0;subst h0;rw [ByteArray.toList,ByteArray.toList.loop];rfl
 ·exact hz
def judgC:List (ByteArray×Tm)→Int
 | []=>0
 | c::cs=>if namedB c.1=false then 10 else if checkT c.2=0 then judgC cs else checkT c.2
def judgF (d:Dl):Int:=if d.params<0∨60<d.params∨40<d.ctors.length then 2 else judgC d.ctors
def judgD (d:Dl):Int:=if d.kind<1∨3<d.kind∨namedB d.name=false then 10 else if d.levels<0∨8<d.levels then 13 else if checkT d.ty≠0 then checkT d.ty else if d.kind=2 then checkT d.val else if d.kind=3 then judgF d else 0
structure smD (d:Dl):Prop where
 name:d.name.size≤140737488351232
 ty:smT 1000000 d.ty
 val:smT 1000000 d.val
 len:d.ctors.length≤1000000
 ctors:∀c∈d.ctors,c.1.size≤140737488351232∧smT 1000000 c.2
theorem isName_any (s:ByteArray) (w:World) (hs:s.size≤140737488351232):Calls Tryz.prog 62 #[.string s] w fun e w'=>e=.returned (.bool (namedB s))∧w'=w:=by
 unfold namedB
 cases h1:(s.toList==[])
 ·by_cases h2:s.size≤60
  ·have h3:(s.size:Int)≤60:=by omega
   rw [decide_eq_true h2]
   go_enter Tryz.func62,Tryz.ntmps62
   go_wp2
   go_ret
   exact ⟨rfl,rfl⟩
  ·have h3:¬(s.size:Int)≤60:=by omega
   rw [decide_eq_false h2]
   go_enter Tryz.func62,Tryz.ntmps62
   go_wp2
   go_ret
   exact ⟨rfl,rfl⟩
 ·go_enter Tryz.func62,Tryz.ntmps62
  go_wp2
  go_ret
  exact ⟨rfl,rfl⟩
theorem judgedFamily_any (d:Dl) (v:Value) (w:World) (hv:DV w v d) (hsm:smD d):Calls Tryz.prog 64 #[v] w fun e w'=>e=.returned (.int .i64 (judgF d))∧RowKit.Below w.heap.size w w':=by
 have hsz:d.ctors.length≤1000000:=hsm.len
 obtain ⟨R,hR⟩:∃R,judgF d=R:=⟨_,rfl⟩
 rw [hR]
 have HRR:=Hid.mk hR
 clear hR
 obtain ⟨kd,nm,lv,ty,val,pr,cs⟩:=d
 obtain ⟨t0,t1,t2,t3,t4,t5,t6,t7,t8,t9,v0,v1,v2,v3,v4,v5,v6,v7,v8,v9,ca,cc,rfl,htt,htv,hck⟩:=hv.go
 have HSM:=Hid.mk hsm.ctors
 simp only at hck hsz HSM HRR ⊢
 obtain ⟨W0,hW0⟩:∃W0,w.alloc (.cells #[.int .i64 kd,.string nm,.int .i64 lv,.int .i64 t0,.int .i64 t1,.bool t2,.string t3,.slice t4 t5 t6,.slice t7 t8 t9,.int .i64 v0,.int .i64 v1,.bool v2,.string v3,.slice v4 v5 v6,.slice v7 v8 v9,.int .i64 pr,.slice ca cs.length cc] 39)=W0:=⟨_,rfl⟩
 have hb0:RowKit.Below w.heap.size w W0:=by rw [←hW0];exact (Below.refl _ _).alloc (Nat.le_refl _) _
 have HX0:Hid (W0.heap[w.heap.size]?=some (.cells #[.int .i64 kd,.string nm,.int .i64 lv,.int .i64 t0,.int .i64 t1,.bool t2,.string t3,.slice t4 t5 t6,.slice t7 t8 t9,.int .i64 v0,.int .i64 v1,.bool v2,.string v3,.slice v4 v5 v6,.slice v7 v8 v9,.int .i64 pr,.slice ca cs.length cc] 39 (0,0))):=by unfold Hid;rw [←hW0];exact alloc_new _ _
 have HCK:=Hid.mk hck
 have HB0:=Hid.mk hb0
 have HW0:=Hid.mk hW0
 obtain ⟨q0,q1,q2,q3,q4,q5,q6,q7,q8,q9,q10,q11,q12,q13,q14,q15,q16,q17⟩:=cells17 HX0.out
 clear hW0 hb0 hck htt htv hv hsm
 go_enter Tryz.func64,Tryz.ntmps64
 by_cases hp0:pr<0
 ·go_wp2_with (rw [HW0.out])
  go_ret
  exact ⟨by rw [←HRR.out];simp [judgF,hp0],HB0.out⟩
 ·by_cases hp1:60<pr
  ·go_wp2_with (rw [HW0.out])
   go_ret
   exact ⟨by rw [←HRR.out];simp [judgF,hp1],HB0.out⟩
  ·by_cases hl:(40:Int)<(cs.length:Int)
   ·go_wp2_with (rw [HW0.out])
    go_ret
    exact ⟨by rw [←HRR.out];simp [judgF,show 40<cs.length by omega],HB0.out⟩
   ·have HRC:Hid (judgC cs=R):=by unfold Hid;rw [←HRR.out];simp [judgF,hp0,hp1,show ¬40<cs.length by omega]
    go_wp2_with (rw [HW0.out])
    go_loopw [23] (fun i wr=>∃k:Nat,k≤cs.length∧i=.int .i64 k∧RowKit.Below W0.heap.size W0 wr∧judgC (cs.drop k)=R) (fun i _=>cs.length - (intOf i).toNat)
    case atStart=>exact ⟨0,Nat.zero_le _,rfl,Below.refl _ _,by rw [List.drop_zero];exact HRC.out⟩
    case round =>
     obtain ⟨k,hk,rfl,hb,hjd⟩:=hrel
     have HBR:=Hid.mk hb
     have HBW:Hid (RowKit.Below w.heap.size w wr):=HB0.out.trans (hb.mono HB0.out.size)
     have HJD:=Hid.mk hjd
     clear hb hjd
     by_cases hlt:k<cs.length
     ·obtain ⟨cb,co,rfl,hcb0,hcs⟩:=(HCK.out.on HBW.out).resolve_left (by intro e;rw [e] at hlt;simp at hlt)
      obtain ⟨cn,ht⟩:=hcs k _ (List.getElem?_eq_getElem hlt)
      obtain ⟨hs1,hs2⟩:=HSM.out _ (List.getElem_mem hlt)
      obtain ⟨x0,x1,x2,x3,x4,x5,x6,x7,x8,x9,c0,c1,c2,c3,c4,c5,htv⟩:=ht.valE
      have hjs:=HJD.out
      rw [List.drop_eq_getElem_cons hlt] at hjs
      generalize cs[k]=kk at *
      obtain ⟨cnm,ctm⟩:=kk
      simp only at cn hs1 hs2 htv
      have HJS:Hid ((if namedB cnm=false then 10 else if checkT ctm=0 then judgC (cs.drop (k+1)) else checkT ctm)=R):=hjs
      have d0:wr.cell? ⟨cb,co+k*7+1,none⟩=some _:=c0
      have d1:wr.cell? ⟨cb,co+k*7+2,none⟩=some _:=c1
      have d2:wr.cell? ⟨cb,co+k*7+3,none⟩=some _:=c2
      have d3:wr.cell? ⟨cb,co+k*7+4,none⟩=some _:=c3
      have d4:wr.cell? ⟨cb,co+k*7+5,none⟩=some _:=c4
      have d5:wr.cell? ⟨cb,co+k*7+6,none⟩=some _:=c5
      obtain ⟨W1,hW1⟩:∃W1,wr.alloc (.cells #[.string cnm,.int .i64 x0,.int .i64 x1,.bool x2,.string x3,.slice x4 x5 x6,.slice x7 x8 x9] 45)=W1:=⟨_,rfl⟩
      have hb1:RowKit.Below wr.heap.size wr W1:=by rw [←hW1];exact (Below.refl _ _).alloc (Nat.le_refl _) _
      have HX1:Hid (W1.heap[wr.heap.size]?=some (.cells #[.string cnm,.int .i64 x0,.int .i64 x1,.bool x2,.string x3,.slice x4 x5 x6,.slice x7 x8 x9] 45 (0,0))):=by unfold Hid;rw [←hW1];exact alloc_new _ _
      have HB1:Hid (RowKit.Below W0.heap.size W0 W1):=HBR.out.trans (hb1.mono HBR.out.size)
      have HB1W:Hid (RowKit.Below w.heap.size w W1):=HBW.out.trans (hb1.mono HBW.out.size)
      have HIS:=isName_any cnm W1 hs1
      have HCH:=Check_any ctm _ W1 (htv.on hb1) hs2
      have HW1:=Hid.mk hW1
      have zk:(k:Int)<(cs.length:Int):=by omega
      obtain ⟨y0,y1,y2,y3,y4,y5,y6,y7⟩:=cells7 HX1.out
      clear hW1 hb1 htv ht hcs hjs c0 c1 c2 c3 c4 c5 hs1 hs2
      generalize namedB cnm=NB at *
      generalize checkT ctm=CT at *
      go_wp2_with (rw [HW1.out])
      refine HIS.mono ?_
      rintro e _ ⟨rfl,rfl⟩
      cases NB
      ·go_wp2
       go_ret
       exact ⟨by rw [←HJS.out];rfl,HB1W.out⟩
      ·go_wp2_with fail
       refine HCH.mono ?_
       rintro e w2 ⟨rfl,hb2⟩
       have HB2:Hid (RowKit.Below W0.heap.size W0 w2):=HB1.out.trans (hb2.mono HB1.out.size)
       have HB2W:Hid (RowKit.Below w.heap.size w w2):=HB1W.out.trans (hb2.mono HB1W.out.size)
       clear hb2 HCH HIS
       by_cases hc:CT=0
       ·subst hc
        go_wp2
        exact ⟨⟨k+1,hlt,by go_num,HB2.out,by have:=HJS.out;simpa using this⟩,by simp [intOf];omega⟩
       ·have hc':(CT != 0)=true:=by simpa using hc
        go_wp2
        go_ret
        exact ⟨by have:=HJS.out;simp [hc] at this;rw [←this];rfl,HB2W.out⟩
     ·go_wp2
      go_ret
      exact ⟨by have:=HJD.out;rw [List.drop_of_length_le (by omega)] at this;rw [←this];rfl,HBW.out⟩
theorem judged_any (d:Dl) (v:Value) (w:World) (hv:DV w v d) (hsm:smD d):Calls Tryz.prog 49 #[v] w fun e w'=>e=.returned (.int .i64 (judgD d))∧RowKit.Below w.heap.size w w':=by
 have HFA:=fun (W:World) (h:RowKit.Below w.heap.size w W)=>judgedFamily_any d v W (hv.on h) hsm
 have HIS:=fun (W:World)=>isName_any d.name W hsm.name
 obtain ⟨t0,t1,t2,t3,t4,t5,t6,t7,t8,t9,v0,v1,v2,v3,v4,v5,v6,v7,v8,v9,ca,cc,rfl,htt,htv,hck⟩:=hv.go
 have HCT:=fun (W:World) (h:RowKit.Below w.heap.size w W)=>Check_any d.ty _ W (htt.on h) hsm.ty
 have HCV:=fun (W:World) (h:RowKit.Below w.heap.size w W)=>Check_any d.val _ W (htv.on h) hsm.val
 obtain ⟨R,hR⟩:∃R,judgD d=R:=⟨_,rfl⟩
 rw [hR]
 have HRR:Hid (judgD d=R):=hR
 unfold judgD at HRR
 clear hR htt htv hck hv hsm
 obtain ⟨kd,nm,lv,ty,val,pr,cs⟩:=d
 simp only at HIS HCT HCV HRR HFA ⊢
 generalize judgF _=JF at *
 generalize namedB nm=NB at *
 generalize checkT ty=C1 at *
 generalize checkT val=C2 at *
 have HJ:Hid ((kd<1→R=10)∧(3<kd→R=10)∧(NB=false→R=10)∧(1≤kd→kd≤3→NB=true→(lv<0→R=13)∧(8<lv→R=13)∧(0≤lv→lv≤8→(if C1≠0 then C1 else if kd=2 then C2 else if kd=3 then JF else 0)=R))):=by
  have h:=HRR.out
  refine ⟨fun h1=>?_,fun h1=>?_,fun h1=>?_,fun h1 h2 h3=>⟨fun h4=>?_,fun h4=>?_,fun h4 h5=>?_⟩⟩
  ·rw [if_pos (Or.inl h1)] at h;exact h.symm
  ·rw [if_pos (Or.inr (Or.inl h1))] at h;exact h.symm
  ·rw [if_pos (Or.inr (Or.inr h1))] at h;exact h.symm
  ·rw [if_neg (by rw [h3];intro e;rcases e with e | e | e;omega;omega;cases e),if_pos (Or.inl h4)] at h;exact h.symm
  ·rw [if_neg (by rw [h3];intro e;rcases e with e | e | e;omega;omega;cases e),if_pos (Or.inr h4)] at h;exact h.symm
  ·rw [if_neg (by rw [h3];intro e;rcases e with e | e | e;omega;omega;cases e),if_neg (by omega)] at h;exact h
 clear HRR
 obtain ⟨W0,hW0⟩:∃W0,w.alloc (.cells #[.int .i64 kd,.string nm,.int .i64 lv,.int .i64 t0,.int .i64 t1,.bool t2,.string t3,.slice t4 t5 t6,.slice t7 t8 t9,.int .i64 v0,.int .i64 v1,.bool v2,.string v3,.slice v4 v5 v6,.slice v7 v8 v9,.int .i64 pr,.slice ca cs.length cc] 39)=W0:=⟨_,rfl⟩
 have hb0:RowKit.Below w.heap.size w W0:=by rw [←hW0];exact (Below.refl _ _).alloc (Nat.le_refl _) _
 have HX0:Hid (W0.heap[w.heap.size]?=some (.cells #[.int .i64 kd,.string nm,.int .i64 lv,.int .i64 t0,.int .i64 t1,.bool t2,.string t3,.slice t4 t5 t6,.slice t7 t8 t9,.int .i64 v0,.int .i64 v1,.bool v2,.string v3,.slice v4 v5 v6,.slice v7 v8 v9,.int .i64 pr,.slice ca cs.length cc] 39 (0,0))):=by unfold Hid;rw [←hW0];exact alloc_new _ _
 have HB0:=Hid.mk hb0
 have HW0:=Hid.mk hW0
 obtain ⟨q0,q1,q2,q3,q4,q5,q6,q7,q8,q9,q10,q11,q12,q13,q14,q15,q16,q17⟩:=cells17 HX0.out
 clear hW0 hb0
 go_enter Tryz.func49,Tryz.ntmps49
 by_cases hk1:kd<1
 ·go_wp2_with (rw [HW0.out])
  go_ret
  exact ⟨by rw [HJ.out.1 hk1];rfl,HB0.out⟩
 by_cases hk3:3<kd
 ·go_wp2_with (rw [HW0.out])
  go_ret
  exact ⟨by rw [HJ.out.2.1 hk3];rfl,HB0.out⟩
 go_wp2_with (rw [HW0.out])
 refine (HIS _).mono ?_
 rintro e wI ⟨rfl,hwI⟩
 rw [hwI]
 clear hwI
 cases NB
 ·go_wp2
  go_ret
  exact ⟨by rw [HJ.out.2.2.1 (by trivial)];rfl,HB0.out⟩
 by_cases hl0:lv<0
 ·go_wp2
  go_ret
  exact ⟨by rw [(HJ.out.2.2.2 (by omega) (by omega) (by trivial)).1 hl0];rfl,HB0.out⟩
 by_cases hl8:8<lv
 ·go_wp2
  go_ret
  exact ⟨by rw [(HJ.out.2.2.2 (by omega) (by omega) (by trivial)).2.1 hl8];rfl,HB0.out⟩
 have HRS:Hid ((if C1≠0 then C1 else if kd=2 then C2 else if kd=3 then JF else 0)=R):=(HJ.out.2.2.2 (by omega) (by omega) (by trivial)).2.2 (by omega) (by omega)
 clear HJ
 have HC1:=HCT W0 HB0.out
 go_wp2_with fail
 refine HC1.mono ?_
 rintro e w1 ⟨rfl,hb1⟩
 have HB1:Hid (RowKit.Below w.heap.size w w1):=HB0.out.trans (hb1.mono HB0.out.size)
 have HX1:=Hid.mk ((hb1.block _ (Array.getElem?_eq_some_iff.1 HX0.out).1).trans HX0.out)
 have HC2:=HCV w1 HB1.out
 have HC3:=HFA w1 HB1.out
 clear hb1 HC1 HCT HCV HFA HIS q0 q1 q2 q3 q4 q5 q6 q7 q8 q9 q10 q11 q12 q13 q14 q15 q16 q17
 obtain ⟨q0,q1,q2,q3,q4,q5,q6,q7,q8,q9,q10,q11,q12,q13,q14,q15,q16,q17⟩:=cells17 HX1.out
 by_cases hc1:C1=0
 rotate_left
 ·have hc1':(C1 != 0)=true:=by simpa using hc1
  go_wp2
  go_ret
  exact ⟨by have:=HRS.out;rw [if_pos hc1] at this;rw [←this];rfl,HB1.out⟩
 subst hc1
 by_cases hk:kd=2
 ·subst hk
  clear HC3
  go_wp2_with fail
  refine HC2.mono ?_
  rintro e w2 ⟨rfl,hb2⟩
  have HB2:Hid (RowKit.Below w.heap.size w w2):=HB1.out.trans (hb2.mono HB1.out.size)
  clear hb2 HC2
  go_wp2
  go_ret
  exact ⟨by have:=HRS.out;simp at this;rw [←this];rfl,HB2.out⟩
 by_cases hk':kd=3
 ·subst hk'
  clear HC2
  go_wp2_with fail
  refine HC3.mono ?_
  rintro e w2 ⟨rfl,hb2⟩
  have HB2:Hid (RowKit.Below w.heap.size w w2):=HB1.out.trans (hb2.mono HB1.out.size)
  clear hb2 HC3
  go_wp2
  go_ret
  exact ⟨by have:=HRS.out;simp at this;rw [←this];rfl,HB2.out⟩
 ·go_wp2
  go_ret
  exact ⟨by have:=HRS.out;simp [hk,hk'] at this;rw [←this];rfl,HB1.out⟩
end Go.Proofs.YtgfgpjcnfnopnaaGreat
