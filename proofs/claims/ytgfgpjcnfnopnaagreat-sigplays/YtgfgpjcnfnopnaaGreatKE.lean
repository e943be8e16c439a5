/- The contracts of the writer of package bytes at constructors and declarations. -/
import Derived.Test.YtgfgpjcnfnopnaaGreatKD
import Derived.Test.YtgfgpjcnfnopnaaGreatED
namespace Go.Proofs.YtgfgpjcnfnopnaaGreat
set_option maxRecDepth 100000
set_option maxHeartbeats 40000000
open Go.RowKit Go.Sort
def encC (c:ByteArray×Tm):List UInt8:=nameB c.1++encT c.2
def encF (d:Dl):List UInt8:=if d.kind=2 then encT d.val else if d.kind=3 then numB d.params.toNat++(numB d.ctors.length++d.ctors.flatMap encC) else []
def encD (d:Dl):List UInt8:=numB d.kind.toNat++(nameB d.name++(numB d.levels.toNat++(encT d.ty++encF d)))
def encDs (ds:List Dl):List UInt8:=numB ds.length++ds.flatMap encD
theorem ctor_any (w0:World) (wb:Nat) (tot:List UInt8) (nm:ByteArray) (t:Tm) (t0 t1:Int) (t2:Bool) (t3:ByteArray) (t4:Option Addr) (t5 t6:Nat) (t7:Option Addr) (t8 t9:Nat) (w:World) (hb0:RowKit.Below w0.heap.size w0 w) (hW:WR w w0.heap.size wb tot) (ht:TV w0 (.agg #[.int .i64 t0,.int .i64 t1,.bool t2,.string t3,.slice t4 t5 t6,.slice t7 t8 t9]) t) (hn:0<nm.size∧nm.size≤60) (hg:smT 1000000 t∧formedB t=true):Calls Tryz.prog 85 #[.pointer (some ⟨wb,0,none⟩),.agg #[.string nm,.int .i64 t0,.int .i64 t1,.bool t2,.string t3,.slice t4 t5 t6,.slice t7 t8 t9]] w (WrPost w0.heap.size wb tot (encC (nm,t)) w):=by
 have hlw:=hW.lt
 obtain ⟨W0,hW0⟩:∃W0,w.alloc (.cells #[.string nm,.int .i64 t0,.int .i64 t1,.bool t2,.string t3,.slice t4 t5 t6,.slice t7 t8 t9] 45)=W0:=⟨_,rfl⟩
 have hb:RowKit.Below w.heap.size w W0:=by rw [←hW0];exact (Below.refl _ _).alloc (Nat.le_refl _) _
 have HBX:Hid (∀w',Wrote wb W0 w'→w'.heap[w.heap.size]?=some (.cells #[.string nm,.int .i64 t0,.int .i64 t1,.bool t2,.string t3,.slice t4 t5 t6,.slice t7 t8 t9] 45 (0,0))):=fun w' h=>h.box hW hb (by rw [←hW0];exact alloc_new _ _) (Nat.le_refl _)
 have HWA:Hid (Wrote wb w W0):=Wrote.below hb hlw
 have HWW0:Hid (WR W0 w0.heap.size wb tot):=hW.on hb
 have HB00:Hid (RowKit.Below w0.heap.size w0 W0):=hb0.trans (hb.mono hb0.size)
 have HC:=name_any w0.heap.size wb tot nm W0 HWW0.out HB00.out.size hn.1 (by omega)
 have HTM:=wterm_any w0 wb t hg.1 hg.2
 have HTV:=Hid.mk ht
 have HW0:=Hid.mk hW0
 obtain ⟨q0,q1,q2,q3,q4,q5,q6,q7⟩:=cells7 (HBX.out W0 (Wrote.refl _ _))
 clear hW hb0 hb ht hW0 hg
 go_enter Tryz.func85,Tryz.ntmps85
 go_wp2_with fail
 rw [HW0.out]
 refine HC.mono ?_
 rintro e w1 ⟨rfl,hW1,hw1⟩
 have HB1:Hid (RowKit.Below w0.heap.size w0 w1):=HB00.out.trans (hw1.toBelow HWW0.out HB00.out.size)
 have HC2:=HTM _ (tot++nameB nm) w1 HTV.out HB1.out hW1
 have HWT1:=Hid.mk (HWA.out.trans hw1)
 clear q0 q1 q2 q3 q4 q5 q6 q7
 obtain ⟨q0,q1,q2,q3,q4,q5,q6,q7⟩:=cells7 (HBX.out w1 hw1)
 clear hW1 hw1 HC
 go_wp2_with fail
 refine HC2.mono ?_
 rintro e w2 ⟨rfl,hW2,hw2⟩
 have HR:Hid (WR w2 w0.heap.size wb (tot++encC (nm,t))∧Wrote wb w w2):=⟨by unfold encC;rw [←List.append_assoc];exact hW2,HWT1.out.trans hw2⟩
 clear hW2 hw2 HC2
 go_wp2
 go_end0
 exact ⟨rfl,HR.out.1,HR.out.2⟩
theorem eachC_any (w0:World) (wb:Nat) (tot:List UInt8) (cs:List (ByteArray×Tm)) (a:Option Addr) (cap:Nat) (w:World) (hb0:RowKit.Below w0.heap.size w0 w) (hW:WR w w0.heap.size wb tot) (hS:CK w0 a cs) (hn:cs.length≤1000000) (hr:∀c∈cs,0<c.1.size∧c.1.size≤60∧smT 1000000 c.2∧formedB c.2=true):Calls Tryz.prog 84 #[.slice a cs.length cap,.func (.func 85) #[.pointer (some ⟨wb,0,none⟩)] #[]] w (WrPost w0.heap.size wb tot (cs.flatMap encC) w):=by
 have HB0:=Hid.mk hb0
 have HW:=Hid.mk hW
 have HS:=Hid.mk hS
 have HR:=Hid.mk hr
 clear hb0 hW hS hr
 go_enter Tryz.func84,Tryz.ntmps84
 go_wp2
 go_loopw [8] (fun i wr=>∃k:Nat,k≤cs.length∧i=.int .i64 k∧WR wr w0.heap.size wb (tot++(cs.take k).flatMap encC)∧Wrote wb w wr) (fun i _=>cs.length - (intOf i).toNat)
 case atStart=>exact ⟨0,Nat.zero_le _,rfl,by simpa using HW.out,Wrote.refl _ _⟩
 case round =>
  obtain ⟨k,hk,rfl,hWr,hwr⟩:=hrel
  have HWR:=Hid.mk hWr
  have HWT:=Hid.mk hwr
  have HBR:Hid (RowKit.Below w0.heap.size w0 wr):=HB0.out.trans (hwr.toBelow HW.out HB0.out.size)
  clear hWr hwr
  by_cases hlt:k<cs.length
  ·obtain ⟨cb,co,rfl,hcb0,hcs⟩:=HS.out.resolve_left (by intro e;rw [e] at hlt;simp at hlt)
   have hmem:cs[k]∈cs:=List.getElem_mem hlt
   obtain ⟨cn,ht⟩:=hcs k _ (List.getElem?_eq_getElem hlt)
   obtain ⟨t0,t1,t2,t3,t4,t5,t6,t7,t8,t9,c0,c1,c2,c3,c4,c5,htv⟩:=ht.valE
   have dn:=(HBR.out.cell (p:=⟨cb,co+k*7,none⟩) hcb0).trans cn
   have d0:wr.cell? ⟨cb,co+k*7+1,none⟩=some _:=(HBR.out.cell (p:=⟨cb,co+k*7+1,none⟩) hcb0).trans c0
   have d1:wr.cell? ⟨cb,co+k*7+2,none⟩=some _:=(HBR.out.cell (p:=⟨cb,co+k*7+1+1,none⟩) hcb0).trans c1
   have d2:wr.cell? ⟨cb,co+k*7+3,none⟩=some _:=(HBR.out.cell (p:=⟨cb,co+k*7+1+2,none⟩) hcb0).trans c2
   have d3:wr.cell? ⟨cb,co+k*7+4,none⟩=some _:=(HBR.out.cell (p:=⟨cb,co+k*7+1+3,none⟩) hcb0).trans c3
   have d4:wr.cell? ⟨cb,co+k*7+5,none⟩=some _:=(HBR.out.cell (p:=⟨cb,co+k*7+1+4,none⟩) hcb0).trans c4
   have d5:wr.cell? ⟨cb,co+k*7+6,none⟩=some _:=(HBR.out.cell (p:=⟨cb,co+k*7+1+5,none⟩) hcb0).trans c5
   have hbl:cb<wr.heap.size:=Nat.lt_of_lt_of_le hcb0 HBR.out.size
   obtain ⟨h1,h2,h3,h4⟩:=HR.out _ hmem
   have HTK:Hid ((cs.take (k+1)).flatMap encC=(cs.take k).flatMap encC++encC cs[k]):=flatMap_take (List.getElem?_eq_getElem hlt)
   generalize cs[k]=kk at *
   obtain ⟨nm,tm⟩:=kk
   simp only at dn h1 h2 h3 h4 htv
   have HC:=ctor_any w0 wb (tot++(cs.take k).flatMap encC) nm tm t0 t1 t2 t3 t4 t5 t6 t7 t8 t9 (wr.alloc (.cells #[.string nm,.int .i64 t0,.int .i64 t1,.bool t2,.string t3,.slice t4 t5 t6,.slice t7 t8 t9] 45)) (HBR.out.alloc HBR.out.size _) (HWR.out.on ((Below.refl _ _).alloc (Nat.le_refl _) _)) htv ⟨h1,h2⟩ ⟨h3,h4⟩
   have HWA:Hid (Wrote wb wr (wr.alloc (.cells #[.string nm,.int .i64 t0,.int .i64 t1,.bool t2,.string t3,.slice t4 t5 t6,.slice t7 t8 t9] 45))):=Wrote.below ((Below.refl _ _).alloc (Nat.le_refl _) _) HWR.out.lt
   clear c0 c1 c2 c3 c4 c5 cn hmem htv hcb0 ht hcs h1 h2 h3 h4
   go_wp2_with fail
   refine HC.mono ?_
   rintro e w2 ⟨rfl,hW2,hw2⟩
   have HR2:Hid (WR w2 w0.heap.size wb (tot++(cs.take (k+1)).flatMap encC)∧Wrote wb w w2):=⟨by rw [HTK.out,←List.append_assoc];exact hW2,HWT.out.trans (HWA.out.trans hw2)⟩
   clear hW2 hw2 HC HWA
   go_wp2
   refine ⟨⟨k+1,hlt,by go_num,HR2.out.1,HR2.out.2⟩,by simp [intOf];omega⟩
  ·obtain rfl:k=cs.length:=by omega
   go_wp2
   go_end0
   exact ⟨rfl,by have:=HWR.out;rwa [List.take_length] at this,HWT.out⟩
def AnsB (B:Nat) (e:Ending) (w':World):Except Int (List UInt8)→Prop
 | .ok bs=>∃v,e=.returned (.tuple #[v,.int .i64 0])∧OY B w' v bs
 | .error c=>c≠0∧e=.returned (.tuple #[.slice none 0 0,.int .i64 c])
theorem written_any (B wb:Nat) (tot:List UInt8) (w:World) (hW:WR w B wb tot):Calls Tryz.prog 51 #[.pointer (some ⟨wb,0,none⟩)] w fun e w'=>AnsB B e w' (if 1000000<tot.length then .error 2 else .ok tot)∧w'=w:=by
 obtain ⟨hBw,out,tm,bs,hh,hO,hnb,hst⟩:=hW
 obtain ⟨x0,x1,-,-,x4⟩:=cells2 hh
 obtain ⟨oa,oc,rfl,hbl,hoc,hom,hon,hog⟩:=hO.shape
 have HO:=Hid.mk hO
 clear hh hO hnb hog hbl hon
 rcases hst with ⟨rfl,rfl,hl⟩ | ⟨rfl,hl,-⟩
 ·rw [if_neg (by omega)]
  go_enter Tryz.func51,Tryz.ntmps51
  go_wp2
  go_ret2
  exact ⟨⟨_,rfl,HO.out⟩,rfl⟩
 ·rw [if_pos hl]
  go_enter Tryz.func51,Tryz.ntmps51
  go_wp2
  go_ret2
  exact ⟨⟨by decide,rfl⟩,rfl⟩
theorem WR.new (w:World) (B:Nat) (hB:B≤w.heap.size):WR (w.alloc (.cells #[.slice none 0 0,.bool false] 98)) B w.heap.size [] :=
 ⟨hB,.slice none 0 0,false,[],alloc_new _ _,OY.nil _ _,by simp [Value.ownBlock],Or.inl ⟨rfl,rfl,by simp⟩⟩
structure WS (w0 W0:World) (wb:Nat) (tot:List UInt8) (w1:World):Prop where
 wr:WR w1 w0.heap.size wb tot
 wt:Wrote wb W0 w1
 below:RowKit.Below w0.heap.size w0 w1
theorem WS.next {w0 W0 w1 w2:World}{wb:Nat}{tot news:List UInt8}{e:Ending}(h:WS w0 W0 wb tot w1) (hp:WrPost w0.heap.size wb tot news w1 e w2):WS w0 W0 wb (tot++news) w2 :=
 ⟨hp.2.1,h.wt.trans hp.2.2,h.below.trans (hp.2.2.toBelow h.wr h.below.size)⟩
theorem decl_any (w0:World) (wb:Nat) (tot:List UInt8) (d:Dl) (v:Value) (w:World) (hb0:RowKit.Below w0.heap.size w0 w) (hW:WR w w0.heap.size wb tot) (hv:DV w0 v d) (hok:okD d):Calls Tryz.prog 67 #[.pointer (some ⟨wb,0,none⟩),v] w (WrPost w0.heap.size wb tot (encD d) w):=by
 obtain ⟨kd,nm,lv,ty,val,pr,cs⟩:=d
 obtain ⟨t0,t1,t2,t3,t4,t5,t6,t7,t8,t9,v0,v1,v2,v3,v4,v5,v6,v7,v8,v9,ca,cc,rfl,htt,htv,hck⟩:=hv.go
 obtain ⟨hk,hnm,hlv,hty,hval,hfam⟩:=hok
 simp only at htt htv hck hk hnm hlv hty hval hfam ⊢
 have hlw:=hW.lt
 obtain ⟨W0,hW0⟩:∃W0,w.alloc (.cells #[.int .i64 kd,.string nm,.int .i64 lv,.int .i64 t0,.int .i64 t1,.bool t2,.string t3,.slice t4 t5 t6,.slice t7 t8 t9,.int .i64 v0,.int .i64 v1,.bool v2,.string v3,.slice v4 v5 v6,.slice v7 v8 v9,.int .i64 pr,.slice ca cs.length cc] 39)=W0:=⟨_,rfl⟩
 have hb:RowKit.Below w.heap.size w W0:=by rw [←hW0];exact (Below.refl _ _).alloc (Nat.le_refl _) _
 have HBX:Hid (∀w',Wrote wb W0 w'→w'.heap[w.heap.size]?=some (.cells #[.int .i64 kd,.string nm,.int .i64 lv,.int .i64 t0,.int .i64 t1,.bool t2,.string t3,.slice t4 t5 t6,.slice t7 t8 t9,.int .i64 v0,.int .i64 v1,.bool v2,.string v3,.slice v4 v5 v6,.slice v7 v8 v9,.int .i64 pr,.slice ca cs.length cc] 39 (0,0))):=fun w' h=>h.box hW hb (by rw [←hW0];exact alloc_new _ _) (Nat.le_refl _)
 have HWA:Hid (Wrote wb w W0):=Wrote.below hb hlw
 have HS0:Hid (WS w0 W0 wb tot W0):=⟨hW.on hb,Wrote.refl _ _,hb0.trans (hb.mono hb0.size)⟩
 have HTT:=Hid.mk htt
 have HTV:=Hid.mk htv
 have HCK:=Hid.mk hck
 have HTY:=wterm_any w0 wb ty hty.1 hty.2
 have HFAM:=Hid.mk hfam
 have HVAL:=Hid.mk hval
 have HW0:=Hid.mk hW0
 have zk:((kd.toNat:Nat):Int)=kd:=by omega
 have zl:((lv.toNat:Nat):Int)=lv:=by omega
 obtain ⟨hn1,hn2⟩:=hnm
 have HZK:=Hid.mk zk
 have HZL:=Hid.mk zl
 clear hW hb0 hb htt htv hck hty hfam hval hv hW0
 have HC0:=number_any w0.heap.size wb tot kd.toNat W0 HS0.out.wr HS0.out.below.size (by omega)
 rw [zk] at HC0
 obtain ⟨q0,q1,q2,q3,q4,q5,q6,q7,q8,q9,q10,q11,q12,q13,q14,q15,q16,q17⟩:=cells17 (HBX.out W0 HS0.out.wt)
 clear zk zl
 go_enter Tryz.func67,Tryz.ntmps67
 go_wp2_with fail
 rw [HW0.out]
 refine HC0.mono ?_
 rintro e w1 hp0
 have HS1:=Hid.mk (HS0.out.next hp0)
 obtain ⟨rfl,-⟩:=hp0
 clear HC0 q0 q1 q2 q3 q4 q5 q6 q7 q8 q9 q10 q11 q12 q13 q14 q15 q16 q17
 have HC1:=name_any w0.heap.size wb _ nm w1 HS1.out.wr HS1.out.below.size hn1 (by omega)
 obtain ⟨q0,q1,q2,q3,q4,q5,q6,q7,q8,q9,q10,q11,q12,q13,q14,q15,q16,q17⟩:=cells17 (HBX.out w1 HS1.out.wt)
 go_wp2_with fail
 refine HC1.mono ?_
 rintro e w2 hp1
 have HS2:=Hid.mk (HS1.out.next hp1)
 obtain ⟨rfl,-⟩:=hp1
 clear HC1 q0 q1 q2 q3 q4 q5 q6 q7 q8 q9 q10 q11 q12 q13 q14 q15 q16 q17
 have HC2:=number_any w0.heap.size wb _ lv.toNat w2 HS2.out.wr HS2.out.below.size (by omega)
 rw [HZL.out] at HC2
 obtain ⟨q0,q1,q2,q3,q4,q5,q6,q7,q8,q9,q10,q11,q12,q13,q14,q15,q16,q17⟩:=cells17 (HBX.out w2 HS2.out.wt)
 go_wp2_with fail
 refine HC2.mono ?_
 rintro e w3 hp2
 have HS3:=Hid.mk (HS2.out.next hp2)
 obtain ⟨rfl,-⟩:=hp2
 clear HC2 q0 q1 q2 q3 q4 q5 q6 q7 q8 q9 q10 q11 q12 q13 q14 q15 q16 q17
 have HC3:=HTY _ _ w3 HTT.out HS3.out.below HS3.out.wr
 obtain ⟨q0,q1,q2,q3,q4,q5,q6,q7,q8,q9,q10,q11,q12,q13,q14,q15,q16,q17⟩:=cells17 (HBX.out w3 HS3.out.wt)
 go_wp2_with fail
 refine HC3.mono ?_
 rintro e w4 hp3
 have HS4:=Hid.mk (HS3.out.next hp3)
 obtain ⟨rfl,-⟩:=hp3
 clear HC3 q0 q1 q2 q3 q4 q5 q6 q7 q8 q9 q10 q11 q12 q13 q14 q15 q16 q17
 obtain ⟨q0,q1,q2,q3,q4,q5,q6,q7,q8,q9,q10,q11,q12,q13,q14,q15,q16,q17⟩:=cells17 (HBX.out w4 HS4.out.wt)
 by_cases h2:kd=2
 ·subst h2
  obtain ⟨h3,h4⟩:=HVAL.out rfl
  have HC4:=wterm_any w0 wb val h3 h4 _ _ w4 HTV.out HS4.out.below HS4.out.wr
  clear h3 h4
  go_wp2_with fail
  refine HC4.mono ?_
  rintro e w5 hp4
  have HS5:=Hid.mk (HS4.out.next hp4)
  obtain ⟨rfl,-⟩:=hp4
  clear HC4
  go_wp2
  go_end0
  refine ⟨rfl,?_,HWA.out.trans HS5.out.wt⟩
  have:=HS5.out.wr
  simpa [encD,encF] using this
 ·by_cases h3:kd=3
  ·subst h3
   obtain ⟨hp0,hp1,hcl,hcs⟩:=HFAM.out rfl
   have HCS:=Hid.mk hcs
   have HC4:=number_any w0.heap.size wb _ pr.toNat w4 HS4.out.wr HS4.out.below.size (by omega)
   rw [show ((pr.toNat:Nat):Int)=pr by omega] at HC4
   clear hcs
   go_wp2_with fail
   refine HC4.mono ?_
   rintro e w5 hp4
   have HS5:=Hid.mk (HS4.out.next hp4)
   obtain ⟨rfl,-⟩:=hp4
   clear HC4 q0 q1 q2 q3 q4 q5 q6 q7 q8 q9 q10 q11 q12 q13 q14 q15 q16 q17
   obtain ⟨q0,q1,q2,q3,q4,q5,q6,q7,q8,q9,q10,q11,q12,q13,q14,q15,q16,q17⟩:=cells17 (HBX.out w5 HS5.out.wt)
   have HC5:=number_any w0.heap.size wb _ cs.length w5 HS5.out.wr HS5.out.below.size (by omega)
   go_wp2_with fail
   refine HC5.mono ?_
   rintro e w6 hp5
   have HS6:=Hid.mk (HS5.out.next hp5)
   obtain ⟨rfl,-⟩:=hp5
   clear HC5 q0 q1 q2 q3 q4 q5 q6 q7 q8 q9 q10 q11 q12 q13 q14 q15 q16 q17
   obtain ⟨q0,q1,q2,q3,q4,q5,q6,q7,q8,q9,q10,q11,q12,q13,q14,q15,q16,q17⟩:=cells17 (HBX.out w6 HS6.out.wt)
   have HC6:=eachC_any w0 wb _ cs ca cc w6 HS6.out.below HS6.out.wr HCK.out (by omega) HCS.out
   go_wp2_with fail
   refine HC6.mono ?_
   rintro e w7 hp6
   have HS7:=Hid.mk (HS6.out.next hp6)
   obtain ⟨rfl,-⟩:=hp6
   clear HC6 q0 q1 q2 q3 q4 q5 q6 q7 q8 q9 q10 q11 q12 q13 q14 q15 q16 q17
   go_wp2
   go_end0
   refine ⟨rfl,?_,HWA.out.trans HS7.out.wt⟩
   have:=HS7.out.wr
   simpa [encD,encF] using this
  ·go_wp2
   go_end0
   refine ⟨rfl,?_,HWA.out.trans HS4.out.wt⟩
   have:=HS4.out.wr
   simpa [encD,encF,h2,h3] using this
theorem wpList_store_new {P:Program}{ops:Array Oper}{rest:List Oper}{op:Oper}{a:Act}{w:World}{Q:Exit→Act→World→Prop}(hgd:op.guard=none) (ty:TypeId) (x y:Operand) (ho:op.op=.store ty x y) {c c':Array Value}(hx:a.eval x=.pointer (some ⟨w.heap.size,0,none⟩)) (hy:a.eval y=.agg c')
  (hi:(P.info? ty).map (·.size)=some c'.size) (hs:c.size=c'.size) (h1:c'.all (·.oneCell')=true)
  (h:wpList P ops Q rest (a.put op.dst undef) (w.alloc (.cells c' ty))):wpList P ops Q (op::rest) a (w.alloc (.cells c ty)) :=
 wpList_plain hgd fun _ hK=>by
  unfold Oper.wp execOp
  simp only [ho,hx,hy,Sem.run_bind,Sem.run_pure,run_storeAt_new w ty c c' hi hs h1,Result.andThen_ok]
  exact hK _ _ h
theorem eachD_any (w0:World) (wb:Nat) (tot:List UInt8) (ds:List Dl) (a:Option Addr) (cap:Nat) (w:World) (hb0:RowKit.Below w0.heap.size w0 w) (hW:WR w w0.heap.size wb tot) (hS:DL w0 a ds) (hn:ds.length≤1000000) (hr:∀d∈ds,okD d):Calls Tryz.prog 66 #[.slice a ds.length cap,.func (.func 67) #[.pointer (some ⟨wb,0,none⟩)] #[]] w (WrPost w0.heap.size wb tot (ds.flatMap encD) w):=by
 have HB0:=Hid.mk hb0
 have HW:=Hid.mk hW
 have HS:=Hid.mk hS
 have HR:=Hid.mk hr
 clear hb0 hW hS hr
 go_enter Tryz.func66,Tryz.ntmps66
 go_wp2
 go_loopw [8] (fun i wr=>∃k:Nat,k≤ds.length∧i=.int .i64 k∧WR wr w0.heap.size wb (tot++(ds.take k).flatMap encD)∧Wrote wb w wr) (fun i _=>ds.length - (intOf i).toNat)
 case atStart=>exact ⟨0,Nat.zero_le _,rfl,by simpa using HW.out,Wrote.refl _ _⟩
 case round =>
  obtain ⟨k,hk,rfl,hWr,hwr⟩:=hrel
  have HWR:=Hid.mk hWr
  have HWT:=Hid.mk hwr
  have HBR:Hid (RowKit.Below w0.heap.size w0 wr):=HB0.out.trans (hwr.toBelow HW.out HB0.out.size)
  clear hWr hwr
  by_cases hlt:k<ds.length
  ·obtain ⟨cb,co,rfl,hcb0,hcs⟩:=HS.out.resolve_left (by intro e;rw [e] at hlt;simp at hlt)
   have hok:=HR.out _ (List.getElem_mem hlt)
   have hdc:=(hcs k _ (List.getElem?_eq_getElem hlt)).on HBR.out hcb0
   have hd0:=hcs k _ (List.getElem?_eq_getElem hlt)
   have hbl:cb<wr.heap.size:=Nat.lt_of_lt_of_le hcb0 HBR.out.size
   have HTK:Hid ((ds.take (k+1)).flatMap encD=(ds.take k).flatMap encD++encD ds[k]):=flatMap_take (List.getElem?_eq_getElem hlt)
   generalize ds[k]=kk at *
   obtain ⟨vs,hvl,hrg,hone,hdv⟩:=hd0.go
   have hrw:wr.rangeAt cb (co+k*17) vs:=fun j v hj=>(HBR.out.cell (p:=⟨cb,co+k*17+j,none⟩) hcb0).trans (hrg j v hj)
   have HRG:=Hid.mk hrw
   have HRB:Hid ((wr.alloc (.cells vs.toArray 39)).rangeAt wr.heap.size 0 vs):=fun j v hj=>by rw [cell_of_row _ wr.heap.size (0+j) _ _ _ (alloc_new wr _),Nat.zero_add];simpa using hj
   have HSZ:Hid ((Tryz.prog.info? 39).map (·.size)=some vs.length):=by unfold Hid;rw [hvl];kernel_rfl
   have HSA:Hid ((Tryz.prog.info? 39).map (·.size)=some vs.toArray.size):=by unfold Hid;rw [List.size_toArray,hvl];kernel_rfl
   have HONE:Hid (vs.toArray.all (·.oneCell')=true):=all_oneCell_toArray hone
   have HS17:Hid (17=vs.toArray.size):=by unfold Hid;rw [List.size_toArray,hvl]
   have HC:=decl_any w0 wb (tot++(ds.take k).flatMap encD) kk _ (wr.alloc (.cells vs.toArray 39)) (HBR.out.alloc HBR.out.size _) (HWR.out.on ((Below.refl _ _).alloc (Nat.le_refl _) _)) hdv hok
   have HWA:Hid (Wrote wb wr (wr.alloc (.cells vs.toArray 39))):=Wrote.below ((Below.refl _ _).alloc (Nat.le_refl _) _) HWR.out.lt
   clear hdv hdc hd0 hcs hok hrg hrw hone hvl
   generalize encD kk=EN at *
   go_wp2_with (first | (refine wpList_load_mid rfl 39 _ rfl cb (co+k*17) rfl vs _ HRG.out Tryz.underlying39 rfl HSZ.out ?_) | (refine wpList_load_mid rfl 39 _ rfl wr.heap.size 0 rfl vs _ HRB.out Tryz.underlying39 rfl HSZ.out ?_) | (refine wpList_store_new rfl 39 _ _ rfl rfl rfl HSA.out (by exact HS17.out) HONE.out ?_))
   refine HC.mono ?_
   rintro e w2 ⟨rfl,hW2,hw2⟩
   have HR2:Hid (WR w2 w0.heap.size wb (tot++(ds.take (k+1)).flatMap encD)∧Wrote wb w w2):=⟨by rw [HTK.out,←List.append_assoc];exact hW2,HWT.out.trans (HWA.out.trans hw2)⟩
   clear hW2 hw2 HC HWA
   go_wp2
   refine ⟨⟨k+1,hlt,by go_num,HR2.out.1,HR2.out.2⟩,by simp [intOf];omega⟩
  ·obtain rfl:k=ds.length:=by omega
   go_wp2
   go_end0
   exact ⟨rfl,by have:=HWR.out;rwa [List.take_length] at this,HWT.out⟩
theorem decls_any (w0:World) (wb:Nat) (tot:List UInt8) (ds:List Dl) (a:Option Addr) (cap:Nat) (w:World) (hb0:RowKit.Below w0.heap.size w0 w) (hW:WR w w0.heap.size wb tot) (hS:DL w0 a ds) (hn:ds.length≤1000000) (hr:∀d∈ds,okD d):Calls Tryz.prog 50 #[.pointer (some ⟨wb,0,none⟩),.slice a ds.length cap] w (WrPost w0.heap.size wb tot (encDs ds) w):=by
 have HS0:Hid (WS w0 w wb tot w):=⟨hW,Wrote.refl _ _,hb0⟩
 have HC0:=number_any w0.heap.size wb tot ds.length w hW hb0.size (by omega)
 have HEA:=fun (W:World) (tt:List UInt8) (h:WS w0 w wb tt W)=>eachD_any w0 wb tt ds a cap W h.below h.wr hS hn hr
 clear hb0 hW hS hr
 go_enter Tryz.func50,Tryz.ntmps50
 go_wp2_with fail
 refine HC0.mono ?_
 rintro e w1 hp0
 have HS1:=Hid.mk (HS0.out.next hp0)
 obtain ⟨rfl,-⟩:=hp0
 have HC1:=HEA w1 _ HS1.out
 clear HC0 HEA
 go_wp2_with fail
 refine HC1.mono ?_
 rintro e w2 hp1
 have HS2:=Hid.mk (HS1.out.next hp1)
 obtain ⟨rfl,-⟩:=hp1
 clear HC1
 go_wp2
 go_end0
 refine ⟨rfl,?_,HS2.out.wt⟩
 have:=HS2.out.wr
 simpa [encDs] using this
def judgDs:List Dl→Int
 | []=>0
 | d::ds=>if judgD d=0 then judgDs ds else judgD d
def declsRes (ds:List Dl):Except Int (List UInt8):=if 500<ds.length then .error 2 else if judgDs ds≠0 then .error (judgDs ds) else if 1000000<(encDs ds).length then .error 2 else .ok (encDs ds)
theorem judgC_ok {cs:List (ByteArray×Tm)}(h:judgC cs=0):∀c∈cs,namedB c.1=true∧checkT c.2=0:=by
 induction cs with
 | nil=>intro c hc;cases hc
 | cons x xs ih =>
  unfold judgC at h
  cases hn:namedB x.1
  ·rw [if_pos hn] at h;exact absurd h (by decide)
  ·rw [if_neg (by simp [hn])] at h
   by_cases hc:checkT x.2=0
   ·rw [if_pos hc] at h
    intro c hm
    rcases List.mem_cons.1 hm with rfl | hm
    ·exact ⟨hn,hc⟩
    ·exact ih h c hm
   ·rw [if_neg hc] at h;exact absurd h hc
theorem judgD_ok {d:Dl}(hsm:smD d) (h:judgD d=0):okD d:=by
 unfold judgD at h
 by_cases h1:d.kind<1∨3<d.kind∨namedB d.name=false
 ·rw [if_pos h1] at h;exact absurd h (by decide)
 rw [if_neg h1] at h
 by_cases h2:d.levels<0∨8<d.levels
 ·rw [if_pos h2] at h;exact absurd h (by decide)
 rw [if_neg h2] at h
 by_cases h3:checkT d.ty≠0
 ·rw [if_pos h3] at h;exact absurd h h3
 rw [if_neg h3] at h
 have hn:namedB d.name=true:=by
  cases hx:namedB d.name
  ·exact absurd (Or.inr (Or.inr hx)) h1
  ·rfl
 refine ⟨by omega,namedB_size hn,by omega,⟨hsm.ty,(check_ok (Decidable.not_not.1 h3)).2.2⟩,?_,?_⟩
 ·intro hk
  rw [if_pos hk] at h
  exact ⟨hsm.val,(check_ok h).2.2⟩
 ·intro hk
  rw [if_neg (by omega),if_pos hk] at h
  unfold judgF at h
  by_cases h4:d.params<0∨60<d.params∨40<d.ctors.length
  ·rw [if_pos h4] at h;exact absurd h (by decide)
  rw [if_neg h4] at h
  refine ⟨by omega,by omega,by omega,?_⟩
  intro c hc
  obtain ⟨hcn,hcc⟩:=judgC_ok h c hc
  exact ⟨(namedB_size hcn).1,(namedB_size hcn).2,(hsm.ctors c hc).2,(check_ok hcc).2.2⟩
theorem judgDs_ok {ds:List Dl}(hsm:∀d∈ds,smD d) (h:judgDs ds=0):∀d∈ds,okD d:=by
 induction ds with
 | nil=>intro c hc;cases hc
 | cons x xs ih =>
  unfold judgDs at h
  by_cases hc:judgD x=0
  ·rw [if_pos hc] at h
   intro c hm
   rcases List.mem_cons.1 hm with rfl | hm
   ·exact judgD_ok (hsm _ (List.mem_cons_self ..)) hc
   ·exact ih (fun d hd=>hsm d (List.mem_cons_of_mem _ hd)) h c hm
  ·rw [if_neg hc] at h;exact absurd h hc
theorem Decls_any (ds:List Dl) (a:Option Addr) (cap:Nat) (w:World) (hS:DL w a ds) (hn:ds.length≤1000000) (hsm:∀d∈ds,smD d):Calls Tryz.prog 33 #[.slice a ds.length cap] w fun e w'=>AnsB w.heap.size e w' (declsRes ds)∧RowKit.Below w.heap.size w w':=by
 have HWD:=fun (W:World) (wb:Nat) (hb:RowKit.Below w.heap.size w W) (hw:WR W w.heap.size wb []) (h:judgDs ds=0)=>decls_any w wb [] ds a cap W hb hw hS hn (judgDs_ok hsm h)
 have HR:Hid (declsRes ds=if 500<ds.length then .error 2 else if judgDs ds≠0 then .error (judgDs ds) else if 1000000<(encDs ds).length then .error 2 else .ok (encDs ds)):=rfl
 generalize declsRes ds=R at HR ⊢
 have HJ:Hid (∃J,judgDs ds=J):=⟨_,rfl⟩
 obtain ⟨J,hJ⟩:=HJ.out
 rw [hJ] at HR HWD
 have HJ1:=Hid.mk hJ
 have HS:=Hid.mk hS
 have HSM:=Hid.mk hsm
 clear hS hsm hJ HJ
 generalize encDs ds=EN at *
 go_enter Tryz.func33,Tryz.ntmps33
 by_cases hl:(500:Int)<(ds.length:Int)
 ·go_wp2
  go_ret2
  rw [HR.out,if_pos (by omega)]
  exact ⟨⟨by decide,rfl⟩,Below.refl _ _⟩
 have hl2:¬500<ds.length:=by omega
 have HR2:Hid (R=if J≠0 then .error J else if 1000000<EN.length then .error 2 else .ok EN):=by unfold Hid;rw [HR.out,if_neg hl2]
 clear hl2 HR
 go_wp2
 go_loopw [13] (fun i wr=>∃k:Nat,k≤ds.length∧i=.int .i64 k∧RowKit.Below w.heap.size w wr∧judgDs (ds.drop k)=J) (fun i _=>ds.length - (intOf i).toNat)
 case atStart=>exact ⟨0,Nat.zero_le _,rfl,Below.refl _ _,by rw [List.drop_zero];exact HJ1.out⟩
 case round =>
  obtain ⟨k,hk,rfl,hbr,hjd⟩:=hrel
  have HBR:=Hid.mk hbr
  have HJD:=Hid.mk hjd
  clear hbr hjd
  by_cases hlt:k<ds.length
  ·obtain ⟨cb,co,rfl,hcb0,hcs⟩:=HS.out.resolve_left (by intro e;rw [e] at hlt;simp at hlt)
   have hsk:=HSM.out _ (List.getElem_mem hlt)
   have hd0:=hcs k _ (List.getElem?_eq_getElem hlt)
   have hbl:cb<wr.heap.size:=Nat.lt_of_lt_of_le hcb0 HBR.out.size
   have hjs:=HJD.out
   rw [List.drop_eq_getElem_cons hlt] at hjs
   generalize ds[k]=kk at *
   have HJS:Hid ((if judgD kk=0 then judgDs (ds.drop (k+1)) else judgD kk)=J):=hjs
   obtain ⟨vs,hvl,hrg,hone,hdv⟩:=hd0.go
   have hrw:wr.rangeAt cb (co+k*17) vs:=fun j v hj=>(HBR.out.cell (p:=⟨cb,co+k*17+j,none⟩) hcb0).trans (hrg j v hj)
   have HRG:=Hid.mk hrw
   have HRB:Hid ((wr.alloc (.cells vs.toArray 39)).rangeAt wr.heap.size 0 vs):=fun j v hj=>by rw [cell_of_row _ wr.heap.size (0+j) _ _ _ (alloc_new wr _),Nat.zero_add];simpa using hj
   have HSZ:Hid ((Tryz.prog.info? 39).map (·.size)=some vs.length):=by unfold Hid;rw [hvl];kernel_rfl
   have HSA:Hid ((Tryz.prog.info? 39).map (·.size)=some vs.toArray.size):=by unfold Hid;rw [List.size_toArray,hvl];kernel_rfl
   have HONE:Hid (vs.toArray.all (·.oneCell')=true):=all_oneCell_toArray hone
   have HS17:Hid (17=vs.toArray.size):=by unfold Hid;rw [List.size_toArray,hvl]
   have hba:RowKit.Below w.heap.size w (wr.alloc (.cells vs.toArray 39)):=HBR.out.alloc HBR.out.size _
   have HBA:=Hid.mk hba
   have HC:=judged_any kk _ (wr.alloc (.cells vs.toArray 39)) (hdv.on hba) hsk
   clear hdv hd0 hcs hsk hrg hrw hone hvl hjs hba
   generalize judgD kk=JK at *
   have zk:(k:Int)<(ds.length:Int):=by omega
   go_wp2_with (first | (refine wpList_load_mid rfl 39 _ rfl cb (co+k*17) rfl vs _ HRG.out Tryz.underlying39 rfl HSZ.out ?_) | (refine wpList_load_mid rfl 39 _ rfl wr.heap.size 0 rfl vs _ HRB.out Tryz.underlying39 rfl HSZ.out ?_) | (refine wpList_store_new rfl 39 _ _ rfl rfl rfl HSA.out (by exact HS17.out) HONE.out ?_))
   refine HC.mono ?_
   rintro e w2 ⟨rfl,hb2⟩
   have HB2:Hid (RowKit.Below w.heap.size w w2):=HBA.out.trans (hb2.mono HBA.out.size)
   clear hb2 HC HRG HRB HSZ HSA HONE HS17
   by_cases hc:JK=0
   ·subst hc
    go_wp2
    exact ⟨⟨k+1,hlt,by go_num,HB2.out,by have:=HJS.out;simpa using this⟩,by simp [intOf];omega⟩
   ·have hc':(JK != 0)=true:=by simpa using hc
    have HRE:Hid (R=.error JK∧JK≠0):=by
     have hJJ:J=JK:=by have:=HJS.out;rw [if_neg hc] at this;exact this.symm
     refine ⟨?_,hc⟩
     rw [HR2.out,hJJ,if_pos hc]
    go_wp2
    go_ret2
    rw [HRE.out.1]
    exact ⟨⟨HRE.out.2,rfl⟩,HB2.out⟩
  ·have hJ0:J=0:=by have:=HJD.out;rw [List.drop_of_length_le (by omega)] at this;exact this.symm
   have HRE:Hid (R=if 1000000<EN.length then .error 2 else .ok EN):=by unfold Hid;rw [HR2.out,hJ0,if_neg (by simp)]
   obtain ⟨W2,hW2⟩:∃W2,wr.alloc (.cells #[.slice none 0 0,.bool false] 98)=W2:=⟨_,rfl⟩
   have HB2:Hid (RowKit.Below w.heap.size w W2):=by unfold Hid;rw [←hW2];exact HBR.out.alloc HBR.out.size _
   have HWR2:Hid (WR W2 w.heap.size wr.heap.size []):=by unfold Hid;rw [←hW2];exact WR.new wr _ HBR.out.size
   have HCT:=HWD W2 wr.heap.size HB2.out HWR2.out hJ0
   have HW2:=Hid.mk hW2
   clear hW2 hJ0 HWD HR2 HJD HJ1 HS HSM
   go_wp2_with fail
   rw [HW2.out]
   refine HCT.mono ?_
   rintro e w3 ⟨rfl,hW3,hw3⟩
   have HB3:Hid (RowKit.Below w.heap.size w w3):=HB2.out.trans (hw3.toBelow HWR2.out HB2.out.size)
   have HCW:=written_any w.heap.size wr.heap.size _ w3 hW3
   rw [List.nil_append,←HRE.out] at HCW
   clear hW3 hw3 HCT HRE
   go_wp2_with fail
   refine HCW.mono ?_
   rintro e w4 ⟨hans,hw4⟩
   have hw4':=hw4.symm
   subst hw4'
   clear HCW
   cases R with
   | ok bs =>
    obtain ⟨vb,rfl,hO⟩:=hans
    have HO:=Hid.mk hO
    clear hO
    go_wp2
    go_ret2
    exact ⟨⟨_,rfl,HO.out⟩,HB3.out⟩
   | error c =>
    obtain ⟨hc0,rfl⟩:=hans
    go_wp2
    go_ret2
    exact ⟨⟨hc0,rfl⟩,HB3.out⟩
end Go.Proofs.YtgfgpjcnfnopnaaGreat
