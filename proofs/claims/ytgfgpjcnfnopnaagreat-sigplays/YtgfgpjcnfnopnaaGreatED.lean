/- The contract of the writer of package bytes: term. -/
import Derived.Test.YtgfgpjcnfnopnaaGreatEC
namespace Go.Proofs.YtgfgpjcnfnopnaaGreat
set_option maxRecDepth 100000
set_option maxHeartbeats 40000000
open Go.RowKit Go.Sort
def fieldB (f n:Int) (h:Bool) (nm:ByteArray) (ls:List LvT):List UInt8:=if f=1∨f=11 then numB n.toNat else if f=3∨f=4∨f=5 then [if h then 1 else 0] else if f=10 then nameB nm++(numB ls.length++ls.flatMap levB) else if f=2 then ls.flatMap levB else []
mutual
def encT:Tm→List UInt8
 | .mk f n h nm ls ks=>numB f.toNat++(fieldB f n h nm ls++encTs ks)
def encTs:List Tm→List UInt8
 | []=>[]
 | k::ks=>encT k++encTs ks
end
theorem encTs_flat:∀ks:List Tm,encTs ks=ks.flatMap encT
 | []=>by rw [encTs];rfl
 | k::ks=>by rw [encTs,encTs_flat ks];rfl
theorem encT_mk (f n:Int) (h:Bool) (nm:ByteArray) (ls:List LvT) (ks:List Tm):encT (.mk f n h nm ls ks)=numB f.toNat++(fieldB f n h nm ls++ks.flatMap encT):=by rw [encT,encTs_flat]
theorem canon_rightL {l:LvT}(h:canonB l=true):rightL l:=by
 unfold canonB at h
 rw [Bool.and_eq_true] at h
 have h1:=h.1
 unfold normR at h1
 by_cases hr:rightB l.1 l.2=true
 ·have hn:=right_n hr
  refine ⟨hn.1,hn.2.1,hn.2.2,fun p hp=>?_⟩
  unfold rightB at hr
  simp only [Bool.and_eq_true,List.all_eq_true,decide_eq_true_eq] at hr
  have:=hr.2 p hp
  simp only [inR,Bool.and_eq_true,decide_eq_true_eq] at this
  exact ⟨this.1.1,this.1.2,this.2.1,this.2.2⟩
 ·rw [if_neg hr] at h1
  simp at h1
theorem formed_part {f n:Int}{h:Bool}{nm:ByteArray}{ls:List LvT}{ks:List Tm}(hf:formedB (.mk f n h nm ls ks)=true):(ks.length:Int)=kidsR f∧(f=1∨f=11→0≤n∧n≤1073741824)∧(f=2→∃l,ls=[l]∧canonB l=true)∧(f=10→0<nm.size∧nm.size≤60∧∀l∈ls,canonB l=true)∧∀k∈ks,formedB k=true:=by
 rw [formedB_mk,Bool.and_eq_true,List.all_eq_true] at hf
 obtain ⟨h1,h2⟩:=hf
 unfold judB at h1
 rw [Bool.and_eq_true,decide_eq_true_eq] at h1
 refine ⟨h1.1,fun hx=>?_,fun hx=>?_,fun hx=>?_,h2⟩
 ·have:=h1.2
  simp only [fieldsB,if_pos hx,Bool.and_eq_true,decide_eq_true_eq] at this
  exact this
 ·subst hx
  have:=h1.2
  simp only [fieldsB] at this
  simp at this
  match ls,this with
  | [l],h=>exact ⟨l,rfl,h⟩
 ·subst hx
  have:=h1.2
  simp only [fieldsB] at this
  simp at this
  refine ⟨?_,this.1.2,fun l hl=>this.2 _ _ hl⟩
  rcases Nat.eq_zero_or_pos nm.size with hz | hz
  ·exfalso
   apply this.1.1
   have h0:nm.data=#[]:=Array.eq_empty_of_size_eq_zero hz
   cases nm with
   | mk d=>simp only at h0;subst h0;rw [ByteArray.toList,ByteArray.toList.loop];rfl
  ·exact hz
def WTerm (w0:World) (wb:Nat) (t:Tm):Prop:=∀(v:Value) (tot:List UInt8) (w:World),TV w0 v t→RowKit.Below w0.heap.size w0 w→WR w w0.heap.size wb tot→Calls Tryz.prog 83 #[.pointer (some ⟨wb,0,none⟩),v] w (WrPost w0.heap.size wb tot (encT t) w)
theorem eachT_any (w0:World) (wb:Nat) (tot:List UInt8) (ks:List Tm) (ka:Option Addr) (kc kb ko:Nat) (w:World) (hb0:RowKit.Below w0.heap.size w0 w) (hW:WR w w0.heap.size wb tot) (hk:ks≠[]→ka=some ⟨kb,ko,none⟩∧kb<w0.heap.size) (kids:∀i t,ks[i]?=some t→TC w0 kb (ko+i*6) t) (hn:ks.length≤1000000) (hr:∀k∈ks,WTerm w0 wb k):Calls Tryz.prog 96 #[.slice ka ks.length kc,.func (.func 83) #[.pointer (some ⟨wb,0,none⟩)] #[]] w (WrPost w0.heap.size wb tot (ks.flatMap encT) w):=by
 have HB0:=Hid.mk hb0
 have HW:=Hid.mk hW
 have HK:=Hid.mk hk
 have HKIDS:=Hid.mk kids
 have HR:=Hid.mk hr
 clear hb0 hW hk kids hr
 go_enter Tryz.func96,Tryz.ntmps96
 go_wp2
 go_loopw [8] (fun i wr=>∃k:Nat,k≤ks.length∧i=.int .i64 k∧WR wr w0.heap.size wb (tot++(ks.take k).flatMap encT)∧Wrote wb w wr) (fun i _=>ks.length - (intOf i).toNat)
 case atStart=>exact ⟨0,Nat.zero_le _,rfl,by simpa using HW.out,Wrote.refl _ _⟩
 case round =>
  obtain ⟨k,hk,rfl,hWr,hwr⟩:=hrel
  have HWR:=Hid.mk hWr
  have HWT:=Hid.mk hwr
  have HBR:Hid (RowKit.Below w0.heap.size w0 wr):=HB0.out.trans (hwr.toBelow HW.out HB0.out.size)
  clear hWr hwr
  by_cases hlt:k<ks.length
  ·obtain ⟨rfl,hkb0⟩:=HK.out (by intro e;rw [e] at hlt;simp at hlt)
   have hmem:ks[k]∈ks:=List.getElem_mem hlt
   obtain ⟨v0,v1,v2,v3,l1,l2,l3,k1,k2,k3,c0,c1,c2,c3,c4,c5,htv⟩:=(HKIDS.out k _ (List.getElem?_eq_getElem hlt)).valE
   have d0:=(HBR.out.cell (p:=⟨kb,ko+k*6,none⟩) hkb0).trans c0
   have d1:=(HBR.out.cell (p:=⟨kb,ko+k*6+1,none⟩) hkb0).trans c1
   have d2:=(HBR.out.cell (p:=⟨kb,ko+k*6+2,none⟩) hkb0).trans c2
   have d3:=(HBR.out.cell (p:=⟨kb,ko+k*6+3,none⟩) hkb0).trans c3
   have d4:=(HBR.out.cell (p:=⟨kb,ko+k*6+4,none⟩) hkb0).trans c4
   have d5:=(HBR.out.cell (p:=⟨kb,ko+k*6+5,none⟩) hkb0).trans c5
   have hbl:kb<wr.heap.size:=Nat.lt_of_lt_of_le hkb0 HBR.out.size
   have HC:=HR.out _ hmem _ (tot++(ks.take k).flatMap encT) (wr.alloc (.cells #[.int .i64 v0,.int .i64 v1,.bool v2,.string v3,.slice l1 l2 l3,.slice k1 k2 k3] 36)) htv (HBR.out.alloc HBR.out.size _) (HWR.out.on ((Below.refl _ _).alloc (Nat.le_refl _) _))
   have HWA:Hid (Wrote wb wr (wr.alloc (.cells #[.int .i64 v0,.int .i64 v1,.bool v2,.string v3,.slice l1 l2 l3,.slice k1 k2 k3] 36))):=Wrote.below ((Below.refl _ _).alloc (Nat.le_refl _) _) HWR.out.lt
   have HTK:Hid ((ks.take (k+1)).flatMap encT=(ks.take k).flatMap encT++encT ks[k]):=flatMap_take (List.getElem?_eq_getElem hlt)
   clear c0 c1 c2 c3 c4 c5 hmem htv hkb0
   generalize ks[k]=kk at *
   go_wp2_with fail
   refine HC.mono ?_
   rintro e w2 ⟨rfl,hW2,hw2⟩
   have HR2:Hid (WR w2 w0.heap.size wb (tot++(ks.take (k+1)).flatMap encT)∧Wrote wb w w2):=⟨by rw [HTK.out,←List.append_assoc];exact hW2,HWT.out.trans (HWA.out.trans hw2)⟩
   clear hW2 hw2 HC HWA
   go_wp2
   refine ⟨⟨k+1,hlt,by go_num,HR2.out.1,HR2.out.2⟩,by simp [intOf];omega⟩
  ·obtain rfl:k=ks.length:=by omega
   go_wp2
   go_end0
   exact ⟨rfl,by have:=HWR.out;rwa [List.take_length] at this,HWT.out⟩
theorem wterm1 (w0:World) (wb:Nat) (n:Int) (hd:Bool) (nm:ByteArray) (ls:List LvT) (ks:List Tm) (hf:formedB (.mk 1 n hd nm ls ks)=true) (_hls:ls.length≤1000000) (ih:∀k∈ks,WTerm w0 wb k):WTerm w0 wb (.mk 1 n hd nm ls ks):=by
 intro v tot w hv hb0 hW
 obtain ⟨hkn0,p1,p2,p10,-⟩:=formed_part hf
 have h3:kidsR 1≤3:=by decide
 have hkn:ks.length≤3:=by omega
 clear h3
 clear hkn0 hf
 have HP1:=Hid.mk p1
 have HP2:=Hid.mk p2
 have HP10:=Hid.mk p10
 have HIH:=Hid.mk ih
 clear p1 p2 p10 ih
 have HENC:=Hid.mk (encT_mk 1 n hd nm ls ks)
 generalize encT (.mk 1 n hd nm ls ks)=ENC at HENC ⊢
 cases hv with
 | @mk _ _ _ _ _ _ la lc ka kc kb ko hl hln hlc hlm hkn' hkc hkm hk kids =>
 have HK:=Hid.mk hk
 have HKIDS:=Hid.mk kids
 have HL:=Hid.mk hl
 clear hk kids hl hln hlc hlm hkn' hkc hkm
 have hlw:=hW.lt
 obtain ⟨W0,hW0⟩:∃W0,w.alloc (.cells #[.int .i64 1,.int .i64 n,.bool hd,.string nm,.slice la ls.length lc,.slice ka ks.length kc] 36)=W0:=⟨_,rfl⟩
 have hb:RowKit.Below w.heap.size w W0:=by rw [←hW0];exact (Below.refl _ _).alloc (Nat.le_refl _) _
 have HBX:Hid (∀w',Wrote wb W0 w'→w'.heap[w.heap.size]?=some (.cells #[.int .i64 1,.int .i64 n,.bool hd,.string nm,.slice la ls.length lc,.slice ka ks.length kc] 36 (0,0))):=fun w' h=>h.box hW hb (by rw [←hW0];exact alloc_new _ _) (Nat.le_refl _)
 have HWA:Hid (Wrote wb w W0):=Wrote.below hb hlw
 have hsz:=hb0.size
 have HWR0:Hid (WR W0 w0.heap.size wb tot):=hW.on hb
 have HB0:Hid (RowKit.Below w0.heap.size w0 W0):=hb0.trans (hb.mono hsz)
 have HC:=number_any w0.heap.size wb tot 1 W0 HWR0.out HB0.out.size (by omega)
 have HW0:=Hid.mk hW0
 obtain ⟨x0,x1,x2,x3,x4,x5,x6⟩:=cells6 (HBX.out W0 (Wrote.refl _ _))
 clear hW hb0 hb hW0
 go_enter Tryz.func83,Tryz.ntmps83
 go_wp2_with fail
 rw [HW0.out]
 refine HC.mono ?_
 rintro e w1 ⟨rfl,hWn,hwn⟩
 have HB1:Hid (RowKit.Below w0.heap.size w0 w1):=HB0.out.trans (hwn.toBelow HWR0.out HB0.out.size)
 have HWT1:=Hid.mk hwn
 have HWR1:=Hid.mk hWn
 clear hWn hwn HC x0 x1 x2 x3 x4 x5 x6
 obtain ⟨hn0,hn1⟩:=HP1.out (by decide)
 have HC1:=number_any w0.heap.size wb _ n.toNat w1 HWR1.out HB1.out.size (by omega)
 rw [show ((n.toNat:Nat):Int)=n by omega] at HC1
 obtain ⟨x0,x1,x2,x3,x4,x5,x6⟩:=cells6 (HBX.out w1 HWT1.out)
 go_wp2_with fail
 refine HC1.mono ?_
 rintro e w2 ⟨rfl,hWn,hwn⟩
 have HB2:Hid (RowKit.Below w0.heap.size w0 w2):=HB1.out.trans (hwn.toBelow HWR1.out HB1.out.size)
 have HWT2:=Hid.mk (HWT1.out.trans hwn)
 have HWR2:=Hid.mk hWn
 clear hWn hwn HC1 x0 x1 x2 x3 x4 x5 x6
 have HC2:=eachT_any w0 wb _ ks ka kc kb ko w2 HB2.out HWR2.out HK.out HKIDS.out (by omega) HIH.out
 obtain ⟨x0,x1,x2,x3,x4,x5,x6⟩:=cells6 (HBX.out w2 HWT2.out)
 go_wp2_with fail
 refine HC2.mono ?_
 rintro e w3 ⟨rfl,hWn,hwn⟩
 have HB3:Hid (RowKit.Below w0.heap.size w0 w3):=HB2.out.trans (hwn.toBelow HWR2.out HB2.out.size)
 have HWT3:=Hid.mk (HWT2.out.trans hwn)
 have HWR3:=Hid.mk hWn
 clear hWn hwn HC2 x0 x1 x2 x3 x4 x5 x6
 go_wp2
 go_end0
 refine ⟨rfl,?_,HWA.out.trans HWT3.out⟩
 have hr:=HWR3.out
 rw [HENC.out]
 unfold fieldB
 simpa [List.append_assoc] using hr
theorem wterm2 (w0:World) (wb:Nat) (n:Int) (hd:Bool) (nm:ByteArray) (ls:List LvT) (ks:List Tm) (hf:formedB (.mk 2 n hd nm ls ks)=true) (hls:ls.length≤1000000) (ih:∀k∈ks,WTerm w0 wb k):WTerm w0 wb (.mk 2 n hd nm ls ks):=by
 intro v tot w hv hb0 hW
 obtain ⟨hkn0,p1,p2,p10,-⟩:=formed_part hf
 have h3:kidsR 2≤3:=by decide
 have hkn:ks.length≤3:=by omega
 clear h3
 clear hkn0 hf
 have HP1:=Hid.mk p1
 have HP2:=Hid.mk p2
 have HP10:=Hid.mk p10
 have HIH:=Hid.mk ih
 clear p1 p2 p10 ih
 have HENC:=Hid.mk (encT_mk 2 n hd nm ls ks)
 generalize encT (.mk 2 n hd nm ls ks)=ENC at HENC ⊢
 cases hv with
 | @mk _ _ _ _ _ _ la lc ka kc kb ko hl hln hlc hlm hkn' hkc hkm hk kids =>
 have HK:=Hid.mk hk
 have HKIDS:=Hid.mk kids
 have HL:=Hid.mk hl
 clear hk kids hl hln hlc hlm hkn' hkc hkm
 have hlw:=hW.lt
 obtain ⟨W0,hW0⟩:∃W0,w.alloc (.cells #[.int .i64 2,.int .i64 n,.bool hd,.string nm,.slice la ls.length lc,.slice ka ks.length kc] 36)=W0:=⟨_,rfl⟩
 have hb:RowKit.Below w.heap.size w W0:=by rw [←hW0];exact (Below.refl _ _).alloc (Nat.le_refl _) _
 have HBX:Hid (∀w',Wrote wb W0 w'→w'.heap[w.heap.size]?=some (.cells #[.int .i64 2,.int .i64 n,.bool hd,.string nm,.slice la ls.length lc,.slice ka ks.length kc] 36 (0,0))):=fun w' h=>h.box hW hb (by rw [←hW0];exact alloc_new _ _) (Nat.le_refl _)
 have HWA:Hid (Wrote wb w W0):=Wrote.below hb hlw
 have hsz:=hb0.size
 have HWR0:Hid (WR W0 w0.heap.size wb tot):=hW.on hb
 have HB0:Hid (RowKit.Below w0.heap.size w0 W0):=hb0.trans (hb.mono hsz)
 have HC:=number_any w0.heap.size wb tot 2 W0 HWR0.out HB0.out.size (by omega)
 have HW0:=Hid.mk hW0
 obtain ⟨x0,x1,x2,x3,x4,x5,x6⟩:=cells6 (HBX.out W0 (Wrote.refl _ _))
 clear hW hb0 hb hW0
 go_enter Tryz.func83,Tryz.ntmps83
 go_wp2_with fail
 rw [HW0.out]
 refine HC.mono ?_
 rintro e w1 ⟨rfl,hWn,hwn⟩
 have HB1:Hid (RowKit.Below w0.heap.size w0 w1):=HB0.out.trans (hwn.toBelow HWR0.out HB0.out.size)
 have HWT1:=Hid.mk hwn
 have HWR1:=Hid.mk hWn
 clear hWn hwn HC x0 x1 x2 x3 x4 x5 x6
 have HCL:Hid (∀l∈ls,rightL l):=by
  obtain ⟨l0,rfl,hl0⟩:=HP2.out (by trivial)
  intro l hl
  rw [List.mem_singleton.1 hl]
  exact canon_rightL hl0
 have HC1:=eachL_any w0 wb _ ls la lc w1 HB1.out HWR1.out HL.out hls HCL.out
 obtain ⟨x0,x1,x2,x3,x4,x5,x6⟩:=cells6 (HBX.out w1 HWT1.out)
 go_wp2_with fail
 refine HC1.mono ?_
 rintro e w2 ⟨rfl,hWn,hwn⟩
 have HB2:Hid (RowKit.Below w0.heap.size w0 w2):=HB1.out.trans (hwn.toBelow HWR1.out HB1.out.size)
 have HWT2:=Hid.mk (HWT1.out.trans hwn)
 have HWR2:=Hid.mk hWn
 clear hWn hwn HC1 x0 x1 x2 x3 x4 x5 x6
 have HC2:=eachT_any w0 wb _ ks ka kc kb ko w2 HB2.out HWR2.out HK.out HKIDS.out (by omega) HIH.out
 obtain ⟨x0,x1,x2,x3,x4,x5,x6⟩:=cells6 (HBX.out w2 HWT2.out)
 go_wp2_with fail
 refine HC2.mono ?_
 rintro e w3 ⟨rfl,hWn,hwn⟩
 have HB3:Hid (RowKit.Below w0.heap.size w0 w3):=HB2.out.trans (hwn.toBelow HWR2.out HB2.out.size)
 have HWT3:=Hid.mk (HWT2.out.trans hwn)
 have HWR3:=Hid.mk hWn
 clear hWn hwn HC2 x0 x1 x2 x3 x4 x5 x6
 go_wp2
 go_end0
 refine ⟨rfl,?_,HWA.out.trans HWT3.out⟩
 have hr:=HWR3.out
 rw [HENC.out]
 unfold fieldB
 simpa [List.append_assoc] using hr
theorem wterm3 (w0:World) (wb:Nat) (n:Int) (hd:Bool) (nm:ByteArray) (ls:List LvT) (ks:List Tm) (hf:formedB (.mk 3 n hd nm ls ks)=true) (_hls:ls.length≤1000000) (ih:∀k∈ks,WTerm w0 wb k):WTerm w0 wb (.mk 3 n hd nm ls ks):=by
 intro v tot w hv hb0 hW
 obtain ⟨hkn0,p1,p2,p10,-⟩:=formed_part hf
 have h3:kidsR 3≤3:=by decide
 have hkn:ks.length≤3:=by omega
 clear h3
 clear hkn0 hf
 have HP1:=Hid.mk p1
 have HP2:=Hid.mk p2
 have HP10:=Hid.mk p10
 have HIH:=Hid.mk ih
 clear p1 p2 p10 ih
 have HENC:=Hid.mk (encT_mk 3 n hd nm ls ks)
 generalize encT (.mk 3 n hd nm ls ks)=ENC at HENC ⊢
 cases hv with
 | @mk _ _ _ _ _ _ la lc ka kc kb ko hl hln hlc hlm hkn' hkc hkm hk kids =>
 have HK:=Hid.mk hk
 have HKIDS:=Hid.mk kids
 have HL:=Hid.mk hl
 clear hk kids hl hln hlc hlm hkn' hkc hkm
 have hlw:=hW.lt
 obtain ⟨W0,hW0⟩:∃W0,w.alloc (.cells #[.int .i64 3,.int .i64 n,.bool hd,.string nm,.slice la ls.length lc,.slice ka ks.length kc] 36)=W0:=⟨_,rfl⟩
 have hb:RowKit.Below w.heap.size w W0:=by rw [←hW0];exact (Below.refl _ _).alloc (Nat.le_refl _) _
 have HBX:Hid (∀w',Wrote wb W0 w'→w'.heap[w.heap.size]?=some (.cells #[.int .i64 3,.int .i64 n,.bool hd,.string nm,.slice la ls.length lc,.slice ka ks.length kc] 36 (0,0))):=fun w' h=>h.box hW hb (by rw [←hW0];exact alloc_new _ _) (Nat.le_refl _)
 have HWA:Hid (Wrote wb w W0):=Wrote.below hb hlw
 have hsz:=hb0.size
 have HWR0:Hid (WR W0 w0.heap.size wb tot):=hW.on hb
 have HB0:Hid (RowKit.Below w0.heap.size w0 W0):=hb0.trans (hb.mono hsz)
 have HC:=number_any w0.heap.size wb tot 3 W0 HWR0.out HB0.out.size (by omega)
 have HW0:=Hid.mk hW0
 obtain ⟨x0,x1,x2,x3,x4,x5,x6⟩:=cells6 (HBX.out W0 (Wrote.refl _ _))
 clear hW hb0 hb hW0
 go_enter Tryz.func83,Tryz.ntmps83
 go_wp2_with fail
 rw [HW0.out]
 refine HC.mono ?_
 rintro e w1 ⟨rfl,hWn,hwn⟩
 have HB1:Hid (RowKit.Below w0.heap.size w0 w1):=HB0.out.trans (hwn.toBelow HWR0.out HB0.out.size)
 have HWT1:=Hid.mk hwn
 have HWR1:=Hid.mk hWn
 clear hWn hwn HC x0 x1 x2 x3 x4 x5 x6
 have HC1:=flag_any w0.heap.size wb _ hd w1 HWR1.out HB1.out.size
 obtain ⟨x0,x1,x2,x3,x4,x5,x6⟩:=cells6 (HBX.out w1 HWT1.out)
 go_wp2_with fail
 refine HC1.mono ?_
 rintro e w2 ⟨rfl,hWn,hwn⟩
 have HB2:Hid (RowKit.Below w0.heap.size w0 w2):=HB1.out.trans (hwn.toBelow HWR1.out HB1.out.size)
 have HWT2:=Hid.mk (HWT1.out.trans hwn)
 have HWR2:=Hid.mk hWn
 clear hWn hwn HC1 x0 x1 x2 x3 x4 x5 x6
 have HC2:=eachT_any w0 wb _ ks ka kc kb ko w2 HB2.out HWR2.out HK.out HKIDS.out (by omega) HIH.out
 obtain ⟨x0,x1,x2,x3,x4,x5,x6⟩:=cells6 (HBX.out w2 HWT2.out)
 go_wp2_with fail
 refine HC2.mono ?_
 rintro e w3 ⟨rfl,hWn,hwn⟩
 have HB3:Hid (RowKit.Below w0.heap.size w0 w3):=HB2.out.trans (hwn.toBelow HWR2.out HB2.out.size)
 have HWT3:=Hid.mk (HWT2.out.trans hwn)
 have HWR3:=Hid.mk hWn
 clear hWn hwn HC2 x0 x1 x2 x3 x4 x5 x6
 go_wp2
 go_end0
 refine ⟨rfl,?_,HWA.out.trans HWT3.out⟩
 have hr:=HWR3.out
 rw [HENC.out]
 unfold fieldB
 simpa [List.append_assoc] using hr
theorem wterm4 (w0:World) (wb:Nat) (n:Int) (hd:Bool) (nm:ByteArray) (ls:List LvT) (ks:List Tm) (hf:formedB (.mk 4 n hd nm ls ks)=true) (_hls:ls.length≤1000000) (ih:∀k∈ks,WTerm w0 wb k):WTerm w0 wb (.mk 4 n hd nm ls ks):=by
 intro v tot w hv hb0 hW
 obtain ⟨hkn0,p1,p2,p10,-⟩:=formed_part hf
 have h3:kidsR 4≤3:=by decide
 have hkn:ks.length≤3:=by omega
 clear h3
 clear hkn0 hf
 have HP1:=Hid.mk p1
 have HP2:=Hid.mk p2
 have HP10:=Hid.mk p10
 have HIH:=Hid.mk ih
 clear p1 p2 p10 ih
 have HENC:=Hid.mk (encT_mk 4 n hd nm ls ks)
 generalize encT (.mk 4 n hd nm ls ks)=ENC at HENC ⊢
 cases hv with
 | @mk _ _ _ _ _ _ la lc ka kc kb ko hl hln hlc hlm hkn' hkc hkm hk kids =>
 have HK:=Hid.mk hk
 have HKIDS:=Hid.mk kids
 have HL:=Hid.mk hl
 clear hk kids hl hln hlc hlm hkn' hkc hkm
 have hlw:=hW.lt
 obtain ⟨W0,hW0⟩:∃W0,w.alloc (.cells #[.int .i64 4,.int .i64 n,.bool hd,.string nm,.slice la ls.length lc,.slice ka ks.length kc] 36)=W0:=⟨_,rfl⟩
 have hb:RowKit.Below w.heap.size w W0:=by rw [←hW0];exact (Below.refl _ _).alloc (Nat.le_refl _) _
 have HBX:Hid (∀w',Wrote wb W0 w'→w'.heap[w.heap.size]?=some (.cells #[.int .i64 4,.int .i64 n,.bool hd,.string nm,.slice la ls.length lc,.slice ka ks.length kc] 36 (0,0))):=fun w' h=>h.box hW hb (by rw [←hW0];exact alloc_new _ _) (Nat.le_refl _)
 have HWA:Hid (Wrote wb w W0):=Wrote.below hb hlw
 have hsz:=hb0.size
 have HWR0:Hid (WR W0 w0.heap.size wb tot):=hW.on hb
 have HB0:Hid (RowKit.Below w0.heap.size w0 W0):=hb0.trans (hb.mono hsz)
 have HC:=number_any w0.heap.size wb tot 4 W0 HWR0.out HB0.out.size (by omega)
 have HW0:=Hid.mk hW0
 obtain ⟨x0,x1,x2,x3,x4,x5,x6⟩:=cells6 (HBX.out W0 (Wrote.refl _ _))
 clear hW hb0 hb hW0
 go_enter Tryz.func83,Tryz.ntmps83
 go_wp2_with fail
 rw [HW0.out]
 refine HC.mono ?_
 rintro e w1 ⟨rfl,hWn,hwn⟩
 have HB1:Hid (RowKit.Below w0.heap.size w0 w1):=HB0.out.trans (hwn.toBelow HWR0.out HB0.out.size)
 have HWT1:=Hid.mk hwn
 have HWR1:=Hid.mk hWn
 clear hWn hwn HC x0 x1 x2 x3 x4 x5 x6
 have HC1:=flag_any w0.heap.size wb _ hd w1 HWR1.out HB1.out.size
 obtain ⟨x0,x1,x2,x3,x4,x5,x6⟩:=cells6 (HBX.out w1 HWT1.out)
 go_wp2_with fail
 refine HC1.mono ?_
 rintro e w2 ⟨rfl,hWn,hwn⟩
 have HB2:Hid (RowKit.Below w0.heap.size w0 w2):=HB1.out.trans (hwn.toBelow HWR1.out HB1.out.size)
 have HWT2:=Hid.mk (HWT1.out.trans hwn)
 have HWR2:=Hid.mk hWn
 clear hWn hwn HC1 x0 x1 x2 x3 x4 x5 x6
 have HC2:=eachT_any w0 wb _ ks ka kc kb ko w2 HB2.out HWR2.out HK.out HKIDS.out (by omega) HIH.out
 obtain ⟨x0,x1,x2,x3,x4,x5,x6⟩:=cells6 (HBX.out w2 HWT2.out)
 go_wp2_with fail
 refine HC2.mono ?_
 rintro e w3 ⟨rfl,hWn,hwn⟩
 have HB3:Hid (RowKit.Below w0.heap.size w0 w3):=HB2.out.trans (hwn.toBelow HWR2.out HB2.out.size)
 have HWT3:=Hid.mk (HWT2.out.trans hwn)
 have HWR3:=Hid.mk hWn
 clear hWn hwn HC2 x0 x1 x2 x3 x4 x5 x6
 go_wp2
 go_end0
 refine ⟨rfl,?_,HWA.out.trans HWT3.out⟩
 have hr:=HWR3.out
 rw [HENC.out]
 unfold fieldB
 simpa [List.append_assoc] using hr
theorem wterm5 (w0:World) (wb:Nat) (n:Int) (hd:Bool) (nm:ByteArray) (ls:List LvT) (ks:List Tm) (hf:formedB (.mk 5 n hd nm ls ks)=true) (_hls:ls.length≤1000000) (ih:∀k∈ks,WTerm w0 wb k):WTerm w0 wb (.mk 5 n hd nm ls ks):=by
 intro v tot w hv hb0 hW
 obtain ⟨hkn0,p1,p2,p10,-⟩:=formed_part hf
 have h3:kidsR 5≤3:=by decide
 have hkn:ks.length≤3:=by omega
 clear h3
 clear hkn0 hf
 have HP1:=Hid.mk p1
 have HP2:=Hid.mk p2
 have HP10:=Hid.mk p10
 have HIH:=Hid.mk ih
 clear p1 p2 p10 ih
 have HENC:=Hid.mk (encT_mk 5 n hd nm ls ks)
 generalize encT (.mk 5 n hd nm ls ks)=ENC at HENC ⊢
 cases hv with
 | @mk _ _ _ _ _ _ la lc ka kc kb ko hl hln hlc hlm hkn' hkc hkm hk kids =>
 have HK:=Hid.mk hk
 have HKIDS:=Hid.mk kids
 have HL:=Hid.mk hl
 clear hk kids hl hln hlc hlm hkn' hkc hkm
 have hlw:=hW.lt
 obtain ⟨W0,hW0⟩:∃W0,w.alloc (.cells #[.int .i64 5,.int .i64 n,.bool hd,.string nm,.slice la ls.length lc,.slice ka ks.length kc] 36)=W0:=⟨_,rfl⟩
 have hb:RowKit.Below w.heap.size w W0:=by rw [←hW0];exact (Below.refl _ _).alloc (Nat.le_refl _) _
 have HBX:Hid (∀w',Wrote wb W0 w'→w'.heap[w.heap.size]?=some (.cells #[.int .i64 5,.int .i64 n,.bool hd,.string nm,.slice la ls.length lc,.slice ka ks.length kc] 36 (0,0))):=fun w' h=>h.box hW hb (by rw [←hW0];exact alloc_new _ _) (Nat.le_refl _)
 have HWA:Hid (Wrote wb w W0):=Wrote.below hb hlw
 have hsz:=hb0.size
 have HWR0:Hid (WR W0 w0.heap.size wb tot):=hW.on hb
 have HB0:Hid (RowKit.Below w0.heap.size w0 W0):=hb0.trans (hb.mono hsz)
 have HC:=number_any w0.heap.size wb tot 5 W0 HWR0.out HB0.out.size (by omega)
 have HW0:=Hid.mk hW0
 obtain ⟨x0,x1,x2,x3,x4,x5,x6⟩:=cells6 (HBX.out W0 (Wrote.refl _ _))
 clear hW hb0 hb hW0
 go_enter Tryz.func83,Tryz.ntmps83
 go_wp2_with fail
 rw [HW0.out]
 refine HC.mono ?_
 rintro e w1 ⟨rfl,hWn,hwn⟩
 have HB1:Hid (RowKit.Below w0.heap.size w0 w1):=HB0.out.trans (hwn.toBelow HWR0.out HB0.out.size)
 have HWT1:=Hid.mk hwn
 have HWR1:=Hid.mk hWn
 clear hWn hwn HC x0 x1 x2 x3 x4 x5 x6
 have HC1:=flag_any w0.heap.size wb _ hd w1 HWR1.out HB1.out.size
 obtain ⟨x0,x1,x2,x3,x4,x5,x6⟩:=cells6 (HBX.out w1 HWT1.out)
 go_wp2_with fail
 refine HC1.mono ?_
 rintro e w2 ⟨rfl,hWn,hwn⟩
 have HB2:Hid (RowKit.Below w0.heap.size w0 w2):=HB1.out.trans (hwn.toBelow HWR1.out HB1.out.size)
 have HWT2:=Hid.mk (HWT1.out.trans hwn)
 have HWR2:=Hid.mk hWn
 clear hWn hwn HC1 x0 x1 x2 x3 x4 x5 x6
 have HC2:=eachT_any w0 wb _ ks ka kc kb ko w2 HB2.out HWR2.out HK.out HKIDS.out (by omega) HIH.out
 obtain ⟨x0,x1,x2,x3,x4,x5,x6⟩:=cells6 (HBX.out w2 HWT2.out)
 go_wp2_with fail
 refine HC2.mono ?_
 rintro e w3 ⟨rfl,hWn,hwn⟩
 have HB3:Hid (RowKit.Below w0.heap.size w0 w3):=HB2.out.trans (hwn.toBelow HWR2.out HB2.out.size)
 have HWT3:=Hid.mk (HWT2.out.trans hwn)
 have HWR3:=Hid.mk hWn
 clear hWn hwn HC2 x0 x1 x2 x3 x4 x5 x6
 go_wp2
 go_end0
 refine ⟨rfl,?_,HWA.out.trans HWT3.out⟩
 have hr:=HWR3.out
 rw [HENC.out]
 unfold fieldB
 simpa [List.append_assoc] using hr
theorem wterm6 (w0:World) (wb:Nat) (n:Int) (hd:Bool) (nm:ByteArray) (ls:List LvT) (ks:List Tm) (hf:formedB (.mk 6 n hd nm ls ks)=true) (_hls:ls.length≤1000000) (ih:∀k∈ks,WTerm w0 wb k):WTerm w0 wb (.mk 6 n hd nm ls ks):=by
 intro v tot w hv hb0 hW
 obtain ⟨hkn0,p1,p2,p10,-⟩:=formed_part hf
 have h3:kidsR 6≤3:=by decide
 have hkn:ks.length≤3:=by omega
 clear h3
 clear hkn0 hf
 have HP1:=Hid.mk p1
 have HP2:=Hid.mk p2
 have HP10:=Hid.mk p10
 have HIH:=Hid.mk ih
 clear p1 p2 p10 ih
 have HENC:=Hid.mk (encT_mk 6 n hd nm ls ks)
 generalize encT (.mk 6 n hd nm ls ks)=ENC at HENC ⊢
 cases hv with
 | @mk _ _ _ _ _ _ la lc ka kc kb ko hl hln hlc hlm hkn' hkc hkm hk kids =>
 have HK:=Hid.mk hk
 have HKIDS:=Hid.mk kids
 have HL:=Hid.mk hl
 clear hk kids hl hln hlc hlm hkn' hkc hkm
 have hlw:=hW.lt
 obtain ⟨W0,hW0⟩:∃W0,w.alloc (.cells #[.int .i64 6,.int .i64 n,.bool hd,.string nm,.slice la ls.length lc,.slice ka ks.length kc] 36)=W0:=⟨_,rfl⟩
 have hb:RowKit.Below w.heap.size w W0:=by rw [←hW0];exact (Below.refl _ _).alloc (Nat.le_refl _) _
 have HBX:Hid (∀w',Wrote wb W0 w'→w'.heap[w.heap.size]?=some (.cells #[.int .i64 6,.int .i64 n,.bool hd,.string nm,.slice la ls.length lc,.slice ka ks.length kc] 36 (0,0))):=fun w' h=>h.box hW hb (by rw [←hW0];exact alloc_new _ _) (Nat.le_refl _)
 have HWA:Hid (Wrote wb w W0):=Wrote.below hb hlw
 have hsz:=hb0.size
 have HWR0:Hid (WR W0 w0.heap.size wb tot):=hW.on hb
 have HB0:Hid (RowKit.Below w0.heap.size w0 W0):=hb0.trans (hb.mono hsz)
 have HC:=number_any w0.heap.size wb tot 6 W0 HWR0.out HB0.out.size (by omega)
 have HW0:=Hid.mk hW0
 obtain ⟨x0,x1,x2,x3,x4,x5,x6⟩:=cells6 (HBX.out W0 (Wrote.refl _ _))
 clear hW hb0 hb hW0
 go_enter Tryz.func83,Tryz.ntmps83
 go_wp2_with fail
 rw [HW0.out]
 refine HC.mono ?_
 rintro e w1 ⟨rfl,hWn,hwn⟩
 have HB1:Hid (RowKit.Below w0.heap.size w0 w1):=HB0.out.trans (hwn.toBelow HWR0.out HB0.out.size)
 have HWT1:=Hid.mk hwn
 have HWR1:=Hid.mk hWn
 clear hWn hwn HC x0 x1 x2 x3 x4 x5 x6
 have HC1:=eachT_any w0 wb _ ks ka kc kb ko w1 HB1.out HWR1.out HK.out HKIDS.out (by omega) HIH.out
 obtain ⟨x0,x1,x2,x3,x4,x5,x6⟩:=cells6 (HBX.out w1 HWT1.out)
 go_wp2_with fail
 refine HC1.mono ?_
 rintro e w2 ⟨rfl,hWn,hwn⟩
 have HB2:Hid (RowKit.Below w0.heap.size w0 w2):=HB1.out.trans (hwn.toBelow HWR1.out HB1.out.size)
 have HWT2:=Hid.mk (HWT1.out.trans hwn)
 have HWR2:=Hid.mk hWn
 clear hWn hwn HC1 x0 x1 x2 x3 x4 x5 x6
 go_wp2
 go_end0
 refine ⟨rfl,?_,HWA.out.trans HWT2.out⟩
 have hr:=HWR2.out
 rw [HENC.out]
 unfold fieldB
 simpa [List.append_assoc] using hr
theorem wterm7 (w0:World) (wb:Nat) (n:Int) (hd:Bool) (nm:ByteArray) (ls:List LvT) (ks:List Tm) (hf:formedB (.mk 7 n hd nm ls ks)=true) (_hls:ls.length≤1000000) (ih:∀k∈ks,WTerm w0 wb k):WTerm w0 wb (.mk 7 n hd nm ls ks):=by
 intro v tot w hv hb0 hW
 obtain ⟨hkn0,p1,p2,p10,-⟩:=formed_part hf
 have h3:kidsR 7≤3:=by decide
 have hkn:ks.length≤3:=by omega
 clear h3
 clear hkn0 hf
 have HP1:=Hid.mk p1
 have HP2:=Hid.mk p2
 have HP10:=Hid.mk p10
 have HIH:=Hid.mk ih
 clear p1 p2 p10 ih
 have HENC:=Hid.mk (encT_mk 7 n hd nm ls ks)
 generalize encT (.mk 7 n hd nm ls ks)=ENC at HENC ⊢
 cases hv with
 | @mk _ _ _ _ _ _ la lc ka kc kb ko hl hln hlc hlm hkn' hkc hkm hk kids =>
 have HK:=Hid.mk hk
 have HKIDS:=Hid.mk kids
 have HL:=Hid.mk hl
 clear hk kids hl hln hlc hlm hkn' hkc hkm
 have hlw:=hW.lt
 obtain ⟨W0,hW0⟩:∃W0,w.alloc (.cells #[.int .i64 7,.int .i64 n,.bool hd,.string nm,.slice la ls.length lc,.slice ka ks.length kc] 36)=W0:=⟨_,rfl⟩
 have hb:RowKit.Below w.heap.size w W0:=by rw [←hW0];exact (Below.refl _ _).alloc (Nat.le_refl _) _
 have HBX:Hid (∀w',Wrote wb W0 w'→w'.heap[w.heap.size]?=some (.cells #[.int .i64 7,.int .i64 n,.bool hd,.string nm,.slice la ls.length lc,.slice ka ks.length kc] 36 (0,0))):=fun w' h=>h.box hW hb (by rw [←hW0];exact alloc_new _ _) (Nat.le_refl _)
 have HWA:Hid (Wrote wb w W0):=Wrote.below hb hlw
 have hsz:=hb0.size
 have HWR0:Hid (WR W0 w0.heap.size wb tot):=hW.on hb
 have HB0:Hid (RowKit.Below w0.heap.size w0 W0):=hb0.trans (hb.mono hsz)
 have HC:=number_any w0.heap.size wb tot 7 W0 HWR0.out HB0.out.size (by omega)
 have HW0:=Hid.mk hW0
 obtain ⟨x0,x1,x2,x3,x4,x5,x6⟩:=cells6 (HBX.out W0 (Wrote.refl _ _))
 clear hW hb0 hb hW0
 go_enter Tryz.func83,Tryz.ntmps83
 go_wp2_with fail
 rw [HW0.out]
 refine HC.mono ?_
 rintro e w1 ⟨rfl,hWn,hwn⟩
 have HB1:Hid (RowKit.Below w0.heap.size w0 w1):=HB0.out.trans (hwn.toBelow HWR0.out HB0.out.size)
 have HWT1:=Hid.mk hwn
 have HWR1:=Hid.mk hWn
 clear hWn hwn HC x0 x1 x2 x3 x4 x5 x6
 have HC1:=eachT_any w0 wb _ ks ka kc kb ko w1 HB1.out HWR1.out HK.out HKIDS.out (by omega) HIH.out
 obtain ⟨x0,x1,x2,x3,x4,x5,x6⟩:=cells6 (HBX.out w1 HWT1.out)
 go_wp2_with fail
 refine HC1.mono ?_
 rintro e w2 ⟨rfl,hWn,hwn⟩
 have HB2:Hid (RowKit.Below w0.heap.size w0 w2):=HB1.out.trans (hwn.toBelow HWR1.out HB1.out.size)
 have HWT2:=Hid.mk (HWT1.out.trans hwn)
 have HWR2:=Hid.mk hWn
 clear hWn hwn HC1 x0 x1 x2 x3 x4 x5 x6
 go_wp2
 go_end0
 refine ⟨rfl,?_,HWA.out.trans HWT2.out⟩
 have hr:=HWR2.out
 rw [HENC.out]
 unfold fieldB
 simpa [List.append_assoc] using hr
theorem wterm8 (w0:World) (wb:Nat) (n:Int) (hd:Bool) (nm:ByteArray) (ls:List LvT) (ks:List Tm) (hf:formedB (.mk 8 n hd nm ls ks)=true) (_hls:ls.length≤1000000) (ih:∀k∈ks,WTerm w0 wb k):WTerm w0 wb (.mk 8 n hd nm ls ks):=by
 intro v tot w hv hb0 hW
 obtain ⟨hkn0,p1,p2,p10,-⟩:=formed_part hf
 have h3:kidsR 8≤3:=by decide
 have hkn:ks.length≤3:=by omega
 clear h3
 clear hkn0 hf
 have HP1:=Hid.mk p1
 have HP2:=Hid.mk p2
 have HP10:=Hid.mk p10
 have HIH:=Hid.mk ih
 clear p1 p2 p10 ih
 have HENC:=Hid.mk (encT_mk 8 n hd nm ls ks)
 generalize encT (.mk 8 n hd nm ls ks)=ENC at HENC ⊢
 cases hv with
 | @mk _ _ _ _ _ _ la lc ka kc kb ko hl hln hlc hlm hkn' hkc hkm hk kids =>
 have HK:=Hid.mk hk
 have HKIDS:=Hid.mk kids
 have HL:=Hid.mk hl
 clear hk kids hl hln hlc hlm hkn' hkc hkm
 have hlw:=hW.lt
 obtain ⟨W0,hW0⟩:∃W0,w.alloc (.cells #[.int .i64 8,.int .i64 n,.bool hd,.string nm,.slice la ls.length lc,.slice ka ks.length kc] 36)=W0:=⟨_,rfl⟩
 have hb:RowKit.Below w.heap.size w W0:=by rw [←hW0];exact (Below.refl _ _).alloc (Nat.le_refl _) _
 have HBX:Hid (∀w',Wrote wb W0 w'→w'.heap[w.heap.size]?=some (.cells #[.int .i64 8,.int .i64 n,.bool hd,.string nm,.slice la ls.length lc,.slice ka ks.length kc] 36 (0,0))):=fun w' h=>h.box hW hb (by rw [←hW0];exact alloc_new _ _) (Nat.le_refl _)
 have HWA:Hid (Wrote wb w W0):=Wrote.below hb hlw
 have hsz:=hb0.size
 have HWR0:Hid (WR W0 w0.heap.size wb tot):=hW.on hb
 have HB0:Hid (RowKit.Below w0.heap.size w0 W0):=hb0.trans (hb.mono hsz)
 have HC:=number_any w0.heap.size wb tot 8 W0 HWR0.out HB0.out.size (by omega)
 have HW0:=Hid.mk hW0
 obtain ⟨x0,x1,x2,x3,x4,x5,x6⟩:=cells6 (HBX.out W0 (Wrote.refl _ _))
 clear hW hb0 hb hW0
 go_enter Tryz.func83,Tryz.ntmps83
 go_wp2_with fail
 rw [HW0.out]
 refine HC.mono ?_
 rintro e w1 ⟨rfl,hWn,hwn⟩
 have HB1:Hid (RowKit.Below w0.heap.size w0 w1):=HB0.out.trans (hwn.toBelow HWR0.out HB0.out.size)
 have HWT1:=Hid.mk hwn
 have HWR1:=Hid.mk hWn
 clear hWn hwn HC x0 x1 x2 x3 x4 x5 x6
 have HC1:=eachT_any w0 wb _ ks ka kc kb ko w1 HB1.out HWR1.out HK.out HKIDS.out (by omega) HIH.out
 obtain ⟨x0,x1,x2,x3,x4,x5,x6⟩:=cells6 (HBX.out w1 HWT1.out)
 go_wp2_with fail
 refine HC1.mono ?_
 rintro e w2 ⟨rfl,hWn,hwn⟩
 have HB2:Hid (RowKit.Below w0.heap.size w0 w2):=HB1.out.trans (hwn.toBelow HWR1.out HB1.out.size)
 have HWT2:=Hid.mk (HWT1.out.trans hwn)
 have HWR2:=Hid.mk hWn
 clear hWn hwn HC1 x0 x1 x2 x3 x4 x5 x6
 go_wp2
 go_end0
 refine ⟨rfl,?_,HWA.out.trans HWT2.out⟩
 have hr:=HWR2.out
 rw [HENC.out]
 unfold fieldB
 simpa [List.append_assoc] using hr
theorem wterm9 (w0:World) (wb:Nat) (n:Int) (hd:Bool) (nm:ByteArray) (ls:List LvT) (ks:List Tm) (hf:formedB (.mk 9 n hd nm ls ks)=true) (_hls:ls.length≤1000000) (ih:∀k∈ks,WTerm w0 wb k):WTerm w0 wb (.mk 9 n hd nm ls ks):=by
 intro v tot w hv hb0 hW
 obtain ⟨hkn0,p1,p2,p10,-⟩:=formed_part hf
 have h3:kidsR 9≤3:=by decide
 have hkn:ks.length≤3:=by omega
 clear h3
 clear hkn0 hf
 have HP1:=Hid.mk p1
 have HP2:=Hid.mk p2
 have HP10:=Hid.mk p10
 have HIH:=Hid.mk ih
 clear p1 p2 p10 ih
 have HENC:=Hid.mk (encT_mk 9 n hd nm ls ks)
 generalize encT (.mk 9 n hd nm ls ks)=ENC at HENC ⊢
 cases hv with
 | @mk _ _ _ _ _ _ la lc ka kc kb ko hl hln hlc hlm hkn' hkc hkm hk kids =>
 have HK:=Hid.mk hk
 have HKIDS:=Hid.mk kids
 have HL:=Hid.mk hl
 clear hk kids hl hln hlc hlm hkn' hkc hkm
 have hlw:=hW.lt
 obtain ⟨W0,hW0⟩:∃W0,w.alloc (.cells #[.int .i64 9,.int .i64 n,.bool hd,.string nm,.slice la ls.length lc,.slice ka ks.length kc] 36)=W0:=⟨_,rfl⟩
 have hb:RowKit.Below w.heap.size w W0:=by rw [←hW0];exact (Below.refl _ _).alloc (Nat.le_refl _) _
 have HBX:Hid (∀w',Wrote wb W0 w'→w'.heap[w.heap.size]?=some (.cells #[.int .i64 9,.int .i64 n,.bool hd,.string nm,.slice la ls.length lc,.slice ka ks.length kc] 36 (0,0))):=fun w' h=>h.box hW hb (by rw [←hW0];exact alloc_new _ _) (Nat.le_refl _)
 have HWA:Hid (Wrote wb w W0):=Wrote.below hb hlw
 have hsz:=hb0.size
 have HWR0:Hid (WR W0 w0.heap.size wb tot):=hW.on hb
 have HB0:Hid (RowKit.Below w0.heap.size w0 W0):=hb0.trans (hb.mono hsz)
 have HC:=number_any w0.heap.size wb tot 9 W0 HWR0.out HB0.out.size (by omega)
 have HW0:=Hid.mk hW0
 obtain ⟨x0,x1,x2,x3,x4,x5,x6⟩:=cells6 (HBX.out W0 (Wrote.refl _ _))
 clear hW hb0 hb hW0
 go_enter Tryz.func83,Tryz.ntmps83
 go_wp2_with fail
 rw [HW0.out]
 refine HC.mono ?_
 rintro e w1 ⟨rfl,hWn,hwn⟩
 have HB1:Hid (RowKit.Below w0.heap.size w0 w1):=HB0.out.trans (hwn.toBelow HWR0.out HB0.out.size)
 have HWT1:=Hid.mk hwn
 have HWR1:=Hid.mk hWn
 clear hWn hwn HC x0 x1 x2 x3 x4 x5 x6
 have HC1:=eachT_any w0 wb _ ks ka kc kb ko w1 HB1.out HWR1.out HK.out HKIDS.out (by omega) HIH.out
 obtain ⟨x0,x1,x2,x3,x4,x5,x6⟩:=cells6 (HBX.out w1 HWT1.out)
 go_wp2_with fail
 refine HC1.mono ?_
 rintro e w2 ⟨rfl,hWn,hwn⟩
 have HB2:Hid (RowKit.Below w0.heap.size w0 w2):=HB1.out.trans (hwn.toBelow HWR1.out HB1.out.size)
 have HWT2:=Hid.mk (HWT1.out.trans hwn)
 have HWR2:=Hid.mk hWn
 clear hWn hwn HC1 x0 x1 x2 x3 x4 x5 x6
 go_wp2
 go_end0
 refine ⟨rfl,?_,HWA.out.trans HWT2.out⟩
 have hr:=HWR2.out
 rw [HENC.out]
 unfold fieldB
 simpa [List.append_assoc] using hr
theorem wterm10 (w0:World) (wb:Nat) (n:Int) (hd:Bool) (nm:ByteArray) (ls:List LvT) (ks:List Tm) (hf:formedB (.mk 10 n hd nm ls ks)=true) (hls:ls.length≤1000000) (ih:∀k∈ks,WTerm w0 wb k):WTerm w0 wb (.mk 10 n hd nm ls ks):=by
 intro v tot w hv hb0 hW
 obtain ⟨hkn0,p1,p2,p10,-⟩:=formed_part hf
 have h3:kidsR 10≤3:=by decide
 have hkn:ks.length≤3:=by omega
 clear h3
 clear hkn0 hf
 have HP1:=Hid.mk p1
 have HP2:=Hid.mk p2
 have HP10:=Hid.mk p10
 have HIH:=Hid.mk ih
 clear p1 p2 p10 ih
 have HENC:=Hid.mk (encT_mk 10 n hd nm ls ks)
 generalize encT (.mk 10 n hd nm ls ks)=ENC at HENC ⊢
 cases hv with
 | @mk _ _ _ _ _ _ la lc ka kc kb ko hl hln hlc hlm hkn' hkc hkm hk kids =>
 have HK:=Hid.mk hk
 have HKIDS:=Hid.mk kids
 have HL:=Hid.mk hl
 clear hk kids hl hln hlc hlm hkn' hkc hkm
 have hlw:=hW.lt
 obtain ⟨W0,hW0⟩:∃W0,w.alloc (.cells #[.int .i64 10,.int .i64 n,.bool hd,.string nm,.slice la ls.length lc,.slice ka ks.length kc] 36)=W0:=⟨_,rfl⟩
 have hb:RowKit.Below w.heap.size w W0:=by rw [←hW0];exact (Below.refl _ _).alloc (Nat.le_refl _) _
 have HBX:Hid (∀w',Wrote wb W0 w'→w'.heap[w.heap.size]?=some (.cells #[.int .i64 10,.int .i64 n,.bool hd,.string nm,.slice la ls.length lc,.slice ka ks.length kc] 36 (0,0))):=fun w' h=>h.box hW hb (by rw [←hW0];exact alloc_new _ _) (Nat.le_refl _)
 have HWA:Hid (Wrote wb w W0):=Wrote.below hb hlw
 have hsz:=hb0.size
 have HWR0:Hid (WR W0 w0.heap.size wb tot):=hW.on hb
 have HB0:Hid (RowKit.Below w0.heap.size w0 W0):=hb0.trans (hb.mono hsz)
 have HC:=number_any w0.heap.size wb tot 10 W0 HWR0.out HB0.out.size (by omega)
 have HW0:=Hid.mk hW0
 obtain ⟨x0,x1,x2,x3,x4,x5,x6⟩:=cells6 (HBX.out W0 (Wrote.refl _ _))
 clear hW hb0 hb hW0
 go_enter Tryz.func83,Tryz.ntmps83
 go_wp2_with fail
 rw [HW0.out]
 refine HC.mono ?_
 rintro e w1 ⟨rfl,hWn,hwn⟩
 have HB1:Hid (RowKit.Below w0.heap.size w0 w1):=HB0.out.trans (hwn.toBelow HWR0.out HB0.out.size)
 have HWT1:=Hid.mk hwn
 have HWR1:=Hid.mk hWn
 clear hWn hwn HC x0 x1 x2 x3 x4 x5 x6
 obtain ⟨hm0,hm1,hcl⟩:=HP10.out (by trivial)
 have HCL:Hid (∀l∈ls,rightL l):=fun l hl=>canon_rightL (hcl l hl)
 clear hcl
 have HC1:=name_any w0.heap.size wb _ nm w1 HWR1.out HB1.out.size hm0 (by omega)
 obtain ⟨x0,x1,x2,x3,x4,x5,x6⟩:=cells6 (HBX.out w1 HWT1.out)
 go_wp2_with fail
 refine HC1.mono ?_
 rintro e w2 ⟨rfl,hWn,hwn⟩
 have HB2:Hid (RowKit.Below w0.heap.size w0 w2):=HB1.out.trans (hwn.toBelow HWR1.out HB1.out.size)
 have HWT2:=Hid.mk (HWT1.out.trans hwn)
 have HWR2:=Hid.mk hWn
 clear hWn hwn HC1 x0 x1 x2 x3 x4 x5 x6
 have HC2:=number_any w0.heap.size wb _ ls.length w2 HWR2.out HB2.out.size (by omega)
 obtain ⟨x0,x1,x2,x3,x4,x5,x6⟩:=cells6 (HBX.out w2 HWT2.out)
 go_wp2_with fail
 refine HC2.mono ?_
 rintro e w3 ⟨rfl,hWn,hwn⟩
 have HB3:Hid (RowKit.Below w0.heap.size w0 w3):=HB2.out.trans (hwn.toBelow HWR2.out HB2.out.size)
 have HWT3:=Hid.mk (HWT2.out.trans hwn)
 have HWR3:=Hid.mk hWn
 clear hWn hwn HC2 x0 x1 x2 x3 x4 x5 x6
 have HC3:=eachL_any w0 wb _ ls la lc w3 HB3.out HWR3.out HL.out hls HCL.out
 obtain ⟨x0,x1,x2,x3,x4,x5,x6⟩:=cells6 (HBX.out w3 HWT3.out)
 go_wp2_with fail
 refine HC3.mono ?_
 rintro e w4 ⟨rfl,hWn,hwn⟩
 have HB4:Hid (RowKit.Below w0.heap.size w0 w4):=HB3.out.trans (hwn.toBelow HWR3.out HB3.out.size)
 have HWT4:=Hid.mk (HWT3.out.trans hwn)
 have HWR4:=Hid.mk hWn
 clear hWn hwn HC3 x0 x1 x2 x3 x4 x5 x6
 have HC4:=eachT_any w0 wb _ ks ka kc kb ko w4 HB4.out HWR4.out HK.out HKIDS.out (by omega) HIH.out
 obtain ⟨x0,x1,x2,x3,x4,x5,x6⟩:=cells6 (HBX.out w4 HWT4.out)
 go_wp2_with fail
 refine HC4.mono ?_
 rintro e w5 ⟨rfl,hWn,hwn⟩
 have HB5:Hid (RowKit.Below w0.heap.size w0 w5):=HB4.out.trans (hwn.toBelow HWR4.out HB4.out.size)
 have HWT5:=Hid.mk (HWT4.out.trans hwn)
 have HWR5:=Hid.mk hWn
 clear hWn hwn HC4 x0 x1 x2 x3 x4 x5 x6
 go_wp2
 go_end0
 refine ⟨rfl,?_,HWA.out.trans HWT5.out⟩
 have hr:=HWR5.out
 rw [HENC.out]
 unfold fieldB
 simpa [List.append_assoc] using hr
theorem wterm11 (w0:World) (wb:Nat) (n:Int) (hd:Bool) (nm:ByteArray) (ls:List LvT) (ks:List Tm) (hf:formedB (.mk 11 n hd nm ls ks)=true) (_hls:ls.length≤1000000) (ih:∀k∈ks,WTerm w0 wb k):WTerm w0 wb (.mk 11 n hd nm ls ks):=by
 intro v tot w hv hb0 hW
 obtain ⟨hkn0,p1,p2,p10,-⟩:=formed_part hf
 have h3:kidsR 11≤3:=by decide
 have hkn:ks.length≤3:=by omega
 clear h3
 clear hkn0 hf
 have HP1:=Hid.mk p1
 have HP2:=Hid.mk p2
 have HP10:=Hid.mk p10
 have HIH:=Hid.mk ih
 clear p1 p2 p10 ih
 have HENC:=Hid.mk (encT_mk 11 n hd nm ls ks)
 generalize encT (.mk 11 n hd nm ls ks)=ENC at HENC ⊢
 cases hv with
 | @mk _ _ _ _ _ _ la lc ka kc kb ko hl hln hlc hlm hkn' hkc hkm hk kids =>
 have HK:=Hid.mk hk
 have HKIDS:=Hid.mk kids
 have HL:=Hid.mk hl
 clear hk kids hl hln hlc hlm hkn' hkc hkm
 have hlw:=hW.lt
 obtain ⟨W0,hW0⟩:∃W0,w.alloc (.cells #[.int .i64 11,.int .i64 n,.bool hd,.string nm,.slice la ls.length lc,.slice ka ks.length kc] 36)=W0:=⟨_,rfl⟩
 have hb:RowKit.Below w.heap.size w W0:=by rw [←hW0];exact (Below.refl _ _).alloc (Nat.le_refl _) _
 have HBX:Hid (∀w',Wrote wb W0 w'→w'.heap[w.heap.size]?=some (.cells #[.int .i64 11,.int .i64 n,.bool hd,.string nm,.slice la ls.length lc,.slice ka ks.length kc] 36 (0,0))):=fun w' h=>h.box hW hb (by rw [←hW0];exact alloc_new _ _) (Nat.le_refl _)
 have HWA:Hid (Wrote wb w W0):=Wrote.below hb hlw
 have hsz:=hb0.size
 have HWR0:Hid (WR W0 w0.heap.size wb tot):=hW.on hb
 have HB0:Hid (RowKit.Below w0.heap.size w0 W0):=hb0.trans (hb.mono hsz)
 have HC:=number_any w0.heap.size wb tot 11 W0 HWR0.out HB0.out.size (by omega)
 have HW0:=Hid.mk hW0
 obtain ⟨x0,x1,x2,x3,x4,x5,x6⟩:=cells6 (HBX.out W0 (Wrote.refl _ _))
 clear hW hb0 hb hW0
 go_enter Tryz.func83,Tryz.ntmps83
 go_wp2_with fail
 rw [HW0.out]
 refine HC.mono ?_
 rintro e w1 ⟨rfl,hWn,hwn⟩
 have HB1:Hid (RowKit.Below w0.heap.size w0 w1):=HB0.out.trans (hwn.toBelow HWR0.out HB0.out.size)
 have HWT1:=Hid.mk hwn
 have HWR1:=Hid.mk hWn
 clear hWn hwn HC x0 x1 x2 x3 x4 x5 x6
 obtain ⟨hn0,hn1⟩:=HP1.out (by decide)
 have HC1:=number_any w0.heap.size wb _ n.toNat w1 HWR1.out HB1.out.size (by omega)
 rw [show ((n.toNat:Nat):Int)=n by omega] at HC1
 obtain ⟨x0,x1,x2,x3,x4,x5,x6⟩:=cells6 (HBX.out w1 HWT1.out)
 go_wp2_with fail
 refine HC1.mono ?_
 rintro e w2 ⟨rfl,hWn,hwn⟩
 have HB2:Hid (RowKit.Below w0.heap.size w0 w2):=HB1.out.trans (hwn.toBelow HWR1.out HB1.out.size)
 have HWT2:=Hid.mk (HWT1.out.trans hwn)
 have HWR2:=Hid.mk hWn
 clear hWn hwn HC1 x0 x1 x2 x3 x4 x5 x6
 have HC2:=eachT_any w0 wb _ ks ka kc kb ko w2 HB2.out HWR2.out HK.out HKIDS.out (by omega) HIH.out
 obtain ⟨x0,x1,x2,x3,x4,x5,x6⟩:=cells6 (HBX.out w2 HWT2.out)
 go_wp2_with fail
 refine HC2.mono ?_
 rintro e w3 ⟨rfl,hWn,hwn⟩
 have HB3:Hid (RowKit.Below w0.heap.size w0 w3):=HB2.out.trans (hwn.toBelow HWR2.out HB2.out.size)
 have HWT3:=Hid.mk (HWT2.out.trans hwn)
 have HWR3:=Hid.mk hWn
 clear hWn hwn HC2 x0 x1 x2 x3 x4 x5 x6
 go_wp2
 go_end0
 refine ⟨rfl,?_,HWA.out.trans HWT3.out⟩
 have hr:=HWR3.out
 rw [HENC.out]
 unfold fieldB
 simpa [List.append_assoc] using hr
theorem formed_form {f n:Int}{hd:Bool}{nm:ByteArray}{ls:List LvT}{ks:List Tm}(hf:formedB (.mk f n hd nm ls ks)=true):f=1∨f=2∨f=3∨f=4∨f=5∨f=6∨f=7∨f=8∨f=9∨f=10∨f=11:=by
 have:=(formed_part hf).1
 unfold kidsR at this
 split at this
 ·omega
 ·split at this
  ·omega
  ·split at this
   ·omega
   ·split at this
    ·omega
    ·omega
theorem wterm_any (w0:World) (wb:Nat) (t:Tm):smT 1000000 t→formedB t=true→WTerm w0 wb t:=by
 refine Tm.ind (P:=fun t=>smT 1000000 t→formedB t=true→WTerm w0 wb t) ?_ t
 intro f n hd nm ls ks ih hsm hf
 obtain ⟨h1,h2,h3,h4,h5⟩:=(smT_mk _ _ _ _ _ _ _).1 hsm
 have hp:=formed_part hf
 have hih:∀k∈ks,WTerm w0 wb k:=fun k hk=>ih k hk (h5 k hk) (hp.2.2.2.2 k hk)
 rcases formed_form hf with rfl | rfl | rfl | rfl | rfl | rfl | rfl | rfl | rfl | rfl | rfl
 ·exact wterm1 w0 wb n hd nm ls ks hf h2 hih
 ·exact wterm2 w0 wb n hd nm ls ks hf h2 hih
 ·exact wterm3 w0 wb n hd nm ls ks hf h2 hih
 ·exact wterm4 w0 wb n hd nm ls ks hf h2 hih
 ·exact wterm5 w0 wb n hd nm ls ks hf h2 hih
 ·exact wterm6 w0 wb n hd nm ls ks hf h2 hih
 ·exact wterm7 w0 wb n hd nm ls ks hf h2 hih
 ·exact wterm8 w0 wb n hd nm ls ks hf h2 hih
 ·exact wterm9 w0 wb n hd nm ls ks hf h2 hih
 ·exact wterm10 w0 wb n hd nm ls ks hf h2 hih
 ·exact wterm11 w0 wb n hd nm ls ks hf h2 hih
end Go.Proofs.YtgfgpjcnfnopnaaGreat
