/- The contract of the reference's term. -/
import Derived.Test.YtgfgpjcnfnopnaaGreatEG
import Derived.Test.YtgfgpjcnfnopnaaGreatED
namespace Go.Proofs.YtgfgpjcnfnopnaaGreat
set_option maxRecDepth 100000
set_option maxHeartbeats 40000000
open Go.RowKit Go.Sort Go.Lib
def RTerm (w0:World) (t:Tm):Prop:=∀(v vt:Value) (bs:List UInt8) (w:World),TV w0 vt t→RowKit.Below w0.heap.size w0 w→OY w0.heap.size w v bs→bs.length+(encT t).length≤60000000000000→Calls Tryz.prog 59 #[v,vt] w (RfPost w0.heap.size v bs (encT t) w)
theorem flat_take_le {α:Type}{f:α→List UInt8}(xs:List α) (k:Nat):((xs.take k).flatMap f).length≤(xs.flatMap f).length:=by
 conv=>rhs;rw [←List.take_append_drop k xs]
 rw [List.flatMap_append,List.length_append]
 omega
theorem flat_kid {α:Type}{f:α→List UInt8}{xs:List α}{k:Nat}{x:α}(h:xs[k]?=some x):((xs.take k).flatMap f).length+(f x).length≤(xs.flatMap f).length:=by
 have:=flat_take_le (f:=f) xs (k+1)
 rw [flatMap_take h,List.length_append] at this
 exact this
theorem numB_flag (h:Bool):numB (if h then 1 else 0)=[if h then 1 else 0]:=by
 cases h
 ·rw [numB_small (by decide)];rfl
 ·rw [numB_small (by decide)];rfl
theorem rterm1 (w0:World) (n:Int) (hd:Bool) (nm:ByteArray) (ls:List LvT) (ks:List Tm) (hf:formedB (.mk 1 n hd nm ls ks)=true) (_hls:ls.length≤1000000) (ih:∀k∈ks,RTerm w0 k):RTerm w0 (.mk 1 n hd nm ls ks):=by
 intro v vt bs w hv hb0 hO hlen
 obtain ⟨hkn0,p1,p2,p10,-⟩:=formed_part hf
 have h3:kidsR 1≤0:=by decide
 have hkn:ks.length≤0:=by omega
 clear h3 hkn0 hf
 have HP1:=Hid.mk p1
 have HP2:=Hid.mk p2
 have HP10:=Hid.mk p10
 have HIH:=Hid.mk ih
 clear p1 p2 p10 ih
 have HENC:=Hid.mk (encT_mk 1 n hd nm ls ks)
 generalize encT (.mk 1 n hd nm ls ks)=ENC at HENC hlen ⊢
 have hlk:bs.length+(ks.flatMap encT).length+(fieldB 1 n hd nm ls).length+(numB 1).length≤60000000000000:=by
  have:=congrArg List.length HENC.out
  have e0:Int.toNat 1=1:=rfl
  rw [List.length_append,List.length_append,e0] at this
  omega
 cases hv with
 | @mk _ _ _ _ _ _ la lc ka kc kb ko hl hln hlc hlm hkn' hkc hkm hk kids =>
 have HK:=Hid.mk hk
 have HKIDS:=Hid.mk kids
 have HL:=Hid.mk hl
 clear hk kids hl hln hlc hlm hkn' hkc hkm
 obtain ⟨W0,hW0⟩:∃W0,w.alloc (.cells #[.int .i64 1,.int .i64 n,.bool hd,.string nm,.slice la ls.length lc,.slice ka ks.length kc] 36)=W0:=⟨_,rfl⟩
 have hb:RowKit.Below w.heap.size w W0:=by rw [←hW0];exact (Below.refl _ _).alloc (Nat.le_refl _) _
 have HX0:Hid (W0.heap[w.heap.size]?=some (.cells #[.int .i64 1,.int .i64 n,.bool hd,.string nm,.slice la ls.length lc,.slice ka ks.length kc] 36 (0,0))):=by unfold Hid;rw [←hW0];exact alloc_new _ _
 have HGA:Hid (GrwV v v w W0):=GrwV.below v hb
 have HG0:Hid (GrwV v v W0 W0):=GrwV.refl _ _
 have HB00:Hid (RowKit.Below w0.heap.size w0 W0):=hb0.trans (hb.mono hb0.size)
 have HO0:Hid (OY w0.heap.size W0 v bs):=hO.move fun k hk=>hb.block k (hO.lt hk).2
 have HO:=Hid.mk hO
 have HW0:=Hid.mk hW0
 have hf9:=numB_9 (n:=1) (by decide)
 clear hO hb0 hb hW0
 go_enter Tryz.func59,Tryz.ntmps59
 have HC0:=rnum_any w0.heap.size v bs 1 W0 HO0.out HB00.out.size (by omega) (by omega)
 obtain ⟨x0,x1,x2,x3,x4,x5,x6⟩:=cells6 (HG0.out.box HO.out HX0.out (Nat.le_refl _))
 go_wp2_with fail
 rw [HW0.out]
 refine HC0.mono ?_
 rintro e w1 ⟨v1,rfl,hOn,hgn⟩
 have HG1:Hid (GrwV v v1 W0 w1):=HG0.out.trans hgn
 have HB1:Hid (RowKit.Below w0.heap.size w0 w1):=HB00.out.trans (HG1.out.toBelow HO0.out HB00.out.size)
 have HO1:=Hid.mk hOn
 clear hOn hgn HC0 x0 x1 x2 x3 x4 x5 x6
 obtain ⟨hn0,hn1⟩:=HP1.out (by decide)
 have HC1:=rnum_any w0.heap.size v1 _ n.toNat w1 HO1.out HB1.out.size (by omega) (by simp;omega)
 rw [show ((n.toNat:Nat):Int)=n by omega] at HC1
 obtain ⟨x0,x1,x2,x3,x4,x5,x6⟩:=cells6 (HG1.out.box HO.out HX0.out (Nat.le_refl _))
 go_wp2_with fail
 refine HC1.mono ?_
 rintro e w2 ⟨v2,rfl,hOn,hgn⟩
 have HG2:Hid (GrwV v v2 W0 w2):=HG1.out.trans hgn
 have HB2:Hid (RowKit.Below w0.heap.size w0 w2):=HB00.out.trans (HG2.out.toBelow HO0.out HB00.out.size)
 have HO2:=Hid.mk hOn
 clear hOn hgn HC1 x0 x1 x2 x3 x4 x5 x6
 obtain ⟨q0,q1,q2,q3,q4,q5,q6⟩:=cells6 (HG2.out.box HO.out HX0.out (Nat.le_refl _))
 go_wp2
 clear q0 q1 q2 q3 q4 q5 q6
 go_loopw [0,7] (fun u i wr=>∃k:Nat,k≤ks.length∧i=.int .i64 k∧OY w0.heap.size wr u (bs++numB 1++numB n.toNat++(ks.take k).flatMap encT)∧GrwV v u W0 wr) (fun _ i _=>ks.length - (intOf i).toNat)
 case atStart=>exact ⟨0,Nat.zero_le _,rfl,by simpa [List.append_assoc] using HO2.out,HG2.out⟩
 case round =>
  obtain ⟨k,hk,rfl,hOr,hgr⟩:=hrel
  have HOR:=Hid.mk hOr
  have HGR:=Hid.mk hgr
  have HBR:Hid (RowKit.Below w0.heap.size w0 wr):=HB00.out.trans (hgr.toBelow HO0.out HB00.out.size)
  obtain ⟨x0,x1,x2,x3,x4,x5,x6⟩:=cells6 (hgr.box HO.out HX0.out (Nat.le_refl _))
  clear hOr hgr
  by_cases hlt:k<ks.length
  ·exact absurd hlt (by omega)
  ·obtain rfl:k=ks.length:=by omega
   go_wp2
   go_ret
   refine ⟨_,rfl,?_,HGA.out.trans HGR.out⟩
   have:=HOR.out
   rw [List.take_length] at this
   rw [HENC.out]
   unfold fieldB
   simpa [List.append_assoc] using this
theorem rterm2 (w0:World) (n:Int) (hd:Bool) (nm:ByteArray) (ls:List LvT) (ks:List Tm) (hf:formedB (.mk 2 n hd nm ls ks)=true) (_hls:ls.length≤1000000) (ih:∀k∈ks,RTerm w0 k):RTerm w0 (.mk 2 n hd nm ls ks):=by
 intro v vt bs w hv hb0 hO hlen
 obtain ⟨hkn0,p1,p2,p10,-⟩:=formed_part hf
 have h3:kidsR 2≤0:=by decide
 have hkn:ks.length≤0:=by omega
 clear h3 hkn0 hf
 have HP1:=Hid.mk p1
 have HP2:=Hid.mk p2
 have HP10:=Hid.mk p10
 have HIH:=Hid.mk ih
 clear p1 p2 p10 ih
 have HENC:=Hid.mk (encT_mk 2 n hd nm ls ks)
 generalize encT (.mk 2 n hd nm ls ks)=ENC at HENC hlen ⊢
 have hlk:bs.length+(ks.flatMap encT).length+(fieldB 2 n hd nm ls).length+(numB 2).length≤60000000000000:=by
  have:=congrArg List.length HENC.out
  have e0:Int.toNat 2=2:=rfl
  rw [List.length_append,List.length_append,e0] at this
  omega
 cases hv with
 | @mk _ _ _ _ _ _ la lc ka kc kb ko hl hln hlc hlm hkn' hkc hkm hk kids =>
 have HK:=Hid.mk hk
 have HKIDS:=Hid.mk kids
 have HL:=Hid.mk hl
 clear hk kids hl hln hlc hlm hkn' hkc hkm
 obtain ⟨W0,hW0⟩:∃W0,w.alloc (.cells #[.int .i64 2,.int .i64 n,.bool hd,.string nm,.slice la ls.length lc,.slice ka ks.length kc] 36)=W0:=⟨_,rfl⟩
 have hb:RowKit.Below w.heap.size w W0:=by rw [←hW0];exact (Below.refl _ _).alloc (Nat.le_refl _) _
 have HX0:Hid (W0.heap[w.heap.size]?=some (.cells #[.int .i64 2,.int .i64 n,.bool hd,.string nm,.slice la ls.length lc,.slice ka ks.length kc] 36 (0,0))):=by unfold Hid;rw [←hW0];exact alloc_new _ _
 have HGA:Hid (GrwV v v w W0):=GrwV.below v hb
 have HG0:Hid (GrwV v v W0 W0):=GrwV.refl _ _
 have HB00:Hid (RowKit.Below w0.heap.size w0 W0):=hb0.trans (hb.mono hb0.size)
 have HO0:Hid (OY w0.heap.size W0 v bs):=hO.move fun k hk=>hb.block k (hO.lt hk).2
 have HO:=Hid.mk hO
 have HW0:=Hid.mk hW0
 have hf9:=numB_9 (n:=2) (by decide)
 clear hO hb0 hb hW0
 go_enter Tryz.func59,Tryz.ntmps59
 have HC0:=rnum_any w0.heap.size v bs 2 W0 HO0.out HB00.out.size (by omega) (by omega)
 obtain ⟨x0,x1,x2,x3,x4,x5,x6⟩:=cells6 (HG0.out.box HO.out HX0.out (Nat.le_refl _))
 go_wp2_with fail
 rw [HW0.out]
 refine HC0.mono ?_
 rintro e w1 ⟨v1,rfl,hOn,hgn⟩
 have HG1:Hid (GrwV v v1 W0 w1):=HG0.out.trans hgn
 have HB1:Hid (RowKit.Below w0.heap.size w0 w1):=HB00.out.trans (HG1.out.toBelow HO0.out HB00.out.size)
 have HO1:=Hid.mk hOn
 clear hOn hgn HC0 x0 x1 x2 x3 x4 x5 x6
 obtain ⟨lv,hlv,hcl⟩:=HP2.out (by trivial)
 subst hlv
 obtain ⟨ln,lx⟩:=lv
 rcases HL.out with h | ⟨lb,lo,hla,hlb0,hlc⟩
 ·exact absurd h (by simp)
 subst hla
 obtain ⟨e0,la',lc',e1,hs',-⟩:=hlc 0 ln lx rfl
 rw [Nat.zero_mul,Nat.add_zero] at e0 e1
 have HSL:=Hid.mk hs'
 have HRL:=Hid.mk (canon_rightL hcl)
 clear hlc hs' hcl HL
 have c0:=(HB1.out.cell (p:=⟨lb,lo,none⟩) hlb0).trans e0
 have c1:=(HB1.out.cell (p:=⟨lb,lo+1,none⟩) hlb0).trans e1
 have hlbw:lb<w1.heap.size:=Nat.lt_of_lt_of_le hlb0 HB1.out.size
 have HC1:=rlevel_any w0 v1 _ ln lx la' lc' w1 HB1.out HO1.out HSL.out HRL.out (by simp;omega)
 obtain ⟨x0,x1,x2,x3,x4,x5,x6⟩:=cells6 (HG1.out.box HO.out HX0.out (Nat.le_refl _))
 go_wp2_with fail
 refine HC1.mono ?_
 rintro e w2 ⟨v2,rfl,hOn,hgn⟩
 have HG2:Hid (GrwV v v2 W0 w2):=HG1.out.trans hgn
 have HB2:Hid (RowKit.Below w0.heap.size w0 w2):=HB00.out.trans (HG2.out.toBelow HO0.out HB00.out.size)
 have HO2:=Hid.mk hOn
 clear hOn hgn HC1 x0 x1 x2 x3 x4 x5 x6
 clear c0 c1
 obtain ⟨q0,q1,q2,q3,q4,q5,q6⟩:=cells6 (HG2.out.box HO.out HX0.out (Nat.le_refl _))
 go_wp2
 clear q0 q1 q2 q3 q4 q5 q6
 go_loopw [0,7] (fun u i wr=>∃k:Nat,k≤ks.length∧i=.int .i64 k∧OY w0.heap.size wr u (bs++numB 2++levB (ln,lx)++(ks.take k).flatMap encT)∧GrwV v u W0 wr) (fun _ i _=>ks.length - (intOf i).toNat)
 case atStart=>exact ⟨0,Nat.zero_le _,rfl,by simpa [List.append_assoc] using HO2.out,HG2.out⟩
 case round =>
  obtain ⟨k,hk,rfl,hOr,hgr⟩:=hrel
  have HOR:=Hid.mk hOr
  have HGR:=Hid.mk hgr
  have HBR:Hid (RowKit.Below w0.heap.size w0 wr):=HB00.out.trans (hgr.toBelow HO0.out HB00.out.size)
  obtain ⟨x0,x1,x2,x3,x4,x5,x6⟩:=cells6 (hgr.box HO.out HX0.out (Nat.le_refl _))
  clear hOr hgr
  by_cases hlt:k<ks.length
  ·exact absurd hlt (by omega)
  ·obtain rfl:k=ks.length:=by omega
   go_wp2
   go_ret
   refine ⟨_,rfl,?_,HGA.out.trans HGR.out⟩
   have:=HOR.out
   rw [List.take_length] at this
   rw [HENC.out]
   unfold fieldB
   simpa [List.append_assoc] using this
theorem rterm3 (w0:World) (n:Int) (hd:Bool) (nm:ByteArray) (ls:List LvT) (ks:List Tm) (hf:formedB (.mk 3 n hd nm ls ks)=true) (_hls:ls.length≤1000000) (ih:∀k∈ks,RTerm w0 k):RTerm w0 (.mk 3 n hd nm ls ks):=by
 intro v vt bs w hv hb0 hO hlen
 obtain ⟨hkn0,p1,p2,p10,-⟩:=formed_part hf
 have h3:kidsR 3≤3:=by decide
 have hkn:ks.length≤3:=by omega
 clear h3 hkn0 hf
 have HP1:=Hid.mk p1
 have HP2:=Hid.mk p2
 have HP10:=Hid.mk p10
 have HIH:=Hid.mk ih
 clear p1 p2 p10 ih
 have HENC:=Hid.mk (encT_mk 3 n hd nm ls ks)
 generalize encT (.mk 3 n hd nm ls ks)=ENC at HENC hlen ⊢
 have hlk:bs.length+(ks.flatMap encT).length+(fieldB 3 n hd nm ls).length+(numB 3).length≤60000000000000:=by
  have:=congrArg List.length HENC.out
  have e0:Int.toNat 3=3:=rfl
  rw [List.length_append,List.length_append,e0] at this
  omega
 cases hv with
 | @mk _ _ _ _ _ _ la lc ka kc kb ko hl hln hlc hlm hkn' hkc hkm hk kids =>
 have HK:=Hid.mk hk
 have HKIDS:=Hid.mk kids
 have HL:=Hid.mk hl
 clear hk kids hl hln hlc hlm hkn' hkc hkm
 obtain ⟨W0,hW0⟩:∃W0,w.alloc (.cells #[.int .i64 3,.int .i64 n,.bool hd,.string nm,.slice la ls.length lc,.slice ka ks.length kc] 36)=W0:=⟨_,rfl⟩
 have hb:RowKit.Below w.heap.size w W0:=by rw [←hW0];exact (Below.refl _ _).alloc (Nat.le_refl _) _
 have HX0:Hid (W0.heap[w.heap.size]?=some (.cells #[.int .i64 3,.int .i64 n,.bool hd,.string nm,.slice la ls.length lc,.slice ka ks.length kc] 36 (0,0))):=by unfold Hid;rw [←hW0];exact alloc_new _ _
 have HGA:Hid (GrwV v v w W0):=GrwV.below v hb
 have HG0:Hid (GrwV v v W0 W0):=GrwV.refl _ _
 have HB00:Hid (RowKit.Below w0.heap.size w0 W0):=hb0.trans (hb.mono hb0.size)
 have HO0:Hid (OY w0.heap.size W0 v bs):=hO.move fun k hk=>hb.block k (hO.lt hk).2
 have HO:=Hid.mk hO
 have HW0:=Hid.mk hW0
 have hf9:=numB_9 (n:=3) (by decide)
 clear hO hb0 hb hW0
 go_enter Tryz.func59,Tryz.ntmps59
 have HC0:=rnum_any w0.heap.size v bs 3 W0 HO0.out HB00.out.size (by omega) (by omega)
 obtain ⟨x0,x1,x2,x3,x4,x5,x6⟩:=cells6 (HG0.out.box HO.out HX0.out (Nat.le_refl _))
 go_wp2_with fail
 rw [HW0.out]
 refine HC0.mono ?_
 rintro e w1 ⟨v1,rfl,hOn,hgn⟩
 have HG1:Hid (GrwV v v1 W0 w1):=HG0.out.trans hgn
 have HB1:Hid (RowKit.Below w0.heap.size w0 w1):=HB00.out.trans (HG1.out.toBelow HO0.out HB00.out.size)
 have HO1:=Hid.mk hOn
 clear hOn hgn HC0 x0 x1 x2 x3 x4 x5 x6
 cases hd
 ·have HC1:=rnum_any w0.heap.size v1 _ 0 w1 HO1.out HB1.out.size (by omega) (by simp;omega)
  rw [show numB 0=[if false then 1 else 0] from numB_flag false] at HC1
  obtain ⟨x0,x1,x2,x3,x4,x5,x6⟩:=cells6 (HG1.out.box HO.out HX0.out (Nat.le_refl _))
  go_wp2_with fail
  refine HC1.mono ?_
  rintro e w2 ⟨v2,rfl,hOn,hgn⟩
  have HG2:Hid (GrwV v v2 W0 w2):=HG1.out.trans hgn
  have HB2:Hid (RowKit.Below w0.heap.size w0 w2):=HB00.out.trans (HG2.out.toBelow HO0.out HB00.out.size)
  have HO2:=Hid.mk hOn
  clear hOn hgn HC1 x0 x1 x2 x3 x4 x5 x6
  obtain ⟨q0,q1,q2,q3,q4,q5,q6⟩:=cells6 (HG2.out.box HO.out HX0.out (Nat.le_refl _))
  go_wp2
  clear q0 q1 q2 q3 q4 q5 q6
  go_loopw [0,7] (fun u i wr=>∃k:Nat,k≤ks.length∧i=.int .i64 k∧OY w0.heap.size wr u (bs++numB 3++[if false then 1 else 0]++(ks.take k).flatMap encT)∧GrwV v u W0 wr) (fun _ i _=>ks.length - (intOf i).toNat)
  case atStart=>exact ⟨0,Nat.zero_le _,rfl,by simpa [List.append_assoc] using HO2.out,HG2.out⟩
  case round =>
   obtain ⟨k,hk,rfl,hOr,hgr⟩:=hrel
   have HOR:=Hid.mk hOr
   have HGR:=Hid.mk hgr
   have HBR:Hid (RowKit.Below w0.heap.size w0 wr):=HB00.out.trans (hgr.toBelow HO0.out HB00.out.size)
   obtain ⟨x0,x1,x2,x3,x4,x5,x6⟩:=cells6 (hgr.box HO.out HX0.out (Nat.le_refl _))
   clear hOr hgr
   by_cases hlt:k<ks.length
   ·obtain ⟨rfl,hkb0⟩:=HK.out (by intro e;rw [e] at hlt;simp at hlt)
    have hmem:ks[k]∈ks:=List.getElem_mem hlt
    obtain ⟨y0,y1,y2,y3,l1,l2,l3,k1,k2,k3,c0,c1,c2,c3,c4,c5,htv⟩:=(HKIDS.out k _ (List.getElem?_eq_getElem hlt)).valE
    have d0:=(HBR.out.cell (p:=⟨kb,ko+k*6,none⟩) hkb0).trans c0
    have d1:=(HBR.out.cell (p:=⟨kb,ko+k*6+1,none⟩) hkb0).trans c1
    have d2:=(HBR.out.cell (p:=⟨kb,ko+k*6+2,none⟩) hkb0).trans c2
    have d3:=(HBR.out.cell (p:=⟨kb,ko+k*6+3,none⟩) hkb0).trans c3
    have d4:=(HBR.out.cell (p:=⟨kb,ko+k*6+4,none⟩) hkb0).trans c4
    have d5:=(HBR.out.cell (p:=⟨kb,ko+k*6+5,none⟩) hkb0).trans c5
    have hbl:kb<wr.heap.size:=Nat.lt_of_lt_of_le hkb0 HBR.out.size
    have hfk:=flat_kid (f:=encT) (List.getElem?_eq_getElem hlt)
    have e:fieldB 3 n false nm ls=[if false then 1 else 0]:=by unfold fieldB;simp
    have hlk2:=hlk
    rw [e] at hlk2
    simp only [List.length_cons,List.length_nil] at hlk2
    have HC:=HIH.out _ hmem u0 _ _ wr htv HBR.out HOR.out (by simp only [List.length_append,List.length_cons,List.length_nil];omega)
    have HTK:Hid ((ks.take (k+1)).flatMap encT=(ks.take k).flatMap encT++encT ks[k]):=flatMap_take (List.getElem?_eq_getElem hlt)
    clear c0 c1 c2 c3 c4 c5 hmem htv hkb0 hlk2 hfk e
    generalize ks[k]=kk at *
    go_wp2_with fail
    refine HC.mono ?_
    rintro e w5 ⟨v5,rfl,hO5,hg5⟩
    have HO5:=Hid.mk hO5
    have HG5:Hid (GrwV v v5 W0 w5):=HGR.out.trans hg5
    clear hO5 hg5 HC
    go_wp2
    refine ⟨⟨k+1,hlt,by go_num,?_,HG5.out⟩,by simp [intOf];omega⟩
    rw [HTK.out]
    have:=HO5.out
    simpa [List.append_assoc] using this
   ·obtain rfl:k=ks.length:=by omega
    go_wp2
    go_ret
    refine ⟨_,rfl,?_,HGA.out.trans HGR.out⟩
    have:=HOR.out
    rw [List.take_length] at this
    rw [HENC.out]
    unfold fieldB
    simpa [List.append_assoc] using this
 ·have HC1:=rnum_any w0.heap.size v1 _ 1 w1 HO1.out HB1.out.size (by omega) (by simp;omega)
  rw [show numB 1=[if true then 1 else 0] from numB_flag true] at HC1
  obtain ⟨x0,x1,x2,x3,x4,x5,x6⟩:=cells6 (HG1.out.box HO.out HX0.out (Nat.le_refl _))
  go_wp2_with fail
  refine HC1.mono ?_
  rintro e w2 ⟨v2,rfl,hOn,hgn⟩
  have HG2:Hid (GrwV v v2 W0 w2):=HG1.out.trans hgn
  have HB2:Hid (RowKit.Below w0.heap.size w0 w2):=HB00.out.trans (HG2.out.toBelow HO0.out HB00.out.size)
  have HO2:=Hid.mk hOn
  clear hOn hgn HC1 x0 x1 x2 x3 x4 x5 x6
  obtain ⟨q0,q1,q2,q3,q4,q5,q6⟩:=cells6 (HG2.out.box HO.out HX0.out (Nat.le_refl _))
  go_wp2
  clear q0 q1 q2 q3 q4 q5 q6
  go_loopw [0,7] (fun u i wr=>∃k:Nat,k≤ks.length∧i=.int .i64 k∧OY w0.heap.size wr u (bs++numB 3++[if true then 1 else 0]++(ks.take k).flatMap encT)∧GrwV v u W0 wr) (fun _ i _=>ks.length - (intOf i).toNat)
  case atStart=>exact ⟨0,Nat.zero_le _,rfl,by simpa [List.append_assoc] using HO2.out,HG2.out⟩
  case round =>
   obtain ⟨k,hk,rfl,hOr,hgr⟩:=hrel
   have HOR:=Hid.mk hOr
   have HGR:=Hid.mk hgr
   have HBR:Hid (RowKit.Below w0.heap.size w0 wr):=HB00.out.trans (hgr.toBelow HO0.out HB00.out.size)
   obtain ⟨x0,x1,x2,x3,x4,x5,x6⟩:=cells6 (hgr.box HO.out HX0.out (Nat.le_refl _))
   clear hOr hgr
   by_cases hlt:k<ks.length
   ·obtain ⟨rfl,hkb0⟩:=HK.out (by intro e;rw [e] at hlt;simp at hlt)
    have hmem:ks[k]∈ks:=List.getElem_mem hlt
    obtain ⟨y0,y1,y2,y3,l1,l2,l3,k1,k2,k3,c0,c1,c2,c3,c4,c5,htv⟩:=(HKIDS.out k _ (List.getElem?_eq_getElem hlt)).valE
    have d0:=(HBR.out.cell (p:=⟨kb,ko+k*6,none⟩) hkb0).trans c0
    have d1:=(HBR.out.cell (p:=⟨kb,ko+k*6+1,none⟩) hkb0).trans c1
    have d2:=(HBR.out.cell (p:=⟨kb,ko+k*6+2,none⟩) hkb0).trans c2
    have d3:=(HBR.out.cell (p:=⟨kb,ko+k*6+3,none⟩) hkb0).trans c3
    have d4:=(HBR.out.cell (p:=⟨kb,ko+k*6+4,none⟩) hkb0).trans c4
    have d5:=(HBR.out.cell (p:=⟨kb,ko+k*6+5,none⟩) hkb0).trans c5
    have hbl:kb<wr.heap.size:=Nat.lt_of_lt_of_le hkb0 HBR.out.size
    have hfk:=flat_kid (f:=encT) (List.getElem?_eq_getElem hlt)
    have e:fieldB 3 n true nm ls=[if true then 1 else 0]:=by unfold fieldB;simp
    have hlk2:=hlk
    rw [e] at hlk2
    simp only [List.length_cons,List.length_nil] at hlk2
    have HC:=HIH.out _ hmem u0 _ _ wr htv HBR.out HOR.out (by simp only [List.length_append,List.length_cons,List.length_nil];omega)
    have HTK:Hid ((ks.take (k+1)).flatMap encT=(ks.take k).flatMap encT++encT ks[k]):=flatMap_take (List.getElem?_eq_getElem hlt)
    clear c0 c1 c2 c3 c4 c5 hmem htv hkb0 hlk2 hfk e
    generalize ks[k]=kk at *
    go_wp2_with fail
    refine HC.mono ?_
    rintro e w5 ⟨v5,rfl,hO5,hg5⟩
    have HO5:=Hid.mk hO5
    have HG5:Hid (GrwV v v5 W0 w5):=HGR.out.trans hg5
    clear hO5 hg5 HC
    go_wp2
    refine ⟨⟨k+1,hlt,by go_num,?_,HG5.out⟩,by simp [intOf];omega⟩
    rw [HTK.out]
    have:=HO5.out
    simpa [List.append_assoc] using this
   ·obtain rfl:k=ks.length:=by omega
    go_wp2
    go_ret
    refine ⟨_,rfl,?_,HGA.out.trans HGR.out⟩
    have:=HOR.out
    rw [List.take_length] at this
    rw [HENC.out]
    unfold fieldB
    simpa [List.append_assoc] using this
theorem rterm4 (w0:World) (n:Int) (hd:Bool) (nm:ByteArray) (ls:List LvT) (ks:List Tm) (hf:formedB (.mk 4 n hd nm ls ks)=true) (_hls:ls.length≤1000000) (ih:∀k∈ks,RTerm w0 k):RTerm w0 (.mk 4 n hd nm ls ks):=by
 intro v vt bs w hv hb0 hO hlen
 obtain ⟨hkn0,p1,p2,p10,-⟩:=formed_part hf
 have h3:kidsR 4≤3:=by decide
 have hkn:ks.length≤3:=by omega
 clear h3 hkn0 hf
 have HP1:=Hid.mk p1
 have HP2:=Hid.mk p2
 have HP10:=Hid.mk p10
 have HIH:=Hid.mk ih
 clear p1 p2 p10 ih
 have HENC:=Hid.mk (encT_mk 4 n hd nm ls ks)
 generalize encT (.mk 4 n hd nm ls ks)=ENC at HENC hlen ⊢
 have hlk:bs.length+(ks.flatMap encT).length+(fieldB 4 n hd nm ls).length+(numB 4).length≤60000000000000:=by
  have:=congrArg List.length HENC.out
  have e0:Int.toNat 4=4:=rfl
  rw [List.length_append,List.length_append,e0] at this
  omega
 cases hv with
 | @mk _ _ _ _ _ _ la lc ka kc kb ko hl hln hlc hlm hkn' hkc hkm hk kids =>
 have HK:=Hid.mk hk
 have HKIDS:=Hid.mk kids
 have HL:=Hid.mk hl
 clear hk kids hl hln hlc hlm hkn' hkc hkm
 obtain ⟨W0,hW0⟩:∃W0,w.alloc (.cells #[.int .i64 4,.int .i64 n,.bool hd,.string nm,.slice la ls.length lc,.slice ka ks.length kc] 36)=W0:=⟨_,rfl⟩
 have hb:RowKit.Below w.heap.size w W0:=by rw [←hW0];exact (Below.refl _ _).alloc (Nat.le_refl _) _
 have HX0:Hid (W0.heap[w.heap.size]?=some (.cells #[.int .i64 4,.int .i64 n,.bool hd,.string nm,.slice la ls.length lc,.slice ka ks.length kc] 36 (0,0))):=by unfold Hid;rw [←hW0];exact alloc_new _ _
 have HGA:Hid (GrwV v v w W0):=GrwV.below v hb
 have HG0:Hid (GrwV v v W0 W0):=GrwV.refl _ _
 have HB00:Hid (RowKit.Below w0.heap.size w0 W0):=hb0.trans (hb.mono hb0.size)
 have HO0:Hid (OY w0.heap.size W0 v bs):=hO.move fun k hk=>hb.block k (hO.lt hk).2
 have HO:=Hid.mk hO
 have HW0:=Hid.mk hW0
 have hf9:=numB_9 (n:=4) (by decide)
 clear hO hb0 hb hW0
 go_enter Tryz.func59,Tryz.ntmps59
 have HC0:=rnum_any w0.heap.size v bs 4 W0 HO0.out HB00.out.size (by omega) (by omega)
 obtain ⟨x0,x1,x2,x3,x4,x5,x6⟩:=cells6 (HG0.out.box HO.out HX0.out (Nat.le_refl _))
 go_wp2_with fail
 rw [HW0.out]
 refine HC0.mono ?_
 rintro e w1 ⟨v1,rfl,hOn,hgn⟩
 have HG1:Hid (GrwV v v1 W0 w1):=HG0.out.trans hgn
 have HB1:Hid (RowKit.Below w0.heap.size w0 w1):=HB00.out.trans (HG1.out.toBelow HO0.out HB00.out.size)
 have HO1:=Hid.mk hOn
 clear hOn hgn HC0 x0 x1 x2 x3 x4 x5 x6
 cases hd
 ·have HC1:=rnum_any w0.heap.size v1 _ 0 w1 HO1.out HB1.out.size (by omega) (by simp;omega)
  rw [show numB 0=[if false then 1 else 0] from numB_flag false] at HC1
  obtain ⟨x0,x1,x2,x3,x4,x5,x6⟩:=cells6 (HG1.out.box HO.out HX0.out (Nat.le_refl _))
  go_wp2_with fail
  refine HC1.mono ?_
  rintro e w2 ⟨v2,rfl,hOn,hgn⟩
  have HG2:Hid (GrwV v v2 W0 w2):=HG1.out.trans hgn
  have HB2:Hid (RowKit.Below w0.heap.size w0 w2):=HB00.out.trans (HG2.out.toBelow HO0.out HB00.out.size)
  have HO2:=Hid.mk hOn
  clear hOn hgn HC1 x0 x1 x2 x3 x4 x5 x6
  obtain ⟨q0,q1,q2,q3,q4,q5,q6⟩:=cells6 (HG2.out.box HO.out HX0.out (Nat.le_refl _))
  go_wp2
  clear q0 q1 q2 q3 q4 q5 q6
  go_loopw [0,7] (fun u i wr=>∃k:Nat,k≤ks.length∧i=.int .i64 k∧OY w0.heap.size wr u (bs++numB 4++[if false then 1 else 0]++(ks.take k).flatMap encT)∧GrwV v u W0 wr) (fun _ i _=>ks.length - (intOf i).toNat)
  case atStart=>exact ⟨0,Nat.zero_le _,rfl,by simpa [List.append_assoc] using HO2.out,HG2.out⟩
  case round =>
   obtain ⟨k,hk,rfl,hOr,hgr⟩:=hrel
   have HOR:=Hid.mk hOr
   have HGR:=Hid.mk hgr
   have HBR:Hid (RowKit.Below w0.heap.size w0 wr):=HB00.out.trans (hgr.toBelow HO0.out HB00.out.size)
   obtain ⟨x0,x1,x2,x3,x4,x5,x6⟩:=cells6 (hgr.box HO.out HX0.out (Nat.le_refl _))
   clear hOr hgr
   by_cases hlt:k<ks.length
   ·obtain ⟨rfl,hkb0⟩:=HK.out (by intro e;rw [e] at hlt;simp at hlt)
    have hmem:ks[k]∈ks:=List.getElem_mem hlt
    obtain ⟨y0,y1,y2,y3,l1,l2,l3,k1,k2,k3,c0,c1,c2,c3,c4,c5,htv⟩:=(HKIDS.out k _ (List.getElem?_eq_getElem hlt)).valE
    have d0:=(HBR.out.cell (p:=⟨kb,ko+k*6,none⟩) hkb0).trans c0
    have d1:=(HBR.out.cell (p:=⟨kb,ko+k*6+1,none⟩) hkb0).trans c1
    have d2:=(HBR.out.cell (p:=⟨kb,ko+k*6+2,none⟩) hkb0).trans c2
    have d3:=(HBR.out.cell (p:=⟨kb,ko+k*6+3,none⟩) hkb0).trans c3
    have d4:=(HBR.out.cell (p:=⟨kb,ko+k*6+4,none⟩) hkb0).trans c4
    have d5:=(HBR.out.cell (p:=⟨kb,ko+k*6+5,none⟩) hkb0).trans c5
    have hbl:kb<wr.heap.size:=Nat.lt_of_lt_of_le hkb0 HBR.out.size
    have hfk:=flat_kid (f:=encT) (List.getElem?_eq_getElem hlt)
    have e:fieldB 4 n false nm ls=[if false then 1 else 0]:=by unfold fieldB;simp
    have hlk2:=hlk
    rw [e] at hlk2
    simp only [List.length_cons,List.length_nil] at hlk2
    have HC:=HIH.out _ hmem u0 _ _ wr htv HBR.out HOR.out (by simp only [List.length_append,List.length_cons,List.length_nil];omega)
    have HTK:Hid ((ks.take (k+1)).flatMap encT=(ks.take k).flatMap encT++encT ks[k]):=flatMap_take (List.getElem?_eq_getElem hlt)
    clear c0 c1 c2 c3 c4 c5 hmem htv hkb0 hlk2 hfk e
    generalize ks[k]=kk at *
    go_wp2_with fail
    refine HC.mono ?_
    rintro e w5 ⟨v5,rfl,hO5,hg5⟩
    have HO5:=Hid.mk hO5
    have HG5:Hid (GrwV v v5 W0 w5):=HGR.out.trans hg5
    clear hO5 hg5 HC
    go_wp2
    refine ⟨⟨k+1,hlt,by go_num,?_,HG5.out⟩,by simp [intOf];omega⟩
    rw [HTK.out]
    have:=HO5.out
    simpa [List.append_assoc] using this
   ·obtain rfl:k=ks.length:=by omega
    go_wp2
    go_ret
    refine ⟨_,rfl,?_,HGA.out.trans HGR.out⟩
    have:=HOR.out
    rw [List.take_length] at this
    rw [HENC.out]
    unfold fieldB
    simpa [List.append_assoc] using this
 ·have HC1:=rnum_any w0.heap.size v1 _ 1 w1 HO1.out HB1.out.size (by omega) (by simp;omega)
  rw [show numB 1=[if true then 1 else 0] from numB_flag true] at HC1
  obtain ⟨x0,x1,x2,x3,x4,x5,x6⟩:=cells6 (HG1.out.box HO.out HX0.out (Nat.le_refl _))
  go_wp2_with fail
  refine HC1.mono ?_
  rintro e w2 ⟨v2,rfl,hOn,hgn⟩
  have HG2:Hid (GrwV v v2 W0 w2):=HG1.out.trans hgn
  have HB2:Hid (RowKit.Below w0.heap.size w0 w2):=HB00.out.trans (HG2.out.toBelow HO0.out HB00.out.size)
  have HO2:=Hid.mk hOn
  clear hOn hgn HC1 x0 x1 x2 x3 x4 x5 x6
  obtain ⟨q0,q1,q2,q3,q4,q5,q6⟩:=cells6 (HG2.out.box HO.out HX0.out (Nat.le_refl _))
  go_wp2
  clear q0 q1 q2 q3 q4 q5 q6
  go_loopw [0,7] (fun u i wr=>∃k:Nat,k≤ks.length∧i=.int .i64 k∧OY w0.heap.size wr u (bs++numB 4++[if true then 1 else 0]++(ks.take k).flatMap encT)∧GrwV v u W0 wr) (fun _ i _=>ks.length - (intOf i).toNat)
  case atStart=>exact ⟨0,Nat.zero_le _,rfl,by simpa [List.append_assoc] using HO2.out,HG2.out⟩
  case round =>
   obtain ⟨k,hk,rfl,hOr,hgr⟩:=hrel
   have HOR:=Hid.mk hOr
   have HGR:=Hid.mk hgr
   have HBR:Hid (RowKit.Below w0.heap.size w0 wr):=HB00.out.trans (hgr.toBelow HO0.out HB00.out.size)
   obtain ⟨x0,x1,x2,x3,x4,x5,x6⟩:=cells6 (hgr.box HO.out HX0.out (Nat.le_refl _))
   clear hOr hgr
   by_cases hlt:k<ks.length
   ·obtain ⟨rfl,hkb0⟩:=HK.out (by intro e;rw [e] at hlt;simp at hlt)
    have hmem:ks[k]∈ks:=List.getElem_mem hlt
    obtain ⟨y0,y1,y2,y3,l1,l2,l3,k1,k2,k3,c0,c1,c2,c3,c4,c5,htv⟩:=(HKIDS.out k _ (List.getElem?_eq_getElem hlt)).valE
    have d0:=(HBR.out.cell (p:=⟨kb,ko+k*6,none⟩) hkb0).trans c0
    have d1:=(HBR.out.cell (p:=⟨kb,ko+k*6+1,none⟩) hkb0).trans c1
    have d2:=(HBR.out.cell (p:=⟨kb,ko+k*6+2,none⟩) hkb0).trans c2
    have d3:=(HBR.out.cell (p:=⟨kb,ko+k*6+3,none⟩) hkb0).trans c3
    have d4:=(HBR.out.cell (p:=⟨kb,ko+k*6+4,none⟩) hkb0).trans c4
    have d5:=(HBR.out.cell (p:=⟨kb,ko+k*6+5,none⟩) hkb0).trans c5
    have hbl:kb<wr.heap.size:=Nat.lt_of_lt_of_le hkb0 HBR.out.size
    have hfk:=flat_kid (f:=encT) (List.getElem?_eq_getElem hlt)
    have e:fieldB 4 n true nm ls=[if true then 1 else 0]:=by unfold fieldB;simp
    have hlk2:=hlk
    rw [e] at hlk2
    simp only [List.length_cons,List.length_nil] at hlk2
    have HC:=HIH.out _ hmem u0 _ _ wr htv HBR.out HOR.out (by simp only [List.length_append,List.length_cons,List.length_nil];omega)
    have HTK:Hid ((ks.take (k+1)).flatMap encT=(ks.take k).flatMap encT++encT ks[k]):=flatMap_take (List.getElem?_eq_getElem hlt)
    clear c0 c1 c2 c3 c4 c5 hmem htv hkb0 hlk2 hfk e
    generalize ks[k]=kk at *
    go_wp2_with fail
    refine HC.mono ?_
    rintro e w5 ⟨v5,rfl,hO5,hg5⟩
    have HO5:=Hid.mk hO5
    have HG5:Hid (GrwV v v5 W0 w5):=HGR.out.trans hg5
    clear hO5 hg5 HC
    go_wp2
    refine ⟨⟨k+1,hlt,by go_num,?_,HG5.out⟩,by simp [intOf];omega⟩
    rw [HTK.out]
    have:=HO5.out
    simpa [List.append_assoc] using this
   ·obtain rfl:k=ks.length:=by omega
    go_wp2
    go_ret
    refine ⟨_,rfl,?_,HGA.out.trans HGR.out⟩
    have:=HOR.out
    rw [List.take_length] at this
    rw [HENC.out]
    unfold fieldB
    simpa [List.append_assoc] using this
theorem rterm5 (w0:World) (n:Int) (hd:Bool) (nm:ByteArray) (ls:List LvT) (ks:List Tm) (hf:formedB (.mk 5 n hd nm ls ks)=true) (_hls:ls.length≤1000000) (ih:∀k∈ks,RTerm w0 k):RTerm w0 (.mk 5 n hd nm ls ks):=by
 intro v vt bs w hv hb0 hO hlen
 obtain ⟨hkn0,p1,p2,p10,-⟩:=formed_part hf
 have h3:kidsR 5≤3:=by decide
 have hkn:ks.length≤3:=by omega
 clear h3 hkn0 hf
 have HP1:=Hid.mk p1
 have HP2:=Hid.mk p2
 have HP10:=Hid.mk p10
 have HIH:=Hid.mk ih
 clear p1 p2 p10 ih
 have HENC:=Hid.mk (encT_mk 5 n hd nm ls ks)
 generalize encT (.mk 5 n hd nm ls ks)=ENC at HENC hlen ⊢
 have hlk:bs.length+(ks.flatMap encT).length+(fieldB 5 n hd nm ls).length+(numB 5).length≤60000000000000:=by
  have:=congrArg List.length HENC.out
  have e0:Int.toNat 5=5:=rfl
  rw [List.length_append,List.length_append,e0] at this
  omega
 cases hv with
 | @mk _ _ _ _ _ _ la lc ka kc kb ko hl hln hlc hlm hkn' hkc hkm hk kids =>
 have HK:=Hid.mk hk
 have HKIDS:=Hid.mk kids
 have HL:=Hid.mk hl
 clear hk kids hl hln hlc hlm hkn' hkc hkm
 obtain ⟨W0,hW0⟩:∃W0,w.alloc (.cells #[.int .i64 5,.int .i64 n,.bool hd,.string nm,.slice la ls.length lc,.slice ka ks.length kc] 36)=W0:=⟨_,rfl⟩
 have hb:RowKit.Below w.heap.size w W0:=by rw [←hW0];exact (Below.refl _ _).alloc (Nat.le_refl _) _
 have HX0:Hid (W0.heap[w.heap.size]?=some (.cells #[.int .i64 5,.int .i64 n,.bool hd,.string nm,.slice la ls.length lc,.slice ka ks.length kc] 36 (0,0))):=by unfold Hid;rw [←hW0];exact alloc_new _ _
 have HGA:Hid (GrwV v v w W0):=GrwV.below v hb
 have HG0:Hid (GrwV v v W0 W0):=GrwV.refl _ _
 have HB00:Hid (RowKit.Below w0.heap.size w0 W0):=hb0.trans (hb.mono hb0.size)
 have HO0:Hid (OY w0.heap.size W0 v bs):=hO.move fun k hk=>hb.block k (hO.lt hk).2
 have HO:=Hid.mk hO
 have HW0:=Hid.mk hW0
 have hf9:=numB_9 (n:=5) (by decide)
 clear hO hb0 hb hW0
 go_enter Tryz.func59,Tryz.ntmps59
 have HC0:=rnum_any w0.heap.size v bs 5 W0 HO0.out HB00.out.size (by omega) (by omega)
 obtain ⟨x0,x1,x2,x3,x4,x5,x6⟩:=cells6 (HG0.out.box HO.out HX0.out (Nat.le_refl _))
 go_wp2_with fail
 rw [HW0.out]
 refine HC0.mono ?_
 rintro e w1 ⟨v1,rfl,hOn,hgn⟩
 have HG1:Hid (GrwV v v1 W0 w1):=HG0.out.trans hgn
 have HB1:Hid (RowKit.Below w0.heap.size w0 w1):=HB00.out.trans (HG1.out.toBelow HO0.out HB00.out.size)
 have HO1:=Hid.mk hOn
 clear hOn hgn HC0 x0 x1 x2 x3 x4 x5 x6
 cases hd
 ·have HC1:=rnum_any w0.heap.size v1 _ 0 w1 HO1.out HB1.out.size (by omega) (by simp;omega)
  rw [show numB 0=[if false then 1 else 0] from numB_flag false] at HC1
  obtain ⟨x0,x1,x2,x3,x4,x5,x6⟩:=cells6 (HG1.out.box HO.out HX0.out (Nat.le_refl _))
  go_wp2_with fail
  refine HC1.mono ?_
  rintro e w2 ⟨v2,rfl,hOn,hgn⟩
  have HG2:Hid (GrwV v v2 W0 w2):=HG1.out.trans hgn
  have HB2:Hid (RowKit.Below w0.heap.size w0 w2):=HB00.out.trans (HG2.out.toBelow HO0.out HB00.out.size)
  have HO2:=Hid.mk hOn
  clear hOn hgn HC1 x0 x1 x2 x3 x4 x5 x6
  obtain ⟨q0,q1,q2,q3,q4,q5,q6⟩:=cells6 (HG2.out.box HO.out HX0.out (Nat.le_refl _))
  go_wp2
  clear q0 q1 q2 q3 q4 q5 q6
  go_loopw [0,7] (fun u i wr=>∃k:Nat,k≤ks.length∧i=.int .i64 k∧OY w0.heap.size wr u (bs++numB 5++[if false then 1 else 0]++(ks.take k).flatMap encT)∧GrwV v u W0 wr) (fun _ i _=>ks.length - (intOf i).toNat)
  case atStart=>exact ⟨0,Nat.zero_le _,rfl,by simpa [List.append_assoc] using HO2.out,HG2.out⟩
  case round =>
   obtain ⟨k,hk,rfl,hOr,hgr⟩:=hrel
   have HOR:=Hid.mk hOr
   have HGR:=Hid.mk hgr
   have HBR:Hid (RowKit.Below w0.heap.size w0 wr):=HB00.out.trans (hgr.toBelow HO0.out HB00.out.size)
   obtain ⟨x0,x1,x2,x3,x4,x5,x6⟩:=cells6 (hgr.box HO.out HX0.out (Nat.le_refl _))
   clear hOr hgr
   by_cases hlt:k<ks.length
   ·obtain ⟨rfl,hkb0⟩:=HK.out (by intro e;rw [e] at hlt;simp at hlt)
    have hmem:ks[k]∈ks:=List.getElem_mem hlt
    obtain ⟨y0,y1,y2,y3,l1,l2,l3,k1,k2,k3,c0,c1,c2,c3,c4,c5,htv⟩:=(HKIDS.out k _ (List.getElem?_eq_getElem hlt)).valE
    have d0:=(HBR.out.cell (p:=⟨kb,ko+k*6,none⟩) hkb0).trans c0
    have d1:=(HBR.out.cell (p:=⟨kb,ko+k*6+1,none⟩) hkb0).trans c1
    have d2:=(HBR.out.cell (p:=⟨kb,ko+k*6+2,none⟩) hkb0).trans c2
    have d3:=(HBR.out.cell (p:=⟨kb,ko+k*6+3,none⟩) hkb0).trans c3
    have d4:=(HBR.out.cell (p:=⟨kb,ko+k*6+4,none⟩) hkb0).trans c4
    have d5:=(HBR.out.cell (p:=⟨kb,ko+k*6+5,none⟩) hkb0).trans c5
    have hbl:kb<wr.heap.size:=Nat.lt_of_lt_of_le hkb0 HBR.out.size
    have hfk:=flat_kid (f:=encT) (List.getElem?_eq_getElem hlt)
    have e:fieldB 5 n false nm ls=[if false then 1 else 0]:=by unfold fieldB;simp
    have hlk2:=hlk
    rw [e] at hlk2
    simp only [List.length_cons,List.length_nil] at hlk2
    have HC:=HIH.out _ hmem u0 _ _ wr htv HBR.out HOR.out (by simp only [List.length_append,List.length_cons,List.length_nil];omega)
    have HTK:Hid ((ks.take (k+1)).flatMap encT=(ks.take k).flatMap encT++encT ks[k]):=flatMap_take (List.getElem?_eq_getElem hlt)
    clear c0 c1 c2 c3 c4 c5 hmem htv hkb0 hlk2 hfk e
    generalize ks[k]=kk at *
    go_wp2_with fail
    refine HC.mono ?_
    rintro e w5 ⟨v5,rfl,hO5,hg5⟩
    have HO5:=Hid.mk hO5
    have HG5:Hid (GrwV v v5 W0 w5):=HGR.out.trans hg5
    clear hO5 hg5 HC
    go_wp2
    refine ⟨⟨k+1,hlt,by go_num,?_,HG5.out⟩,by simp [intOf];omega⟩
    rw [HTK.out]
    have:=HO5.out
    simpa [List.append_assoc] using this
   ·obtain rfl:k=ks.length:=by omega
    go_wp2
    go_ret
    refine ⟨_,rfl,?_,HGA.out.trans HGR.out⟩
    have:=HOR.out
    rw [List.take_length] at this
    rw [HENC.out]
    unfold fieldB
    simpa [List.append_assoc] using this
 ·have HC1:=rnum_any w0.heap.size v1 _ 1 w1 HO1.out HB1.out.size (by omega) (by simp;omega)
  rw [show numB 1=[if true then 1 else 0] from numB_flag true] at HC1
  obtain ⟨x0,x1,x2,x3,x4,x5,x6⟩:=cells6 (HG1.out.box HO.out HX0.out (Nat.le_refl _))
  go_wp2_with fail
  refine HC1.mono ?_
  rintro e w2 ⟨v2,rfl,hOn,hgn⟩
  have HG2:Hid (GrwV v v2 W0 w2):=HG1.out.trans hgn
  have HB2:Hid (RowKit.Below w0.heap.size w0 w2):=HB00.out.trans (HG2.out.toBelow HO0.out HB00.out.size)
  have HO2:=Hid.mk hOn
  clear hOn hgn HC1 x0 x1 x2 x3 x4 x5 x6
  obtain ⟨q0,q1,q2,q3,q4,q5,q6⟩:=cells6 (HG2.out.box HO.out HX0.out (Nat.le_refl _))
  go_wp2
  clear q0 q1 q2 q3 q4 q5 q6
  go_loopw [0,7] (fun u i wr=>∃k:Nat,k≤ks.length∧i=.int .i64 k∧OY w0.heap.size wr u (bs++numB 5++[if true then 1 else 0]++(ks.take k).flatMap encT)∧GrwV v u W0 wr) (fun _ i _=>ks.length - (intOf i).toNat)
  case atStart=>exact ⟨0,Nat.zero_le _,rfl,by simpa [List.append_assoc] using HO2.out,HG2.out⟩
  case round =>
   obtain ⟨k,hk,rfl,hOr,hgr⟩:=hrel
   have HOR:=Hid.mk hOr
   have HGR:=Hid.mk hgr
   have HBR:Hid (RowKit.Below w0.heap.size w0 wr):=HB00.out.trans (hgr.toBelow HO0.out HB00.out.size)
   obtain ⟨x0,x1,x2,x3,x4,x5,x6⟩:=cells6 (hgr.box HO.out HX0.out (Nat.le_refl _))
   clear hOr hgr
   by_cases hlt:k<ks.length
   ·obtain ⟨rfl,hkb0⟩:=HK.out (by intro e;rw [e] at hlt;simp at hlt)
    have hmem:ks[k]∈ks:=List.getElem_mem hlt
    obtain ⟨y0,y1,y2,y3,l1,l2,l3,k1,k2,k3,c0,c1,c2,c3,c4,c5,htv⟩:=(HKIDS.out k _ (List.getElem?_eq_getElem hlt)).valE
    have d0:=(HBR.out.cell (p:=⟨kb,ko+k*6,none⟩) hkb0).trans c0
    have d1:=(HBR.out.cell (p:=⟨kb,ko+k*6+1,none⟩) hkb0).trans c1
    have d2:=(HBR.out.cell (p:=⟨kb,ko+k*6+2,none⟩) hkb0).trans c2
    have d3:=(HBR.out.cell (p:=⟨kb,ko+k*6+3,none⟩) hkb0).trans c3
    have d4:=(HBR.out.cell (p:=⟨kb,ko+k*6+4,none⟩) hkb0).trans c4
    have d5:=(HBR.out.cell (p:=⟨kb,ko+k*6+5,none⟩) hkb0).trans c5
    have hbl:kb<wr.heap.size:=Nat.lt_of_lt_of_le hkb0 HBR.out.size
    have hfk:=flat_kid (f:=encT) (List.getElem?_eq_getElem hlt)
    have e:fieldB 5 n true nm ls=[if true then 1 else 0]:=by unfold fieldB;simp
    have hlk2:=hlk
    rw [e] at hlk2
    simp only [List.length_cons,List.length_nil] at hlk2
    have HC:=HIH.out _ hmem u0 _ _ wr htv HBR.out HOR.out (by simp only [List.length_append,List.length_cons,List.length_nil];omega)
    have HTK:Hid ((ks.take (k+1)).flatMap encT=(ks.take k).flatMap encT++encT ks[k]):=flatMap_take (List.getElem?_eq_getElem hlt)
    clear c0 c1 c2 c3 c4 c5 hmem htv hkb0 hlk2 hfk e
    generalize ks[k]=kk at *
    go_wp2_with fail
    refine HC.mono ?_
    rintro e w5 ⟨v5,rfl,hO5,hg5⟩
    have HO5:=Hid.mk hO5
    have HG5:Hid (GrwV v v5 W0 w5):=HGR.out.trans hg5
    clear hO5 hg5 HC
    go_wp2
    refine ⟨⟨k+1,hlt,by go_num,?_,HG5.out⟩,by simp [intOf];omega⟩
    rw [HTK.out]
    have:=HO5.out
    simpa [List.append_assoc] using this
   ·obtain rfl:k=ks.length:=by omega
    go_wp2
    go_ret
    refine ⟨_,rfl,?_,HGA.out.trans HGR.out⟩
    have:=HOR.out
    rw [List.take_length] at this
    rw [HENC.out]
    unfold fieldB
    simpa [List.append_assoc] using this
theorem rterm6 (w0:World) (n:Int) (hd:Bool) (nm:ByteArray) (ls:List LvT) (ks:List Tm) (hf:formedB (.mk 6 n hd nm ls ks)=true) (_hls:ls.length≤1000000) (ih:∀k∈ks,RTerm w0 k):RTerm w0 (.mk 6 n hd nm ls ks):=by
 intro v vt bs w hv hb0 hO hlen
 obtain ⟨hkn0,p1,p2,p10,-⟩:=formed_part hf
 have h3:kidsR 6≤3:=by decide
 have hkn:ks.length≤3:=by omega
 clear h3 hkn0 hf
 have HP1:=Hid.mk p1
 have HP2:=Hid.mk p2
 have HP10:=Hid.mk p10
 have HIH:=Hid.mk ih
 clear p1 p2 p10 ih
 have HENC:=Hid.mk (encT_mk 6 n hd nm ls ks)
 generalize encT (.mk 6 n hd nm ls ks)=ENC at HENC hlen ⊢
 have hlk:bs.length+(ks.flatMap encT).length+(fieldB 6 n hd nm ls).length+(numB 6).length≤60000000000000:=by
  have:=congrArg List.length HENC.out
  have e0:Int.toNat 6=6:=rfl
  rw [List.length_append,List.length_append,e0] at this
  omega
 cases hv with
 | @mk _ _ _ _ _ _ la lc ka kc kb ko hl hln hlc hlm hkn' hkc hkm hk kids =>
 have HK:=Hid.mk hk
 have HKIDS:=Hid.mk kids
 have HL:=Hid.mk hl
 clear hk kids hl hln hlc hlm hkn' hkc hkm
 obtain ⟨W0,hW0⟩:∃W0,w.alloc (.cells #[.int .i64 6,.int .i64 n,.bool hd,.string nm,.slice la ls.length lc,.slice ka ks.length kc] 36)=W0:=⟨_,rfl⟩
 have hb:RowKit.Below w.heap.size w W0:=by rw [←hW0];exact (Below.refl _ _).alloc (Nat.le_refl _) _
 have HX0:Hid (W0.heap[w.heap.size]?=some (.cells #[.int .i64 6,.int .i64 n,.bool hd,.string nm,.slice la ls.length lc,.slice ka ks.length kc] 36 (0,0))):=by unfold Hid;rw [←hW0];exact alloc_new _ _
 have HGA:Hid (GrwV v v w W0):=GrwV.below v hb
 have HG0:Hid (GrwV v v W0 W0):=GrwV.refl _ _
 have HB00:Hid (RowKit.Below w0.heap.size w0 W0):=hb0.trans (hb.mono hb0.size)
 have HO0:Hid (OY w0.heap.size W0 v bs):=hO.move fun k hk=>hb.block k (hO.lt hk).2
 have HO:=Hid.mk hO
 have HW0:=Hid.mk hW0
 have hf9:=numB_9 (n:=6) (by decide)
 clear hO hb0 hb hW0
 go_enter Tryz.func59,Tryz.ntmps59
 have HC0:=rnum_any w0.heap.size v bs 6 W0 HO0.out HB00.out.size (by omega) (by omega)
 obtain ⟨x0,x1,x2,x3,x4,x5,x6⟩:=cells6 (HG0.out.box HO.out HX0.out (Nat.le_refl _))
 go_wp2_with fail
 rw [HW0.out]
 refine HC0.mono ?_
 rintro e w1 ⟨v1,rfl,hOn,hgn⟩
 have HG1:Hid (GrwV v v1 W0 w1):=HG0.out.trans hgn
 have HB1:Hid (RowKit.Below w0.heap.size w0 w1):=HB00.out.trans (HG1.out.toBelow HO0.out HB00.out.size)
 have HO1:=Hid.mk hOn
 clear hOn hgn HC0 x0 x1 x2 x3 x4 x5 x6
 obtain ⟨q0,q1,q2,q3,q4,q5,q6⟩:=cells6 (HG1.out.box HO.out HX0.out (Nat.le_refl _))
 go_wp2
 clear q0 q1 q2 q3 q4 q5 q6
 go_loopw [0,7] (fun u i wr=>∃k:Nat,k≤ks.length∧i=.int .i64 k∧OY w0.heap.size wr u (bs++numB 6++(ks.take k).flatMap encT)∧GrwV v u W0 wr) (fun _ i _=>ks.length - (intOf i).toNat)
 case atStart=>exact ⟨0,Nat.zero_le _,rfl,by simpa [List.append_assoc] using HO1.out,HG1.out⟩
 case round =>
  obtain ⟨k,hk,rfl,hOr,hgr⟩:=hrel
  have HOR:=Hid.mk hOr
  have HGR:=Hid.mk hgr
  have HBR:Hid (RowKit.Below w0.heap.size w0 wr):=HB00.out.trans (hgr.toBelow HO0.out HB00.out.size)
  obtain ⟨x0,x1,x2,x3,x4,x5,x6⟩:=cells6 (hgr.box HO.out HX0.out (Nat.le_refl _))
  clear hOr hgr
  by_cases hlt:k<ks.length
  ·obtain ⟨rfl,hkb0⟩:=HK.out (by intro e;rw [e] at hlt;simp at hlt)
   have hmem:ks[k]∈ks:=List.getElem_mem hlt
   obtain ⟨y0,y1,y2,y3,l1,l2,l3,k1,k2,k3,c0,c1,c2,c3,c4,c5,htv⟩:=(HKIDS.out k _ (List.getElem?_eq_getElem hlt)).valE
   have d0:=(HBR.out.cell (p:=⟨kb,ko+k*6,none⟩) hkb0).trans c0
   have d1:=(HBR.out.cell (p:=⟨kb,ko+k*6+1,none⟩) hkb0).trans c1
   have d2:=(HBR.out.cell (p:=⟨kb,ko+k*6+2,none⟩) hkb0).trans c2
   have d3:=(HBR.out.cell (p:=⟨kb,ko+k*6+3,none⟩) hkb0).trans c3
   have d4:=(HBR.out.cell (p:=⟨kb,ko+k*6+4,none⟩) hkb0).trans c4
   have d5:=(HBR.out.cell (p:=⟨kb,ko+k*6+5,none⟩) hkb0).trans c5
   have hbl:kb<wr.heap.size:=Nat.lt_of_lt_of_le hkb0 HBR.out.size
   have hfk:=flat_kid (f:=encT) (List.getElem?_eq_getElem hlt)
   have e:fieldB 6 n hd nm ls=[]:=by unfold fieldB;simp
   have hlk2:=hlk
   rw [e] at hlk2
   simp only [List.length_nil] at hlk2
   have HC:=HIH.out _ hmem u0 _ _ wr htv HBR.out HOR.out (by simp only [List.length_append];omega)
   have HTK:Hid ((ks.take (k+1)).flatMap encT=(ks.take k).flatMap encT++encT ks[k]):=flatMap_take (List.getElem?_eq_getElem hlt)
   clear c0 c1 c2 c3 c4 c5 hmem htv hkb0 hlk2 hfk e
   generalize ks[k]=kk at *
   go_wp2_with fail
   refine HC.mono ?_
   rintro e w5 ⟨v5,rfl,hO5,hg5⟩
   have HO5:=Hid.mk hO5
   have HG5:Hid (GrwV v v5 W0 w5):=HGR.out.trans hg5
   clear hO5 hg5 HC
   go_wp2
   refine ⟨⟨k+1,hlt,by go_num,?_,HG5.out⟩,by simp [intOf];omega⟩
   rw [HTK.out]
   have:=HO5.out
   simpa [List.append_assoc] using this
  ·obtain rfl:k=ks.length:=by omega
   go_wp2
   go_ret
   refine ⟨_,rfl,?_,HGA.out.trans HGR.out⟩
   have:=HOR.out
   rw [List.take_length] at this
   rw [HENC.out]
   unfold fieldB
   simpa [List.append_assoc] using this
theorem rterm7 (w0:World) (n:Int) (hd:Bool) (nm:ByteArray) (ls:List LvT) (ks:List Tm) (hf:formedB (.mk 7 n hd nm ls ks)=true) (_hls:ls.length≤1000000) (ih:∀k∈ks,RTerm w0 k):RTerm w0 (.mk 7 n hd nm ls ks):=by
 intro v vt bs w hv hb0 hO hlen
 obtain ⟨hkn0,p1,p2,p10,-⟩:=formed_part hf
 have h3:kidsR 7≤3:=by decide
 have hkn:ks.length≤3:=by omega
 clear h3 hkn0 hf
 have HP1:=Hid.mk p1
 have HP2:=Hid.mk p2
 have HP10:=Hid.mk p10
 have HIH:=Hid.mk ih
 clear p1 p2 p10 ih
 have HENC:=Hid.mk (encT_mk 7 n hd nm ls ks)
 generalize encT (.mk 7 n hd nm ls ks)=ENC at HENC hlen ⊢
 have hlk:bs.length+(ks.flatMap encT).length+(fieldB 7 n hd nm ls).length+(numB 7).length≤60000000000000:=by
  have:=congrArg List.length HENC.out
  have e0:Int.toNat 7=7:=rfl
  rw [List.length_append,List.length_append,e0] at this
  omega
 cases hv with
 | @mk _ _ _ _ _ _ la lc ka kc kb ko hl hln hlc hlm hkn' hkc hkm hk kids =>
 have HK:=Hid.mk hk
 have HKIDS:=Hid.mk kids
 have HL:=Hid.mk hl
 clear hk kids hl hln hlc hlm hkn' hkc hkm
 obtain ⟨W0,hW0⟩:∃W0,w.alloc (.cells #[.int .i64 7,.int .i64 n,.bool hd,.string nm,.slice la ls.length lc,.slice ka ks.length kc] 36)=W0:=⟨_,rfl⟩
 have hb:RowKit.Below w.heap.size w W0:=by rw [←hW0];exact (Below.refl _ _).alloc (Nat.le_refl _) _
 have HX0:Hid (W0.heap[w.heap.size]?=some (.cells #[.int .i64 7,.int .i64 n,.bool hd,.string nm,.slice la ls.length lc,.slice ka ks.length kc] 36 (0,0))):=by unfold Hid;rw [←hW0];exact alloc_new _ _
 have HGA:Hid (GrwV v v w W0):=GrwV.below v hb
 have HG0:Hid (GrwV v v W0 W0):=GrwV.refl _ _
 have HB00:Hid (RowKit.Below w0.heap.size w0 W0):=hb0.trans (hb.mono hb0.size)
 have HO0:Hid (OY w0.heap.size W0 v bs):=hO.move fun k hk=>hb.block k (hO.lt hk).2
 have HO:=Hid.mk hO
 have HW0:=Hid.mk hW0
 have hf9:=numB_9 (n:=7) (by decide)
 clear hO hb0 hb hW0
 go_enter Tryz.func59,Tryz.ntmps59
 have HC0:=rnum_any w0.heap.size v bs 7 W0 HO0.out HB00.out.size (by omega) (by omega)
 obtain ⟨x0,x1,x2,x3,x4,x5,x6⟩:=cells6 (HG0.out.box HO.out HX0.out (Nat.le_refl _))
 go_wp2_with fail
 rw [HW0.out]
 refine HC0.mono ?_
 rintro e w1 ⟨v1,rfl,hOn,hgn⟩
 have HG1:Hid (GrwV v v1 W0 w1):=HG0.out.trans hgn
 have HB1:Hid (RowKit.Below w0.heap.size w0 w1):=HB00.out.trans (HG1.out.toBelow HO0.out HB00.out.size)
 have HO1:=Hid.mk hOn
 clear hOn hgn HC0 x0 x1 x2 x3 x4 x5 x6
 obtain ⟨q0,q1,q2,q3,q4,q5,q6⟩:=cells6 (HG1.out.box HO.out HX0.out (Nat.le_refl _))
 go_wp2
 clear q0 q1 q2 q3 q4 q5 q6
 go_loopw [0,7] (fun u i wr=>∃k:Nat,k≤ks.length∧i=.int .i64 k∧OY w0.heap.size wr u (bs++numB 7++(ks.take k).flatMap encT)∧GrwV v u W0 wr) (fun _ i _=>ks.length - (intOf i).toNat)
 case atStart=>exact ⟨0,Nat.zero_le _,rfl,by simpa [List.append_assoc] using HO1.out,HG1.out⟩
 case round =>
  obtain ⟨k,hk,rfl,hOr,hgr⟩:=hrel
  have HOR:=Hid.mk hOr
  have HGR:=Hid.mk hgr
  have HBR:Hid (RowKit.Below w0.heap.size w0 wr):=HB00.out.trans (hgr.toBelow HO0.out HB00.out.size)
  obtain ⟨x0,x1,x2,x3,x4,x5,x6⟩:=cells6 (hgr.box HO.out HX0.out (Nat.le_refl _))
  clear hOr hgr
  by_cases hlt:k<ks.length
  ·obtain ⟨rfl,hkb0⟩:=HK.out (by intro e;rw [e] at hlt;simp at hlt)
   have hmem:ks[k]∈ks:=List.getElem_mem hlt
   obtain ⟨y0,y1,y2,y3,l1,l2,l3,k1,k2,k3,c0,c1,c2,c3,c4,c5,htv⟩:=(HKIDS.out k _ (List.getElem?_eq_getElem hlt)).valE
   have d0:=(HBR.out.cell (p:=⟨kb,ko+k*6,none⟩) hkb0).trans c0
   have d1:=(HBR.out.cell (p:=⟨kb,ko+k*6+1,none⟩) hkb0).trans c1
   have d2:=(HBR.out.cell (p:=⟨kb,ko+k*6+2,none⟩) hkb0).trans c2
   have d3:=(HBR.out.cell (p:=⟨kb,ko+k*6+3,none⟩) hkb0).trans c3
   have d4:=(HBR.out.cell (p:=⟨kb,ko+k*6+4,none⟩) hkb0).trans c4
   have d5:=(HBR.out.cell (p:=⟨kb,ko+k*6+5,none⟩) hkb0).trans c5
   have hbl:kb<wr.heap.size:=Nat.lt_of_lt_of_le hkb0 HBR.out.size
   have hfk:=flat_kid (f:=encT) (List.getElem?_eq_getElem hlt)
   have e:fieldB 7 n hd nm ls=[]:=by unfold fieldB;simp
   have hlk2:=hlk
   rw [e] at hlk2
   simp only [List.length_nil] at hlk2
   have HC:=HIH.out _ hmem u0 _ _ wr htv HBR.out HOR.out (by simp only [List.length_append];omega)
   have HTK:Hid ((ks.take (k+1)).flatMap encT=(ks.take k).flatMap encT++encT ks[k]):=flatMap_take (List.getElem?_eq_getElem hlt)
   clear c0 c1 c2 c3 c4 c5 hmem htv hkb0 hlk2 hfk e
   generalize ks[k]=kk at *
   go_wp2_with fail
   refine HC.mono ?_
   rintro e w5 ⟨v5,rfl,hO5,hg5⟩
   have HO5:=Hid.mk hO5
   have HG5:Hid (GrwV v v5 W0 w5):=HGR.out.trans hg5
   clear hO5 hg5 HC
   go_wp2
   refine ⟨⟨k+1,hlt,by go_num,?_,HG5.out⟩,by simp [intOf];omega⟩
   rw [HTK.out]
   have:=HO5.out
   simpa [List.append_assoc] using this
  ·obtain rfl:k=ks.length:=by omega
   go_wp2
   go_ret
   refine ⟨_,rfl,?_,HGA.out.trans HGR.out⟩
   have:=HOR.out
   rw [List.take_length] at this
   rw [HENC.out]
   unfold fieldB
   simpa [List.append_assoc] using this
theorem rterm8 (w0:World) (n:Int) (hd:Bool) (nm:ByteArray) (ls:List LvT) (ks:List Tm) (hf:formedB (.mk 8 n hd nm ls ks)=true) (_hls:ls.length≤1000000) (ih:∀k∈ks,RTerm w0 k):RTerm w0 (.mk 8 n hd nm ls ks):=by
 intro v vt bs w hv hb0 hO hlen
 obtain ⟨hkn0,p1,p2,p10,-⟩:=formed_part hf
 have h3:kidsR 8≤3:=by decide
 have hkn:ks.length≤3:=by omega
 clear h3 hkn0 hf
 have HP1:=Hid.mk p1
 have HP2:=Hid.mk p2
 have HP10:=Hid.mk p10
 have HIH:=Hid.mk ih
 clear p1 p2 p10 ih
 have HENC:=Hid.mk (encT_mk 8 n hd nm ls ks)
 generalize encT (.mk 8 n hd nm ls ks)=ENC at HENC hlen ⊢
 have hlk:bs.length+(ks.flatMap encT).length+(fieldB 8 n hd nm ls).length+(numB 8).length≤60000000000000:=by
  have:=congrArg List.length HENC.out
  have e0:Int.toNat 8=8:=rfl
  rw [List.length_append,List.length_append,e0] at this
  omega
 cases hv with
 | @mk _ _ _ _ _ _ la lc ka kc kb ko hl hln hlc hlm hkn' hkc hkm hk kids =>
 have HK:=Hid.mk hk
 have HKIDS:=Hid.mk kids
 have HL:=Hid.mk hl
 clear hk kids hl hln hlc hlm hkn' hkc hkm
 obtain ⟨W0,hW0⟩:∃W0,w.alloc (.cells #[.int .i64 8,.int .i64 n,.bool hd,.string nm,.slice la ls.length lc,.slice ka ks.length kc] 36)=W0:=⟨_,rfl⟩
 have hb:RowKit.Below w.heap.size w W0:=by rw [←hW0];exact (Below.refl _ _).alloc (Nat.le_refl _) _
 have HX0:Hid (W0.heap[w.heap.size]?=some (.cells #[.int .i64 8,.int .i64 n,.bool hd,.string nm,.slice la ls.length lc,.slice ka ks.length kc] 36 (0,0))):=by unfold Hid;rw [←hW0];exact alloc_new _ _
 have HGA:Hid (GrwV v v w W0):=GrwV.below v hb
 have HG0:Hid (GrwV v v W0 W0):=GrwV.refl _ _
 have HB00:Hid (RowKit.Below w0.heap.size w0 W0):=hb0.trans (hb.mono hb0.size)
 have HO0:Hid (OY w0.heap.size W0 v bs):=hO.move fun k hk=>hb.block k (hO.lt hk).2
 have HO:=Hid.mk hO
 have HW0:=Hid.mk hW0
 have hf9:=numB_9 (n:=8) (by decide)
 clear hO hb0 hb hW0
 go_enter Tryz.func59,Tryz.ntmps59
 have HC0:=rnum_any w0.heap.size v bs 8 W0 HO0.out HB00.out.size (by omega) (by omega)
 obtain ⟨x0,x1,x2,x3,x4,x5,x6⟩:=cells6 (HG0.out.box HO.out HX0.out (Nat.le_refl _))
 go_wp2_with fail
 rw [HW0.out]
 refine HC0.mono ?_
 rintro e w1 ⟨v1,rfl,hOn,hgn⟩
 have HG1:Hid (GrwV v v1 W0 w1):=HG0.out.trans hgn
 have HB1:Hid (RowKit.Below w0.heap.size w0 w1):=HB00.out.trans (HG1.out.toBelow HO0.out HB00.out.size)
 have HO1:=Hid.mk hOn
 clear hOn hgn HC0 x0 x1 x2 x3 x4 x5 x6
 obtain ⟨q0,q1,q2,q3,q4,q5,q6⟩:=cells6 (HG1.out.box HO.out HX0.out (Nat.le_refl _))
 go_wp2
 clear q0 q1 q2 q3 q4 q5 q6
 go_loopw [0,7] (fun u i wr=>∃k:Nat,k≤ks.length∧i=.int .i64 k∧OY w0.heap.size wr u (bs++numB 8++(ks.take k).flatMap encT)∧GrwV v u W0 wr) (fun _ i _=>ks.length - (intOf i).toNat)
 case atStart=>exact ⟨0,Nat.zero_le _,rfl,by simpa [List.append_assoc] using HO1.out,HG1.out⟩
 case round =>
  obtain ⟨k,hk,rfl,hOr,hgr⟩:=hrel
  have HOR:=Hid.mk hOr
  have HGR:=Hid.mk hgr
  have HBR:Hid (RowKit.Below w0.heap.size w0 wr):=HB00.out.trans (hgr.toBelow HO0.out HB00.out.size)
  obtain ⟨x0,x1,x2,x3,x4,x5,x6⟩:=cells6 (hgr.box HO.out HX0.out (Nat.le_refl _))
  clear hOr hgr
  by_cases hlt:k<ks.length
  ·obtain ⟨rfl,hkb0⟩:=HK.out (by intro e;rw [e] at hlt;simp at hlt)
   have hmem:ks[k]∈ks:=List.getElem_mem hlt
   obtain ⟨y0,y1,y2,y3,l1,l2,l3,k1,k2,k3,c0,c1,c2,c3,c4,c5,htv⟩:=(HKIDS.out k _ (List.getElem?_eq_getElem hlt)).valE
   have d0:=(HBR.out.cell (p:=⟨kb,ko+k*6,none⟩) hkb0).trans c0
   have d1:=(HBR.out.cell (p:=⟨kb,ko+k*6+1,none⟩) hkb0).trans c1
   have d2:=(HBR.out.cell (p:=⟨kb,ko+k*6+2,none⟩) hkb0).trans c2
   have d3:=(HBR.out.cell (p:=⟨kb,ko+k*6+3,none⟩) hkb0).trans c3
   have d4:=(HBR.out.cell (p:=⟨kb,ko+k*6+4,none⟩) hkb0).trans c4
   have d5:=(HBR.out.cell (p:=⟨kb,ko+k*6+5,none⟩) hkb0).trans c5
   have hbl:kb<wr.heap.size:=Nat.lt_of_lt_of_le hkb0 HBR.out.size
   have hfk:=flat_kid (f:=encT) (List.getElem?_eq_getElem hlt)
   have e:fieldB 8 n hd nm ls=[]:=by unfold fieldB;simp
   have hlk2:=hlk
   rw [e] at hlk2
   simp only [List.length_nil] at hlk2
   have HC:=HIH.out _ hmem u0 _ _ wr htv HBR.out HOR.out (by simp only [List.length_append];omega)
   have HTK:Hid ((ks.take (k+1)).flatMap encT=(ks.take k).flatMap encT++encT ks[k]):=flatMap_take (List.getElem?_eq_getElem hlt)
   clear c0 c1 c2 c3 c4 c5 hmem htv hkb0 hlk2 hfk e
   generalize ks[k]=kk at *
   go_wp2_with fail
   refine HC.mono ?_
   rintro e w5 ⟨v5,rfl,hO5,hg5⟩
   have HO5:=Hid.mk hO5
   have HG5:Hid (GrwV v v5 W0 w5):=HGR.out.trans hg5
   clear hO5 hg5 HC
   go_wp2
   refine ⟨⟨k+1,hlt,by go_num,?_,HG5.out⟩,by simp [intOf];omega⟩
   rw [HTK.out]
   have:=HO5.out
   simpa [List.append_assoc] using this
  ·obtain rfl:k=ks.length:=by omega
   go_wp2
   go_ret
   refine ⟨_,rfl,?_,HGA.out.trans HGR.out⟩
   have:=HOR.out
   rw [List.take_length] at this
   rw [HENC.out]
   unfold fieldB
   simpa [List.append_assoc] using this
theorem rterm9 (w0:World) (n:Int) (hd:Bool) (nm:ByteArray) (ls:List LvT) (ks:List Tm) (hf:formedB (.mk 9 n hd nm ls ks)=true) (_hls:ls.length≤1000000) (ih:∀k∈ks,RTerm w0 k):RTerm w0 (.mk 9 n hd nm ls ks):=by
 intro v vt bs w hv hb0 hO hlen
 obtain ⟨hkn0,p1,p2,p10,-⟩:=formed_part hf
 have h3:kidsR 9≤3:=by decide
 have hkn:ks.length≤3:=by omega
 clear h3 hkn0 hf
 have HP1:=Hid.mk p1
 have HP2:=Hid.mk p2
 have HP10:=Hid.mk p10
 have HIH:=Hid.mk ih
 clear p1 p2 p10 ih
 have HENC:=Hid.mk (encT_mk 9 n hd nm ls ks)
 generalize encT (.mk 9 n hd nm ls ks)=ENC at HENC hlen ⊢
 have hlk:bs.length+(ks.flatMap encT).length+(fieldB 9 n hd nm ls).length+(numB 9).length≤60000000000000:=by
  have:=congrArg List.length HENC.out
  have e0:Int.toNat 9=9:=rfl
  rw [List.length_append,List.length_append,e0] at this
  omega
 cases hv with
 | @mk _ _ _ _ _ _ la lc ka kc kb ko hl hln hlc hlm hkn' hkc hkm hk kids =>
 have HK:=Hid.mk hk
 have HKIDS:=Hid.mk kids
 have HL:=Hid.mk hl
 clear hk kids hl hln hlc hlm hkn' hkc hkm
 obtain ⟨W0,hW0⟩:∃W0,w.alloc (.cells #[.int .i64 9,.int .i64 n,.bool hd,.string nm,.slice la ls.length lc,.slice ka ks.length kc] 36)=W0:=⟨_,rfl⟩
 have hb:RowKit.Below w.heap.size w W0:=by rw [←hW0];exact (Below.refl _ _).alloc (Nat.le_refl _) _
 have HX0:Hid (W0.heap[w.heap.size]?=some (.cells #[.int .i64 9,.int .i64 n,.bool hd,.string nm,.slice la ls.length lc,.slice ka ks.length kc] 36 (0,0))):=by unfold Hid;rw [←hW0];exact alloc_new _ _
 have HGA:Hid (GrwV v v w W0):=GrwV.below v hb
 have HG0:Hid (GrwV v v W0 W0):=GrwV.refl _ _
 have HB00:Hid (RowKit.Below w0.heap.size w0 W0):=hb0.trans (hb.mono hb0.size)
 have HO0:Hid (OY w0.heap.size W0 v bs):=hO.move fun k hk=>hb.block k (hO.lt hk).2
 have HO:=Hid.mk hO
 have HW0:=Hid.mk hW0
 have hf9:=numB_9 (n:=9) (by decide)
 clear hO hb0 hb hW0
 go_enter Tryz.func59,Tryz.ntmps59
 have HC0:=rnum_any w0.heap.size v bs 9 W0 HO0.out HB00.out.size (by omega) (by omega)
 obtain ⟨x0,x1,x2,x3,x4,x5,x6⟩:=cells6 (HG0.out.box HO.out HX0.out (Nat.le_refl _))
 go_wp2_with fail
 rw [HW0.out]
 refine HC0.mono ?_
 rintro e w1 ⟨v1,rfl,hOn,hgn⟩
 have HG1:Hid (GrwV v v1 W0 w1):=HG0.out.trans hgn
 have HB1:Hid (RowKit.Below w0.heap.size w0 w1):=HB00.out.trans (HG1.out.toBelow HO0.out HB00.out.size)
 have HO1:=Hid.mk hOn
 clear hOn hgn HC0 x0 x1 x2 x3 x4 x5 x6
 obtain ⟨q0,q1,q2,q3,q4,q5,q6⟩:=cells6 (HG1.out.box HO.out HX0.out (Nat.le_refl _))
 go_wp2
 clear q0 q1 q2 q3 q4 q5 q6
 go_loopw [0,7] (fun u i wr=>∃k:Nat,k≤ks.length∧i=.int .i64 k∧OY w0.heap.size wr u (bs++numB 9++(ks.take k).flatMap encT)∧GrwV v u W0 wr) (fun _ i _=>ks.length - (intOf i).toNat)
 case atStart=>exact ⟨0,Nat.zero_le _,rfl,by simpa [List.append_assoc] using HO1.out,HG1.out⟩
 case round =>
  obtain ⟨k,hk,rfl,hOr,hgr⟩:=hrel
  have HOR:=Hid.mk hOr
  have HGR:=Hid.mk hgr
  have HBR:Hid (RowKit.Below w0.heap.size w0 wr):=HB00.out.trans (hgr.toBelow HO0.out HB00.out.size)
  obtain ⟨x0,x1,x2,x3,x4,x5,x6⟩:=cells6 (hgr.box HO.out HX0.out (Nat.le_refl _))
  clear hOr hgr
  by_cases hlt:k<ks.length
  ·obtain ⟨rfl,hkb0⟩:=HK.out (by intro e;rw [e] at hlt;simp at hlt)
   have hmem:ks[k]∈ks:=List.getElem_mem hlt
   obtain ⟨y0,y1,y2,y3,l1,l2,l3,k1,k2,k3,c0,c1,c2,c3,c4,c5,htv⟩:=(HKIDS.out k _ (List.getElem?_eq_getElem hlt)).valE
   have d0:=(HBR.out.cell (p:=⟨kb,ko+k*6,none⟩) hkb0).trans c0
   have d1:=(HBR.out.cell (p:=⟨kb,ko+k*6+1,none⟩) hkb0).trans c1
   have d2:=(HBR.out.cell (p:=⟨kb,ko+k*6+2,none⟩) hkb0).trans c2
   have d3:=(HBR.out.cell (p:=⟨kb,ko+k*6+3,none⟩) hkb0).trans c3
   have d4:=(HBR.out.cell (p:=⟨kb,ko+k*6+4,none⟩) hkb0).trans c4
   have d5:=(HBR.out.cell (p:=⟨kb,ko+k*6+5,none⟩) hkb0).trans c5
   have hbl:kb<wr.heap.size:=Nat.lt_of_lt_of_le hkb0 HBR.out.size
   have hfk:=flat_kid (f:=encT) (List.getElem?_eq_getElem hlt)
   have e:fieldB 9 n hd nm ls=[]:=by unfold fieldB;simp
   have hlk2:=hlk
   rw [e] at hlk2
   simp only [List.length_nil] at hlk2
   have HC:=HIH.out _ hmem u0 _ _ wr htv HBR.out HOR.out (by simp only [List.length_append];omega)
   have HTK:Hid ((ks.take (k+1)).flatMap encT=(ks.take k).flatMap encT++encT ks[k]):=flatMap_take (List.getElem?_eq_getElem hlt)
   clear c0 c1 c2 c3 c4 c5 hmem htv hkb0 hlk2 hfk e
   generalize ks[k]=kk at *
   go_wp2_with fail
   refine HC.mono ?_
   rintro e w5 ⟨v5,rfl,hO5,hg5⟩
   have HO5:=Hid.mk hO5
   have HG5:Hid (GrwV v v5 W0 w5):=HGR.out.trans hg5
   clear hO5 hg5 HC
   go_wp2
   refine ⟨⟨k+1,hlt,by go_num,?_,HG5.out⟩,by simp [intOf];omega⟩
   rw [HTK.out]
   have:=HO5.out
   simpa [List.append_assoc] using this
  ·obtain rfl:k=ks.length:=by omega
   go_wp2
   go_ret
   refine ⟨_,rfl,?_,HGA.out.trans HGR.out⟩
   have:=HOR.out
   rw [List.take_length] at this
   rw [HENC.out]
   unfold fieldB
   simpa [List.append_assoc] using this
theorem rterm10 (w0:World) (n:Int) (hd:Bool) (nm:ByteArray) (ls:List LvT) (ks:List Tm) (hf:formedB (.mk 10 n hd nm ls ks)=true) (hls:ls.length≤1000000) (ih:∀k∈ks,RTerm w0 k):RTerm w0 (.mk 10 n hd nm ls ks):=by
 intro v vt bs w hv hb0 hO hlen
 obtain ⟨hkn0,p1,p2,p10,-⟩:=formed_part hf
 have h3:kidsR 10≤0:=by decide
 have hkn:ks.length≤0:=by omega
 clear h3 hkn0 hf
 have HP1:=Hid.mk p1
 have HP2:=Hid.mk p2
 have HP10:=Hid.mk p10
 have HIH:=Hid.mk ih
 clear p1 p2 p10 ih
 have HENC:=Hid.mk (encT_mk 10 n hd nm ls ks)
 generalize encT (.mk 10 n hd nm ls ks)=ENC at HENC hlen ⊢
 have hlk:bs.length+(ks.flatMap encT).length+(fieldB 10 n hd nm ls).length+(numB 10).length≤60000000000000:=by
  have:=congrArg List.length HENC.out
  have e0:Int.toNat 10=10:=rfl
  rw [List.length_append,List.length_append,e0] at this
  omega
 cases hv with
 | @mk _ _ _ _ _ _ la lc ka kc kb ko hl hln hlc hlm hkn' hkc hkm hk kids =>
 have HK:=Hid.mk hk
 have HKIDS:=Hid.mk kids
 have HL:=Hid.mk hl
 clear hk kids hl hln hlc hlm hkn' hkc hkm
 obtain ⟨W0,hW0⟩:∃W0,w.alloc (.cells #[.int .i64 10,.int .i64 n,.bool hd,.string nm,.slice la ls.length lc,.slice ka ks.length kc] 36)=W0:=⟨_,rfl⟩
 have hb:RowKit.Below w.heap.size w W0:=by rw [←hW0];exact (Below.refl _ _).alloc (Nat.le_refl _) _
 have HX0:Hid (W0.heap[w.heap.size]?=some (.cells #[.int .i64 10,.int .i64 n,.bool hd,.string nm,.slice la ls.length lc,.slice ka ks.length kc] 36 (0,0))):=by unfold Hid;rw [←hW0];exact alloc_new _ _
 have HGA:Hid (GrwV v v w W0):=GrwV.below v hb
 have HG0:Hid (GrwV v v W0 W0):=GrwV.refl _ _
 have HB00:Hid (RowKit.Below w0.heap.size w0 W0):=hb0.trans (hb.mono hb0.size)
 have HO0:Hid (OY w0.heap.size W0 v bs):=hO.move fun k hk=>hb.block k (hO.lt hk).2
 have HO:=Hid.mk hO
 have HW0:=Hid.mk hW0
 have hf9:=numB_9 (n:=10) (by decide)
 clear hO hb0 hb hW0
 go_enter Tryz.func59,Tryz.ntmps59
 have HC0:=rnum_any w0.heap.size v bs 10 W0 HO0.out HB00.out.size (by omega) (by omega)
 obtain ⟨x0,x1,x2,x3,x4,x5,x6⟩:=cells6 (HG0.out.box HO.out HX0.out (Nat.le_refl _))
 go_wp2_with fail
 rw [HW0.out]
 refine HC0.mono ?_
 rintro e w1 ⟨v1,rfl,hOn,hgn⟩
 have HG1:Hid (GrwV v v1 W0 w1):=HG0.out.trans hgn
 have HB1:Hid (RowKit.Below w0.heap.size w0 w1):=HB00.out.trans (HG1.out.toBelow HO0.out HB00.out.size)
 have HO1:=Hid.mk hOn
 clear hOn hgn HC0 x0 x1 x2 x3 x4 x5 x6
 obtain ⟨hm0,hm1,hcl⟩:=HP10.out (by trivial)
 have HCL:Hid (∀l∈ls,rightL l):=fun l hl=>canon_rightL (hcl l hl)
 clear hcl
 have hm9:=numB_9 (n:=nm.size) (by omega)
 have hl9:=numB_9 (n:=ls.length) (by omega)
 have hnb:(nameB nm).length≤69:=by unfold nameB;rw [List.length_append];have:nm.data.toList.length=nm.size:=rfl;omega
 have HC1:=rtext_any w0.heap.size v1 _ nm w1.drew (HO1.out.move fun k _=>rfl) HB1.out.size hm0 (by omega) (by simp;omega)
 obtain ⟨x0,x1,x2,x3,x4,x5,x6⟩:=cells6 (HG1.out.box HO.out HX0.out (Nat.le_refl _))
 go_wp2_with fail
 refine wp_region_held_drew (S:=fun w'=>w'.cell? ⟨w.heap.size,3,none⟩=some (.string nm)∧w'.cell? ⟨w.heap.size,4,none⟩=some (.slice la ls.length lc)) (by kernel_rfl) ?_ (fun hHeld=>?_)
 ·(try dsimp only)
  exact ⟨x3,x4⟩
 refine wpAnyH_take (i:=0) (v:=?_) rfl (by kernel_rfl) (by kernel_rfl) (by kernel_rfl) (fun _ _ _ h=>h) (Or.inl ⟨by rfl,?_⟩) (by assumption) ?_
 rotate_left
 ·(intro w hSw;(try dsimp only at hSw);go_simp;(try with_reducible rfl))
 refine wpAnyH_take (i:=1) (v:=?_) rfl (by kernel_rfl) (by kernel_rfl) (by kernel_rfl) (fun _ _ _ h=>h) (Or.inl ⟨by rfl,?_⟩) (by assumption) ?_
 rotate_left
 ·(intro w hSw;(try dsimp only at hSw);go_simp;(try with_reducible rfl))
 refine wpAnyH_take (i:=2) (v:=?_) rfl (by kernel_rfl) (by kernel_rfl) (by kernel_rfl) (fun _ _ _ h=>h) (Or.inl ⟨by rfl,?_⟩) (by assumption) ?_
 rotate_left
 ·(intro w hSw;(try dsimp only at hSw);go_simp;(try with_reducible rfl))
 refine wpAnyH_take (i:=4) (v:=?_) rfl (by kernel_rfl) (by kernel_rfl) (by kernel_rfl) (fun _ _ _ h=>h) (Or.inl ⟨by rfl,?_⟩) (by assumption) ?_
 rotate_left
 ·(intro w hSw;(try dsimp only at hSw);go_simp;(try with_reducible rfl))
 refine wpAnyH_take (i:=5) (v:=?_) rfl (by kernel_rfl) (by kernel_rfl) (by kernel_rfl) (fun _ _ _ h=>h) (Or.inl ⟨by rfl,?_⟩) (by assumption) ?_
 rotate_left
 ·(intro w hSw;(try dsimp only at hSw);go_simp;(try with_reducible rfl))
 refine wpAnyH_take (i:=6) (v:=?_) rfl (by kernel_rfl) (by kernel_rfl) (by kernel_rfl) (fun _ _ _ h=>h) (Or.inl ⟨by rfl,?_⟩) (by assumption) ?_
 rotate_left
 ·(intro w hSw;(try dsimp only at hSw);go_simp;(try with_reducible rfl))
 refine wpAnyH_ready (rs:=[3]) (by kernel_rfl) (by simp) ?_
 refine AllReadyH.cons rfl (fun K hK=>?_) AllReadyH.nil
 go_simp
 go_at_call 58
 refine HC1.mono ?_
 rintro e w2 ⟨v2,rfl,hOn,hgn⟩
 have HG2:Hid (GrwV v v2 W0 w2):=HG1.out.trans ((GrwV.below v1 (Below.refl _ w1).drew).trans hgn)
 have HB2:Hid (RowKit.Below w0.heap.size w0 w2):=HB00.out.trans (HG2.out.toBelow HO0.out HB00.out.size)
 have HO2:=Hid.mk hOn
 clear hOn hgn HC1 x0 x1 x2 x3 x4 x5 x6
 obtain ⟨x0,x1,x2,x3,x4,x5,x6⟩:=cells6 (HG2.out.box HO.out HX0.out (Nat.le_refl _))
 have HC2:=rnum_any w0.heap.size v2 _ ls.length w2 HO2.out HB2.out.size (by omega) (by simp;omega)
 dsimp only
 refine hK.out _ _ ?_ (fun hHeld=>?_)
 ·(try dsimp only)
  exact ⟨x3,x4⟩
 clear hK K
 refine wpAnyH_ready (rs:=[7]) (by kernel_rfl) (by simp) ?_
 refine AllReadyH.cons rfl (fun K hK=>?_) AllReadyH.nil
 go_simp
 go_at_call 57
 refine HC2.mono ?_
 rintro e w3 ⟨v3,rfl,hOn,hgn⟩
 have HG3:Hid (GrwV v v3 W0 w3):=HG2.out.trans hgn
 have HB3:Hid (RowKit.Below w0.heap.size w0 w3):=HB00.out.trans (HG3.out.toBelow HO0.out HB00.out.size)
 have HO3:=Hid.mk hOn
 clear hOn hgn HC2 x0 x1 x2 x3 x4 x5 x6
 obtain ⟨x0,x1,x2,x3,x4,x5,x6⟩:=cells6 (HG3.out.box HO.out HX0.out (Nat.le_refl _))
 dsimp only
 refine hK.out _ _ ?_ (fun hHeld=>?_)
 ·(try dsimp only)
  exact ⟨x3,x4⟩
 clear hK K
 refine wpAnyH_take (i:=8) (v:=?_) rfl (by kernel_rfl) (by kernel_rfl) (by kernel_rfl) (fun _ _ _ h=>h) (Or.inl ⟨by rfl,?_⟩) (by assumption) ?_
 rotate_left
 ·(intro w hSw;(try dsimp only at hSw);go_simp;(try with_reducible rfl))
 refine wpAnyH_done (by kernel_rfl) ?_ _
 clear hHeld x0 x1 x2 x3 x4 x5 x6
 go_wp2
 go_loopw [0,6] (fun u i wr=>∃k:Nat,k≤ls.length∧i=.int .i64 k∧OY w0.heap.size wr u (bs++numB 10++nameB nm++numB ls.length++(ls.take k).flatMap levB)∧GrwV v u W0 wr) (fun _ i _=>ls.length - (intOf i).toNat)
 case atStart=>exact ⟨0,Nat.zero_le _,rfl,by simpa [List.append_assoc] using HO3.out,HG3.out⟩
 case round =>
  obtain ⟨k,hk,rfl,hOr,hgr⟩:=hrel
  have HOR:=Hid.mk hOr
  have HGR:=Hid.mk hgr
  have HBR:Hid (RowKit.Below w0.heap.size w0 wr):=HB00.out.trans (hgr.toBelow HO0.out HB00.out.size)
  obtain ⟨x0,x1,x2,x3,x4,x5,x6⟩:=cells6 (hgr.box HO.out HX0.out (Nat.le_refl _))
  clear hOr hgr
  by_cases hlt:k<ls.length
  ·rcases HL.out with h | ⟨lb,lo,hla,hlb0,hlc⟩
   ·rw [h] at hlt;simp at hlt
   subst hla
   have hmem:ls[k]∈ls:=List.getElem_mem hlt
   obtain ⟨e0,la',lc',e1,hs',-⟩:=hlc k ls[k].1 ls[k].2 (by simp [hlt])
   have c0:=(HBR.out.cell (p:=⟨lb,lo+k*2,none⟩) hlb0).trans e0
   have c1:=(HBR.out.cell (p:=⟨lb,lo+k*2+1,none⟩) hlb0).trans e1
   have hlbw:lb<wr.heap.size:=Nat.lt_of_lt_of_le hlb0 HBR.out.size
   have hlq:(bs++numB 10++nameB nm++numB ls.length++(ls.take k).flatMap levB).length≤70000000000000:=by
    have h1:=flat_len (c:=1200) (f:=levB) (xs:=ls.take k) fun p hp=>levB_len (HCL.out p (List.mem_of_mem_take hp))
    simp only [List.length_append,List.length_take] at h1 ⊢
    omega
   have HC:=rlevel_any w0 u0 _ ls[k].1 ls[k].2 la' lc' wr HBR.out HOR.out hs' (HCL.out _ hmem) hlq
   have HTK:Hid ((ls.take (k+1)).flatMap levB=(ls.take k).flatMap levB++levB (ls[k].1,ls[k].2)):=flatMap_take (List.getElem?_eq_getElem hlt)
   clear e0 e1 hlc hs' hmem
   generalize ls[k]=lk at *
   obtain ⟨ln,lx⟩:=lk
   simp only at HC HTK c0 c1
   go_wp2_with fail
   refine HC.mono ?_
   rintro e w5 ⟨v5,rfl,hO5,hg5⟩
   have HO5:=Hid.mk hO5
   have HG5:Hid (GrwV v v5 W0 w5):=HGR.out.trans hg5
   clear hO5 hg5 HC
   go_wp2
   refine ⟨⟨k+1,hlt,by go_num,?_,HG5.out⟩,by simp [intOf];omega⟩
   rw [HTK.out,←List.append_assoc]
   exact HO5.out
  ·obtain rfl:k=ls.length:=by omega
   have HO4:Hid (OY w0.heap.size wr u0 (bs++numB 10++nameB nm++numB ls.length++ls.flatMap levB)):=by
    have:=HOR.out
    rwa [List.take_length] at this
   obtain ⟨w4,rfl⟩:∃w4,w4=wr:=⟨_,rfl⟩
   obtain ⟨v4,rfl⟩:∃v4,v4=u0:=⟨_,rfl⟩
   have HG4:=HGR
   have HB4:=HBR
   clear HOR HGR HBR x0 x1 x2 x3 x4 x5 x6
   obtain ⟨q0,q1,q2,q3,q4,q5,q6⟩:=cells6 (HG4.out.box HO.out HX0.out (Nat.le_refl _))
   go_wp2
   clear q0 q1 q2 q3 q4 q5 q6
   go_loopw [0,7] (fun u i wr=>∃k:Nat,k≤ks.length∧i=.int .i64 k∧OY w0.heap.size wr u (bs++numB 10++nameB nm++numB ls.length++ls.flatMap levB++(ks.take k).flatMap encT)∧GrwV v u W0 wr) (fun _ i _=>ks.length - (intOf i).toNat)
   case atStart=>exact ⟨0,Nat.zero_le _,rfl,by simpa [List.append_assoc] using HO4.out,HG4.out⟩
   case round =>
    obtain ⟨k,hk,rfl,hOr,hgr⟩:=hrel
    have HOR:=Hid.mk hOr
    have HGR:=Hid.mk hgr
    have HBR:Hid (RowKit.Below w0.heap.size w0 wr):=HB00.out.trans (hgr.toBelow HO0.out HB00.out.size)
    obtain ⟨x0,x1,x2,x3,x4,x5,x6⟩:=cells6 (hgr.box HO.out HX0.out (Nat.le_refl _))
    clear hOr hgr
    by_cases hlt:k<ks.length
    ·exact absurd hlt (by omega)
    ·obtain rfl:k=ks.length:=by omega
     go_wp2
     go_ret
     refine ⟨_,rfl,?_,HGA.out.trans HGR.out⟩
     have:=HOR.out
     rw [List.take_length] at this
     rw [HENC.out]
     unfold fieldB
     simpa [List.append_assoc] using this
theorem rterm11 (w0:World) (n:Int) (hd:Bool) (nm:ByteArray) (ls:List LvT) (ks:List Tm) (hf:formedB (.mk 11 n hd nm ls ks)=true) (_hls:ls.length≤1000000) (ih:∀k∈ks,RTerm w0 k):RTerm w0 (.mk 11 n hd nm ls ks):=by
 intro v vt bs w hv hb0 hO hlen
 obtain ⟨hkn0,p1,p2,p10,-⟩:=formed_part hf
 have h3:kidsR 11≤0:=by decide
 have hkn:ks.length≤0:=by omega
 clear h3 hkn0 hf
 have HP1:=Hid.mk p1
 have HP2:=Hid.mk p2
 have HP10:=Hid.mk p10
 have HIH:=Hid.mk ih
 clear p1 p2 p10 ih
 have HENC:=Hid.mk (encT_mk 11 n hd nm ls ks)
 generalize encT (.mk 11 n hd nm ls ks)=ENC at HENC hlen ⊢
 have hlk:bs.length+(ks.flatMap encT).length+(fieldB 11 n hd nm ls).length+(numB 11).length≤60000000000000:=by
  have:=congrArg List.length HENC.out
  have e0:Int.toNat 11=11:=rfl
  rw [List.length_append,List.length_append,e0] at this
  omega
 cases hv with
 | @mk _ _ _ _ _ _ la lc ka kc kb ko hl hln hlc hlm hkn' hkc hkm hk kids =>
 have HK:=Hid.mk hk
 have HKIDS:=Hid.mk kids
 have HL:=Hid.mk hl
 clear hk kids hl hln hlc hlm hkn' hkc hkm
 obtain ⟨W0,hW0⟩:∃W0,w.alloc (.cells #[.int .i64 11,.int .i64 n,.bool hd,.string nm,.slice la ls.length lc,.slice ka ks.length kc] 36)=W0:=⟨_,rfl⟩
 have hb:RowKit.Below w.heap.size w W0:=by rw [←hW0];exact (Below.refl _ _).alloc (Nat.le_refl _) _
 have HX0:Hid (W0.heap[w.heap.size]?=some (.cells #[.int .i64 11,.int .i64 n,.bool hd,.string nm,.slice la ls.length lc,.slice ka ks.length kc] 36 (0,0))):=by unfold Hid;rw [←hW0];exact alloc_new _ _
 have HGA:Hid (GrwV v v w W0):=GrwV.below v hb
 have HG0:Hid (GrwV v v W0 W0):=GrwV.refl _ _
 have HB00:Hid (RowKit.Below w0.heap.size w0 W0):=hb0.trans (hb.mono hb0.size)
 have HO0:Hid (OY w0.heap.size W0 v bs):=hO.move fun k hk=>hb.block k (hO.lt hk).2
 have HO:=Hid.mk hO
 have HW0:=Hid.mk hW0
 have hf9:=numB_9 (n:=11) (by decide)
 clear hO hb0 hb hW0
 go_enter Tryz.func59,Tryz.ntmps59
 have HC0:=rnum_any w0.heap.size v bs 11 W0 HO0.out HB00.out.size (by omega) (by omega)
 obtain ⟨x0,x1,x2,x3,x4,x5,x6⟩:=cells6 (HG0.out.box HO.out HX0.out (Nat.le_refl _))
 go_wp2_with fail
 rw [HW0.out]
 refine HC0.mono ?_
 rintro e w1 ⟨v1,rfl,hOn,hgn⟩
 have HG1:Hid (GrwV v v1 W0 w1):=HG0.out.trans hgn
 have HB1:Hid (RowKit.Below w0.heap.size w0 w1):=HB00.out.trans (HG1.out.toBelow HO0.out HB00.out.size)
 have HO1:=Hid.mk hOn
 clear hOn hgn HC0 x0 x1 x2 x3 x4 x5 x6
 obtain ⟨hn0,hn1⟩:=HP1.out (by decide)
 have HC1:=rnum_any w0.heap.size v1 _ n.toNat w1 HO1.out HB1.out.size (by omega) (by simp;omega)
 rw [show ((n.toNat:Nat):Int)=n by omega] at HC1
 obtain ⟨x0,x1,x2,x3,x4,x5,x6⟩:=cells6 (HG1.out.box HO.out HX0.out (Nat.le_refl _))
 go_wp2_with fail
 refine HC1.mono ?_
 rintro e w2 ⟨v2,rfl,hOn,hgn⟩
 have HG2:Hid (GrwV v v2 W0 w2):=HG1.out.trans hgn
 have HB2:Hid (RowKit.Below w0.heap.size w0 w2):=HB00.out.trans (HG2.out.toBelow HO0.out HB00.out.size)
 have HO2:=Hid.mk hOn
 clear hOn hgn HC1 x0 x1 x2 x3 x4 x5 x6
 obtain ⟨q0,q1,q2,q3,q4,q5,q6⟩:=cells6 (HG2.out.box HO.out HX0.out (Nat.le_refl _))
 go_wp2
 clear q0 q1 q2 q3 q4 q5 q6
 go_loopw [0,7] (fun u i wr=>∃k:Nat,k≤ks.length∧i=.int .i64 k∧OY w0.heap.size wr u (bs++numB 11++numB n.toNat++(ks.take k).flatMap encT)∧GrwV v u W0 wr) (fun _ i _=>ks.length - (intOf i).toNat)
 case atStart=>exact ⟨0,Nat.zero_le _,rfl,by simpa [List.append_assoc] using HO2.out,HG2.out⟩
 case round =>
  obtain ⟨k,hk,rfl,hOr,hgr⟩:=hrel
  have HOR:=Hid.mk hOr
  have HGR:=Hid.mk hgr
  have HBR:Hid (RowKit.Below w0.heap.size w0 wr):=HB00.out.trans (hgr.toBelow HO0.out HB00.out.size)
  obtain ⟨x0,x1,x2,x3,x4,x5,x6⟩:=cells6 (hgr.box HO.out HX0.out (Nat.le_refl _))
  clear hOr hgr
  by_cases hlt:k<ks.length
  ·exact absurd hlt (by omega)
  ·obtain rfl:k=ks.length:=by omega
   go_wp2
   go_ret
   refine ⟨_,rfl,?_,HGA.out.trans HGR.out⟩
   have:=HOR.out
   rw [List.take_length] at this
   rw [HENC.out]
   unfold fieldB
   simpa [List.append_assoc] using this
theorem rterm_any (w0:World) (t:Tm):smT 1000000 t→formedB t=true→RTerm w0 t:=by
 refine Tm.ind (P:=fun t=>smT 1000000 t→formedB t=true→RTerm w0 t) ?_ t
 intro f n hd nm ls ks ih hsm hf
 obtain ⟨h1,h2,h3,h4,h5⟩:=(smT_mk _ _ _ _ _ _ _).1 hsm
 have hp:=formed_part hf
 have hih:∀k∈ks,RTerm w0 k:=fun k hk=>ih k hk (h5 k hk) (hp.2.2.2.2 k hk)
 rcases formed_form hf with rfl | rfl | rfl | rfl | rfl | rfl | rfl | rfl | rfl | rfl | rfl
 ·exact rterm1 w0 n hd nm ls ks hf h2 hih
 ·exact rterm2 w0 n hd nm ls ks hf h2 hih
 ·exact rterm3 w0 n hd nm ls ks hf h2 hih
 ·exact rterm4 w0 n hd nm ls ks hf h2 hih
 ·exact rterm5 w0 n hd nm ls ks hf h2 hih
 ·exact rterm6 w0 n hd nm ls ks hf h2 hih
 ·exact rterm7 w0 n hd nm ls ks hf h2 hih
 ·exact rterm8 w0 n hd nm ls ks hf h2 hih
 ·exact rterm9 w0 n hd nm ls ks hf h2 hih
 ·exact rterm10 w0 n hd nm ls ks hf h2 hih
 ·exact rterm11 w0 n hd nm ls ks hf h2 hih
end Go.Proofs.YtgfgpjcnfnopnaaGreat
