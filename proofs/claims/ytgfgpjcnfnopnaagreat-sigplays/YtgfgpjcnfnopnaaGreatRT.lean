/- The contracts of the reference's formed, Check, Size. -/
import Derived.Test.YtgfgpjcnfnopnaaGreatON
namespace Go.Proofs.YtgfgpjcnfnopnaaGreat
open Go.RowKit Go.Sort
theorem jud_len {f n:Int}{hd:Bool}{nm:ByteArray}{ls:List LvT}{ks:List Tm}(h:¬(ks.length:Int)=kidsR f):judB (.mk f n hd nm ls ks)=false:=by
 unfold judB
 rw [show decide (((Tm.mk f n hd nm ls ks).kids.length:Int)=kidsR (Tm.mk f n hd nm ls ks).form)=false from decide_eq_false h,Bool.false_and]
theorem jud_eq {f n:Int}{hd:Bool}{nm:ByteArray}{ls:List LvT}{ks:List Tm}(h:(ks.length:Int)=kidsR f):judB (.mk f n hd nm ls ks)=fieldsB (.mk f n hd nm ls ks):=by
 unfold judB
 rw [show decide (((Tm.mk f n hd nm ls ks).kids.length:Int)=kidsR (Tm.mk f n hd nm ls ks).form)=true from decide_eq_true h,Bool.true_and]
theorem take_allT {p:Tm→Bool}{xs:List Tm}{k:Nat}{z:Tm}(h:xs[k]?=some z):(xs.take (k+1)).all p=((xs.take k).all p&&p z):=by
 obtain ⟨hk,rfl⟩:=List.getElem?_eq_some_iff.1 h
 rw [List.take_succ_eq_append_getElem hk,List.all_append];simp
theorem all_noT {p:Tm→Bool}{xs:List Tm}{k:Nat}{z:Tm}(h:xs[k]?=some z) (h0:p z=false):xs.all p=false:=by
 obtain ⟨hk,rfl⟩:=List.getElem?_eq_some_iff.1 h
 rw [List.all_eq_false];exact ⟨xs[k],List.getElem_mem hk,by simpa using h0⟩
set_option maxRecDepth 100000 in
set_option maxHeartbeats 8000000 in
theorem formed_any (t:Tm):∀(v:Value) (w:World),smT 1000000 t→TV w v t→Calls Tryz.prog 76 #[v] w fun e w'=>e=.returned (.bool (formedB t))∧RowKit.Below w.heap.size w w':=by
 refine Tm.ind (P:=fun t=>∀(v:Value) (w:World),smT 1000000 t→TV w v t→Calls Tryz.prog 76 #[v] w fun e w'=>e=.returned (.bool (formedB t))∧RowKit.Below w.heap.size w w') ?_ t
 intro f n hd nm ls ks ih v w hsm hv
 obtain ⟨-,s1,s2,s3,s4⟩:=(smT_mk _ _ _ _ _ _ _).1 hsm
 cases hv with
 | @mk _ _ _ _ _ _ la lc ka kc kb ko hl hln hlc hlm hkn hkc hkm hk kids =>
  have HFB:Hid (formedB (.mk f n hd nm ls ks)=(judB (.mk f n hd nm ls ks)&&ks.all formedB)):=formedB_mk f n hd nm ls ks
  generalize formedB (.mk f n hd nm ls ks)=R at HFB ⊢
  have HL:=Hid.mk hl
  have HK:=Hid.mk hk
  have HKIDS:=Hid.mk kids
  have HIH:=Hid.mk ih
  have HS2:=Hid.mk s2
  have HS4:=Hid.mk s4
  clear hl hk kids ih s2 s4 hsm
  obtain ⟨W0,hW0⟩:∃W0,w.alloc (.cells #[.int .i64 f,.int .i64 n,.bool hd,.string nm,.slice la ls.length lc,.slice ka ks.length kc] 36)=W0:=⟨_,rfl⟩
  have HG0:Hid (RowKit.Below w.heap.size w W0):=by unfold Hid;rw [←hW0];exact (Below.refl _ _).alloc (Nat.le_refl _) _
  have HX0:Hid (W0.heap[w.heap.size]?=some (.cells #[.int .i64 f,.int .i64 n,.bool hd,.string nm,.slice la ls.length lc,.slice ka ks.length kc] 36 (0,0))):=by unfold Hid;rw [←hW0];exact alloc_new _ _
  have HW0:=Hid.mk hW0
  have hgen:=fun (W:World) (h:Hid (w.alloc (.cells #[.int .i64 f,.int .i64 n,.bool hd,.string nm,.slice la ls.length lc,.slice ka ks.length kc] 36)=W))=>h.out
  clear hW0 hgen
  have HKA:=kids_any f
  by_cases hq:(ks.length:Int)=kidsR f
  rotate_left
  ·have HR:Hid (R=false):=by unfold Hid;rw [HFB.out,jud_len hq];rfl
   generalize kidsR f=K at *
   by_cases hneg:K<0
   ·go_enter Tryz.func76,Tryz.ntmps76
    go_wp2_with (go_at_call 89;refine (HKA _).mono ?_;rintro e w' ⟨rfl,rfl⟩)
    go_ret
    exact ⟨by rw [HR.out];rfl,by have:=HG0.out;rwa [←HW0.out] at this⟩
   ·have hqb:(K != (ks.length:Int))=true:=by simp;omega
    go_enter Tryz.func76,Tryz.ntmps76
    go_wp2_with (go_at_call 89;refine (HKA _).mono ?_;rintro e w' ⟨rfl,rfl⟩)
    go_ret
    exact ⟨by rw [HR.out];rfl,by have:=HG0.out;rwa [←HW0.out] at this⟩
  have HJ:Hid (R=(fieldsB (.mk f n hd nm ls ks)&&ks.all formedB)):=by unfold Hid;rw [HFB.out,jud_eq hq]
  clear HFB
  rw [←hq] at HKA
  have hqb:((ks.length:Int) != (ks.length:Int))=false:=by simp
  have HQ:=Hid.mk hq
  clear hq
  rcases form_cases f with rfl | rfl | rfl | rfl | rfl | rfl | rfl | rfl | rfl | rfl | rfl | hin
  ·rcases (show n<0∨(0≤n∧1073741824<n)∨(0≤n∧n≤1073741824) by omega) with h1 | ⟨h1,h2⟩ | ⟨h1,h2⟩
   ·have HR:Hid (R=false):=by unfold Hid;rw [HJ.out,show fieldsB (.mk 1 n hd nm ls ks)=false by simp [fieldsB];omega];rfl
    go_enter Tryz.func76,Tryz.ntmps76
    go_wp2_with (go_at_call 89;refine (HKA _).mono ?_;rintro e w' ⟨rfl,rfl⟩)
    go_ret
    exact ⟨by rw [HR.out];rfl,by have:=HG0.out;rwa [←HW0.out] at this⟩
   ·have HR:Hid (R=false):=by unfold Hid;rw [HJ.out,show fieldsB (.mk 1 n hd nm ls ks)=false by simp [fieldsB];omega];rfl
    go_enter Tryz.func76,Tryz.ntmps76
    go_wp2_with (go_at_call 89;refine (HKA _).mono ?_;rintro e w' ⟨rfl,rfl⟩)
    go_ret
    exact ⟨by rw [HR.out];rfl,by have:=HG0.out;rwa [←HW0.out] at this⟩
   ·have HJ2:Hid (R=ks.all formedB):=by unfold Hid;rw [HJ.out,show fieldsB (.mk 1 n hd nm ls ks)=true by simp [fieldsB];omega,Bool.true_and]
    go_enter Tryz.func76,Tryz.ntmps76
    go_wp2_with (go_at_call 89;refine (HKA _).mono ?_;rintro e w' ⟨rfl,rfl⟩)
    rw [HW0.out]
    have HXW:=HX0
    have HGW:=HG0
    go_loopw [6] (fun i wr=>∃j:Nat,j≤ks.length∧i=.int .i64 j∧RowKit.Below W0.heap.size W0 wr∧(ks.take j).all formedB=true) (fun i _=>ks.length - (intOf i).toNat)
    case atStart=>exact ⟨0,Nat.zero_le _,rfl,Below.refl _ _,by simp⟩
    case round =>
     obtain ⟨j,hj,rfl,hg,hall⟩:=hrel
     have HG:=Hid.mk hg
     have HALL:=Hid.mk hall
     clear hg hall
     obtain ⟨x0,x1,x2,x3,x4,x5,x6⟩:=cells6 ((HG.out.block w.heap.size (heap_lt HXW.out)).trans HXW.out)
     have hzw:=HGW.out.size
     have HBR:Hid (RowKit.Below w.heap.size w wr):=HGW.out.trans (HG.out.mono hzw)
     by_cases hlt:j<ks.length
     ·obtain ⟨hka',hkb⟩:=HK.out (by intro e;rw [e] at hlt;simp at hlt)
      try subst hka'
      have hkt:ks[j]?=some ks[j]:=List.getElem?_eq_getElem hlt
      have htc:=((HKIDS.out j _ hkt).on HBR.out)
      obtain ⟨v0,v1,v2,v3,v4,v5,c0,c1,c2,c3,c4,c5,hv⟩:=htc.val
      have HCALL:=HIH.out ks[j] (List.getElem_mem hlt) _ wr (HS4.out _ (List.getElem_mem hlt)) hv
      have HTK:=Hid.mk (take_allT (p:=formedB) hkt)
      have HNO:=Hid.mk (fun h=>all_noT (p:=formedB) hkt h)
      have zj:(j:Int)<(ks.length:Int):=by omega
      clear hv htc hkt
      generalize formedB ks[j]=q at HCALL HTK HNO
      cases q
      ·have HE:Hid (R=false):=by unfold Hid;rw [HJ2.out,HNO.out rfl]
       go_wp2_with fail
       refine HCALL.mono ?_
       rintro e w5 ⟨rfl,hg5⟩
       go_wp2
       go_ret
       exact ⟨by rw [HE.out];rfl,HBR.out.trans (hg5.mono HBR.out.size)⟩
      ·go_wp2_with fail
       refine HCALL.mono ?_
       rintro e w5 ⟨rfl,hg5⟩
       go_wp2
       refine ⟨⟨j+1,hlt,by go_num,HG.out.trans (hg5.mono HG.out.size),by rw [HTK.out,HALL.out];rfl⟩,by simp [intOf];omega⟩
     ·have HE:Hid (R=true):=by unfold Hid;rw [HJ2.out];have:=HALL.out;rwa [List.take_of_length_le (by omega)] at this
      go_wp2
      go_ret
      exact ⟨by rw [HE.out];rfl,HBR.out⟩
  ·by_cases hone:ls.length=1
   ·have hob:((ls.length:Int) != 1)=false:=by simp [hone]
    have HNF:Hid (ls.any (fun l=>!canonB l)=true→fieldsB (.mk 2 n hd nm ls ks)=false):=fun h=>by
     obtain ⟨l,rfl⟩:=List.length_eq_one_iff.1 hone
     simpa [fieldsB] using h
    have HYF:Hid (ls.any (fun l=>!canonB l)=false→fieldsB (.mk 2 n hd nm ls ks)=true):=fun h=>by
     obtain ⟨l,rfl⟩:=List.length_eq_one_iff.1 hone
     simpa [fieldsB] using h
    clear hone
    go_enter Tryz.func76,Tryz.ntmps76
    go_wp2_with (go_at_call 89;refine (HKA _).mono ?_;rintro e w' ⟨rfl,rfl⟩)
    rw [HW0.out]
    go_loopw [4] (fun i wr=>∃j:Nat,j≤ls.length∧i=.int .i64 j∧RowKit.Below W0.heap.size W0 wr∧(ls.take j).any (fun l=>!canonB l)=false) (fun i _=>ls.length - (intOf i).toNat)
    case atStart=>exact ⟨0,Nat.zero_le _,rfl,Below.refl _ _,by simp⟩
    case round =>
     obtain ⟨j,hj,rfl,hg,hall⟩:=hrel
     have HGL:=Hid.mk hg
     have HALLL:=Hid.mk hall
     clear hg hall
     obtain ⟨x0,x1,x2,x3,x4,x5,x6⟩:=cells6 ((HGL.out.block w.heap.size (heap_lt HX0.out)).trans HX0.out)
     have hzw0:=HG0.out.size
     have HBL:Hid (RowKit.Below w.heap.size w wr):=HG0.out.trans (HGL.out.mono hzw0)
     by_cases hlt:j<ls.length
     ·obtain ⟨b,off,a',cap',rfl,hbl,c0,c1,hs⟩:=(HL.out.below HBL.out).at hlt
      have hkt:ls[j]?=some ls[j]:=List.getElem?_eq_getElem hlt
      have HCALL:=rCanonical_any ls[j].1 ls[j].2 a' cap' wr hs (by have:=HS2.out ls[j] (List.getElem_mem hlt);omega)
      have HTK:=Hid.mk (take_any (p:=fun l=>!canonB l) hkt)
      have HNO:=Hid.mk (fun h=>any_yes (p:=fun l=>!canonB l) hkt h)
      have zj:(j:Int)<(ls.length:Int):=by omega
      clear hs hkt
      have hpair:canonB (ls[j].1,ls[j].2)=canonB ls[j]:=rfl
      rw [hpair] at HCALL
      clear hpair
      generalize canonB ls[j]=q at HCALL HTK HNO
      generalize ls[j].2.length=ln at *
      generalize ls[j].1=l1 at *
      cases q
      ·have HE:Hid (R=false):=by unfold Hid;rw [HJ.out,HNF.out (HNO.out rfl)];rfl
       go_wp2_with fail
       refine HCALL.mono ?_
       rintro e w5 ⟨rfl,hg5⟩
       go_wp2
       go_ret
       exact ⟨by rw [HE.out];rfl,HBL.out.trans (hg5.mono HBL.out.size)⟩
      ·go_wp2_with fail
       refine HCALL.mono ?_
       rintro e w5 ⟨rfl,hg5⟩
       go_wp2
       refine ⟨⟨j+1,hlt,by go_num,HGL.out.trans (hg5.mono HGL.out.size),by rw [HTK.out,HALLL.out];rfl⟩,by simp [intOf];omega⟩
     ·have hnone:ls.any (fun l=>!canonB l)=false:=by have:=HALLL.out;rwa [List.take_of_length_le (by omega)] at this
      have HJ2:Hid (R=ks.all formedB):=by unfold Hid;rw [HJ.out,HYF.out hnone,Bool.true_and]
      obtain ⟨W4,hW4⟩:∃W,W=wr:=⟨_,rfl⟩
      subst hW4
      have HXW:=Hid.mk ((HGL.out.block w.heap.size (heap_lt HX0.out)).trans HX0.out)
      have HGW:=HBL
      clear hnone HALLL HGL
      go_wp2
      clear x0 x1 x2 x3 x4 x5 x6
      go_loopw [6] (fun i wr=>∃j:Nat,j≤ks.length∧i=.int .i64 j∧RowKit.Below W4.heap.size W4 wr∧(ks.take j).all formedB=true) (fun i _=>ks.length - (intOf i).toNat)
      case atStart=>exact ⟨0,Nat.zero_le _,rfl,Below.refl _ _,by simp⟩
      case round =>
       obtain ⟨j,hj,rfl,hg,hall⟩:=hrel
       have HG:=Hid.mk hg
       have HALL:=Hid.mk hall
       clear hg hall
       obtain ⟨x0,x1,x2,x3,x4,x5,x6⟩:=cells6 ((HG.out.block w.heap.size (heap_lt HXW.out)).trans HXW.out)
       have hzw:=HGW.out.size
       have HBR:Hid (RowKit.Below w.heap.size w wr):=HGW.out.trans (HG.out.mono hzw)
       by_cases hlt:j<ks.length
       ·obtain ⟨hka',hkb⟩:=HK.out (by intro e;rw [e] at hlt;simp at hlt)
        try subst hka'
        have hkt:ks[j]?=some ks[j]:=List.getElem?_eq_getElem hlt
        have htc:=((HKIDS.out j _ hkt).on HBR.out)
        obtain ⟨v0,v1,v2,v3,v4,v5,c0,c1,c2,c3,c4,c5,hv⟩:=htc.val
        have HCALL:=HIH.out ks[j] (List.getElem_mem hlt) _ wr (HS4.out _ (List.getElem_mem hlt)) hv
        have HTK:=Hid.mk (take_allT (p:=formedB) hkt)
        have HNO:=Hid.mk (fun h=>all_noT (p:=formedB) hkt h)
        have zj:(j:Int)<(ks.length:Int):=by omega
        clear hv htc hkt
        generalize formedB ks[j]=q at HCALL HTK HNO
        cases q
        ·have HE:Hid (R=false):=by unfold Hid;rw [HJ2.out,HNO.out rfl]
         go_wp2_with fail
         refine HCALL.mono ?_
         rintro e w5 ⟨rfl,hg5⟩
         go_wp2
         go_ret
         exact ⟨by rw [HE.out];rfl,HBR.out.trans (hg5.mono HBR.out.size)⟩
        ·go_wp2_with fail
         refine HCALL.mono ?_
         rintro e w5 ⟨rfl,hg5⟩
         go_wp2
         refine ⟨⟨j+1,hlt,by go_num,HG.out.trans (hg5.mono HG.out.size),by rw [HTK.out,HALL.out];rfl⟩,by simp [intOf];omega⟩
       ·have HE:Hid (R=true):=by unfold Hid;rw [HJ2.out];have:=HALL.out;rwa [List.take_of_length_le (by omega)] at this
        go_wp2
        go_ret
        exact ⟨by rw [HE.out];rfl,HBR.out⟩
   ·have hob:((ls.length:Int) != 1)=true:=by simp;omega
    have hfl:fieldsB (.mk 2 n hd nm ls ks)=false:=by
     match ls,hone with
     | [],_=>simp [fieldsB]
     | [l],h=>simp at h
     | l1::l2::lr,_=>simp [fieldsB]
    clear hone
    have HR:Hid (R=false):=by unfold Hid;rw [HJ.out,hfl];rfl
    go_enter Tryz.func76,Tryz.ntmps76
    go_wp2_with (go_at_call 89;refine (HKA _).mono ?_;rintro e w' ⟨rfl,rfl⟩)
    go_ret
    exact ⟨by rw [HR.out];rfl,by have:=HG0.out;rwa [←HW0.out] at this⟩
  ·have HJ2:Hid (R=ks.all formedB):=by unfold Hid;rw [HJ.out,show fieldsB (.mk 3 n hd nm ls ks)=true by simp [fieldsB],Bool.true_and]
   go_enter Tryz.func76,Tryz.ntmps76
   go_wp2_with (go_at_call 89;refine (HKA _).mono ?_;rintro e w' ⟨rfl,rfl⟩)
   rw [HW0.out]
   have HXW:=HX0
   have HGW:=HG0
   go_loopw [6] (fun i wr=>∃j:Nat,j≤ks.length∧i=.int .i64 j∧RowKit.Below W0.heap.size W0 wr∧(ks.take j).all formedB=true) (fun i _=>ks.length - (intOf i).toNat)
   case atStart=>exact ⟨0,Nat.zero_le _,rfl,Below.refl _ _,by simp⟩
   case round =>
    obtain ⟨j,hj,rfl,hg,hall⟩:=hrel
    have HG:=Hid.mk hg
    have HALL:=Hid.mk hall
    clear hg hall
    obtain ⟨x0,x1,x2,x3,x4,x5,x6⟩:=cells6 ((HG.out.block w.heap.size (heap_lt HXW.out)).trans HXW.out)
    have hzw:=HGW.out.size
    have HBR:Hid (RowKit.Below w.heap.size w wr):=HGW.out.trans (HG.out.mono hzw)
    by_cases hlt:j<ks.length
    ·obtain ⟨hka',hkb⟩:=HK.out (by intro e;rw [e] at hlt;simp at hlt)
     try subst hka'
     have hkt:ks[j]?=some ks[j]:=List.getElem?_eq_getElem hlt
     have htc:=((HKIDS.out j _ hkt).on HBR.out)
     obtain ⟨v0,v1,v2,v3,v4,v5,c0,c1,c2,c3,c4,c5,hv⟩:=htc.val
     have HCALL:=HIH.out ks[j] (List.getElem_mem hlt) _ wr (HS4.out _ (List.getElem_mem hlt)) hv
     have HTK:=Hid.mk (take_allT (p:=formedB) hkt)
     have HNO:=Hid.mk (fun h=>all_noT (p:=formedB) hkt h)
     have zj:(j:Int)<(ks.length:Int):=by omega
     clear hv htc hkt
     generalize formedB ks[j]=q at HCALL HTK HNO
     cases q
     ·have HE:Hid (R=false):=by unfold Hid;rw [HJ2.out,HNO.out rfl]
      go_wp2_with fail
      refine HCALL.mono ?_
      rintro e w5 ⟨rfl,hg5⟩
      go_wp2
      go_ret
      exact ⟨by rw [HE.out];rfl,HBR.out.trans (hg5.mono HBR.out.size)⟩
     ·go_wp2_with fail
      refine HCALL.mono ?_
      rintro e w5 ⟨rfl,hg5⟩
      go_wp2
      refine ⟨⟨j+1,hlt,by go_num,HG.out.trans (hg5.mono HG.out.size),by rw [HTK.out,HALL.out];rfl⟩,by simp [intOf];omega⟩
    ·have HE:Hid (R=true):=by unfold Hid;rw [HJ2.out];have:=HALL.out;rwa [List.take_of_length_le (by omega)] at this
     go_wp2
     go_ret
     exact ⟨by rw [HE.out];rfl,HBR.out⟩
  ·have HJ2:Hid (R=ks.all formedB):=by unfold Hid;rw [HJ.out,show fieldsB (.mk 4 n hd nm ls ks)=true by simp [fieldsB],Bool.true_and]
   go_enter Tryz.func76,Tryz.ntmps76
   go_wp2_with (go_at_call 89;refine (HKA _).mono ?_;rintro e w' ⟨rfl,rfl⟩)
   rw [HW0.out]
   have HXW:=HX0
   have HGW:=HG0
   go_loopw [6] (fun i wr=>∃j:Nat,j≤ks.length∧i=.int .i64 j∧RowKit.Below W0.heap.size W0 wr∧(ks.take j).all formedB=true) (fun i _=>ks.length - (intOf i).toNat)
   case atStart=>exact ⟨0,Nat.zero_le _,rfl,Below.refl _ _,by simp⟩
   case round =>
    obtain ⟨j,hj,rfl,hg,hall⟩:=hrel
    have HG:=Hid.mk hg
    have HALL:=Hid.mk hall
    clear hg hall
    obtain ⟨x0,x1,x2,x3,x4,x5,x6⟩:=cells6 ((HG.out.block w.heap.size (heap_lt HXW.out)).trans HXW.out)
    have hzw:=HGW.out.size
    have HBR:Hid (RowKit.Below w.heap.size w wr):=HGW.out.trans (HG.out.mono hzw)
    by_cases hlt:j<ks.length
    ·obtain ⟨hka',hkb⟩:=HK.out (by intro e;rw [e] at hlt;simp at hlt)
     try subst hka'
     have hkt:ks[j]?=some ks[j]:=List.getElem?_eq_getElem hlt
     have htc:=((HKIDS.out j _ hkt).on HBR.out)
     obtain ⟨v0,v1,v2,v3,v4,v5,c0,c1,c2,c3,c4,c5,hv⟩:=htc.val
     have HCALL:=HIH.out ks[j] (List.getElem_mem hlt) _ wr (HS4.out _ (List.getElem_mem hlt)) hv
     have HTK:=Hid.mk (take_allT (p:=formedB) hkt)
     have HNO:=Hid.mk (fun h=>all_noT (p:=formedB) hkt h)
     have zj:(j:Int)<(ks.length:Int):=by omega
     clear hv htc hkt
     generalize formedB ks[j]=q at HCALL HTK HNO
     cases q
     ·have HE:Hid (R=false):=by unfold Hid;rw [HJ2.out,HNO.out rfl]
      go_wp2_with fail
      refine HCALL.mono ?_
      rintro e w5 ⟨rfl,hg5⟩
      go_wp2
      go_ret
      exact ⟨by rw [HE.out];rfl,HBR.out.trans (hg5.mono HBR.out.size)⟩
     ·go_wp2_with fail
      refine HCALL.mono ?_
      rintro e w5 ⟨rfl,hg5⟩
      go_wp2
      refine ⟨⟨j+1,hlt,by go_num,HG.out.trans (hg5.mono HG.out.size),by rw [HTK.out,HALL.out];rfl⟩,by simp [intOf];omega⟩
    ·have HE:Hid (R=true):=by unfold Hid;rw [HJ2.out];have:=HALL.out;rwa [List.take_of_length_le (by omega)] at this
     go_wp2
     go_ret
     exact ⟨by rw [HE.out];rfl,HBR.out⟩
  ·have HJ2:Hid (R=ks.all formedB):=by unfold Hid;rw [HJ.out,show fieldsB (.mk 5 n hd nm ls ks)=true by simp [fieldsB],Bool.true_and]
   go_enter Tryz.func76,Tryz.ntmps76
   go_wp2_with (go_at_call 89;refine (HKA _).mono ?_;rintro e w' ⟨rfl,rfl⟩)
   rw [HW0.out]
   have HXW:=HX0
   have HGW:=HG0
   go_loopw [6] (fun i wr=>∃j:Nat,j≤ks.length∧i=.int .i64 j∧RowKit.Below W0.heap.size W0 wr∧(ks.take j).all formedB=true) (fun i _=>ks.length - (intOf i).toNat)
   case atStart=>exact ⟨0,Nat.zero_le _,rfl,Below.refl _ _,by simp⟩
   case round =>
    obtain ⟨j,hj,rfl,hg,hall⟩:=hrel
    have HG:=Hid.mk hg
    have HALL:=Hid.mk hall
    clear hg hall
    obtain ⟨x0,x1,x2,x3,x4,x5,x6⟩:=cells6 ((HG.out.block w.heap.size (heap_lt HXW.out)).trans HXW.out)
    have hzw:=HGW.out.size
    have HBR:Hid (RowKit.Below w.heap.size w wr):=HGW.out.trans (HG.out.mono hzw)
    by_cases hlt:j<ks.length
    ·obtain ⟨hka',hkb⟩:=HK.out (by intro e;rw [e] at hlt;simp at hlt)
     try subst hka'
     have hkt:ks[j]?=some ks[j]:=List.getElem?_eq_getElem hlt
     have htc:=((HKIDS.out j _ hkt).on HBR.out)
     obtain ⟨v0,v1,v2,v3,v4,v5,c0,c1,c2,c3,c4,c5,hv⟩:=htc.val
     have HCALL:=HIH.out ks[j] (List.getElem_mem hlt) _ wr (HS4.out _ (List.getElem_mem hlt)) hv
     have HTK:=Hid.mk (take_allT (p:=formedB) hkt)
     have HNO:=Hid.mk (fun h=>all_noT (p:=formedB) hkt h)
     have zj:(j:Int)<(ks.length:Int):=by omega
     clear hv htc hkt
     generalize formedB ks[j]=q at HCALL HTK HNO
     cases q
     ·have HE:Hid (R=false):=by unfold Hid;rw [HJ2.out,HNO.out rfl]
      go_wp2_with fail
      refine HCALL.mono ?_
      rintro e w5 ⟨rfl,hg5⟩
      go_wp2
      go_ret
      exact ⟨by rw [HE.out];rfl,HBR.out.trans (hg5.mono HBR.out.size)⟩
     ·go_wp2_with fail
      refine HCALL.mono ?_
      rintro e w5 ⟨rfl,hg5⟩
      go_wp2
      refine ⟨⟨j+1,hlt,by go_num,HG.out.trans (hg5.mono HG.out.size),by rw [HTK.out,HALL.out];rfl⟩,by simp [intOf];omega⟩
    ·have HE:Hid (R=true):=by unfold Hid;rw [HJ2.out];have:=HALL.out;rwa [List.take_of_length_le (by omega)] at this
     go_wp2
     go_ret
     exact ⟨by rw [HE.out];rfl,HBR.out⟩
  ·have HJ2:Hid (R=ks.all formedB):=by unfold Hid;rw [HJ.out,show fieldsB (.mk 6 n hd nm ls ks)=true by simp [fieldsB],Bool.true_and]
   go_enter Tryz.func76,Tryz.ntmps76
   go_wp2_with (go_at_call 89;refine (HKA _).mono ?_;rintro e w' ⟨rfl,rfl⟩)
   rw [HW0.out]
   have HXW:=HX0
   have HGW:=HG0
   go_loopw [6] (fun i wr=>∃j:Nat,j≤ks.length∧i=.int .i64 j∧RowKit.Below W0.heap.size W0 wr∧(ks.take j).all formedB=true) (fun i _=>ks.length - (intOf i).toNat)
   case atStart=>exact ⟨0,Nat.zero_le _,rfl,Below.refl _ _,by simp⟩
   case round =>
    obtain ⟨j,hj,rfl,hg,hall⟩:=hrel
    have HG:=Hid.mk hg
    have HALL:=Hid.mk hall
    clear hg hall
    obtain ⟨x0,x1,x2,x3,x4,x5,x6⟩:=cells6 ((HG.out.block w.heap.size (heap_lt HXW.out)).trans HXW.out)
    have hzw:=HGW.out.size
    have HBR:Hid (RowKit.Below w.heap.size w wr):=HGW.out.trans (HG.out.mono hzw)
    by_cases hlt:j<ks.length
    ·obtain ⟨hka',hkb⟩:=HK.out (by intro e;rw [e] at hlt;simp at hlt)
     try subst hka'
     have hkt:ks[j]?=some ks[j]:=List.getElem?_eq_getElem hlt
     have htc:=((HKIDS.out j _ hkt).on HBR.out)
     obtain ⟨v0,v1,v2,v3,v4,v5,c0,c1,c2,c3,c4,c5,hv⟩:=htc.val
     have HCALL:=HIH.out ks[j] (List.getElem_mem hlt) _ wr (HS4.out _ (List.getElem_mem hlt)) hv
     have HTK:=Hid.mk (take_allT (p:=formedB) hkt)
     have HNO:=Hid.mk (fun h=>all_noT (p:=formedB) hkt h)
     have zj:(j:Int)<(ks.length:Int):=by omega
     clear hv htc hkt
     generalize formedB ks[j]=q at HCALL HTK HNO
     cases q
     ·have HE:Hid (R=false):=by unfold Hid;rw [HJ2.out,HNO.out rfl]
      go_wp2_with fail
      refine HCALL.mono ?_
      rintro e w5 ⟨rfl,hg5⟩
      go_wp2
      go_ret
      exact ⟨by rw [HE.out];rfl,HBR.out.trans (hg5.mono HBR.out.size)⟩
     ·go_wp2_with fail
      refine HCALL.mono ?_
      rintro e w5 ⟨rfl,hg5⟩
      go_wp2
      refine ⟨⟨j+1,hlt,by go_num,HG.out.trans (hg5.mono HG.out.size),by rw [HTK.out,HALL.out];rfl⟩,by simp [intOf];omega⟩
    ·have HE:Hid (R=true):=by unfold Hid;rw [HJ2.out];have:=HALL.out;rwa [List.take_of_length_le (by omega)] at this
     go_wp2
     go_ret
     exact ⟨by rw [HE.out];rfl,HBR.out⟩
  ·have hne:ks≠[]:=by intro e;have:=HQ.out;rw [e] at this;simp [kidsR] at this
   obtain ⟨hka,hkb⟩:=HK.out hne
   obtain ⟨k0,kr,hks⟩:∃k0 kr,ks=k0::kr:=by cases ks with | nil=>exact absurd rfl hne | cons a b=>exact ⟨a,b,rfl⟩
   have htc:=HKIDS.out 0 k0 (by rw [hks];rfl)
   have c0:w.cell? ⟨kb,ko,none⟩=some (.int .i64 k0.form):=by
    cases htc with
    | mk c0=>simpa [Tm.form] using c0
   have hF:fieldsB (.mk 7 n hd nm ls ks)=(k0.form==6):=by rw [hks];simp [fieldsB]
   have hlen:(0:Int)<(ks.length:Int):=by rw [hks];simp
   subst hka
   clear htc hks hne
   cases h6:(k0.form==6)
   ·have h6b:(k0.form != 6)=true:=by simpa using h6
    rw [h6] at hF
    clear h6
    generalize k0.form=kf at *
    have HR:Hid (R=false):=by unfold Hid;rw [HJ.out,hF];rfl
    go_enter Tryz.func76,Tryz.ntmps76
    go_wp2_with (go_at_call 89;refine (HKA _).mono ?_;rintro e w' ⟨rfl,rfl⟩)
    go_ret
    exact ⟨by rw [HR.out];rfl,by have:=HG0.out;rwa [←HW0.out] at this⟩
   ·have h6b:(k0.form != 6)=false:=by simpa using h6
    rw [h6] at hF
    clear h6
    generalize k0.form=kf at *
    have HJ2:Hid (R=ks.all formedB):=by unfold Hid;rw [HJ.out,hF,Bool.true_and]
    go_enter Tryz.func76,Tryz.ntmps76
    go_wp2_with (go_at_call 89;refine (HKA _).mono ?_;rintro e w' ⟨rfl,rfl⟩)
    rw [HW0.out]
    have HXW:=HX0
    have HGW:=HG0
    go_loopw [6] (fun i wr=>∃j:Nat,j≤ks.length∧i=.int .i64 j∧RowKit.Below W0.heap.size W0 wr∧(ks.take j).all formedB=true) (fun i _=>ks.length - (intOf i).toNat)
    case atStart=>exact ⟨0,Nat.zero_le _,rfl,Below.refl _ _,by simp⟩
    case round =>
     obtain ⟨j,hj,rfl,hg,hall⟩:=hrel
     have HG:=Hid.mk hg
     have HALL:=Hid.mk hall
     clear hg hall
     obtain ⟨x0,x1,x2,x3,x4,x5,x6⟩:=cells6 ((HG.out.block w.heap.size (heap_lt HXW.out)).trans HXW.out)
     have hzw:=HGW.out.size
     have HBR:Hid (RowKit.Below w.heap.size w wr):=HGW.out.trans (HG.out.mono hzw)
     by_cases hlt:j<ks.length
     ·obtain ⟨hka',hkb⟩:=HK.out (by intro e;rw [e] at hlt;simp at hlt)
      try subst hka'
      have hkt:ks[j]?=some ks[j]:=List.getElem?_eq_getElem hlt
      have htc:=((HKIDS.out j _ hkt).on HBR.out)
      obtain ⟨v0,v1,v2,v3,v4,v5,c0,c1,c2,c3,c4,c5,hv⟩:=htc.val
      have HCALL:=HIH.out ks[j] (List.getElem_mem hlt) _ wr (HS4.out _ (List.getElem_mem hlt)) hv
      have HTK:=Hid.mk (take_allT (p:=formedB) hkt)
      have HNO:=Hid.mk (fun h=>all_noT (p:=formedB) hkt h)
      have zj:(j:Int)<(ks.length:Int):=by omega
      clear hv htc hkt
      generalize formedB ks[j]=q at HCALL HTK HNO
      cases q
      ·have HE:Hid (R=false):=by unfold Hid;rw [HJ2.out,HNO.out rfl]
       go_wp2_with fail
       refine HCALL.mono ?_
       rintro e w5 ⟨rfl,hg5⟩
       go_wp2
       go_ret
       exact ⟨by rw [HE.out];rfl,HBR.out.trans (hg5.mono HBR.out.size)⟩
      ·go_wp2_with fail
       refine HCALL.mono ?_
       rintro e w5 ⟨rfl,hg5⟩
       go_wp2
       refine ⟨⟨j+1,hlt,by go_num,HG.out.trans (hg5.mono HG.out.size),by rw [HTK.out,HALL.out];rfl⟩,by simp [intOf];omega⟩
     ·have HE:Hid (R=true):=by unfold Hid;rw [HJ2.out];have:=HALL.out;rwa [List.take_of_length_le (by omega)] at this
      go_wp2
      go_ret
      exact ⟨by rw [HE.out];rfl,HBR.out⟩
  ·have HJ2:Hid (R=ks.all formedB):=by unfold Hid;rw [HJ.out,show fieldsB (.mk 8 n hd nm ls ks)=true by simp [fieldsB],Bool.true_and]
   go_enter Tryz.func76,Tryz.ntmps76
   go_wp2_with (go_at_call 89;refine (HKA _).mono ?_;rintro e w' ⟨rfl,rfl⟩)
   rw [HW0.out]
   have HXW:=HX0
   have HGW:=HG0
   go_loopw [6] (fun i wr=>∃j:Nat,j≤ks.length∧i=.int .i64 j∧RowKit.Below W0.heap.size W0 wr∧(ks.take j).all formedB=true) (fun i _=>ks.length - (intOf i).toNat)
   case atStart=>exact ⟨0,Nat.zero_le _,rfl,Below.refl _ _,by simp⟩
   case round =>
    obtain ⟨j,hj,rfl,hg,hall⟩:=hrel
    have HG:=Hid.mk hg
    have HALL:=Hid.mk hall
    clear hg hall
    obtain ⟨x0,x1,x2,x3,x4,x5,x6⟩:=cells6 ((HG.out.block w.heap.size (heap_lt HXW.out)).trans HXW.out)
    have hzw:=HGW.out.size
    have HBR:Hid (RowKit.Below w.heap.size w wr):=HGW.out.trans (HG.out.mono hzw)
    by_cases hlt:j<ks.length
    ·obtain ⟨hka',hkb⟩:=HK.out (by intro e;rw [e] at hlt;simp at hlt)
     try subst hka'
     have hkt:ks[j]?=some ks[j]:=List.getElem?_eq_getElem hlt
     have htc:=((HKIDS.out j _ hkt).on HBR.out)
     obtain ⟨v0,v1,v2,v3,v4,v5,c0,c1,c2,c3,c4,c5,hv⟩:=htc.val
     have HCALL:=HIH.out ks[j] (List.getElem_mem hlt) _ wr (HS4.out _ (List.getElem_mem hlt)) hv
     have HTK:=Hid.mk (take_allT (p:=formedB) hkt)
     have HNO:=Hid.mk (fun h=>all_noT (p:=formedB) hkt h)
     have zj:(j:Int)<(ks.length:Int):=by omega
     clear hv htc hkt
     generalize formedB ks[j]=q at HCALL HTK HNO
     cases q
     ·have HE:Hid (R=false):=by unfold Hid;rw [HJ2.out,HNO.out rfl]
      go_wp2_with fail
      refine HCALL.mono ?_
      rintro e w5 ⟨rfl,hg5⟩
      go_wp2
      go_ret
      exact ⟨by rw [HE.out];rfl,HBR.out.trans (hg5.mono HBR.out.size)⟩
     ·go_wp2_with fail
      refine HCALL.mono ?_
      rintro e w5 ⟨rfl,hg5⟩
      go_wp2
      refine ⟨⟨j+1,hlt,by go_num,HG.out.trans (hg5.mono HG.out.size),by rw [HTK.out,HALL.out];rfl⟩,by simp [intOf];omega⟩
    ·have HE:Hid (R=true):=by unfold Hid;rw [HJ2.out];have:=HALL.out;rwa [List.take_of_length_le (by omega)] at this
     go_wp2
     go_ret
     exact ⟨by rw [HE.out];rfl,HBR.out⟩
  ·have HJ2:Hid (R=ks.all formedB):=by unfold Hid;rw [HJ.out,show fieldsB (.mk 9 n hd nm ls ks)=true by simp [fieldsB],Bool.true_and]
   go_enter Tryz.func76,Tryz.ntmps76
   go_wp2_with (go_at_call 89;refine (HKA _).mono ?_;rintro e w' ⟨rfl,rfl⟩)
   rw [HW0.out]
   have HXW:=HX0
   have HGW:=HG0
   go_loopw [6] (fun i wr=>∃j:Nat,j≤ks.length∧i=.int .i64 j∧RowKit.Below W0.heap.size W0 wr∧(ks.take j).all formedB=true) (fun i _=>ks.length - (intOf i).toNat)
   case atStart=>exact ⟨0,Nat.zero_le _,rfl,Below.refl _ _,by simp⟩
   case round =>
    obtain ⟨j,hj,rfl,hg,hall⟩:=hrel
    have HG:=Hid.mk hg
    have HALL:=Hid.mk hall
    clear hg hall
    obtain ⟨x0,x1,x2,x3,x4,x5,x6⟩:=cells6 ((HG.out.block w.heap.size (heap_lt HXW.out)).trans HXW.out)
    have hzw:=HGW.out.size
    have HBR:Hid (RowKit.Below w.heap.size w wr):=HGW.out.trans (HG.out.mono hzw)
    by_cases hlt:j<ks.length
    ·obtain ⟨hka',hkb⟩:=HK.out (by intro e;rw [e] at hlt;simp at hlt)
     try subst hka'
     have hkt:ks[j]?=some ks[j]:=List.getElem?_eq_getElem hlt
     have htc:=((HKIDS.out j _ hkt).on HBR.out)
     obtain ⟨v0,v1,v2,v3,v4,v5,c0,c1,c2,c3,c4,c5,hv⟩:=htc.val
     have HCALL:=HIH.out ks[j] (List.getElem_mem hlt) _ wr (HS4.out _ (List.getElem_mem hlt)) hv
     have HTK:=Hid.mk (take_allT (p:=formedB) hkt)
     have HNO:=Hid.mk (fun h=>all_noT (p:=formedB) hkt h)
     have zj:(j:Int)<(ks.length:Int):=by omega
     clear hv htc hkt
     generalize formedB ks[j]=q at HCALL HTK HNO
     cases q
     ·have HE:Hid (R=false):=by unfold Hid;rw [HJ2.out,HNO.out rfl]
      go_wp2_with fail
      refine HCALL.mono ?_
      rintro e w5 ⟨rfl,hg5⟩
      go_wp2
      go_ret
      exact ⟨by rw [HE.out];rfl,HBR.out.trans (hg5.mono HBR.out.size)⟩
     ·go_wp2_with fail
      refine HCALL.mono ?_
      rintro e w5 ⟨rfl,hg5⟩
      go_wp2
      refine ⟨⟨j+1,hlt,by go_num,HG.out.trans (hg5.mono HG.out.size),by rw [HTK.out,HALL.out];rfl⟩,by simp [intOf];omega⟩
    ·have HE:Hid (R=true):=by unfold Hid;rw [HJ2.out];have:=HALL.out;rwa [List.take_of_length_le (by omega)] at this
     go_wp2
     go_ret
     exact ⟨by rw [HE.out];rfl,HBR.out⟩
  ·cases h1:(nm.toList==[])
   ·by_cases h2:nm.size≤60
    ·have h3:(nm.size:Int)≤60:=by omega
     have HNF:Hid (ls.any (fun l=>!canonB l)=true→fieldsB (.mk 10 n hd nm ls ks)=false):=fun h=>by simp only [fieldsB];rw [if_neg (by omega),if_neg (by omega),if_neg (by omega),if_pos trivial,h1,h];simp
     have HYF:Hid (ls.any (fun l=>!canonB l)=false→fieldsB (.mk 10 n hd nm ls ks)=true):=fun h=>by simp only [fieldsB];rw [if_neg (by omega),if_neg (by omega),if_neg (by omega),if_pos trivial,h1,h];simp [h2]
     go_enter Tryz.func76,Tryz.ntmps76
     go_wp2_with (go_at_call 89;refine (HKA _).mono ?_;rintro e w' ⟨rfl,rfl⟩)
     rw [HW0.out]
     go_loopw [4] (fun i wr=>∃j:Nat,j≤ls.length∧i=.int .i64 j∧RowKit.Below W0.heap.size W0 wr∧(ls.take j).any (fun l=>!canonB l)=false) (fun i _=>ls.length - (intOf i).toNat)
     case atStart=>exact ⟨0,Nat.zero_le _,rfl,Below.refl _ _,by simp⟩
     case round =>
      obtain ⟨j,hj,rfl,hg,hall⟩:=hrel
      have HGL:=Hid.mk hg
      have HALLL:=Hid.mk hall
      clear hg hall
      obtain ⟨x0,x1,x2,x3,x4,x5,x6⟩:=cells6 ((HGL.out.block w.heap.size (heap_lt HX0.out)).trans HX0.out)
      have hzw0:=HG0.out.size
      have HBL:Hid (RowKit.Below w.heap.size w wr):=HG0.out.trans (HGL.out.mono hzw0)
      by_cases hlt:j<ls.length
      ·obtain ⟨b,off,a',cap',rfl,hbl,c0,c1,hs⟩:=(HL.out.below HBL.out).at hlt
       have hkt:ls[j]?=some ls[j]:=List.getElem?_eq_getElem hlt
       have HCALL:=rCanonical_any ls[j].1 ls[j].2 a' cap' wr hs (by have:=HS2.out ls[j] (List.getElem_mem hlt);omega)
       have HTK:=Hid.mk (take_any (p:=fun l=>!canonB l) hkt)
       have HNO:=Hid.mk (fun h=>any_yes (p:=fun l=>!canonB l) hkt h)
       have zj:(j:Int)<(ls.length:Int):=by omega
       clear hs hkt
       have hpair:canonB (ls[j].1,ls[j].2)=canonB ls[j]:=rfl
       rw [hpair] at HCALL
       clear hpair
       generalize canonB ls[j]=q at HCALL HTK HNO
       generalize ls[j].2.length=ln at *
       generalize ls[j].1=l1 at *
       cases q
       ·have HE:Hid (R=false):=by unfold Hid;rw [HJ.out,HNF.out (HNO.out rfl)];rfl
        go_wp2_with fail
        refine HCALL.mono ?_
        rintro e w5 ⟨rfl,hg5⟩
        go_wp2
        go_ret
        exact ⟨by rw [HE.out];rfl,HBL.out.trans (hg5.mono HBL.out.size)⟩
       ·go_wp2_with fail
        refine HCALL.mono ?_
        rintro e w5 ⟨rfl,hg5⟩
        go_wp2
        refine ⟨⟨j+1,hlt,by go_num,HGL.out.trans (hg5.mono HGL.out.size),by rw [HTK.out,HALLL.out];rfl⟩,by simp [intOf];omega⟩
      ·have hnone:ls.any (fun l=>!canonB l)=false:=by have:=HALLL.out;rwa [List.take_of_length_le (by omega)] at this
       have HJ2:Hid (R=ks.all formedB):=by unfold Hid;rw [HJ.out,HYF.out hnone,Bool.true_and]
       obtain ⟨W4,hW4⟩:∃W,W=wr:=⟨_,rfl⟩
       subst hW4
       have HXW:=Hid.mk ((HGL.out.block w.heap.size (heap_lt HX0.out)).trans HX0.out)
       have HGW:=HBL
       clear hnone HALLL HGL
       go_wp2
       clear x0 x1 x2 x3 x4 x5 x6
       go_loopw [6] (fun i wr=>∃j:Nat,j≤ks.length∧i=.int .i64 j∧RowKit.Below W4.heap.size W4 wr∧(ks.take j).all formedB=true) (fun i _=>ks.length - (intOf i).toNat)
       case atStart=>exact ⟨0,Nat.zero_le _,rfl,Below.refl _ _,by simp⟩
       case round =>
        obtain ⟨j,hj,rfl,hg,hall⟩:=hrel
        have HG:=Hid.mk hg
        have HALL:=Hid.mk hall
        clear hg hall
        obtain ⟨x0,x1,x2,x3,x4,x5,x6⟩:=cells6 ((HG.out.block w.heap.size (heap_lt HXW.out)).trans HXW.out)
        have hzw:=HGW.out.size
        have HBR:Hid (RowKit.Below w.heap.size w wr):=HGW.out.trans (HG.out.mono hzw)
        by_cases hlt:j<ks.length
        ·obtain ⟨hka',hkb⟩:=HK.out (by intro e;rw [e] at hlt;simp at hlt)
         try subst hka'
         have hkt:ks[j]?=some ks[j]:=List.getElem?_eq_getElem hlt
         have htc:=((HKIDS.out j _ hkt).on HBR.out)
         obtain ⟨v0,v1,v2,v3,v4,v5,c0,c1,c2,c3,c4,c5,hv⟩:=htc.val
         have HCALL:=HIH.out ks[j] (List.getElem_mem hlt) _ wr (HS4.out _ (List.getElem_mem hlt)) hv
         have HTK:=Hid.mk (take_allT (p:=formedB) hkt)
         have HNO:=Hid.mk (fun h=>all_noT (p:=formedB) hkt h)
         have zj:(j:Int)<(ks.length:Int):=by omega
         clear hv htc hkt
         generalize formedB ks[j]=q at HCALL HTK HNO
         cases q
         ·have HE:Hid (R=false):=by unfold Hid;rw [HJ2.out,HNO.out rfl]
          go_wp2_with fail
          refine HCALL.mono ?_
          rintro e w5 ⟨rfl,hg5⟩
          go_wp2
          go_ret
          exact ⟨by rw [HE.out];rfl,HBR.out.trans (hg5.mono HBR.out.size)⟩
         ·go_wp2_with fail
          refine HCALL.mono ?_
          rintro e w5 ⟨rfl,hg5⟩
          go_wp2
          refine ⟨⟨j+1,hlt,by go_num,HG.out.trans (hg5.mono HG.out.size),by rw [HTK.out,HALL.out];rfl⟩,by simp [intOf];omega⟩
        ·have HE:Hid (R=true):=by unfold Hid;rw [HJ2.out];have:=HALL.out;rwa [List.take_of_length_le (by omega)] at this
         go_wp2
         go_ret
         exact ⟨by rw [HE.out];rfl,HBR.out⟩
    ·have h3:¬(nm.size:Int)≤60:=by omega
     have HR:Hid (R=false):=by unfold Hid;rw [HJ.out,show fieldsB (.mk 10 n hd nm ls ks)=false by simp only [fieldsB];rw [if_neg (by omega),if_neg (by omega),if_neg (by omega),if_pos trivial];simp [h2]];rfl
     go_enter Tryz.func76,Tryz.ntmps76
     go_wp2_with (go_at_call 89;refine (HKA _).mono ?_;rintro e w' ⟨rfl,rfl⟩)
     go_ret
     exact ⟨by rw [HR.out];rfl,by have:=HG0.out;rwa [←HW0.out] at this⟩
   ·have HR:Hid (R=false):=by unfold Hid;rw [HJ.out,show fieldsB (.mk 10 n hd nm ls ks)=false by simp only [fieldsB];rw [if_neg (by omega),if_neg (by omega),if_neg (by omega),if_pos trivial,h1];simp];rfl
    go_enter Tryz.func76,Tryz.ntmps76
    go_wp2_with (go_at_call 89;refine (HKA _).mono ?_;rintro e w' ⟨rfl,rfl⟩)
    go_ret
    exact ⟨by rw [HR.out];rfl,by have:=HG0.out;rwa [←HW0.out] at this⟩
  ·rcases (show n<0∨(0≤n∧1073741824<n)∨(0≤n∧n≤1073741824) by omega) with h1 | ⟨h1,h2⟩ | ⟨h1,h2⟩
   ·have HR:Hid (R=false):=by unfold Hid;rw [HJ.out,show fieldsB (.mk 11 n hd nm ls ks)=false by simp [fieldsB];omega];rfl
    go_enter Tryz.func76,Tryz.ntmps76
    go_wp2_with (go_at_call 89;refine (HKA _).mono ?_;rintro e w' ⟨rfl,rfl⟩)
    go_ret
    exact ⟨by rw [HR.out];rfl,by have:=HG0.out;rwa [←HW0.out] at this⟩
   ·have HR:Hid (R=false):=by unfold Hid;rw [HJ.out,show fieldsB (.mk 11 n hd nm ls ks)=false by simp [fieldsB];omega];rfl
    go_enter Tryz.func76,Tryz.ntmps76
    go_wp2_with (go_at_call 89;refine (HKA _).mono ?_;rintro e w' ⟨rfl,rfl⟩)
    go_ret
    exact ⟨by rw [HR.out];rfl,by have:=HG0.out;rwa [←HW0.out] at this⟩
   ·have HJ2:Hid (R=ks.all formedB):=by unfold Hid;rw [HJ.out,show fieldsB (.mk 11 n hd nm ls ks)=true by simp [fieldsB];omega,Bool.true_and]
    go_enter Tryz.func76,Tryz.ntmps76
    go_wp2_with (go_at_call 89;refine (HKA _).mono ?_;rintro e w' ⟨rfl,rfl⟩)
    rw [HW0.out]
    have HXW:=HX0
    have HGW:=HG0
    go_loopw [6] (fun i wr=>∃j:Nat,j≤ks.length∧i=.int .i64 j∧RowKit.Below W0.heap.size W0 wr∧(ks.take j).all formedB=true) (fun i _=>ks.length - (intOf i).toNat)
    case atStart=>exact ⟨0,Nat.zero_le _,rfl,Below.refl _ _,by simp⟩
    case round =>
     obtain ⟨j,hj,rfl,hg,hall⟩:=hrel
     have HG:=Hid.mk hg
     have HALL:=Hid.mk hall
     clear hg hall
     obtain ⟨x0,x1,x2,x3,x4,x5,x6⟩:=cells6 ((HG.out.block w.heap.size (heap_lt HXW.out)).trans HXW.out)
     have hzw:=HGW.out.size
     have HBR:Hid (RowKit.Below w.heap.size w wr):=HGW.out.trans (HG.out.mono hzw)
     by_cases hlt:j<ks.length
     ·obtain ⟨hka',hkb⟩:=HK.out (by intro e;rw [e] at hlt;simp at hlt)
      try subst hka'
      have hkt:ks[j]?=some ks[j]:=List.getElem?_eq_getElem hlt
      have htc:=((HKIDS.out j _ hkt).on HBR.out)
      obtain ⟨v0,v1,v2,v3,v4,v5,c0,c1,c2,c3,c4,c5,hv⟩:=htc.val
      have HCALL:=HIH.out ks[j] (List.getElem_mem hlt) _ wr (HS4.out _ (List.getElem_mem hlt)) hv
      have HTK:=Hid.mk (take_allT (p:=formedB) hkt)
      have HNO:=Hid.mk (fun h=>all_noT (p:=formedB) hkt h)
      have zj:(j:Int)<(ks.length:Int):=by omega
      clear hv htc hkt
      generalize formedB ks[j]=q at HCALL HTK HNO
      cases q
      ·have HE:Hid (R=false):=by unfold Hid;rw [HJ2.out,HNO.out rfl]
       go_wp2_with fail
       refine HCALL.mono ?_
       rintro e w5 ⟨rfl,hg5⟩
       go_wp2
       go_ret
       exact ⟨by rw [HE.out];rfl,HBR.out.trans (hg5.mono HBR.out.size)⟩
      ·go_wp2_with fail
       refine HCALL.mono ?_
       rintro e w5 ⟨rfl,hg5⟩
       go_wp2
       refine ⟨⟨j+1,hlt,by go_num,HG.out.trans (hg5.mono HG.out.size),by rw [HTK.out,HALL.out];rfl⟩,by simp [intOf];omega⟩
     ·have HE:Hid (R=true):=by unfold Hid;rw [HJ2.out];have:=HALL.out;rwa [List.take_of_length_le (by omega)] at this
      go_wp2
      go_ret
      exact ⟨by rw [HE.out];rfl,HBR.out⟩
  ·exfalso
   have:=HQ.out
   unfold kidsR at this
   rw [if_neg (by omega),if_neg (by omega),if_neg (by omega),if_neg (by omega)] at this
   omega
end Go.Proofs.YtgfgpjcnfnopnaaGreat
