/- The contract of telamonref1.Clean, form by form. -/
import Derived.Test.YtgfgpjcnfnopnaaGreatFE
namespace Go.Proofs.YtgfgpjcnfnopnaaGreat
set_option maxRecDepth 100000
set_option maxHeartbeats 40000000
open Go.RowKit Go.Sort
theorem Clean1 (n:Int) (hd:Bool) (nm:ByteArray) (ls:List LvT) (ks:List Tm) (ih:∀k∈ks,∀(v:Value) (w:World),smT 1000000 k→formedB k=true→TV w v k→Calls Tryz.prog 45 #[v] w fun e w'=>∃v',e=.returned v'∧ShapeT v'∧TF w' (fun k=>decide (k<w.heap.size)) v' (cleanT k)∧RowKit.Below w.heap.size w w'):∀(v:Value) (w:World),smT 1000000 (.mk 1 n hd nm ls ks)→formedB (.mk 1 n hd nm ls ks)=true→TV w v (.mk 1 n hd nm ls ks)→Calls Tryz.prog 45 #[v] w fun e w'=>∃v',e=.returned v'∧ShapeT v'∧TF w' (fun k=>decide (k<w.heap.size)) v' (cleanT (.mk 1 n hd nm ls ks))∧RowKit.Below w.heap.size w w':=by
 intro v w hsm hfm hv
 obtain ⟨-,s1,s2,s3,s4⟩:=(smT_mk _ _ _ _ _ _ _).1 hsm
 obtain ⟨hkl,hkf⟩:=formed_len hfm
 have mx:=mixed
 obtain ⟨i0,hi,iz0,iz1,iz2⟩:=info_parts infoTerm
 obtain ⟨l0,lh,lz0,lz1,lz2⟩:=info_parts infoLevel
 cases hv with
 | @mk _ _ _ _ _ _ la lc ka kc kb ko hl hln hlc hlm hkn hkc hkm hk kids =>
  have HL:=Hid.mk hl
  have HK:=Hid.mk hk
  have HKIDS:=Hid.mk kids
  have HIH:=Hid.mk ih
  have HS2:=Hid.mk s2
  have HS4:=Hid.mk s4
  have HKF:=Hid.mk hkf
  clear hk kids ih hl hln hkn s2 s4 hsm hkf hfm
  have hk0:ks=[]:=List.length_eq_zero_iff.1 (by unfold kidsR at hkl;rw [if_pos (by omega)] at hkl;omega)
  subst hk0
  have HR:Hid (cleanT (.mk 1 n hd nm ls [])=.mk 1 n false { data:=#[] } [] []):=by unfold Hid;rw [clean_mk];rfl
  generalize cleanT (.mk 1 n hd nm ls [])=R at HR ⊢
  clear hkl
  obtain ⟨W1,hW1⟩:∃W1,((w.alloc (.cells #[.int .i64 1,.int .i64 n,.bool hd,.string nm,.slice la ls.length lc,.slice ka 0 kc] 36)).alloc (.cells #[.int .i64 0,.int .i64 0,.bool false,.string { data:=#[] },.slice none 0 0,.slice none 0 0] 36)).alloc (.cells #[.int .i64 1,.int .i64 n,.bool false,.string { data:=#[] },.slice none 0 0,.slice none 0 0] 36)=W1:=⟨_,rfl⟩
  have HG1:Hid (Grew w W1):=by unfold Hid;rw [←hW1];exact (((Grew.refl w).alloc _).alloc _).alloc _
  have HX1:Hid (W1.heap[w.heap.size]?=some (.cells #[.int .i64 1,.int .i64 n,.bool hd,.string nm,.slice la ls.length lc,.slice ka 0 kc] 36 (0,0))):=by unfold Hid;rw [←hW1];exact alloc_old box_at _
  have HY1:Hid (W1.heap[w.heap.size+1]?=some (.cells #[.int .i64 0,.int .i64 0,.bool false,.string { data:=#[] },.slice none 0 0,.slice none 0 0] 36 (0,0))):=by unfold Hid;rw [←hW1];exact on1
  have HZ1:Hid (W1.heap[w.heap.size+1+1]?=some (.cells #[.int .i64 1,.int .i64 n,.bool false,.string { data:=#[] },.slice none 0 0,.slice none 0 0] 36 (0,0))):=by unfold Hid;rw [←hW1];exact on2
  have hsz1:W1.heap.size=w.heap.size+1+1+1:=by rw [←hW1];simp
  have HW1:=Hid.mk hW1
  clear hW1
  go_enter Tryz.func45,Tryz.ntmps45
  obtain ⟨y0,y1,y2,y3,y4,y5,y6⟩:=cells6 HY1.out
  have fy:=frz HY1.out
  go_wp2
  rw [HW1.out]
  obtain ⟨x0,x1,x2,x3,x4,x5,x6⟩:=cells6 HX1.out
  obtain ⟨z0,z1,z2,z3,z4,z5,z6⟩:=cells6 HZ1.out
  refine wp_loop_rounds 1 ?_
  rw [rounds_succ]
  go_wp2
  refine bodyPost_ret (v:=.agg #[.int .i64 1,.int .i64 n,.bool false,.string { data:=#[] },.slice none 0 0,.slice none 0 0]) (by simp [results,Tryz.results45,go_sem,y0,y1,y2,y3,y4,y5]) rfl ⟨_,rfl,⟨_,_,_,_,_,_,_,_,_,_,rfl⟩,?_,?_⟩
  all_goals have KF:=keep6 (P:=fun k=>k=w.heap.size+1) (w:=W1) (b:=w.heap.size+1) (a0:=.int .i64 1) (a1:=.int .i64 n) (a2:=.bool false) (a3:=.string { data:=#[] }) (a4:=.slice none 0 0) (a5:=.slice none 0 0) rfl
  ·rw [HR.out]
   refine TF.sub (P:=fun k=>decide (k<w.heap.size+3)) ?_ (fun k hk=>by simp at hk ⊢;omega)
   exact (RowF.nil _ (w.heap.size+3) (fun k=>decide (k<w.heap.size+3))).done (fun k hk=>by simp;omega) (f:=1) (n:=n) (hd:=false) (nm:={ data:=#[] }) (la:=none) (lc:=0) (ls:=[]) (Or.inl rfl) (fun _=>rfl) (Nat.le_refl _) (by omega)
  ·exact HG1.out.below.trans (KF.below (by omega) (fun k hk=>by omega))
theorem Clean11 (n:Int) (hd:Bool) (nm:ByteArray) (ls:List LvT) (ks:List Tm) (ih:∀k∈ks,∀(v:Value) (w:World),smT 1000000 k→formedB k=true→TV w v k→Calls Tryz.prog 45 #[v] w fun e w'=>∃v',e=.returned v'∧ShapeT v'∧TF w' (fun k=>decide (k<w.heap.size)) v' (cleanT k)∧RowKit.Below w.heap.size w w'):∀(v:Value) (w:World),smT 1000000 (.mk 11 n hd nm ls ks)→formedB (.mk 11 n hd nm ls ks)=true→TV w v (.mk 11 n hd nm ls ks)→Calls Tryz.prog 45 #[v] w fun e w'=>∃v',e=.returned v'∧ShapeT v'∧TF w' (fun k=>decide (k<w.heap.size)) v' (cleanT (.mk 11 n hd nm ls ks))∧RowKit.Below w.heap.size w w':=by
 intro v w hsm hfm hv
 obtain ⟨-,s1,s2,s3,s4⟩:=(smT_mk _ _ _ _ _ _ _).1 hsm
 obtain ⟨hkl,hkf⟩:=formed_len hfm
 have mx:=mixed
 obtain ⟨i0,hi,iz0,iz1,iz2⟩:=info_parts infoTerm
 obtain ⟨l0,lh,lz0,lz1,lz2⟩:=info_parts infoLevel
 cases hv with
 | @mk _ _ _ _ _ _ la lc ka kc kb ko hl hln hlc hlm hkn hkc hkm hk kids =>
  have HL:=Hid.mk hl
  have HK:=Hid.mk hk
  have HKIDS:=Hid.mk kids
  have HIH:=Hid.mk ih
  have HS2:=Hid.mk s2
  have HS4:=Hid.mk s4
  have HKF:=Hid.mk hkf
  clear hk kids ih hl hln hkn s2 s4 hsm hkf hfm
  have hk0:ks=[]:=List.length_eq_zero_iff.1 (by unfold kidsR at hkl;rw [if_pos (by omega)] at hkl;omega)
  subst hk0
  have HR:Hid (cleanT (.mk 11 n hd nm ls [])=.mk 11 n false { data:=#[] } [] []):=by unfold Hid;rw [clean_mk];rfl
  generalize cleanT (.mk 11 n hd nm ls [])=R at HR ⊢
  clear hkl
  obtain ⟨W1,hW1⟩:∃W1,((w.alloc (.cells #[.int .i64 11,.int .i64 n,.bool hd,.string nm,.slice la ls.length lc,.slice ka 0 kc] 36)).alloc (.cells #[.int .i64 0,.int .i64 0,.bool false,.string { data:=#[] },.slice none 0 0,.slice none 0 0] 36)).alloc (.cells #[.int .i64 11,.int .i64 n,.bool false,.string { data:=#[] },.slice none 0 0,.slice none 0 0] 36)=W1:=⟨_,rfl⟩
  have HG1:Hid (Grew w W1):=by unfold Hid;rw [←hW1];exact (((Grew.refl w).alloc _).alloc _).alloc _
  have HX1:Hid (W1.heap[w.heap.size]?=some (.cells #[.int .i64 11,.int .i64 n,.bool hd,.string nm,.slice la ls.length lc,.slice ka 0 kc] 36 (0,0))):=by unfold Hid;rw [←hW1];exact alloc_old box_at _
  have HY1:Hid (W1.heap[w.heap.size+1]?=some (.cells #[.int .i64 0,.int .i64 0,.bool false,.string { data:=#[] },.slice none 0 0,.slice none 0 0] 36 (0,0))):=by unfold Hid;rw [←hW1];exact on1
  have HZ1:Hid (W1.heap[w.heap.size+1+1]?=some (.cells #[.int .i64 11,.int .i64 n,.bool false,.string { data:=#[] },.slice none 0 0,.slice none 0 0] 36 (0,0))):=by unfold Hid;rw [←hW1];exact on2
  have hsz1:W1.heap.size=w.heap.size+1+1+1:=by rw [←hW1];simp
  have HW1:=Hid.mk hW1
  clear hW1
  go_enter Tryz.func45,Tryz.ntmps45
  obtain ⟨y0,y1,y2,y3,y4,y5,y6⟩:=cells6 HY1.out
  have fy:=frz HY1.out
  go_wp2
  rw [HW1.out]
  obtain ⟨x0,x1,x2,x3,x4,x5,x6⟩:=cells6 HX1.out
  obtain ⟨z0,z1,z2,z3,z4,z5,z6⟩:=cells6 HZ1.out
  refine wp_loop_rounds 1 ?_
  rw [rounds_succ]
  go_wp2
  refine bodyPost_ret (v:=.agg #[.int .i64 11,.int .i64 n,.bool false,.string { data:=#[] },.slice none 0 0,.slice none 0 0]) (by simp [results,Tryz.results45,go_sem,y0,y1,y2,y3,y4,y5]) rfl ⟨_,rfl,⟨_,_,_,_,_,_,_,_,_,_,rfl⟩,?_,?_⟩
  all_goals have KF:=keep6 (P:=fun k=>k=w.heap.size+1) (w:=W1) (b:=w.heap.size+1) (a0:=.int .i64 11) (a1:=.int .i64 n) (a2:=.bool false) (a3:=.string { data:=#[] }) (a4:=.slice none 0 0) (a5:=.slice none 0 0) rfl
  ·rw [HR.out]
   refine TF.sub (P:=fun k=>decide (k<w.heap.size+3)) ?_ (fun k hk=>by simp at hk ⊢;omega)
   exact (RowF.nil _ (w.heap.size+3) (fun k=>decide (k<w.heap.size+3))).done (fun k hk=>by simp;omega) (f:=11) (n:=n) (hd:=false) (nm:={ data:=#[] }) (la:=none) (lc:=0) (ls:=[]) (Or.inl rfl) (fun _=>rfl) (Nat.le_refl _) (by omega)
  ·exact HG1.out.below.trans (KF.below (by omega) (fun k hk=>by omega))
theorem Clean2 (n:Int) (hd:Bool) (nm:ByteArray) (ls:List LvT) (ks:List Tm) (ih:∀k∈ks,∀(v:Value) (w:World),smT 1000000 k→formedB k=true→TV w v k→Calls Tryz.prog 45 #[v] w fun e w'=>∃v',e=.returned v'∧ShapeT v'∧TF w' (fun k=>decide (k<w.heap.size)) v' (cleanT k)∧RowKit.Below w.heap.size w w'):∀(v:Value) (w:World),smT 1000000 (.mk 2 n hd nm ls ks)→formedB (.mk 2 n hd nm ls ks)=true→TV w v (.mk 2 n hd nm ls ks)→Calls Tryz.prog 45 #[v] w fun e w'=>∃v',e=.returned v'∧ShapeT v'∧TF w' (fun k=>decide (k<w.heap.size)) v' (cleanT (.mk 2 n hd nm ls ks))∧RowKit.Below w.heap.size w w':=by
 intro v w hsm hfm hv
 obtain ⟨-,s1,s2,s3,s4⟩:=(smT_mk _ _ _ _ _ _ _).1 hsm
 obtain ⟨hkl,hkf⟩:=formed_len hfm
 have mx:=mixed
 obtain ⟨i0,hi,iz0,iz1,iz2⟩:=info_parts infoTerm
 obtain ⟨l0,lh,lz0,lz1,lz2⟩:=info_parts infoLevel
 cases hv with
 | @mk _ _ _ _ _ _ la lc ka kc kb ko hl hln hlc hlm hkn hkc hkm hk kids =>
  have HL:=Hid.mk hl
  have HK:=Hid.mk hk
  have HKIDS:=Hid.mk kids
  have HIH:=Hid.mk ih
  have HS2:=Hid.mk s2
  have HS4:=Hid.mk s4
  have HKF:=Hid.mk hkf
  clear hk kids ih hl hln hkn s2 s4 hsm hkf hfm
  have hk0:ks=[]:=List.length_eq_zero_iff.1 (by unfold kidsR at hkl;rw [if_pos (by omega)] at hkl;omega)
  subst hk0
  have HR:Hid (cleanT (.mk 2 n hd nm ls [])=.mk 2 0 false { data:=#[] } ls []):=by unfold Hid;rw [clean_mk];rfl
  generalize cleanT (.mk 2 n hd nm ls [])=R at HR ⊢
  clear hkl
  obtain ⟨W1,hW1⟩:∃W1,((w.alloc (.cells #[.int .i64 2,.int .i64 n,.bool hd,.string nm,.slice la ls.length lc,.slice ka 0 kc] 36)).alloc (.cells #[.int .i64 0,.int .i64 0,.bool false,.string { data:=#[] },.slice none 0 0,.slice none 0 0] 36)).alloc (.cells #[.int .i64 2,.int .i64 0,.bool false,.string { data:=#[] },.slice none 0 0,.slice none 0 0] 36)=W1:=⟨_,rfl⟩
  have HG1:Hid (Grew w W1):=by unfold Hid;rw [←hW1];exact (((Grew.refl w).alloc _).alloc _).alloc _
  have HX1:Hid (W1.heap[w.heap.size]?=some (.cells #[.int .i64 2,.int .i64 n,.bool hd,.string nm,.slice la ls.length lc,.slice ka 0 kc] 36 (0,0))):=by unfold Hid;rw [←hW1];exact alloc_old box_at _
  have HY1:Hid (W1.heap[w.heap.size+1]?=some (.cells #[.int .i64 0,.int .i64 0,.bool false,.string { data:=#[] },.slice none 0 0,.slice none 0 0] 36 (0,0))):=by unfold Hid;rw [←hW1];exact on1
  have HZ1:Hid (W1.heap[w.heap.size+1+1]?=some (.cells #[.int .i64 2,.int .i64 0,.bool false,.string { data:=#[] },.slice none 0 0,.slice none 0 0] 36 (0,0))):=by unfold Hid;rw [←hW1];exact on2
  have hsz1:W1.heap.size=w.heap.size+1+1+1:=by rw [←hW1];simp
  have HW1:=Hid.mk hW1
  clear hW1
  go_enter Tryz.func45,Tryz.ntmps45
  go_wp2
  rw [HW1.out]
  go_loopw [4] (fun i wr=>∃(j:Nat) (a:Option Addr) (cap:Nat),j≤ls.length∧i=.int .i64 j∧RowL wr (w.heap.size+3) (fun k=>decide (k<w.heap.size+3)) a cap (ls.take j)∧wr.heap[w.heap.size+1+1]?=some (.cells #[.int .i64 2,.int .i64 0,.bool false,.string { data:=#[] },.slice a j cap,.slice none 0 0] 36 (0,0))∧Kept (fun k=>k=w.heap.size+1+1∨w.heap.size+3≤k) W1 wr) (fun i _=>ls.length - (intOf i).toNat)
  case atStart=>exact ⟨0,none,0,Nat.zero_le _,rfl,RowL.nil W1 _ _,HZ1.out,Kept.refl _ _⟩
  case round =>
   obtain ⟨j,a,cap,hj,rfl,hrow,hz,hbr⟩:=hrel
   have HROW:=Hid.mk hrow
   have HZR:=Hid.mk hz
   have HBR:=Hid.mk hbr
   have hszr:=hbr.size
   clear hrow hz hbr
   have hbx:=(HBR.out.block w.heap.size (by omega) (by omega)).trans HX1.out
   obtain ⟨x0,x1,x2,x3,x4,x5,x6⟩:=cells6 hbx
   obtain ⟨z0,z1,z2,z3,z4,z5,z6⟩:=cells6 HZR.out
   have fz:=frz HZR.out
   clear hbx
   by_cases hlt:j<ls.length
   ·have hold:RowKit.Below w.heap.size w wr:=HG1.out.below.trans (HBR.out.below (by omega) (fun k hk=>by omega))
    obtain ⟨lb,lo,rfl,hlb,hlv⟩:∃lb lo,la=some ⟨lb,lo,none⟩∧lb<w.heap.size∧∀i n xs,ls[i]?=some (n,xs)→w.cell? ⟨lb,lo+i*2,none⟩=some (.int .i64 n)∧∃a' cap',w.cell? ⟨lb,lo+i*2+1,none⟩=some (.slice a' xs.length cap')∧SL w a' xs∧(a'=none→cap'=0):=by
     rcases HL.out with h | ⟨b,off,h1,h2,h3⟩
     ·rw [h] at hlt;simp at hlt
     ·exact ⟨b,off,h1,h2,h3⟩
    obtain ⟨ln,lvs,hlj⟩:∃ln lvs,ls[j]=(ln,lvs):=⟨_,_,rfl⟩
    have hkt:ls[j]?=some (ln,lvs):=by rw [List.getElem?_eq_getElem hlt,hlj]
    obtain ⟨c0,va,vc,c1,hsl,hvn⟩:=hlv j ln lvs hkt
    have hvl:=HS2.out (ln,lvs) (List.mem_of_getElem? hkt)
    simp only at hvl
    have HSL:Hid (SL wr.drew va lvs):=(hsl.below hold).below (Below.refl _ _).drew
    have c0:=(hold.cell (p:=⟨lb,lo+j*2,none⟩) hlb).trans c0
    have c1:=(hold.cell (p:=⟨lb,lo+j*2+1,none⟩) hlb).trans c1
    have HLJ:Hid ((ls.take j).length=j):=by unfold Hid;rw [List.length_take];omega
    have HTK:Hid (ls.take (j+1)=ls.take j++[(ln,lvs)]):=by unfold Hid;rw [List.take_succ_eq_append_getElem hlt,hlj]
    obtain ⟨xs,hown,hkv⟩:=HROW.out.go
    rw [HLJ.out] at hown
    have HRB:Hid (∀k,ownB a k=true→w.heap.size+3≤k∧k<wr.heap.size):=fun k hk=>rowG_block hown hk
    have hkr:lb<wr.heap.size:=by omega
    have HOWN:=Hid.mk hown
    have HKV:=Hid.mk hkv
    have HXL:Hid (xs.length=(ls.take j).length*2):=by unfold Hid;rw [HLJ.out,hown.1]
    have zj:(j:Int)<(ls.length:Int):=by omega
    have HCEL:Hid (∀W:World,(∀k,k<w.heap.size+3→W.heap[k]?=wr.heap[k]?)→W.cell? ⟨w.heap.size+1+1,4,none⟩=some (.slice a j cap)∧W.cell? ⟨w.heap.size,4,none⟩=some (.slice (some ⟨lb,lo,none⟩) ls.length lc)∧W.cell? ⟨lb,lo+j*2,none⟩=some (.int .i64 ln)∧W.cell? ⟨lb,lo+j*2+1,none⟩=some (.slice va lvs.length vc)):=fun W h=>by
     have hZ:=h (w.heap.size+1+1) (by omega)
     have hX:=h w.heap.size (by omega)
     have hB:=h lb (by omega)
     exact ⟨(World.cell?_of_block (a:=⟨w.heap.size+1+1,4,none⟩) hZ).trans z4,(World.cell?_of_block (a:=⟨w.heap.size,4,none⟩) hX).trans x4,(World.cell?_of_block (a:=⟨lb,lo+j*2,none⟩) hB).trans c0,(World.cell?_of_block (a:=⟨lb,lo+j*2+1,none⟩) hB).trans c1⟩
    clear hkt hown hkv hold hlv hsl hlj
    generalize ls.take j=TS at *
    go_wp2_with fail
    refine wp_region_last (S:=fun w'=>w'.cell? ⟨w.heap.size+1+1,4,none⟩=some (.slice a j cap)∧w'.cell? ⟨w.heap.size,4,none⟩=some (.slice (some ⟨lb,lo,none⟩) ls.length lc)∧w'.cell? ⟨lb,lo+j*2,none⟩=some (.int .i64 ln)∧w'.cell? ⟨lb,lo+j*2+1,none⟩=some (.slice va lvs.length vc)) 19 mx ?_ (fun hHeld=>?_)
    ·(try dsimp only)
     exact HCEL.out _ (fun k _=>rfl)
    refine tkL (i:=0) (v:=?_) rfl (hy:=(Or.inl ⟨by rfl,?_⟩)) (h:=?_)
    rotate_left
    ·(intro w hSw;(try dsimp only at hSw);go_simp;(try with_reducible rfl))
    refine tkL (i:=1) (v:=?_) rfl (hy:=(Or.inl ⟨by rfl,?_⟩)) (h:=?_)
    rotate_left
    ·(intro w hSw;(try dsimp only at hSw);go_simp;(try with_reducible rfl))
    refine tkL (i:=2) (v:=?_) rfl (hy:=(Or.inl ⟨by rfl,?_⟩)) (h:=?_)
    rotate_left
    ·(intro w hSw;(try dsimp only at hSw);go_simp;(try with_reducible rfl))
    refine tkL (i:=3) (v:=?_) rfl (hy:=(Or.inl ⟨by rfl,?_⟩)) (h:=?_)
    rotate_left
    ·(intro w hSw;(try dsimp only at hSw);go_simp;(try with_reducible rfl))
    refine tkL (i:=4) (v:=?_) rfl (hy:=(Or.inl ⟨by rfl,?_⟩)) (h:=?_)
    rotate_left
    ·(intro w hSw;(try dsimp only at hSw);go_simp;(try with_reducible rfl))
    refine tkL (i:=5) (v:=?_) rfl (hy:=(Or.inl ⟨by rfl,?_⟩)) (h:=?_)
    rotate_left
    ·(intro w hSw;(try dsimp only at hSw);go_simp;(try with_reducible rfl))
    refine tkL (i:=6) (v:=?_) rfl (hy:=(Or.inl ⟨by rfl,?_⟩)) (h:=?_)
    rotate_left
    ·(intro w hSw;(try dsimp only at hSw);go_simp;(try with_reducible rfl))
    refine tkL (i:=7) (v:=?_) rfl (hy:=(Or.inl ⟨by rfl,?_⟩)) (h:=?_)
    rotate_left
    ·(intro w hSw;(try dsimp only at hSw);go_simp;(try with_reducible rfl))
    refine tkL (i:=8) (v:=?_) rfl (hy:=(Or.inl ⟨by rfl,?_⟩)) (h:=?_)
    rotate_left
    ·(intro w hSw;(try dsimp only at hSw);go_simp;(try with_reducible rfl))
    refine tkL (i:=9) (v:=?_) rfl (hy:=(Or.inl ⟨by rfl,?_⟩)) (h:=?_)
    rotate_left
    ·(intro w hSw;(try dsimp only at hSw);go_simp;(try with_reducible rfl))
    refine tkL (i:=10) (v:=?_) rfl (hy:=(Or.inl ⟨by rfl,?_⟩)) (h:=?_)
    rotate_left
    ·(intro w hSw;(try dsimp only at hSw);go_simp;(try with_reducible rfl))
    refine tkL (i:=11) (v:=?_) rfl (hy:=(Or.inl ⟨by rfl,?_⟩)) (h:=?_)
    rotate_left
    ·(intro w hSw;(try dsimp only at hSw);go_simp;(try with_reducible rfl))
    refine tkL (i:=12) (v:=?_) rfl (hy:=(Or.inl ⟨by rfl,?_⟩)) (h:=?_)
    rotate_left
    ·(intro w hSw;(try dsimp only at hSw);go_simp;(try with_reducible rfl))
    refine tkL (i:=13) (v:=?_) rfl (hy:=(Or.inl ⟨by rfl,?_⟩)) (h:=?_)
    rotate_left
    ·(intro w hSw;(try dsimp only at hSw);go_simp;(try with_reducible rfl))
    refine wpAnyL_one (i:=14) (by kernel_rfl) rfl (fun K hK=>?_)
    refine step_appV (by rfl) _ _ (by rfl) wr.heap.size lvs va vc (by kernel_rfl) (by kernel_rfl) HSL.out hvn (by omega) (Nat.le_refl _) ?_
    intro v5 w5 hO5 hg5
    have HB5:Hid (RowKit.Below wr.heap.size wr w5):=((Below.refl wr.heap.size wr).drew).grown hg5 (by simp) (fun k e=>by cases e)
    have hsz5:=HB5.out.size
    obtain ⟨a5,c5,rfl,hS5,hn5⟩:=hO5.slF (P:=fun k=>decide (k<wr.heap.size)) (fun k hk=>by simp;omega)
    have HS5:=Hid.mk hS5
    have HN5:=Hid.mk hn5
    clear hO5 hg5 hS5 hn5
    have HOWN6:Hid ((w5.alloc (.cells #[.int .i64 ln,.slice a5 lvs.length c5] 75)).ownsRow (w.heap.size+3) 75 2 (.slice a j cap) j xs):=(ownsG_block HOWN.out (fun g hg=>HB5.out.block g (by subst hg;exact (World.ownsRow.lt HOWN.out g rfl).2))).alloc _
    have HNEWS:=Hid.mk (World.news_of_block (cs:=#[.int .i64 ln,.slice a5 lvs.length c5]) (t:=75) (fr:=(0,0)) (alloc_new w5 (.cells #[.int .i64 ln,.slice a5 lvs.length c5] 75)))
    refine hK.out _ _ ?_ (fun hHeld=>?_)
    ·(try dsimp only)
     exact HCEL.out _ (fun k hk=>HB5.out.block k (by omega))
    clear hK K
    refine tkL (i:=15) (v:=?_) rfl (hy:=(Or.inl ⟨by rfl,?_⟩)) (h:=?_)
    rotate_left
    ·(intro w hSw;(try dsimp only at hSw);go_simp;(try with_reducible rfl))
    refine wpAnyL_one (i:=16) (by kernel_rfl) rfl (fun K hK=>?_)
    go_simp
    refine hK.out _ _ ?_ (fun hHeld=>?_)
    ·(try dsimp only)
     exact HCEL.out _ (fun k hk=>(Below.heap_alloc _ _ k (by omega)).trans (HB5.out.block k (by omega)))
    clear hK K
    refine wpAnyL_one (i:=17) (by kernel_rfl) rfl (fun K hK=>?_)
    refine step_append_lies _ (by rfl) _ _ _ (by rfl) (w.heap.size+3) 75 l0 _ 2 32 Tryz.underlying33 lh lz0 lz1 lz2 rfl (by decide) (.slice a j cap) j xs (by kernel_rfl) HOWN6.out ⟨w5.heap.size,0,none⟩ 1 1 [.int .i64 ln,.slice a5 lvs.length c5] (by kernel_rfl) (by rfl) HNEWS.out (by simp [Value.oneCell']) (by omega) (by simp [maxLen];omega) (by omega) (by simp;omega) (w5.heap.size+1) (by simp) ?_
    intro g7 c7 W7 hown7 hgr7 hat7 hlt7
    have HOWN7:=Hid.mk hown7
    have HGR7:=Hid.mk hgr7
    have HAT7:=Hid.mk hat7
    have HBL7:Hid (∀k,k<w5.heap.size+1→ownB a k=false→W7.heap[k]?=(w5.alloc (.cells #[.int .i64 ln,.slice a5 lvs.length c5] 75)).heap[k]?):=fun k hk ho=>hgr7.block k (by simpa using hk) (ownB_none ho)
    have HCE7:=Hid.mk (HCEL.out W7 (fun k hk=>(HBL7.out k (by omega) (by cases ho:ownB a k with | false=>rfl | true=>exact absurd (HRB.out k ho).1 (by omega))).trans ((Below.heap_alloc _ _ k (by omega)).trans (HB5.out.block k (by omega)))))
    have HZ7:Hid (W7.heap[w.heap.size+1+1]?=some (.cells #[.int .i64 2,.int .i64 0,.bool false,.string { data:=#[] },.slice a j cap,.slice none 0 0] 36 (0,0))):=(HBL7.out _ (by omega) (by cases ho:ownB a (w.heap.size+1+1) with | false=>rfl | true=>exact absurd (HRB.out _ ho).1 (by omega))).trans ((Below.heap_alloc _ _ _ (by omega)).trans ((HB5.out.block _ (by omega)).trans HZR.out))
    have fz7:=frz HZ7.out
    have z75:=(cells6 HZ7.out).2.2.2.2.1
    clear hown7 hgr7 hat7
    refine hK.out _ _ ?_ (fun hHeld=>?_)
    ·(try dsimp only)
     exact HCE7.out
    clear hK K
    refine tkL (i:=18) (v:=?_) rfl (hy:=(Or.inl ⟨by rfl,?_⟩)) (h:=?_)
    rotate_left
    ·(intro w hSw;(try dsimp only at hSw);go_simp;(try with_reducible rfl))
    refine wpAnyL_last (by kernel_rfl) rfl (by kernel_rfl) (fun K hK=>?_)
    go_simp
    refine hK.out _ _ ?_
    clear hK K
    go_wp2
    have KZ:Kept (fun k=>k=w.heap.size+1+1) W7 (W7.setCell ⟨w.heap.size+1+1,4,none⟩ (.slice (some ⟨g7,0,none⟩) (j+1) c7)):=(Kept.refl (fun k=>k=w.heap.size+1+1) W7).setCell (p:=⟨w.heap.size+1+1,4,none⟩) rfl _
    refine ⟨⟨j+1,some ⟨g7,0,none⟩,c7,hlt,by go_num,?_,set4_heap HZ7.out,?_⟩,by simp [intOf];omega⟩
    ·rw [HTK.out]
     refine RowL.move (w:=W7) ?_ (fun k hk=>by simp;omega) KZ.size (fun k h1 h2=>KZ.block k h1 (fun e=>by subst e;exact absurd h2 (by simp)))
     refine RowL.snoc (w:=w5.alloc (.cells #[.int .i64 ln,.slice a5 lvs.length c5] 75)) (a:=a) (cap:=cap) (xs:=xs) (fun j' n' vs' hj'=>?_) HXL.out (by rw [HLJ.out];exact HOWN7.out) (by rw [HLJ.out];exact HGR7.out) (by rw [HLJ.out];simpa using HAT7.out) HN5.out ?_
     ·obtain ⟨d0,a',cap',d1,hn',hS'⟩:=HKV.out j' n' vs' hj'
      exact ⟨d0,a',cap',d1,hn',hS'.subF (by rw [maskB_size,maskB_size];simp;omega) (maskB_keeps fun k h1 h2=>⟨h2,(Below.heap_alloc _ _ k (by omega)).trans (HB5.out.block k h1)⟩)⟩
     ·refine HS5.out.subF (by rw [maskB_size,maskB_size];simp) (maskB_keeps fun k h1 h2=>⟨?_,Below.heap_alloc _ _ k h1⟩)
      have h3:wr.heap.size≤k:=by simpa using h2
      cases ho:ownB a k with
      | false=>simp;omega
      | true=>exact absurd (HRB.out k ho).2 (by omega)
    ·refine HBR.out.trans (((Kept.of_below HB5.out).alloc (.cells #[.int .i64 ln,.slice a5 lvs.length c5] 75)).trans (Kept.trans (b:=W7) ⟨HGR7.out.os,HGR7.out.tape,HGR7.out.output,HGR7.out.size,fun k hk hn=>HGR7.out.block k hk (fun e=>?_)⟩ (KZ.imp (fun k _ h=>Or.inl h))))
     have:=(World.ownsRow.lt HOWN.out k e.symm).1
     omega
   ·obtain rfl:j=ls.length:=by omega
    have hby:=(HBR.out.block (w.heap.size+1) (by omega) (by omega)).trans HY1.out
    obtain ⟨y0,y1,y2,y3,y4,y5,y6⟩:=cells6 hby
    have fy:=frz hby
    clear hby
    have HT:Hid (R=.mk 2 0 false { data:=#[] } (ls.take ls.length) []):=by unfold Hid;rw [HR.out,List.take_length]
    have HLJ:Hid ((ls.take ls.length).length=ls.length):=by unfold Hid;rw [List.length_take];omega
    generalize ls.take ls.length=TS at *
    go_wp2
    refine wp_loop_rounds 1 ?_
    rw [rounds_succ]
    go_wp2
    refine bodyPost_ret (v:=.agg #[.int .i64 2,.int .i64 0,.bool false,.string { data:=#[] },.slice a ls.length cap,.slice none 0 0]) (by simp [results,Tryz.results45,go_sem,y0,y1,y2,y3,y4,y5]) rfl ⟨_,rfl,⟨_,_,_,_,_,_,_,_,_,_,rfl⟩,?_,?_⟩
    all_goals have KF:=keep6 (P:=fun k=>k=w.heap.size+1) (w:=wr) (b:=w.heap.size+1) (a0:=.int .i64 2) (a1:=.int .i64 0) (a2:=.bool false) (a3:=.string { data:=#[] }) (a4:=.slice a ls.length cap) (a5:=.slice none 0 0) rfl
    ·rw [HT.out]
     have hrow:=HROW.out.move (fun k hk=>by simp;omega) KF.size (fun k h1 h2=>KF.block k h1 (fun e=>by subst e;exact absurd h2 (by simp)))
     obtain ⟨q1,q2,q3,q4⟩:=hrow.ln (fun k hk=>by simp;omega)
     have hd2:=(RowF.nil _ (w.heap.size+3) (fun k=>decide (k<w.heap.size+3))).done (fun k hk=>by simp;omega) (f:=2) (n:=0) (hd:=false) (nm:={ data:=#[] }) q1 q2 q3 q4
     rw [HLJ.out] at hd2
     exact hd2.sub (fun k hk=>by simp at hk ⊢;omega)
    ·exact HG1.out.below.trans (Below.trans (HBR.out.below (by omega) (fun k hk=>by omega)) (KF.below (by omega) (fun k hk=>by omega)))
theorem Clean10 (n:Int) (hd:Bool) (nm:ByteArray) (ls:List LvT) (ks:List Tm) (ih:∀k∈ks,∀(v:Value) (w:World),smT 1000000 k→formedB k=true→TV w v k→Calls Tryz.prog 45 #[v] w fun e w'=>∃v',e=.returned v'∧ShapeT v'∧TF w' (fun k=>decide (k<w.heap.size)) v' (cleanT k)∧RowKit.Below w.heap.size w w'):∀(v:Value) (w:World),smT 1000000 (.mk 10 n hd nm ls ks)→formedB (.mk 10 n hd nm ls ks)=true→TV w v (.mk 10 n hd nm ls ks)→Calls Tryz.prog 45 #[v] w fun e w'=>∃v',e=.returned v'∧ShapeT v'∧TF w' (fun k=>decide (k<w.heap.size)) v' (cleanT (.mk 10 n hd nm ls ks))∧RowKit.Below w.heap.size w w':=by
 intro v w hsm hfm hv
 obtain ⟨-,s1,s2,s3,s4⟩:=(smT_mk _ _ _ _ _ _ _).1 hsm
 obtain ⟨hkl,hkf⟩:=formed_len hfm
 have mx:=mixed
 obtain ⟨i0,hi,iz0,iz1,iz2⟩:=info_parts infoTerm
 obtain ⟨l0,lh,lz0,lz1,lz2⟩:=info_parts infoLevel
 cases hv with
 | @mk _ _ _ _ _ _ la lc ka kc kb ko hl hln hlc hlm hkn hkc hkm hk kids =>
  have HL:=Hid.mk hl
  have HK:=Hid.mk hk
  have HKIDS:=Hid.mk kids
  have HIH:=Hid.mk ih
  have HS2:=Hid.mk s2
  have HS4:=Hid.mk s4
  have HKF:=Hid.mk hkf
  clear hk kids ih hl hln hkn s2 s4 hsm hkf hfm
  have hk0:ks=[]:=List.length_eq_zero_iff.1 (by unfold kidsR at hkl;rw [if_pos (by omega)] at hkl;omega)
  subst hk0
  have HR:Hid (cleanT (.mk 10 n hd nm ls [])=.mk 10 0 false nm ls []):=by unfold Hid;rw [clean_mk];rfl
  generalize cleanT (.mk 10 n hd nm ls [])=R at HR ⊢
  clear hkl
  obtain ⟨W1,hW1⟩:∃W1,((w.alloc (.cells #[.int .i64 10,.int .i64 n,.bool hd,.string nm,.slice la ls.length lc,.slice ka 0 kc] 36)).alloc (.cells #[.int .i64 0,.int .i64 0,.bool false,.string { data:=#[] },.slice none 0 0,.slice none 0 0] 36)).alloc (.cells #[.int .i64 10,.int .i64 0,.bool false,.string nm,.slice none 0 0,.slice none 0 0] 36)=W1:=⟨_,rfl⟩
  have HG1:Hid (Grew w W1):=by unfold Hid;rw [←hW1];exact (((Grew.refl w).alloc _).alloc _).alloc _
  have HX1:Hid (W1.heap[w.heap.size]?=some (.cells #[.int .i64 10,.int .i64 n,.bool hd,.string nm,.slice la ls.length lc,.slice ka 0 kc] 36 (0,0))):=by unfold Hid;rw [←hW1];exact alloc_old box_at _
  have HY1:Hid (W1.heap[w.heap.size+1]?=some (.cells #[.int .i64 0,.int .i64 0,.bool false,.string { data:=#[] },.slice none 0 0,.slice none 0 0] 36 (0,0))):=by unfold Hid;rw [←hW1];exact on1
  have HZ1:Hid (W1.heap[w.heap.size+1+1]?=some (.cells #[.int .i64 10,.int .i64 0,.bool false,.string nm,.slice none 0 0,.slice none 0 0] 36 (0,0))):=by unfold Hid;rw [←hW1];exact on2
  have hsz1:W1.heap.size=w.heap.size+1+1+1:=by rw [←hW1];simp
  have HW1:=Hid.mk hW1
  clear hW1
  go_enter Tryz.func45,Tryz.ntmps45
  go_wp2
  rw [HW1.out]
  go_loopw [4] (fun i wr=>∃(j:Nat) (a:Option Addr) (cap:Nat),j≤ls.length∧i=.int .i64 j∧RowL wr (w.heap.size+3) (fun k=>decide (k<w.heap.size+3)) a cap (ls.take j)∧wr.heap[w.heap.size+1+1]?=some (.cells #[.int .i64 10,.int .i64 0,.bool false,.string nm,.slice a j cap,.slice none 0 0] 36 (0,0))∧Kept (fun k=>k=w.heap.size+1+1∨w.heap.size+3≤k) W1 wr) (fun i _=>ls.length - (intOf i).toNat)
  case atStart=>exact ⟨0,none,0,Nat.zero_le _,rfl,RowL.nil W1 _ _,HZ1.out,Kept.refl _ _⟩
  case round =>
   obtain ⟨j,a,cap,hj,rfl,hrow,hz,hbr⟩:=hrel
   have HROW:=Hid.mk hrow
   have HZR:=Hid.mk hz
   have HBR:=Hid.mk hbr
   have hszr:=hbr.size
   clear hrow hz hbr
   have hbx:=(HBR.out.block w.heap.size (by omega) (by omega)).trans HX1.out
   obtain ⟨x0,x1,x2,x3,x4,x5,x6⟩:=cells6 hbx
   obtain ⟨z0,z1,z2,z3,z4,z5,z6⟩:=cells6 HZR.out
   have fz:=frz HZR.out
   clear hbx
   by_cases hlt:j<ls.length
   ·have hold:RowKit.Below w.heap.size w wr:=HG1.out.below.trans (HBR.out.below (by omega) (fun k hk=>by omega))
    obtain ⟨lb,lo,rfl,hlb,hlv⟩:∃lb lo,la=some ⟨lb,lo,none⟩∧lb<w.heap.size∧∀i n xs,ls[i]?=some (n,xs)→w.cell? ⟨lb,lo+i*2,none⟩=some (.int .i64 n)∧∃a' cap',w.cell? ⟨lb,lo+i*2+1,none⟩=some (.slice a' xs.length cap')∧SL w a' xs∧(a'=none→cap'=0):=by
     rcases HL.out with h | ⟨b,off,h1,h2,h3⟩
     ·rw [h] at hlt;simp at hlt
     ·exact ⟨b,off,h1,h2,h3⟩
    obtain ⟨ln,lvs,hlj⟩:∃ln lvs,ls[j]=(ln,lvs):=⟨_,_,rfl⟩
    have hkt:ls[j]?=some (ln,lvs):=by rw [List.getElem?_eq_getElem hlt,hlj]
    obtain ⟨c0,va,vc,c1,hsl,hvn⟩:=hlv j ln lvs hkt
    have hvl:=HS2.out (ln,lvs) (List.mem_of_getElem? hkt)
    simp only at hvl
    have HSL:Hid (SL wr.drew va lvs):=(hsl.below hold).below (Below.refl _ _).drew
    have c0:=(hold.cell (p:=⟨lb,lo+j*2,none⟩) hlb).trans c0
    have c1:=(hold.cell (p:=⟨lb,lo+j*2+1,none⟩) hlb).trans c1
    have HLJ:Hid ((ls.take j).length=j):=by unfold Hid;rw [List.length_take];omega
    have HTK:Hid (ls.take (j+1)=ls.take j++[(ln,lvs)]):=by unfold Hid;rw [List.take_succ_eq_append_getElem hlt,hlj]
    obtain ⟨xs,hown,hkv⟩:=HROW.out.go
    rw [HLJ.out] at hown
    have HRB:Hid (∀k,ownB a k=true→w.heap.size+3≤k∧k<wr.heap.size):=fun k hk=>rowG_block hown hk
    have hkr:lb<wr.heap.size:=by omega
    have HOWN:=Hid.mk hown
    have HKV:=Hid.mk hkv
    have HXL:Hid (xs.length=(ls.take j).length*2):=by unfold Hid;rw [HLJ.out,hown.1]
    have zj:(j:Int)<(ls.length:Int):=by omega
    have HCEL:Hid (∀W:World,(∀k,k<w.heap.size+3→W.heap[k]?=wr.heap[k]?)→W.cell? ⟨w.heap.size+1+1,4,none⟩=some (.slice a j cap)∧W.cell? ⟨w.heap.size,4,none⟩=some (.slice (some ⟨lb,lo,none⟩) ls.length lc)∧W.cell? ⟨lb,lo+j*2,none⟩=some (.int .i64 ln)∧W.cell? ⟨lb,lo+j*2+1,none⟩=some (.slice va lvs.length vc)):=fun W h=>by
     have hZ:=h (w.heap.size+1+1) (by omega)
     have hX:=h w.heap.size (by omega)
     have hB:=h lb (by omega)
     exact ⟨(World.cell?_of_block (a:=⟨w.heap.size+1+1,4,none⟩) hZ).trans z4,(World.cell?_of_block (a:=⟨w.heap.size,4,none⟩) hX).trans x4,(World.cell?_of_block (a:=⟨lb,lo+j*2,none⟩) hB).trans c0,(World.cell?_of_block (a:=⟨lb,lo+j*2+1,none⟩) hB).trans c1⟩
    clear hkt hown hkv hold hlv hsl hlj
    generalize ls.take j=TS at *
    go_wp2_with fail
    refine wp_region_last (S:=fun w'=>w'.cell? ⟨w.heap.size+1+1,4,none⟩=some (.slice a j cap)∧w'.cell? ⟨w.heap.size,4,none⟩=some (.slice (some ⟨lb,lo,none⟩) ls.length lc)∧w'.cell? ⟨lb,lo+j*2,none⟩=some (.int .i64 ln)∧w'.cell? ⟨lb,lo+j*2+1,none⟩=some (.slice va lvs.length vc)) 19 mx ?_ (fun hHeld=>?_)
    ·(try dsimp only)
     exact HCEL.out _ (fun k _=>rfl)
    refine tkL (i:=0) (v:=?_) rfl (hy:=(Or.inl ⟨by rfl,?_⟩)) (h:=?_)
    rotate_left
    ·(intro w hSw;(try dsimp only at hSw);go_simp;(try with_reducible rfl))
    refine tkL (i:=1) (v:=?_) rfl (hy:=(Or.inl ⟨by rfl,?_⟩)) (h:=?_)
    rotate_left
    ·(intro w hSw;(try dsimp only at hSw);go_simp;(try with_reducible rfl))
    refine tkL (i:=2) (v:=?_) rfl (hy:=(Or.inl ⟨by rfl,?_⟩)) (h:=?_)
    rotate_left
    ·(intro w hSw;(try dsimp only at hSw);go_simp;(try with_reducible rfl))
    refine tkL (i:=3) (v:=?_) rfl (hy:=(Or.inl ⟨by rfl,?_⟩)) (h:=?_)
    rotate_left
    ·(intro w hSw;(try dsimp only at hSw);go_simp;(try with_reducible rfl))
    refine tkL (i:=4) (v:=?_) rfl (hy:=(Or.inl ⟨by rfl,?_⟩)) (h:=?_)
    rotate_left
    ·(intro w hSw;(try dsimp only at hSw);go_simp;(try with_reducible rfl))
    refine tkL (i:=5) (v:=?_) rfl (hy:=(Or.inl ⟨by rfl,?_⟩)) (h:=?_)
    rotate_left
    ·(intro w hSw;(try dsimp only at hSw);go_simp;(try with_reducible rfl))
    refine tkL (i:=6) (v:=?_) rfl (hy:=(Or.inl ⟨by rfl,?_⟩)) (h:=?_)
    rotate_left
    ·(intro w hSw;(try dsimp only at hSw);go_simp;(try with_reducible rfl))
    refine tkL (i:=7) (v:=?_) rfl (hy:=(Or.inl ⟨by rfl,?_⟩)) (h:=?_)
    rotate_left
    ·(intro w hSw;(try dsimp only at hSw);go_simp;(try with_reducible rfl))
    refine tkL (i:=8) (v:=?_) rfl (hy:=(Or.inl ⟨by rfl,?_⟩)) (h:=?_)
    rotate_left
    ·(intro w hSw;(try dsimp only at hSw);go_simp;(try with_reducible rfl))
    refine tkL (i:=9) (v:=?_) rfl (hy:=(Or.inl ⟨by rfl,?_⟩)) (h:=?_)
    rotate_left
    ·(intro w hSw;(try dsimp only at hSw);go_simp;(try with_reducible rfl))
    refine tkL (i:=10) (v:=?_) rfl (hy:=(Or.inl ⟨by rfl,?_⟩)) (h:=?_)
    rotate_left
    ·(intro w hSw;(try dsimp only at hSw);go_simp;(try with_reducible rfl))
    refine tkL (i:=11) (v:=?_) rfl (hy:=(Or.inl ⟨by rfl,?_⟩)) (h:=?_)
    rotate_left
    ·(intro w hSw;(try dsimp only at hSw);go_simp;(try with_reducible rfl))
    refine tkL (i:=12) (v:=?_) rfl (hy:=(Or.inl ⟨by rfl,?_⟩)) (h:=?_)
    rotate_left
    ·(intro w hSw;(try dsimp only at hSw);go_simp;(try with_reducible rfl))
    refine tkL (i:=13) (v:=?_) rfl (hy:=(Or.inl ⟨by rfl,?_⟩)) (h:=?_)
    rotate_left
    ·(intro w hSw;(try dsimp only at hSw);go_simp;(try with_reducible rfl))
    refine wpAnyL_one (i:=14) (by kernel_rfl) rfl (fun K hK=>?_)
    refine step_appV (by rfl) _ _ (by rfl) wr.heap.size lvs va vc (by kernel_rfl) (by kernel_rfl) HSL.out hvn (by omega) (Nat.le_refl _) ?_
    intro v5 w5 hO5 hg5
    have HB5:Hid (RowKit.Below wr.heap.size wr w5):=((Below.refl wr.heap.size wr).drew).grown hg5 (by simp) (fun k e=>by cases e)
    have hsz5:=HB5.out.size
    obtain ⟨a5,c5,rfl,hS5,hn5⟩:=hO5.slF (P:=fun k=>decide (k<wr.heap.size)) (fun k hk=>by simp;omega)
    have HS5:=Hid.mk hS5
    have HN5:=Hid.mk hn5
    clear hO5 hg5 hS5 hn5
    have HOWN6:Hid ((w5.alloc (.cells #[.int .i64 ln,.slice a5 lvs.length c5] 75)).ownsRow (w.heap.size+3) 75 2 (.slice a j cap) j xs):=(ownsG_block HOWN.out (fun g hg=>HB5.out.block g (by subst hg;exact (World.ownsRow.lt HOWN.out g rfl).2))).alloc _
    have HNEWS:=Hid.mk (World.news_of_block (cs:=#[.int .i64 ln,.slice a5 lvs.length c5]) (t:=75) (fr:=(0,0)) (alloc_new w5 (.cells #[.int .i64 ln,.slice a5 lvs.length c5] 75)))
    refine hK.out _ _ ?_ (fun hHeld=>?_)
    ·(try dsimp only)
     exact HCEL.out _ (fun k hk=>HB5.out.block k (by omega))
    clear hK K
    refine tkL (i:=15) (v:=?_) rfl (hy:=(Or.inl ⟨by rfl,?_⟩)) (h:=?_)
    rotate_left
    ·(intro w hSw;(try dsimp only at hSw);go_simp;(try with_reducible rfl))
    refine wpAnyL_one (i:=16) (by kernel_rfl) rfl (fun K hK=>?_)
    go_simp
    refine hK.out _ _ ?_ (fun hHeld=>?_)
    ·(try dsimp only)
     exact HCEL.out _ (fun k hk=>(Below.heap_alloc _ _ k (by omega)).trans (HB5.out.block k (by omega)))
    clear hK K
    refine wpAnyL_one (i:=17) (by kernel_rfl) rfl (fun K hK=>?_)
    refine step_append_lies _ (by rfl) _ _ _ (by rfl) (w.heap.size+3) 75 l0 _ 2 32 Tryz.underlying33 lh lz0 lz1 lz2 rfl (by decide) (.slice a j cap) j xs (by kernel_rfl) HOWN6.out ⟨w5.heap.size,0,none⟩ 1 1 [.int .i64 ln,.slice a5 lvs.length c5] (by kernel_rfl) (by rfl) HNEWS.out (by simp [Value.oneCell']) (by omega) (by simp [maxLen];omega) (by omega) (by simp;omega) (w5.heap.size+1) (by simp) ?_
    intro g7 c7 W7 hown7 hgr7 hat7 hlt7
    have HOWN7:=Hid.mk hown7
    have HGR7:=Hid.mk hgr7
    have HAT7:=Hid.mk hat7
    have HBL7:Hid (∀k,k<w5.heap.size+1→ownB a k=false→W7.heap[k]?=(w5.alloc (.cells #[.int .i64 ln,.slice a5 lvs.length c5] 75)).heap[k]?):=fun k hk ho=>hgr7.block k (by simpa using hk) (ownB_none ho)
    have HCE7:=Hid.mk (HCEL.out W7 (fun k hk=>(HBL7.out k (by omega) (by cases ho:ownB a k with | false=>rfl | true=>exact absurd (HRB.out k ho).1 (by omega))).trans ((Below.heap_alloc _ _ k (by omega)).trans (HB5.out.block k (by omega)))))
    have HZ7:Hid (W7.heap[w.heap.size+1+1]?=some (.cells #[.int .i64 10,.int .i64 0,.bool false,.string nm,.slice a j cap,.slice none 0 0] 36 (0,0))):=(HBL7.out _ (by omega) (by cases ho:ownB a (w.heap.size+1+1) with | false=>rfl | true=>exact absurd (HRB.out _ ho).1 (by omega))).trans ((Below.heap_alloc _ _ _ (by omega)).trans ((HB5.out.block _ (by omega)).trans HZR.out))
    have fz7:=frz HZ7.out
    have z75:=(cells6 HZ7.out).2.2.2.2.1
    clear hown7 hgr7 hat7
    refine hK.out _ _ ?_ (fun hHeld=>?_)
    ·(try dsimp only)
     exact HCE7.out
    clear hK K
    refine tkL (i:=18) (v:=?_) rfl (hy:=(Or.inl ⟨by rfl,?_⟩)) (h:=?_)
    rotate_left
    ·(intro w hSw;(try dsimp only at hSw);go_simp;(try with_reducible rfl))
    refine wpAnyL_last (by kernel_rfl) rfl (by kernel_rfl) (fun K hK=>?_)
    go_simp
    refine hK.out _ _ ?_
    clear hK K
    go_wp2
    have KZ:Kept (fun k=>k=w.heap.size+1+1) W7 (W7.setCell ⟨w.heap.size+1+1,4,none⟩ (.slice (some ⟨g7,0,none⟩) (j+1) c7)):=(Kept.refl (fun k=>k=w.heap.size+1+1) W7).setCell (p:=⟨w.heap.size+1+1,4,none⟩) rfl _
    refine ⟨⟨j+1,some ⟨g7,0,none⟩,c7,hlt,by go_num,?_,set4_heap HZ7.out,?_⟩,by simp [intOf];omega⟩
    ·rw [HTK.out]
     refine RowL.move (w:=W7) ?_ (fun k hk=>by simp;omega) KZ.size (fun k h1 h2=>KZ.block k h1 (fun e=>by subst e;exact absurd h2 (by simp)))
     refine RowL.snoc (w:=w5.alloc (.cells #[.int .i64 ln,.slice a5 lvs.length c5] 75)) (a:=a) (cap:=cap) (xs:=xs) (fun j' n' vs' hj'=>?_) HXL.out (by rw [HLJ.out];exact HOWN7.out) (by rw [HLJ.out];exact HGR7.out) (by rw [HLJ.out];simpa using HAT7.out) HN5.out ?_
     ·obtain ⟨d0,a',cap',d1,hn',hS'⟩:=HKV.out j' n' vs' hj'
      exact ⟨d0,a',cap',d1,hn',hS'.subF (by rw [maskB_size,maskB_size];simp;omega) (maskB_keeps fun k h1 h2=>⟨h2,(Below.heap_alloc _ _ k (by omega)).trans (HB5.out.block k h1)⟩)⟩
     ·refine HS5.out.subF (by rw [maskB_size,maskB_size];simp) (maskB_keeps fun k h1 h2=>⟨?_,Below.heap_alloc _ _ k h1⟩)
      have h3:wr.heap.size≤k:=by simpa using h2
      cases ho:ownB a k with
      | false=>simp;omega
      | true=>exact absurd (HRB.out k ho).2 (by omega)
    ·refine HBR.out.trans (((Kept.of_below HB5.out).alloc (.cells #[.int .i64 ln,.slice a5 lvs.length c5] 75)).trans (Kept.trans (b:=W7) ⟨HGR7.out.os,HGR7.out.tape,HGR7.out.output,HGR7.out.size,fun k hk hn=>HGR7.out.block k hk (fun e=>?_)⟩ (KZ.imp (fun k _ h=>Or.inl h))))
     have:=(World.ownsRow.lt HOWN.out k e.symm).1
     omega
   ·obtain rfl:j=ls.length:=by omega
    have hby:=(HBR.out.block (w.heap.size+1) (by omega) (by omega)).trans HY1.out
    obtain ⟨y0,y1,y2,y3,y4,y5,y6⟩:=cells6 hby
    have fy:=frz hby
    clear hby
    have HT:Hid (R=.mk 10 0 false nm (ls.take ls.length) []):=by unfold Hid;rw [HR.out,List.take_length]
    have HLJ:Hid ((ls.take ls.length).length=ls.length):=by unfold Hid;rw [List.length_take];omega
    generalize ls.take ls.length=TS at *
    go_wp2
    refine wp_loop_rounds 1 ?_
    rw [rounds_succ]
    go_wp2
    refine bodyPost_ret (v:=.agg #[.int .i64 10,.int .i64 0,.bool false,.string nm,.slice a ls.length cap,.slice none 0 0]) (by simp [results,Tryz.results45,go_sem,y0,y1,y2,y3,y4,y5]) rfl ⟨_,rfl,⟨_,_,_,_,_,_,_,_,_,_,rfl⟩,?_,?_⟩
    all_goals have KF:=keep6 (P:=fun k=>k=w.heap.size+1) (w:=wr) (b:=w.heap.size+1) (a0:=.int .i64 10) (a1:=.int .i64 0) (a2:=.bool false) (a3:=.string nm) (a4:=.slice a ls.length cap) (a5:=.slice none 0 0) rfl
    ·rw [HT.out]
     have hrow:=HROW.out.move (fun k hk=>by simp;omega) KF.size (fun k h1 h2=>KF.block k h1 (fun e=>by subst e;exact absurd h2 (by simp)))
     obtain ⟨q1,q2,q3,q4⟩:=hrow.ln (fun k hk=>by simp;omega)
     have hd2:=(RowF.nil _ (w.heap.size+3) (fun k=>decide (k<w.heap.size+3))).done (fun k hk=>by simp;omega) (f:=10) (n:=0) (hd:=false) (nm:=nm) q1 q2 q3 q4
     rw [HLJ.out] at hd2
     exact hd2.sub (fun k hk=>by simp at hk ⊢;omega)
    ·exact HG1.out.below.trans (Below.trans (HBR.out.below (by omega) (fun k hk=>by omega)) (KF.below (by omega) (fun k hk=>by omega)))
end Go.Proofs.YtgfgpjcnfnopnaaGreat
