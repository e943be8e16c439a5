/- The contract of telamonref1.Clean, form by form. -/
import Derived.Test.YtgfgpjcnfnopnaaGreatFE
namespace Go.Proofs.YtgfgpjcnfnopnaaGreat
set_option maxRecDepth 100000
set_option maxHeartbeats 40000000
open Go.RowKit Go.Sort
theorem Clean3 (n:Int) (hd:Bool) (nm:ByteArray) (ls:List LvT) (ks:List Tm) (ih:∀k∈ks,∀(v:Value) (w:World),smT 1000000 k→formedB k=true→TV w v k→Calls Tryz.prog 45 #[v] w fun e w'=>∃v',e=.returned v'∧ShapeT v'∧TF w' (fun k=>decide (k<w.heap.size)) v' (cleanT k)∧RowKit.Below w.heap.size w w'):∀(v:Value) (w:World),smT 1000000 (.mk 3 n hd nm ls ks)→formedB (.mk 3 n hd nm ls ks)=true→TV w v (.mk 3 n hd nm ls ks)→Calls Tryz.prog 45 #[v] w fun e w'=>∃v',e=.returned v'∧ShapeT v'∧TF w' (fun k=>decide (k<w.heap.size)) v' (cleanT (.mk 3 n hd nm ls ks))∧RowKit.Below w.heap.size w w':=by
 intro v w hsm hfm hv
 obtain ⟨-,s1,s2,s3,s4⟩:=(smT_mk _ _ _ _ _ _ _).1 hsm
 obtain ⟨hkl,hkf⟩:=formed_len hfm
 have mx:=mixed
 obtain ⟨i0,hi,iz0,iz1,iz2⟩:=info_parts infoTerm
 obtain ⟨l0,lh,lz0,lz1,lz2⟩:=info_parts infoLevel
 cases hv with
 | @mk _ _ _ _ _ _ la lc ka kc kb ko hl hln hlc hlm hkn hkc hkm hk kids =>
  have HL:=Hid.mk hl
  have HK:=Hid.mk hk
  have HKIDS:=Hid.mk kids
  have HIH:=Hid.mk ih
  have HS2:=Hid.mk s2
  have HS4:=Hid.mk s4
  have HKF:=Hid.mk hkf
  clear hk kids ih hl hln hkn s2 s4 hsm hkf hfm
  have HR:Hid (cleanT (.mk 3 n hd nm ls ks)=.mk 3 0 hd { data:=#[] } [] (ks.map cleanT)):=by unfold Hid;rw [clean_mk];rfl
  generalize cleanT (.mk 3 n hd nm ls ks)=R at HR ⊢
  clear hkl
  obtain ⟨W1,hW1⟩:∃W1,((w.alloc (.cells #[.int .i64 3,.int .i64 n,.bool hd,.string nm,.slice la ls.length lc,.slice ka ks.length kc] 36)).alloc (.cells #[.int .i64 0,.int .i64 0,.bool false,.string { data:=#[] },.slice none 0 0,.slice none 0 0] 36)).alloc (.cells #[.int .i64 3,.int .i64 0,.bool hd,.string { data:=#[] },.slice none 0 0,.slice none 0 0] 36)=W1:=⟨_,rfl⟩
  have HG1:Hid (Grew w W1):=by unfold Hid;rw [←hW1];exact (((Grew.refl w).alloc _).alloc _).alloc _
  have HX1:Hid (W1.heap[w.heap.size]?=some (.cells #[.int .i64 3,.int .i64 n,.bool hd,.string nm,.slice la ls.length lc,.slice ka ks.length kc] 36 (0,0))):=by unfold Hid;rw [←hW1];exact alloc_old box_at _
  have HY1:Hid (W1.heap[w.heap.size+1]?=some (.cells #[.int .i64 0,.int .i64 0,.bool false,.string { data:=#[] },.slice none 0 0,.slice none 0 0] 36 (0,0))):=by unfold Hid;rw [←hW1];exact on1
  have HZ1:Hid (W1.heap[w.heap.size+1+1]?=some (.cells #[.int .i64 3,.int .i64 0,.bool hd,.string { data:=#[] },.slice none 0 0,.slice none 0 0] 36 (0,0))):=by unfold Hid;rw [←hW1];exact on2
  have hsz1:W1.heap.size=w.heap.size+1+1+1:=by rw [←hW1];simp
  have HW1:=Hid.mk hW1
  clear hW1
  go_enter Tryz.func45,Tryz.ntmps45
  go_wp2
  rw [HW1.out]
  go_loopw [5] (fun i wr=>∃(j:Nat) (a:Option Addr) (cap:Nat),j≤ks.length∧i=.int .i64 j∧RowF wr (w.heap.size+3) (fun k=>decide (k<w.heap.size+3)) a cap ((ks.take j).map cleanT)∧wr.heap[w.heap.size+1+1]?=some (.cells #[.int .i64 3,.int .i64 0,.bool hd,.string { data:=#[] },.slice none 0 0,.slice a j cap] 36 (0,0))∧Kept (fun k=>k=w.heap.size+1+1∨w.heap.size+3≤k) W1 wr) (fun i _=>ks.length - (intOf i).toNat)
  case atStart=>exact ⟨0,none,0,Nat.zero_le _,rfl,RowF.nil W1 _ _,HZ1.out,Kept.refl _ _⟩
  case round =>
   obtain ⟨j,a,cap,hj,rfl,hrow,hz,hbr⟩:=hrel
   have HROW:=Hid.mk hrow
   have HZR:=Hid.mk hz
   have HBR:=Hid.mk hbr
   have hszr:=hbr.size
   clear hrow hz hbr
   have hbx:=(HBR.out.block w.heap.size (by omega) (by omega)).trans HX1.out
   have HXR:=Hid.mk hbx
   obtain ⟨x0,x1,x2,x3,x4,x5,x6⟩:=cells6 hbx
   obtain ⟨z0,z1,z2,z3,z4,z5,z6⟩:=cells6 HZR.out
   have fz:=frz HZR.out
   clear hbx
   by_cases hlt:j<ks.length
   ·obtain ⟨rfl,hkb0⟩:=HK.out (by intro e;rw [e] at hlt;simp at hlt)
    have hkt:ks[j]?=some ks[j]:=List.getElem?_eq_getElem hlt
    have hmem:ks[j]∈ks:=List.getElem_mem hlt
    have HLJ:Hid (((ks.take j).map cleanT).length=j):=by unfold Hid;rw [List.length_map,List.length_take];omega
    have HTK:Hid ((ks.take (j+1)).map cleanT=(ks.take j).map cleanT++[cleanT ks[j]]):=by unfold Hid;rw [List.take_succ_eq_append_getElem hlt,List.map_append];rfl
    obtain ⟨xs,kvs,hown,hkv⟩:=HROW.out.go
    rw [HLJ.out] at hown
    have HRB:Hid (∀k,ownB a k=true→w.heap.size+3≤k∧k<wr.heap.size):=fun k hk=>row_block hown hk
    have hold:RowKit.Below w.heap.size w wr:=HG1.out.below.trans (HBR.out.below (by omega) (fun k hk=>by omega))
    obtain ⟨v0,v1,v2,v3,l1,l2,l3,q1,q2,q3,c0,c1,c2,c3,c4,c5,htv⟩:=((HKIDS.out j _ hkt).on hold).valE
    have hkr:kb<wr.heap.size:=World.block_lt_of_cell? wr _ c0
    have HCALL:=HIH.out ks[j] hmem _ wr.drew (HS4.out _ hmem) (HKF.out _ hmem) (htv.on (Below.refl _ _).drew)
    have hwd:wr.drew.heap.size=wr.heap.size:=rfl
    rw [hwd] at HCALL
    have HOWN:=Hid.mk hown
    have HKV:=Hid.mk hkv
    have HXL:Hid (xs.length=((ks.take j).map cleanT).length*6):=by unfold Hid;rw [HLJ.out,hown.1]
    have zj:(j:Int)<(ks.length:Int):=by omega
    have HCEL:Hid (∀W:World,(∀k,k<w.heap.size+3→W.heap[k]?=wr.heap[k]?)→W.cell? ⟨w.heap.size+1+1,5,none⟩=some (.slice a j cap)∧W.cell? ⟨w.heap.size,5,none⟩=some (.slice (some ⟨kb,ko,none⟩) ks.length kc)∧W.cell? ⟨kb,ko+j*6,none⟩=some (.int .i64 v0)∧W.cell? ⟨kb,ko+j*6+1,none⟩=some (.int .i64 v1)∧W.cell? ⟨kb,ko+j*6+2,none⟩=some (.bool v2)∧W.cell? ⟨kb,ko+j*6+3,none⟩=some (.string v3)∧W.cell? ⟨kb,ko+j*6+4,none⟩=some (.slice l1 l2 l3)∧W.cell? ⟨kb,ko+j*6+5,none⟩=some (.slice q1 q2 q3)):=fun W h=>by
     have hZ:=h (w.heap.size+1+1) (by omega)
     have hX:=h w.heap.size (by omega)
     have hB:=h kb (by omega)
     exact ⟨(World.cell?_of_block (a:=⟨w.heap.size+1+1,5,none⟩) hZ).trans z5,(World.cell?_of_block (a:=⟨w.heap.size,5,none⟩) hX).trans x5,(World.cell?_of_block (a:=⟨kb,ko+j*6,none⟩) hB).trans c0,(World.cell?_of_block (a:=⟨kb,ko+j*6+1,none⟩) hB).trans c1,(World.cell?_of_block (a:=⟨kb,ko+j*6+2,none⟩) hB).trans c2,(World.cell?_of_block (a:=⟨kb,ko+j*6+3,none⟩) hB).trans c3,(World.cell?_of_block (a:=⟨kb,ko+j*6+4,none⟩) hB).trans c4,(World.cell?_of_block (a:=⟨kb,ko+j*6+5,none⟩) hB).trans c5⟩
    clear htv hkt hmem hown hkv hold hwd
    generalize cleanT ks[j]=RK at *
    generalize (ks.take j).map cleanT=TS at *
    go_wp2_with fail
    refine wp_region_last (S:=fun w'=>w'.cell? ⟨w.heap.size+1+1,5,none⟩=some (.slice a j cap)∧w'.cell? ⟨w.heap.size,5,none⟩=some (.slice (some ⟨kb,ko,none⟩) ks.length kc)∧w'.cell? ⟨kb,ko+j*6,none⟩=some (.int .i64 v0)∧w'.cell? ⟨kb,ko+j*6+1,none⟩=some (.int .i64 v1)∧w'.cell? ⟨kb,ko+j*6+2,none⟩=some (.bool v2)∧w'.cell? ⟨kb,ko+j*6+3,none⟩=some (.string v3)∧w'.cell? ⟨kb,ko+j*6+4,none⟩=some (.slice l1 l2 l3)∧w'.cell? ⟨kb,ko+j*6+5,none⟩=some (.slice q1 q2 q3)) 11 mx ?_ (fun hHeld=>?_)
    ·(try dsimp only)
     exact HCEL.out _ (fun k _=>rfl)
    refine tkL (i:=0) (v:=?_) rfl (hy:=(Or.inl ⟨by rfl,?_⟩)) (h:=?_)
    rotate_left
    ·(intro w hSw;(try dsimp only at hSw);go_simp;(try with_reducible rfl))
    refine tkL (i:=1) (v:=?_) rfl (hy:=(Or.inl ⟨by rfl,?_⟩)) (h:=?_)
    rotate_left
    ·(intro w hSw;(try dsimp only at hSw);go_simp;(try with_reducible rfl))
    refine tkL (i:=2) (v:=?_) rfl (hy:=(Or.inl ⟨by rfl,?_⟩)) (h:=?_)
    rotate_left
    ·(intro w hSw;(try dsimp only at hSw);go_simp;(try with_reducible rfl))
    refine tkL (i:=3) (v:=?_) rfl (hy:=(Or.inl ⟨by rfl,?_⟩)) (h:=?_)
    rotate_left
    ·(intro w hSw;(try dsimp only at hSw);go_simp;(try with_reducible rfl))
    refine tkL (i:=4) (v:=?_) rfl (hy:=(Or.inl ⟨by rfl,?_⟩)) (h:=?_)
    rotate_left
    ·(intro w hSw;(try dsimp only at hSw);go_simp;(try with_reducible rfl))
    refine tkL (i:=5) (v:=?_) rfl (hy:=(Or.inl ⟨by rfl,?_⟩)) (h:=?_)
    rotate_left
    ·(intro w hSw;(try dsimp only at hSw);go_simp;(try with_reducible rfl))
    refine tkL (i:=6) (v:=?_) rfl (hy:=(Or.inl ⟨by rfl,?_⟩)) (h:=?_)
    rotate_left
    ·(intro w hSw;(try dsimp only at hSw);go_simp;(try with_reducible rfl))
    refine wpAnyL_one (i:=7) (by kernel_rfl) rfl (fun K hK=>?_)
    go_simp
    go_at_call 45
    refine HCALL.mono ?_
    rintro e w5 ⟨v',rfl,⟨u0,u1,u2,u3,r1,r2,r3,s1',s2',s3',rfl⟩,htf5,hb5⟩
    have HTF5:=Hid.mk htf5
    have HB5:Hid (RowKit.Below wr.heap.size wr w5):=(Below.refl _ _).drew.trans hb5
    have hsz5:=HB5.out.size
    clear htf5 hb5
    have HOWN6:Hid ((w5.alloc (.cells #[.int .i64 u0,.int .i64 u1,.bool u2,.string u3,.slice r1 r2 r3,.slice s1' s2' s3'] 36)).ownsRow (w.heap.size+3) 36 6 (.slice a j cap) j xs):=(owns_block HOWN.out (fun g hg=>HB5.out.block g (by subst hg;exact (World.ownsRow.lt HOWN.out g rfl).2))).alloc _
    have HNEWS:=Hid.mk (World.news_of_block (cs:=#[.int .i64 u0,.int .i64 u1,.bool u2,.string u3,.slice r1 r2 r3,.slice s1' s2' s3']) (t:=36) (fr:=(0,0)) (alloc_new w5 (.cells #[.int .i64 u0,.int .i64 u1,.bool u2,.string u3,.slice r1 r2 r3,.slice s1' s2' s3'] 36)))
    dsimp only
    refine hK.out _ _ ?_ (fun hHeld=>?_)
    ·(try dsimp only)
     exact HCEL.out _ (fun k hk=>HB5.out.block k (by omega))
    clear hK K
    refine wpAnyL_one (i:=8) (by kernel_rfl) rfl (fun K hK=>?_)
    go_simp
    refine hK.out _ _ ?_ (fun hHeld=>?_)
    ·(try dsimp only)
     exact HCEL.out _ (fun k hk=>(Below.heap_alloc _ _ k (by omega)).trans (HB5.out.block k (by omega)))
    clear hK K
    refine wpAnyL_one (i:=9) (by kernel_rfl) rfl (fun K hK=>?_)
    refine step_append_lies _ (by rfl) _ _ _ (by rfl) (w.heap.size+3) 36 i0 _ 6 88 Tryz.underlying34 hi iz0 iz1 iz2 rfl (by decide) (.slice a j cap) j xs (by rfl) HOWN6.out ⟨w5.heap.size,0,none⟩ 1 1 [.int .i64 u0,.int .i64 u1,.bool u2,.string u3,.slice r1 r2 r3,.slice s1' s2' s3'] (by rfl) (by rfl) HNEWS.out (by simp [Value.oneCell']) (by omega) (by simp [maxLen];omega) (by omega) (by simp;omega) (w5.heap.size+1) (by simp) ?_
    intro g7 c7 W7 hown7 hgr7 hat7 hlt7
    have HOWN7:=Hid.mk hown7
    have HGR7:=Hid.mk hgr7
    have HAT7:=Hid.mk hat7
    have HBL7:Hid (∀k,k<w5.heap.size+1→ownB a k=false→W7.heap[k]?=(w5.alloc (.cells #[.int .i64 u0,.int .i64 u1,.bool u2,.string u3,.slice r1 r2 r3,.slice s1' s2' s3'] 36)).heap[k]?):=fun k hk ho=>hgr7.block k (by simpa using hk) (ownB_none ho)
    have HCE7:=Hid.mk (HCEL.out W7 (fun k hk=>(HBL7.out k (by omega) (by cases ho:ownB a k with | false=>rfl | true=>exact absurd (HRB.out k ho).1 (by omega))).trans ((Below.heap_alloc _ _ k (by omega)).trans (HB5.out.block k (by omega)))))
    have HZ7:Hid (W7.heap[w.heap.size+1+1]?=some (.cells #[.int .i64 3,.int .i64 0,.bool hd,.string { data:=#[] },.slice none 0 0,.slice a j cap] 36 (0,0))):=(HBL7.out _ (by omega) (by cases ho:ownB a (w.heap.size+1+1) with | false=>rfl | true=>exact absurd (HRB.out _ ho).1 (by omega))).trans ((Below.heap_alloc _ _ _ (by omega)).trans ((HB5.out.block _ (by omega)).trans HZR.out))
    have fz7:=frz HZ7.out
    have z75:=(cells6 HZ7.out).2.2.2.2.2.1
    clear hown7 hgr7 hat7
    refine hK.out _ _ ?_ (fun hHeld=>?_)
    ·(try dsimp only)
     exact HCE7.out
    clear hK K
    refine tkL (i:=10) (v:=?_) rfl (hy:=(Or.inl ⟨by rfl,?_⟩)) (h:=?_)
    rotate_left
    ·(intro w hSw;(try dsimp only at hSw);go_simp;(try with_reducible rfl))
    refine wpAnyL_last (by kernel_rfl) rfl (by kernel_rfl) (fun K hK=>?_)
    go_simp
    refine hK.out _ _ ?_
    clear hK K
    go_wp2
    have KZ:Kept (fun k=>k=w.heap.size+1+1) W7 (W7.setCell ⟨w.heap.size+1+1,5,none⟩ (.slice (some ⟨g7,0,none⟩) (j+1) c7)):=(Kept.refl (fun k=>k=w.heap.size+1+1) W7).setCell (p:=⟨w.heap.size+1+1,5,none⟩) rfl _
    refine ⟨⟨j+1,some ⟨g7,0,none⟩,c7,hlt,by go_num,?_,set5_heap HZ7.out,?_⟩,by simp [intOf];omega⟩
    ·rw [HTK.out]
     refine RowF.move (w:=W7) ?_ (fun k hk=>by simp;omega) KZ.size (fun k h1 h2=>KZ.block k h1 (fun e=>by subst e;exact absurd h2 (by simp)))
     refine RowF.snoc (w:=w5.alloc (.cells #[.int .i64 u0,.int .i64 u1,.bool u2,.string u3,.slice r1 r2 r3,.slice s1' s2' s3'] 36)) (a:=a) (cap:=cap) (xs:=xs) (kvs:=kvs) (fun j' t' hj'=>⟨(HKV.out j' t' hj').1,((HKV.out j' t' hj').2.on HB5.out).on ((Below.refl _ _).alloc (Nat.le_refl _) _)⟩) HXL.out (by rw [HLJ.out];exact HOWN7.out) (by rw [HLJ.out];exact HGR7.out) (by rw [HLJ.out];simpa using HAT7.out) ?_
     refine HTF5.out.move (by simp) (fun k h1 h2=>⟨?_,Below.heap_alloc _ _ k h1⟩)
     have h3:wr.heap.size≤k:=by simpa using h2
     cases ho:ownB a k with
     | false=>simp;omega
     | true=>exact absurd (HRB.out k ho).2 (by omega)
    ·refine HBR.out.trans (((Kept.of_below HB5.out).alloc (.cells #[.int .i64 u0,.int .i64 u1,.bool u2,.string u3,.slice r1 r2 r3,.slice s1' s2' s3'] 36)).trans (Kept.trans (b:=W7) ⟨HGR7.out.os,HGR7.out.tape,HGR7.out.output,HGR7.out.size,fun k hk hn=>HGR7.out.block k hk (fun e=>?_)⟩ (KZ.imp (fun k _ h=>Or.inl h))))
     have:=(World.ownsRow.lt HOWN.out k e.symm).1
     omega
   ·obtain rfl:j=ks.length:=by omega
    have hby:=(HBR.out.block (w.heap.size+1) (by omega) (by omega)).trans HY1.out
    obtain ⟨y0,y1,y2,y3,y4,y5,y6⟩:=cells6 hby
    have fy:=frz hby
    clear hby
    have HLJ:Hid (((ks.take ks.length).map cleanT).length=ks.length):=by unfold Hid;rw [List.length_map,List.length_take];omega
    have HT:Hid (R=.mk 3 0 hd { data:=#[] } [] ((ks.take ks.length).map cleanT)):=by unfold Hid;rw [HR.out,List.take_length]
    generalize (ks.take ks.length).map cleanT=TS at *
    go_wp2
    refine bodyPost_ret (v:=.agg #[.int .i64 3,.int .i64 0,.bool hd,.string { data:=#[] },.slice none 0 0,.slice a ks.length cap]) (by simp [results,Tryz.results45,go_sem,y0,y1,y2,y3,y4,y5]) rfl ⟨_,rfl,⟨_,_,_,_,_,_,_,_,_,_,rfl⟩,?_,?_⟩
    all_goals have KF:=keep6 (P:=fun k=>k=w.heap.size+1) (w:=wr) (b:=w.heap.size+1) (a0:=.int .i64 3) (a1:=.int .i64 0) (a2:=.bool hd) (a3:=.string { data:=#[] }) (a4:=.slice none 0 0) (a5:=.slice a ks.length cap) rfl
    ·rw [HT.out]
     have hrow:=HROW.out.move (fun k hk=>by simp;omega) KF.size (fun k h1 h2=>KF.block k h1 (fun e=>by subst e;exact absurd h2 (by simp)))
     have hd2:=hrow.done (fun k hk=>by simp;omega) (f:=3) (n:=0) (hd:=hd) (nm:={ data:=#[] }) (la:=none) (lc:=0) (ls:=[]) (Or.inl rfl) (fun _=>rfl) (Nat.le_refl _) (by omega)
     rw [HLJ.out] at hd2
     exact hd2.sub (fun k hk=>by simp at hk ⊢;omega)
    ·exact HG1.out.below.trans (Below.trans (HBR.out.below (by omega) (fun k hk=>by omega)) (KF.below (by omega) (fun k hk=>by omega)))
theorem Clean4 (n:Int) (hd:Bool) (nm:ByteArray) (ls:List LvT) (ks:List Tm) (ih:∀k∈ks,∀(v:Value) (w:World),smT 1000000 k→formedB k=true→TV w v k→Calls Tryz.prog 45 #[v] w fun e w'=>∃v',e=.returned v'∧ShapeT v'∧TF w' (fun k=>decide (k<w.heap.size)) v' (cleanT k)∧RowKit.Below w.heap.size w w'):∀(v:Value) (w:World),smT 1000000 (.mk 4 n hd nm ls ks)→formedB (.mk 4 n hd nm ls ks)=true→TV w v (.mk 4 n hd nm ls ks)→Calls Tryz.prog 45 #[v] w fun e w'=>∃v',e=.returned v'∧ShapeT v'∧TF w' (fun k=>decide (k<w.heap.size)) v' (cleanT (.mk 4 n hd nm ls ks))∧RowKit.Below w.heap.size w w':=by
 intro v w hsm hfm hv
 obtain ⟨-,s1,s2,s3,s4⟩:=(smT_mk _ _ _ _ _ _ _).1 hsm
 obtain ⟨hkl,hkf⟩:=formed_len hfm
 have mx:=mixed
 obtain ⟨i0,hi,iz0,iz1,iz2⟩:=info_parts infoTerm
 obtain ⟨l0,lh,lz0,lz1,lz2⟩:=info_parts infoLevel
 cases hv with
 | @mk _ _ _ _ _ _ la lc ka kc kb ko hl hln hlc hlm hkn hkc hkm hk kids =>
  have HL:=Hid.mk hl
  have HK:=Hid.mk hk
  have HKIDS:=Hid.mk kids
  have HIH:=Hid.mk ih
  have HS2:=Hid.mk s2
  have HS4:=Hid.mk s4
  have HKF:=Hid.mk hkf
  clear hk kids ih hl hln hkn s2 s4 hsm hkf hfm
  have HR:Hid (cleanT (.mk 4 n hd nm ls ks)=.mk 4 0 hd { data:=#[] } [] (ks.map cleanT)):=by unfold Hid;rw [clean_mk];rfl
  generalize cleanT (.mk 4 n hd nm ls ks)=R at HR ⊢
  clear hkl
  obtain ⟨W1,hW1⟩:∃W1,((w.alloc (.cells #[.int .i64 4,.int .i64 n,.bool hd,.string nm,.slice la ls.length lc,.slice ka ks.length kc] 36)).alloc (.cells #[.int .i64 0,.int .i64 0,.bool false,.string { data:=#[] },.slice none 0 0,.slice none 0 0] 36)).alloc (.cells #[.int .i64 4,.int .i64 0,.bool hd,.string { data:=#[] },.slice none 0 0,.slice none 0 0] 36)=W1:=⟨_,rfl⟩
  have HG1:Hid (Grew w W1):=by unfold Hid;rw [←hW1];exact (((Grew.refl w).alloc _).alloc _).alloc _
  have HX1:Hid (W1.heap[w.heap.size]?=some (.cells #[.int .i64 4,.int .i64 n,.bool hd,.string nm,.slice la ls.length lc,.slice ka ks.length kc] 36 (0,0))):=by unfold Hid;rw [←hW1];exact alloc_old box_at _
  have HY1:Hid (W1.heap[w.heap.size+1]?=some (.cells #[.int .i64 0,.int .i64 0,.bool false,.string { data:=#[] },.slice none 0 0,.slice none 0 0] 36 (0,0))):=by unfold Hid;rw [←hW1];exact on1
  have HZ1:Hid (W1.heap[w.heap.size+1+1]?=some (.cells #[.int .i64 4,.int .i64 0,.bool hd,.string { data:=#[] },.slice none 0 0,.slice none 0 0] 36 (0,0))):=by unfold Hid;rw [←hW1];exact on2
  have hsz1:W1.heap.size=w.heap.size+1+1+1:=by rw [←hW1];simp
  have HW1:=Hid.mk hW1
  clear hW1
  go_enter Tryz.func45,Tryz.ntmps45
  go_wp2
  rw [HW1.out]
  go_loopw [5] (fun i wr=>∃(j:Nat) (a:Option Addr) (cap:Nat),j≤ks.length∧i=.int .i64 j∧RowF wr (w.heap.size+3) (fun k=>decide (k<w.heap.size+3)) a cap ((ks.take j).map cleanT)∧wr.heap[w.heap.size+1+1]?=some (.cells #[.int .i64 4,.int .i64 0,.bool hd,.string { data:=#[] },.slice none 0 0,.slice a j cap] 36 (0,0))∧Kept (fun k=>k=w.heap.size+1+1∨w.heap.size+3≤k) W1 wr) (fun i _=>ks.length - (intOf i).toNat)
  case atStart=>exact ⟨0,none,0,Nat.zero_le _,rfl,RowF.nil W1 _ _,HZ1.out,Kept.refl _ _⟩
  case round =>
   obtain ⟨j,a,cap,hj,rfl,hrow,hz,hbr⟩:=hrel
   have HROW:=Hid.mk hrow
   have HZR:=Hid.mk hz
   have HBR:=Hid.mk hbr
   have hszr:=hbr.size
   clear hrow hz hbr
   have hbx:=(HBR.out.block w.heap.size (by omega) (by omega)).trans HX1.out
   have HXR:=Hid.mk hbx
   obtain ⟨x0,x1,x2,x3,x4,x5,x6⟩:=cells6 hbx
   obtain ⟨z0,z1,z2,z3,z4,z5,z6⟩:=cells6 HZR.out
   have fz:=frz HZR.out
   clear hbx
   by_cases hlt:j<ks.length
   ·obtain ⟨rfl,hkb0⟩:=HK.out (by intro e;rw [e] at hlt;simp at hlt)
    have hkt:ks[j]?=some ks[j]:=List.getElem?_eq_getElem hlt
    have hmem:ks[j]∈ks:=List.getElem_mem hlt
    have HLJ:Hid (((ks.take j).map cleanT).length=j):=by unfold Hid;rw [List.length_map,List.length_take];omega
    have HTK:Hid ((ks.take (j+1)).map cleanT=(ks.take j).map cleanT++[cleanT ks[j]]):=by unfold Hid;rw [List.take_succ_eq_append_getElem hlt,List.map_append];rfl
    obtain ⟨xs,kvs,hown,hkv⟩:=HROW.out.go
    rw [HLJ.out] at hown
    have HRB:Hid (∀k,ownB a k=true→w.heap.size+3≤k∧k<wr.heap.size):=fun k hk=>row_block hown hk
    have hold:RowKit.Below w.heap.size w wr:=HG1.out.below.trans (HBR.out.below (by omega) (fun k hk=>by omega))
    obtain ⟨v0,v1,v2,v3,l1,l2,l3,q1,q2,q3,c0,c1,c2,c3,c4,c5,htv⟩:=((HKIDS.out j _ hkt).on hold).valE
    have hkr:kb<wr.heap.size:=World.block_lt_of_cell? wr _ c0
    have HCALL:=HIH.out ks[j] hmem _ wr.drew (HS4.out _ hmem) (HKF.out _ hmem) (htv.on (Below.refl _ _).drew)
    have hwd:wr.drew.heap.size=wr.heap.size:=rfl
    rw [hwd] at HCALL
    have HOWN:=Hid.mk hown
    have HKV:=Hid.mk hkv
    have HXL:Hid (xs.length=((ks.take j).map cleanT).length*6):=by unfold Hid;rw [HLJ.out,hown.1]
    have zj:(j:Int)<(ks.length:Int):=by omega
    have HCEL:Hid (∀W:World,(∀k,k<w.heap.size+3→W.heap[k]?=wr.heap[k]?)→W.cell? ⟨w.heap.size+1+1,5,none⟩=some (.slice a j cap)∧W.cell? ⟨w.heap.size,5,none⟩=some (.slice (some ⟨kb,ko,none⟩) ks.length kc)∧W.cell? ⟨kb,ko+j*6,none⟩=some (.int .i64 v0)∧W.cell? ⟨kb,ko+j*6+1,none⟩=some (.int .i64 v1)∧W.cell? ⟨kb,ko+j*6+2,none⟩=some (.bool v2)∧W.cell? ⟨kb,ko+j*6+3,none⟩=some (.string v3)∧W.cell? ⟨kb,ko+j*6+4,none⟩=some (.slice l1 l2 l3)∧W.cell? ⟨kb,ko+j*6+5,none⟩=some (.slice q1 q2 q3)):=fun W h=>by
     have hZ:=h (w.heap.size+1+1) (by omega)
     have hX:=h w.heap.size (by omega)
     have hB:=h kb (by omega)
     exact ⟨(World.cell?_of_block (a:=⟨w.heap.size+1+1,5,none⟩) hZ).trans z5,(World.cell?_of_block (a:=⟨w.heap.size,5,none⟩) hX).trans x5,(World.cell?_of_block (a:=⟨kb,ko+j*6,none⟩) hB).trans c0,(World.cell?_of_block (a:=⟨kb,ko+j*6+1,none⟩) hB).trans c1,(World.cell?_of_block (a:=⟨kb,ko+j*6+2,none⟩) hB).trans c2,(World.cell?_of_block (a:=⟨kb,ko+j*6+3,none⟩) hB).trans c3,(World.cell?_of_block (a:=⟨kb,ko+j*6+4,none⟩) hB).trans c4,(World.cell?_of_block (a:=⟨kb,ko+j*6+5,none⟩) hB).trans c5⟩
    clear htv hkt hmem hown hkv hold hwd
    generalize cleanT ks[j]=RK at *
    generalize (ks.take j).map cleanT=TS at *
    go_wp2_with fail
    refine wp_region_last (S:=fun w'=>w'.cell? ⟨w.heap.size+1+1,5,none⟩=some (.slice a j cap)∧w'.cell? ⟨w.heap.size,5,none⟩=some (.slice (some ⟨kb,ko,none⟩) ks.length kc)∧w'.cell? ⟨kb,ko+j*6,none⟩=some (.int .i64 v0)∧w'.cell? ⟨kb,ko+j*6+1,none⟩=some (.int .i64 v1)∧w'.cell? ⟨kb,ko+j*6+2,none⟩=some (.bool v2)∧w'.cell? ⟨kb,ko+j*6+3,none⟩=some (.string v3)∧w'.cell? ⟨kb,ko+j*6+4,none⟩=some (.slice l1 l2 l3)∧w'.cell? ⟨kb,ko+j*6+5,none⟩=some (.slice q1 q2 q3)) 11 mx ?_ (fun hHeld=>?_)
    ·(try dsimp only)
     exact HCEL.out _ (fun k _=>rfl)
    refine tkL (i:=0) (v:=?_) rfl (hy:=(Or.inl ⟨by rfl,?_⟩)) (h:=?_)
    rotate_left
    ·(intro w hSw;(try dsimp only at hSw);go_simp;(try with_reducible rfl))
    refine tkL (i:=1) (v:=?_) rfl (hy:=(Or.inl ⟨by rfl,?_⟩)) (h:=?_)
    rotate_left
    ·(intro w hSw;(try dsimp only at hSw);go_simp;(try with_reducible rfl))
    refine tkL (i:=2) (v:=?_) rfl (hy:=(Or.inl ⟨by rfl,?_⟩)) (h:=?_)
    rotate_left
    ·(intro w hSw;(try dsimp only at hSw);go_simp;(try with_reducible rfl))
    refine tkL (i:=3) (v:=?_) rfl (hy:=(Or.inl ⟨by rfl,?_⟩)) (h:=?_)
    rotate_left
    ·(intro w hSw;(try dsimp only at hSw);go_simp;(try with_reducible rfl))
    refine tkL (i:=4) (v:=?_) rfl (hy:=(Or.inl ⟨by rfl,?_⟩)) (h:=?_)
    rotate_left
    ·(intro w hSw;(try dsimp only at hSw);go_simp;(try with_reducible rfl))
    refine tkL (i:=5) (v:=?_) rfl (hy:=(Or.inl ⟨by rfl,?_⟩)) (h:=?_)
    rotate_left
    ·(intro w hSw;(try dsimp only at hSw);go_simp;(try with_reducible rfl))
    refine tkL (i:=6) (v:=?_) rfl (hy:=(Or.inl ⟨by rfl,?_⟩)) (h:=?_)
    rotate_left
    ·(intro w hSw;(try dsimp only at hSw);go_simp;(try with_reducible rfl))
    refine wpAnyL_one (i:=7) (by kernel_rfl) rfl (fun K hK=>?_)
    go_simp
    go_at_call 45
    refine HCALL.mono ?_
    rintro e w5 ⟨v',rfl,⟨u0,u1,u2,u3,r1,r2,r3,s1',s2',s3',rfl⟩,htf5,hb5⟩
    have HTF5:=Hid.mk htf5
    have HB5:Hid (RowKit.Below wr.heap.size wr w5):=(Below.refl _ _).drew.trans hb5
    have hsz5:=HB5.out.size
    clear htf5 hb5
    have HOWN6:Hid ((w5.alloc (.cells #[.int .i64 u0,.int .i64 u1,.bool u2,.string u3,.slice r1 r2 r3,.slice s1' s2' s3'] 36)).ownsRow (w.heap.size+3) 36 6 (.slice a j cap) j xs):=(owns_block HOWN.out (fun g hg=>HB5.out.block g (by subst hg;exact (World.ownsRow.lt HOWN.out g rfl).2))).alloc _
    have HNEWS:=Hid.mk (World.news_of_block (cs:=#[.int .i64 u0,.int .i64 u1,.bool u2,.string u3,.slice r1 r2 r3,.slice s1' s2' s3']) (t:=36) (fr:=(0,0)) (alloc_new w5 (.cells #[.int .i64 u0,.int .i64 u1,.bool u2,.string u3,.slice r1 r2 r3,.slice s1' s2' s3'] 36)))
    dsimp only
    refine hK.out _ _ ?_ (fun hHeld=>?_)
    ·(try dsimp only)
     exact HCEL.out _ (fun k hk=>HB5.out.block k (by omega))
    clear hK K
    refine wpAnyL_one (i:=8) (by kernel_rfl) rfl (fun K hK=>?_)
    go_simp
    refine hK.out _ _ ?_ (fun hHeld=>?_)
    ·(try dsimp only)
     exact HCEL.out _ (fun k hk=>(Below.heap_alloc _ _ k (by omega)).trans (HB5.out.block k (by omega)))
    clear hK K
    refine wpAnyL_one (i:=9) (by kernel_rfl) rfl (fun K hK=>?_)
    refine step_append_lies _ (by rfl) _ _ _ (by rfl) (w.heap.size+3) 36 i0 _ 6 88 Tryz.underlying34 hi iz0 iz1 iz2 rfl (by decide) (.slice a j cap) j xs (by rfl) HOWN6.out ⟨w5.heap.size,0,none⟩ 1 1 [.int .i64 u0,.int .i64 u1,.bool u2,.string u3,.slice r1 r2 r3,.slice s1' s2' s3'] (by rfl) (by rfl) HNEWS.out (by simp [Value.oneCell']) (by omega) (by simp [maxLen];omega) (by omega) (by simp;omega) (w5.heap.size+1) (by simp) ?_
    intro g7 c7 W7 hown7 hgr7 hat7 hlt7
    have HOWN7:=Hid.mk hown7
    have HGR7:=Hid.mk hgr7
    have HAT7:=Hid.mk hat7
    have HBL7:Hid (∀k,k<w5.heap.size+1→ownB a k=false→W7.heap[k]?=(w5.alloc (.cells #[.int .i64 u0,.int .i64 u1,.bool u2,.string u3,.slice r1 r2 r3,.slice s1' s2' s3'] 36)).heap[k]?):=fun k hk ho=>hgr7.block k (by simpa using hk) (ownB_none ho)
    have HCE7:=Hid.mk (HCEL.out W7 (fun k hk=>(HBL7.out k (by omega) (by cases ho:ownB a k with | false=>rfl | true=>exact absurd (HRB.out k ho).1 (by omega))).trans ((Below.heap_alloc _ _ k (by omega)).trans (HB5.out.block k (by omega)))))
    have HZ7:Hid (W7.heap[w.heap.size+1+1]?=some (.cells #[.int .i64 4,.int .i64 0,.bool hd,.string { data:=#[] },.slice none 0 0,.slice a j cap] 36 (0,0))):=(HBL7.out _ (by omega) (by cases ho:ownB a (w.heap.size+1+1) with | false=>rfl | true=>exact absurd (HRB.out _ ho).1 (by omega))).trans ((Below.heap_alloc _ _ _ (by omega)).trans ((HB5.out.block _ (by omega)).trans HZR.out))
    have fz7:=frz HZ7.out
    have z75:=(cells6 HZ7.out).2.2.2.2.2.1
    clear hown7 hgr7 hat7
    refine hK.out _ _ ?_ (fun hHeld=>?_)
    ·(try dsimp only)
     exact HCE7.out
    clear hK K
    refine tkL (i:=10) (v:=?_) rfl (hy:=(Or.inl ⟨by rfl,?_⟩)) (h:=?_)
    rotate_left
    ·(intro w hSw;(try dsimp only at hSw);go_simp;(try with_reducible rfl))
    refine wpAnyL_last (by kernel_rfl) rfl (by kernel_rfl) (fun K hK=>?_)
    go_simp
    refine hK.out _ _ ?_
    clear hK K
    go_wp2
    have KZ:Kept (fun k=>k=w.heap.size+1+1) W7 (W7.setCell ⟨w.heap.size+1+1,5,none⟩ (.slice (some ⟨g7,0,none⟩) (j+1) c7)):=(Kept.refl (fun k=>k=w.heap.size+1+1) W7).setCell (p:=⟨w.heap.size+1+1,5,none⟩) rfl _
    refine ⟨⟨j+1,some ⟨g7,0,none⟩,c7,hlt,by go_num,?_,set5_heap HZ7.out,?_⟩,by simp [intOf];omega⟩
    ·rw [HTK.out]
     refine RowF.move (w:=W7) ?_ (fun k hk=>by simp;omega) KZ.size (fun k h1 h2=>KZ.block k h1 (fun e=>by subst e;exact absurd h2 (by simp)))
     refine RowF.snoc (w:=w5.alloc (.cells #[.int .i64 u0,.int .i64 u1,.bool u2,.string u3,.slice r1 r2 r3,.slice s1' s2' s3'] 36)) (a:=a) (cap:=cap) (xs:=xs) (kvs:=kvs) (fun j' t' hj'=>⟨(HKV.out j' t' hj').1,((HKV.out j' t' hj').2.on HB5.out).on ((Below.refl _ _).alloc (Nat.le_refl _) _)⟩) HXL.out (by rw [HLJ.out];exact HOWN7.out) (by rw [HLJ.out];exact HGR7.out) (by rw [HLJ.out];simpa using HAT7.out) ?_
     refine HTF5.out.move (by simp) (fun k h1 h2=>⟨?_,Below.heap_alloc _ _ k h1⟩)
     have h3:wr.heap.size≤k:=by simpa using h2
     cases ho:ownB a k with
     | false=>simp;omega
     | true=>exact absurd (HRB.out k ho).2 (by omega)
    ·refine HBR.out.trans (((Kept.of_below HB5.out).alloc (.cells #[.int .i64 u0,.int .i64 u1,.bool u2,.string u3,.slice r1 r2 r3,.slice s1' s2' s3'] 36)).trans (Kept.trans (b:=W7) ⟨HGR7.out.os,HGR7.out.tape,HGR7.out.output,HGR7.out.size,fun k hk hn=>HGR7.out.block k hk (fun e=>?_)⟩ (KZ.imp (fun k _ h=>Or.inl h))))
     have:=(World.ownsRow.lt HOWN.out k e.symm).1
     omega
   ·obtain rfl:j=ks.length:=by omega
    have hby:=(HBR.out.block (w.heap.size+1) (by omega) (by omega)).trans HY1.out
    obtain ⟨y0,y1,y2,y3,y4,y5,y6⟩:=cells6 hby
    have fy:=frz hby
    clear hby
    have HLJ:Hid (((ks.take ks.length).map cleanT).length=ks.length):=by unfold Hid;rw [List.length_map,List.length_take];omega
    have HT:Hid (R=.mk 4 0 hd { data:=#[] } [] ((ks.take ks.length).map cleanT)):=by unfold Hid;rw [HR.out,List.take_length]
    generalize (ks.take ks.length).map cleanT=TS at *
    go_wp2
    refine bodyPost_ret (v:=.agg #[.int .i64 4,.int .i64 0,.bool hd,.string { data:=#[] },.slice none 0 0,.slice a ks.length cap]) (by simp [results,Tryz.results45,go_sem,y0,y1,y2,y3,y4,y5]) rfl ⟨_,rfl,⟨_,_,_,_,_,_,_,_,_,_,rfl⟩,?_,?_⟩
    all_goals have KF:=keep6 (P:=fun k=>k=w.heap.size+1) (w:=wr) (b:=w.heap.size+1) (a0:=.int .i64 4) (a1:=.int .i64 0) (a2:=.bool hd) (a3:=.string { data:=#[] }) (a4:=.slice none 0 0) (a5:=.slice a ks.length cap) rfl
    ·rw [HT.out]
     have hrow:=HROW.out.move (fun k hk=>by simp;omega) KF.size (fun k h1 h2=>KF.block k h1 (fun e=>by subst e;exact absurd h2 (by simp)))
     have hd2:=hrow.done (fun k hk=>by simp;omega) (f:=4) (n:=0) (hd:=hd) (nm:={ data:=#[] }) (la:=none) (lc:=0) (ls:=[]) (Or.inl rfl) (fun _=>rfl) (Nat.le_refl _) (by omega)
     rw [HLJ.out] at hd2
     exact hd2.sub (fun k hk=>by simp at hk ⊢;omega)
    ·exact HG1.out.below.trans (Below.trans (HBR.out.below (by omega) (fun k hk=>by omega)) (KF.below (by omega) (fun k hk=>by omega)))
theorem Clean5 (n:Int) (hd:Bool) (nm:ByteArray) (ls:List LvT) (ks:List Tm) (ih:∀k∈ks,∀(v:Value) (w:World),smT 1000000 k→formedB k=true→TV w v k→Calls Tryz.prog 45 #[v] w fun e w'=>∃v',e=.returned v'∧ShapeT v'∧TF w' (fun k=>decide (k<w.heap.size)) v' (cleanT k)∧RowKit.Below w.heap.size w w'):∀(v:Value) (w:World),smT 1000000 (.mk 5 n hd nm ls ks)→formedB (.mk 5 n hd nm ls ks)=true→TV w v (.mk 5 n hd nm ls ks)→Calls Tryz.prog 45 #[v] w fun e w'=>∃v',e=.returned v'∧ShapeT v'∧TF w' (fun k=>decide (k<w.heap.size)) v' (cleanT (.mk 5 n hd nm ls ks))∧RowKit.Below w.heap.size w w':=by
 intro v w hsm hfm hv
 obtain ⟨-,s1,s2,s3,s4⟩:=(smT_mk _ _ _ _ _ _ _).1 hsm
 obtain ⟨hkl,hkf⟩:=formed_len hfm
 have mx:=mixed
 obtain ⟨i0,hi,iz0,iz1,iz2⟩:=info_parts infoTerm
 obtain ⟨l0,lh,lz0,lz1,lz2⟩:=info_parts infoLevel
 cases hv with
 | @mk _ _ _ _ _ _ la lc ka kc kb ko hl hln hlc hlm hkn hkc hkm hk kids =>
  have HL:=Hid.mk hl
  have HK:=Hid.mk hk
  have HKIDS:=Hid.mk kids
  have HIH:=Hid.mk ih
  have HS2:=Hid.mk s2
  have HS4:=Hid.mk s4
  have HKF:=Hid.mk hkf
  clear hk kids ih hl hln hkn s2 s4 hsm hkf hfm
  have HR:Hid (cleanT (.mk 5 n hd nm ls ks)=.mk 5 0 hd { data:=#[] } [] (ks.map cleanT)):=by unfold Hid;rw [clean_mk];rfl
  generalize cleanT (.mk 5 n hd nm ls ks)=R at HR ⊢
  clear hkl
  obtain ⟨W1,hW1⟩:∃W1,((w.alloc (.cells #[.int .i64 5,.int .i64 n,.bool hd,.string nm,.slice la ls.length lc,.slice ka ks.length kc] 36)).alloc (.cells #[.int .i64 0,.int .i64 0,.bool false,.string { data:=#[] },.slice none 0 0,.slice none 0 0] 36)).alloc (.cells #[.int .i64 5,.int .i64 0,.bool hd,.string { data:=#[] },.slice none 0 0,.slice none 0 0] 36)=W1:=⟨_,rfl⟩
  have HG1:Hid (Grew w W1):=by unfold Hid;rw [←hW1];exact (((Grew.refl w).alloc _).alloc _).alloc _
  have HX1:Hid (W1.heap[w.heap.size]?=some (.cells #[.int .i64 5,.int .i64 n,.bool hd,.string nm,.slice la ls.length lc,.slice ka ks.length kc] 36 (0,0))):=by unfold Hid;rw [←hW1];exact alloc_old box_at _
  have HY1:Hid (W1.heap[w.heap.size+1]?=some (.cells #[.int .i64 0,.int .i64 0,.bool false,.string { data:=#[] },.slice none 0 0,.slice none 0 0] 36 (0,0))):=by unfold Hid;rw [←hW1];exact on1
  have HZ1:Hid (W1.heap[w.heap.size+1+1]?=some (.cells #[.int .i64 5,.int .i64 0,.bool hd,.string { data:=#[] },.slice none 0 0,.slice none 0 0] 36 (0,0))):=by unfold Hid;rw [←hW1];exact on2
  have hsz1:W1.heap.size=w.heap.size+1+1+1:=by rw [←hW1];simp
  have HW1:=Hid.mk hW1
  clear hW1
  go_enter Tryz.func45,Tryz.ntmps45
  go_wp2
  rw [HW1.out]
  go_loopw [5] (fun i wr=>∃(j:Nat) (a:Option Addr) (cap:Nat),j≤ks.length∧i=.int .i64 j∧RowF wr (w.heap.size+3) (fun k=>decide (k<w.heap.size+3)) a cap ((ks.take j).map cleanT)∧wr.heap[w.heap.size+1+1]?=some (.cells #[.int .i64 5,.int .i64 0,.bool hd,.string { data:=#[] },.slice none 0 0,.slice a j cap] 36 (0,0))∧Kept (fun k=>k=w.heap.size+1+1∨w.heap.size+3≤k) W1 wr) (fun i _=>ks.length - (intOf i).toNat)
  case atStart=>exact ⟨0,none,0,Nat.zero_le _,rfl,RowF.nil W1 _ _,HZ1.out,Kept.refl _ _⟩
  case round =>
   obtain ⟨j,a,cap,hj,rfl,hrow,hz,hbr⟩:=hrel
   have HROW:=Hid.mk hrow
   have HZR:=Hid.mk hz
   have HBR:=Hid.mk hbr
   have hszr:=hbr.size
   clear hrow hz hbr
   have hbx:=(HBR.out.block w.heap.size (by omega) (by omega)).trans HX1.out
   have HXR:=Hid.mk hbx
   obtain ⟨x0,x1,x2,x3,x4,x5,x6⟩:=cells6 hbx
   obtain ⟨z0,z1,z2,z3,z4,z5,z6⟩:=cells6 HZR.out
   have fz:=frz HZR.out
   clear hbx
   by_cases hlt:j<ks.length
   ·obtain ⟨rfl,hkb0⟩:=HK.out (by intro e;rw [e] at hlt;simp at hlt)
    have hkt:ks[j]?=some ks[j]:=List.getElem?_eq_getElem hlt
    have hmem:ks[j]∈ks:=List.getElem_mem hlt
    have HLJ:Hid (((ks.take j).map cleanT).length=j):=by unfold Hid;rw [List.length_map,List.length_take];omega
    have HTK:Hid ((ks.take (j+1)).map cleanT=(ks.take j).map cleanT++[cleanT ks[j]]):=by unfold Hid;rw [List.take_succ_eq_append_getElem hlt,List.map_append];rfl
    obtain ⟨xs,kvs,hown,hkv⟩:=HROW.out.go
    rw [HLJ.out] at hown
    have HRB:Hid (∀k,ownB a k=true→w.heap.size+3≤k∧k<wr.heap.size):=fun k hk=>row_block hown hk
    have hold:RowKit.Below w.heap.size w wr:=HG1.out.below.trans (HBR.out.below (by omega) (fun k hk=>by omega))
    obtain ⟨v0,v1,v2,v3,l1,l2,l3,q1,q2,q3,c0,c1,c2,c3,c4,c5,htv⟩:=((HKIDS.out j _ hkt).on hold).valE
    have hkr:kb<wr.heap.size:=World.block_lt_of_cell? wr _ c0
    have HCALL:=HIH.out ks[j] hmem _ wr.drew (HS4.out _ hmem) (HKF.out _ hmem) (htv.on (Below.refl _ _).drew)
    have hwd:wr.drew.heap.size=wr.heap.size:=rfl
    rw [hwd] at HCALL
    have HOWN:=Hid.mk hown
    have HKV:=Hid.mk hkv
    have HXL:Hid (xs.length=((ks.take j).map cleanT).length*6):=by unfold Hid;rw [HLJ.out,hown.1]
    have zj:(j:Int)<(ks.length:Int):=by omega
    have HCEL:Hid (∀W:World,(∀k,k<w.heap.size+3→W.heap[k]?=wr.heap[k]?)→W.cell? ⟨w.heap.size+1+1,5,none⟩=some (.slice a j cap)∧W.cell? ⟨w.heap.size,5,none⟩=some (.slice (some ⟨kb,ko,none⟩) ks.length kc)∧W.cell? ⟨kb,ko+j*6,none⟩=some (.int .i64 v0)∧W.cell? ⟨kb,ko+j*6+1,none⟩=some (.int .i64 v1)∧W.cell? ⟨kb,ko+j*6+2,none⟩=some (.bool v2)∧W.cell? ⟨kb,ko+j*6+3,none⟩=some (.string v3)∧W.cell? ⟨kb,ko+j*6+4,none⟩=some (.slice l1 l2 l3)∧W.cell? ⟨kb,ko+j*6+5,none⟩=some (.slice q1 q2 q3)):=fun W h=>by
     have hZ:=h (w.heap.size+1+1) (by omega)
     have hX:=h w.heap.size (by omega)
     have hB:=h kb (by omega)
     exact ⟨(World.cell?_of_block (a:=⟨w.heap.size+1+1,5,none⟩) hZ).trans z5,(World.cell?_of_block (a:=⟨w.heap.size,5,none⟩) hX).trans x5,(World.cell?_of_block (a:=⟨kb,ko+j*6,none⟩) hB).trans c0,(World.cell?_of_block (a:=⟨kb,ko+j*6+1,none⟩) hB).trans c1,(World.cell?_of_block (a:=⟨kb,ko+j*6+2,none⟩) hB).trans c2,(World.cell?_of_block (a:=⟨kb,ko+j*6+3,none⟩) hB).trans c3,(World.cell?_of_block (a:=⟨kb,ko+j*6+4,none⟩) hB).trans c4,(World.cell?_of_block (a:=⟨kb,ko+j*6+5,none⟩) hB).trans c5⟩
    clear htv hkt hmem hown hkv hold hwd
    generalize cleanT ks[j]=RK at *
    generalize (ks.take j).map cleanT=TS at *
    go_wp2_with fail
    refine wp_region_last (S:=fun w'=>w'.cell? ⟨w.heap.size+1+1,5,none⟩=some (.slice a j cap)∧w'.cell? ⟨w.heap.size,5,none⟩=some (.slice (some ⟨kb,ko,none⟩) ks.length kc)∧w'.cell? ⟨kb,ko+j*6,none⟩=some (.int .i64 v0)∧w'.cell? ⟨kb,ko+j*6+1,none⟩=some (.int .i64 v1)∧w'.cell? ⟨kb,ko+j*6+2,none⟩=some (.bool v2)∧w'.cell? ⟨kb,ko+j*6+3,none⟩=some (.string v3)∧w'.cell? ⟨kb,ko+j*6+4,none⟩=some (.slice l1 l2 l3)∧w'.cell? ⟨kb,ko+j*6+5,none⟩=some (.slice q1 q2 q3)) 11 mx ?_ (fun hHeld=>?_)
    ·(try dsimp only)
     exact HCEL.out _ (fun k _=>rfl)
    refine tkL (i:=0) (v:=?_) rfl (hy:=(Or.inl ⟨by rfl,?_⟩)) (h:=?_)
    rotate_left
    ·(intro w hSw;(try dsimp only at hSw);go_simp;(try with_reducible rfl))
    refine tkL (i:=1) (v:=?_) rfl (hy:=(Or.inl ⟨by rfl,?_⟩)) (h:=?_)
    rotate_left
    ·(intro w hSw;(try dsimp only at hSw);go_simp;(try with_reducible rfl))
    refine tkL (i:=2) (v:=?_) rfl (hy:=(Or.inl ⟨by rfl,?_⟩)) (h:=?_)
    rotate_left
    ·(intro w hSw;(try dsimp only at hSw);go_simp;(try with_reducible rfl))
    refine tkL (i:=3) (v:=?_) rfl (hy:=(Or.inl ⟨by rfl,?_⟩)) (h:=?_)
    rotate_left
    ·(intro w hSw;(try dsimp only at hSw);go_simp;(try with_reducible rfl))
    refine tkL (i:=4) (v:=?_) rfl (hy:=(Or.inl ⟨by rfl,?_⟩)) (h:=?_)
    rotate_left
    ·(intro w hSw;(try dsimp only at hSw);go_simp;(try with_reducible rfl))
    refine tkL (i:=5) (v:=?_) rfl (hy:=(Or.inl ⟨by rfl,?_⟩)) (h:=?_)
    rotate_left
    ·(intro w hSw;(try dsimp only at hSw);go_simp;(try with_reducible rfl))
    refine tkL (i:=6) (v:=?_) rfl (hy:=(Or.inl ⟨by rfl,?_⟩)) (h:=?_)
    rotate_left
    ·(intro w hSw;(try dsimp only at hSw);go_simp;(try with_reducible rfl))
    refine wpAnyL_one (i:=7) (by kernel_rfl) rfl (fun K hK=>?_)
    go_simp
    go_at_call 45
    refine HCALL.mono ?_
    rintro e w5 ⟨v',rfl,⟨u0,u1,u2,u3,r1,r2,r3,s1',s2',s3',rfl⟩,htf5,hb5⟩
    have HTF5:=Hid.mk htf5
    have HB5:Hid (RowKit.Below wr.heap.size wr w5):=(Below.refl _ _).drew.trans hb5
    have hsz5:=HB5.out.size
    clear htf5 hb5
    have HOWN6:Hid ((w5.alloc (.cells #[.int .i64 u0,.int .i64 u1,.bool u2,.string u3,.slice r1 r2 r3,.slice s1' s2' s3'] 36)).ownsRow (w.heap.size+3) 36 6 (.slice a j cap) j xs):=(owns_block HOWN.out (fun g hg=>HB5.out.block g (by subst hg;exact (World.ownsRow.lt HOWN.out g rfl).2))).alloc _
    have HNEWS:=Hid.mk (World.news_of_block (cs:=#[.int .i64 u0,.int .i64 u1,.bool u2,.string u3,.slice r1 r2 r3,.slice s1' s2' s3']) (t:=36) (fr:=(0,0)) (alloc_new w5 (.cells #[.int .i64 u0,.int .i64 u1,.bool u2,.string u3,.slice r1 r2 r3,.slice s1' s2' s3'] 36)))
    dsimp only
    refine hK.out _ _ ?_ (fun hHeld=>?_)
    ·(try dsimp only)
     exact HCEL.out _ (fun k hk=>HB5.out.block k (by omega))
    clear hK K
    refine wpAnyL_one (i:=8) (by kernel_rfl) rfl (fun K hK=>?_)
    go_simp
    refine hK.out _ _ ?_ (fun hHeld=>?_)
    ·(try dsimp only)
     exact HCEL.out _ (fun k hk=>(Below.heap_alloc _ _ k (by omega)).trans (HB5.out.block k (by omega)))
    clear hK K
    refine wpAnyL_one (i:=9) (by kernel_rfl) rfl (fun K hK=>?_)
    refine step_append_lies _ (by rfl) _ _ _ (by rfl) (w.heap.size+3) 36 i0 _ 6 88 Tryz.underlying34 hi iz0 iz1 iz2 rfl (by decide) (.slice a j cap) j xs (by rfl) HOWN6.out ⟨w5.heap.size,0,none⟩ 1 1 [.int .i64 u0,.int .i64 u1,.bool u2,.string u3,.slice r1 r2 r3,.slice s1' s2' s3'] (by rfl) (by rfl) HNEWS.out (by simp [Value.oneCell']) (by omega) (by simp [maxLen];omega) (by omega) (by simp;omega) (w5.heap.size+1) (by simp) ?_
    intro g7 c7 W7 hown7 hgr7 hat7 hlt7
    have HOWN7:=Hid.mk hown7
    have HGR7:=Hid.mk hgr7
    have HAT7:=Hid.mk hat7
    have HBL7:Hid (∀k,k<w5.heap.size+1→ownB a k=false→W7.heap[k]?=(w5.alloc (.cells #[.int .i64 u0,.int .i64 u1,.bool u2,.string u3,.slice r1 r2 r3,.slice s1' s2' s3'] 36)).heap[k]?):=fun k hk ho=>hgr7.block k (by simpa using hk) (ownB_none ho)
    have HCE7:=Hid.mk (HCEL.out W7 (fun k hk=>(HBL7.out k (by omega) (by cases ho:ownB a k with | false=>rfl | true=>exact absurd (HRB.out k ho).1 (by omega))).trans ((Below.heap_alloc _ _ k (by omega)).trans (HB5.out.block k (by omega)))))
    have HZ7:Hid (W7.heap[w.heap.size+1+1]?=some (.cells #[.int .i64 5,.int .i64 0,.bool hd,.string { data:=#[] },.slice none 0 0,.slice a j cap] 36 (0,0))):=(HBL7.out _ (by omega) (by cases ho:ownB a (w.heap.size+1+1) with | false=>rfl | true=>exact absurd (HRB.out _ ho).1 (by omega))).trans ((Below.heap_alloc _ _ _ (by omega)).trans ((HB5.out.block _ (by omega)).trans HZR.out))
    have fz7:=frz HZ7.out
    have z75:=(cells6 HZ7.out).2.2.2.2.2.1
    clear hown7 hgr7 hat7
    refine hK.out _ _ ?_ (fun hHeld=>?_)
    ·(try dsimp only)
     exact HCE7.out
    clear hK K
    refine tkL (i:=10) (v:=?_) rfl (hy:=(Or.inl ⟨by rfl,?_⟩)) (h:=?_)
    rotate_left
    ·(intro w hSw;(try dsimp only at hSw);go_simp;(try with_reducible rfl))
    refine wpAnyL_last (by kernel_rfl) rfl (by kernel_rfl) (fun K hK=>?_)
    go_simp
    refine hK.out _ _ ?_
    clear hK K
    go_wp2
    have KZ:Kept (fun k=>k=w.heap.size+1+1) W7 (W7.setCell ⟨w.heap.size+1+1,5,none⟩ (.slice (some ⟨g7,0,none⟩) (j+1) c7)):=(Kept.refl (fun k=>k=w.heap.size+1+1) W7).setCell (p:=⟨w.heap.size+1+1,5,none⟩) rfl _
    refine ⟨⟨j+1,some ⟨g7,0,none⟩,c7,hlt,by go_num,?_,set5_heap HZ7.out,?_⟩,by simp [intOf];omega⟩
    ·rw [HTK.out]
     refine RowF.move (w:=W7) ?_ (fun k hk=>by simp;omega) KZ.size (fun k h1 h2=>KZ.block k h1 (fun e=>by subst e;exact absurd h2 (by simp)))
     refine RowF.snoc (w:=w5.alloc (.cells #[.int .i64 u0,.int .i64 u1,.bool u2,.string u3,.slice r1 r2 r3,.slice s1' s2' s3'] 36)) (a:=a) (cap:=cap) (xs:=xs) (kvs:=kvs) (fun j' t' hj'=>⟨(HKV.out j' t' hj').1,((HKV.out j' t' hj').2.on HB5.out).on ((Below.refl _ _).alloc (Nat.le_refl _) _)⟩) HXL.out (by rw [HLJ.out];exact HOWN7.out) (by rw [HLJ.out];exact HGR7.out) (by rw [HLJ.out];simpa using HAT7.out) ?_
     refine HTF5.out.move (by simp) (fun k h1 h2=>⟨?_,Below.heap_alloc _ _ k h1⟩)
     have h3:wr.heap.size≤k:=by simpa using h2
     cases ho:ownB a k with
     | false=>simp;omega
     | true=>exact absurd (HRB.out k ho).2 (by omega)
    ·refine HBR.out.trans (((Kept.of_below HB5.out).alloc (.cells #[.int .i64 u0,.int .i64 u1,.bool u2,.string u3,.slice r1 r2 r3,.slice s1' s2' s3'] 36)).trans (Kept.trans (b:=W7) ⟨HGR7.out.os,HGR7.out.tape,HGR7.out.output,HGR7.out.size,fun k hk hn=>HGR7.out.block k hk (fun e=>?_)⟩ (KZ.imp (fun k _ h=>Or.inl h))))
     have:=(World.ownsRow.lt HOWN.out k e.symm).1
     omega
   ·obtain rfl:j=ks.length:=by omega
    have hby:=(HBR.out.block (w.heap.size+1) (by omega) (by omega)).trans HY1.out
    obtain ⟨y0,y1,y2,y3,y4,y5,y6⟩:=cells6 hby
    have fy:=frz hby
    clear hby
    have HLJ:Hid (((ks.take ks.length).map cleanT).length=ks.length):=by unfold Hid;rw [List.length_map,List.length_take];omega
    have HT:Hid (R=.mk 5 0 hd { data:=#[] } [] ((ks.take ks.length).map cleanT)):=by unfold Hid;rw [HR.out,List.take_length]
    generalize (ks.take ks.length).map cleanT=TS at *
    go_wp2
    refine bodyPost_ret (v:=.agg #[.int .i64 5,.int .i64 0,.bool hd,.string { data:=#[] },.slice none 0 0,.slice a ks.length cap]) (by simp [results,Tryz.results45,go_sem,y0,y1,y2,y3,y4,y5]) rfl ⟨_,rfl,⟨_,_,_,_,_,_,_,_,_,_,rfl⟩,?_,?_⟩
    all_goals have KF:=keep6 (P:=fun k=>k=w.heap.size+1) (w:=wr) (b:=w.heap.size+1) (a0:=.int .i64 5) (a1:=.int .i64 0) (a2:=.bool hd) (a3:=.string { data:=#[] }) (a4:=.slice none 0 0) (a5:=.slice a ks.length cap) rfl
    ·rw [HT.out]
     have hrow:=HROW.out.move (fun k hk=>by simp;omega) KF.size (fun k h1 h2=>KF.block k h1 (fun e=>by subst e;exact absurd h2 (by simp)))
     have hd2:=hrow.done (fun k hk=>by simp;omega) (f:=5) (n:=0) (hd:=hd) (nm:={ data:=#[] }) (la:=none) (lc:=0) (ls:=[]) (Or.inl rfl) (fun _=>rfl) (Nat.le_refl _) (by omega)
     rw [HLJ.out] at hd2
     exact hd2.sub (fun k hk=>by simp at hk ⊢;omega)
    ·exact HG1.out.below.trans (Below.trans (HBR.out.below (by omega) (fun k hk=>by omega)) (KF.below (by omega) (fun k hk=>by omega)))
theorem Clean9 (n:Int) (hd:Bool) (nm:ByteArray) (ls:List LvT) (ks:List Tm) (ih:∀k∈ks,∀(v:Value) (w:World),smT 1000000 k→formedB k=true→TV w v k→Calls Tryz.prog 45 #[v] w fun e w'=>∃v',e=.returned v'∧ShapeT v'∧TF w' (fun k=>decide (k<w.heap.size)) v' (cleanT k)∧RowKit.Below w.heap.size w w'):∀(v:Value) (w:World),smT 1000000 (.mk 9 n hd nm ls ks)→formedB (.mk 9 n hd nm ls ks)=true→TV w v (.mk 9 n hd nm ls ks)→Calls Tryz.prog 45 #[v] w fun e w'=>∃v',e=.returned v'∧ShapeT v'∧TF w' (fun k=>decide (k<w.heap.size)) v' (cleanT (.mk 9 n hd nm ls ks))∧RowKit.Below w.heap.size w w':=by
 intro v w hsm hfm hv
 obtain ⟨-,s1,s2,s3,s4⟩:=(smT_mk _ _ _ _ _ _ _).1 hsm
 obtain ⟨hkl,hkf⟩:=formed_len hfm
 have mx:=mixed
 obtain ⟨i0,hi,iz0,iz1,iz2⟩:=info_parts infoTerm
 obtain ⟨l0,lh,lz0,lz1,lz2⟩:=info_parts infoLevel
 cases hv with
 | @mk _ _ _ _ _ _ la lc ka kc kb ko hl hln hlc hlm hkn hkc hkm hk kids =>
  have HL:=Hid.mk hl
  have HK:=Hid.mk hk
  have HKIDS:=Hid.mk kids
  have HIH:=Hid.mk ih
  have HS2:=Hid.mk s2
  have HS4:=Hid.mk s4
  have HKF:=Hid.mk hkf
  clear hk kids ih hl hln hkn s2 s4 hsm hkf hfm
  have HR:Hid (cleanT (.mk 9 n hd nm ls ks)=.mk 9 0 false { data:=#[] } [] (ks.map cleanT)):=by unfold Hid;rw [clean_mk];rfl
  generalize cleanT (.mk 9 n hd nm ls ks)=R at HR ⊢
  clear hkl
  obtain ⟨W1,hW1⟩:∃W1,((w.alloc (.cells #[.int .i64 9,.int .i64 n,.bool hd,.string nm,.slice la ls.length lc,.slice ka ks.length kc] 36)).alloc (.cells #[.int .i64 0,.int .i64 0,.bool false,.string { data:=#[] },.slice none 0 0,.slice none 0 0] 36)).alloc (.cells #[.int .i64 9,.int .i64 0,.bool false,.string { data:=#[] },.slice none 0 0,.slice none 0 0] 36)=W1:=⟨_,rfl⟩
  have HG1:Hid (Grew w W1):=by unfold Hid;rw [←hW1];exact (((Grew.refl w).alloc _).alloc _).alloc _
  have HX1:Hid (W1.heap[w.heap.size]?=some (.cells #[.int .i64 9,.int .i64 n,.bool hd,.string nm,.slice la ls.length lc,.slice ka ks.length kc] 36 (0,0))):=by unfold Hid;rw [←hW1];exact alloc_old box_at _
  have HY1:Hid (W1.heap[w.heap.size+1]?=some (.cells #[.int .i64 0,.int .i64 0,.bool false,.string { data:=#[] },.slice none 0 0,.slice none 0 0] 36 (0,0))):=by unfold Hid;rw [←hW1];exact on1
  have HZ1:Hid (W1.heap[w.heap.size+1+1]?=some (.cells #[.int .i64 9,.int .i64 0,.bool false,.string { data:=#[] },.slice none 0 0,.slice none 0 0] 36 (0,0))):=by unfold Hid;rw [←hW1];exact on2
  have hsz1:W1.heap.size=w.heap.size+1+1+1:=by rw [←hW1];simp
  have HW1:=Hid.mk hW1
  clear hW1
  go_enter Tryz.func45,Tryz.ntmps45
  go_wp2
  rw [HW1.out]
  go_loopw [5] (fun i wr=>∃(j:Nat) (a:Option Addr) (cap:Nat),j≤ks.length∧i=.int .i64 j∧RowF wr (w.heap.size+3) (fun k=>decide (k<w.heap.size+3)) a cap ((ks.take j).map cleanT)∧wr.heap[w.heap.size+1+1]?=some (.cells #[.int .i64 9,.int .i64 0,.bool false,.string { data:=#[] },.slice none 0 0,.slice a j cap] 36 (0,0))∧Kept (fun k=>k=w.heap.size+1+1∨w.heap.size+3≤k) W1 wr) (fun i _=>ks.length - (intOf i).toNat)
  case atStart=>exact ⟨0,none,0,Nat.zero_le _,rfl,RowF.nil W1 _ _,HZ1.out,Kept.refl _ _⟩
  case round =>
   obtain ⟨j,a,cap,hj,rfl,hrow,hz,hbr⟩:=hrel
   have HROW:=Hid.mk hrow
   have HZR:=Hid.mk hz
   have HBR:=Hid.mk hbr
   have hszr:=hbr.size
   clear hrow hz hbr
   have hbx:=(HBR.out.block w.heap.size (by omega) (by omega)).trans HX1.out
   have HXR:=Hid.mk hbx
   obtain ⟨x0,x1,x2,x3,x4,x5,x6⟩:=cells6 hbx
   obtain ⟨z0,z1,z2,z3,z4,z5,z6⟩:=cells6 HZR.out
   have fz:=frz HZR.out
   clear hbx
   by_cases hlt:j<ks.length
   ·obtain ⟨rfl,hkb0⟩:=HK.out (by intro e;rw [e] at hlt;simp at hlt)
    have hkt:ks[j]?=some ks[j]:=List.getElem?_eq_getElem hlt
    have hmem:ks[j]∈ks:=List.getElem_mem hlt
    have HLJ:Hid (((ks.take j).map cleanT).length=j):=by unfold Hid;rw [List.length_map,List.length_take];omega
    have HTK:Hid ((ks.take (j+1)).map cleanT=(ks.take j).map cleanT++[cleanT ks[j]]):=by unfold Hid;rw [List.take_succ_eq_append_getElem hlt,List.map_append];rfl
    obtain ⟨xs,kvs,hown,hkv⟩:=HROW.out.go
    rw [HLJ.out] at hown
    have HRB:Hid (∀k,ownB a k=true→w.heap.size+3≤k∧k<wr.heap.size):=fun k hk=>row_block hown hk
    have hold:RowKit.Below w.heap.size w wr:=HG1.out.below.trans (HBR.out.below (by omega) (fun k hk=>by omega))
    obtain ⟨v0,v1,v2,v3,l1,l2,l3,q1,q2,q3,c0,c1,c2,c3,c4,c5,htv⟩:=((HKIDS.out j _ hkt).on hold).valE
    have hkr:kb<wr.heap.size:=World.block_lt_of_cell? wr _ c0
    have HCALL:=HIH.out ks[j] hmem _ wr.drew (HS4.out _ hmem) (HKF.out _ hmem) (htv.on (Below.refl _ _).drew)
    have hwd:wr.drew.heap.size=wr.heap.size:=rfl
    rw [hwd] at HCALL
    have HOWN:=Hid.mk hown
    have HKV:=Hid.mk hkv
    have HXL:Hid (xs.length=((ks.take j).map cleanT).length*6):=by unfold Hid;rw [HLJ.out,hown.1]
    have zj:(j:Int)<(ks.length:Int):=by omega
    have HCEL:Hid (∀W:World,(∀k,k<w.heap.size+3→W.heap[k]?=wr.heap[k]?)→W.cell? ⟨w.heap.size+1+1,5,none⟩=some (.slice a j cap)∧W.cell? ⟨w.heap.size,5,none⟩=some (.slice (some ⟨kb,ko,none⟩) ks.length kc)∧W.cell? ⟨kb,ko+j*6,none⟩=some (.int .i64 v0)∧W.cell? ⟨kb,ko+j*6+1,none⟩=some (.int .i64 v1)∧W.cell? ⟨kb,ko+j*6+2,none⟩=some (.bool v2)∧W.cell? ⟨kb,ko+j*6+3,none⟩=some (.string v3)∧W.cell? ⟨kb,ko+j*6+4,none⟩=some (.slice l1 l2 l3)∧W.cell? ⟨kb,ko+j*6+5,none⟩=some (.slice q1 q2 q3)):=fun W h=>by
     have hZ:=h (w.heap.size+1+1) (by omega)
     have hX:=h w.heap.size (by omega)
     have hB:=h kb (by omega)
     exact ⟨(World.cell?_of_block (a:=⟨w.heap.size+1+1,5,none⟩) hZ).trans z5,(World.cell?_of_block (a:=⟨w.heap.size,5,none⟩) hX).trans x5,(World.cell?_of_block (a:=⟨kb,ko+j*6,none⟩) hB).trans c0,(World.cell?_of_block (a:=⟨kb,ko+j*6+1,none⟩) hB).trans c1,(World.cell?_of_block (a:=⟨kb,ko+j*6+2,none⟩) hB).trans c2,(World.cell?_of_block (a:=⟨kb,ko+j*6+3,none⟩) hB).trans c3,(World.cell?_of_block (a:=⟨kb,ko+j*6+4,none⟩) hB).trans c4,(World.cell?_of_block (a:=⟨kb,ko+j*6+5,none⟩) hB).trans c5⟩
    clear htv hkt hmem hown hkv hold hwd
    generalize cleanT ks[j]=RK at *
    generalize (ks.take j).map cleanT=TS at *
    go_wp2_with fail
    refine wp_region_last (S:=fun w'=>w'.cell? ⟨w.heap.size+1+1,5,none⟩=some (.slice a j cap)∧w'.cell? ⟨w.heap.size,5,none⟩=some (.slice (some ⟨kb,ko,none⟩) ks.length kc)∧w'.cell? ⟨kb,ko+j*6,none⟩=some (.int .i64 v0)∧w'.cell? ⟨kb,ko+j*6+1,none⟩=some (.int .i64 v1)∧w'.cell? ⟨kb,ko+j*6+2,none⟩=some (.bool v2)∧w'.cell? ⟨kb,ko+j*6+3,none⟩=some (.string v3)∧w'.cell? ⟨kb,ko+j*6+4,none⟩=some (.slice l1 l2 l3)∧w'.cell? ⟨kb,ko+j*6+5,none⟩=some (.slice q1 q2 q3)) 11 mx ?_ (fun hHeld=>?_)
    ·(try dsimp only)
     exact HCEL.out _ (fun k _=>rfl)
    refine tkL (i:=0) (v:=?_) rfl (hy:=(Or.inl ⟨by rfl,?_⟩)) (h:=?_)
    rotate_left
    ·(intro w hSw;(try dsimp only at hSw);go_simp;(try with_reducible rfl))
    refine tkL (i:=1) (v:=?_) rfl (hy:=(Or.inl ⟨by rfl,?_⟩)) (h:=?_)
    rotate_left
    ·(intro w hSw;(try dsimp only at hSw);go_simp;(try with_reducible rfl))
    refine tkL (i:=2) (v:=?_) rfl (hy:=(Or.inl ⟨by rfl,?_⟩)) (h:=?_)
    rotate_left
    ·(intro w hSw;(try dsimp only at hSw);go_simp;(try with_reducible rfl))
    refine tkL (i:=3) (v:=?_) rfl (hy:=(Or.inl ⟨by rfl,?_⟩)) (h:=?_)
    rotate_left
    ·(intro w hSw;(try dsimp only at hSw);go_simp;(try with_reducible rfl))
    refine tkL (i:=4) (v:=?_) rfl (hy:=(Or.inl ⟨by rfl,?_⟩)) (h:=?_)
    rotate_left
    ·(intro w hSw;(try dsimp only at hSw);go_simp;(try with_reducible rfl))
    refine tkL (i:=5) (v:=?_) rfl (hy:=(Or.inl ⟨by rfl,?_⟩)) (h:=?_)
    rotate_left
    ·(intro w hSw;(try dsimp only at hSw);go_simp;(try with_reducible rfl))
    refine tkL (i:=6) (v:=?_) rfl (hy:=(Or.inl ⟨by rfl,?_⟩)) (h:=?_)
    rotate_left
    ·(intro w hSw;(try dsimp only at hSw);go_simp;(try with_reducible rfl))
    refine wpAnyL_one (i:=7) (by kernel_rfl) rfl (fun K hK=>?_)
    go_simp
    go_at_call 45
    refine HCALL.mono ?_
    rintro e w5 ⟨v',rfl,⟨u0,u1,u2,u3,r1,r2,r3,s1',s2',s3',rfl⟩,htf5,hb5⟩
    have HTF5:=Hid.mk htf5
    have HB5:Hid (RowKit.Below wr.heap.size wr w5):=(Below.refl _ _).drew.trans hb5
    have hsz5:=HB5.out.size
    clear htf5 hb5
    have HOWN6:Hid ((w5.alloc (.cells #[.int .i64 u0,.int .i64 u1,.bool u2,.string u3,.slice r1 r2 r3,.slice s1' s2' s3'] 36)).ownsRow (w.heap.size+3) 36 6 (.slice a j cap) j xs):=(owns_block HOWN.out (fun g hg=>HB5.out.block g (by subst hg;exact (World.ownsRow.lt HOWN.out g rfl).2))).alloc _
    have HNEWS:=Hid.mk (World.news_of_block (cs:=#[.int .i64 u0,.int .i64 u1,.bool u2,.string u3,.slice r1 r2 r3,.slice s1' s2' s3']) (t:=36) (fr:=(0,0)) (alloc_new w5 (.cells #[.int .i64 u0,.int .i64 u1,.bool u2,.string u3,.slice r1 r2 r3,.slice s1' s2' s3'] 36)))
    dsimp only
    refine hK.out _ _ ?_ (fun hHeld=>?_)
    ·(try dsimp only)
     exact HCEL.out _ (fun k hk=>HB5.out.block k (by omega))
    clear hK K
    refine wpAnyL_one (i:=8) (by kernel_rfl) rfl (fun K hK=>?_)
    go_simp
    refine hK.out _ _ ?_ (fun hHeld=>?_)
    ·(try dsimp only)
     exact HCEL.out _ (fun k hk=>(Below.heap_alloc _ _ k (by omega)).trans (HB5.out.block k (by omega)))
    clear hK K
    refine wpAnyL_one (i:=9) (by kernel_rfl) rfl (fun K hK=>?_)
    refine step_append_lies _ (by rfl) _ _ _ (by rfl) (w.heap.size+3) 36 i0 _ 6 88 Tryz.underlying34 hi iz0 iz1 iz2 rfl (by decide) (.slice a j cap) j xs (by rfl) HOWN6.out ⟨w5.heap.size,0,none⟩ 1 1 [.int .i64 u0,.int .i64 u1,.bool u2,.string u3,.slice r1 r2 r3,.slice s1' s2' s3'] (by rfl) (by rfl) HNEWS.out (by simp [Value.oneCell']) (by omega) (by simp [maxLen];omega) (by omega) (by simp;omega) (w5.heap.size+1) (by simp) ?_
    intro g7 c7 W7 hown7 hgr7 hat7 hlt7
    have HOWN7:=Hid.mk hown7
    have HGR7:=Hid.mk hgr7
    have HAT7:=Hid.mk hat7
    have HBL7:Hid (∀k,k<w5.heap.size+1→ownB a k=false→W7.heap[k]?=(w5.alloc (.cells #[.int .i64 u0,.int .i64 u1,.bool u2,.string u3,.slice r1 r2 r3,.slice s1' s2' s3'] 36)).heap[k]?):=fun k hk ho=>hgr7.block k (by simpa using hk) (ownB_none ho)
    have HCE7:=Hid.mk (HCEL.out W7 (fun k hk=>(HBL7.out k (by omega) (by cases ho:ownB a k with | false=>rfl | true=>exact absurd (HRB.out k ho).1 (by omega))).trans ((Below.heap_alloc _ _ k (by omega)).trans (HB5.out.block k (by omega)))))
    have HZ7:Hid (W7.heap[w.heap.size+1+1]?=some (.cells #[.int .i64 9,.int .i64 0,.bool false,.string { data:=#[] },.slice none 0 0,.slice a j cap] 36 (0,0))):=(HBL7.out _ (by omega) (by cases ho:ownB a (w.heap.size+1+1) with | false=>rfl | true=>exact absurd (HRB.out _ ho).1 (by omega))).trans ((Below.heap_alloc _ _ _ (by omega)).trans ((HB5.out.block _ (by omega)).trans HZR.out))
    have fz7:=frz HZ7.out
    have z75:=(cells6 HZ7.out).2.2.2.2.2.1
    clear hown7 hgr7 hat7
    refine hK.out _ _ ?_ (fun hHeld=>?_)
    ·(try dsimp only)
     exact HCE7.out
    clear hK K
    refine tkL (i:=10) (v:=?_) rfl (hy:=(Or.inl ⟨by rfl,?_⟩)) (h:=?_)
    rotate_left
    ·(intro w hSw;(try dsimp only at hSw);go_simp;(try with_reducible rfl))
    refine wpAnyL_last (by kernel_rfl) rfl (by kernel_rfl) (fun K hK=>?_)
    go_simp
    refine hK.out _ _ ?_
    clear hK K
    go_wp2
    have KZ:Kept (fun k=>k=w.heap.size+1+1) W7 (W7.setCell ⟨w.heap.size+1+1,5,none⟩ (.slice (some ⟨g7,0,none⟩) (j+1) c7)):=(Kept.refl (fun k=>k=w.heap.size+1+1) W7).setCell (p:=⟨w.heap.size+1+1,5,none⟩) rfl _
    refine ⟨⟨j+1,some ⟨g7,0,none⟩,c7,hlt,by go_num,?_,set5_heap HZ7.out,?_⟩,by simp [intOf];omega⟩
    ·rw [HTK.out]
     refine RowF.move (w:=W7) ?_ (fun k hk=>by simp;omega) KZ.size (fun k h1 h2=>KZ.block k h1 (fun e=>by subst e;exact absurd h2 (by simp)))
     refine RowF.snoc (w:=w5.alloc (.cells #[.int .i64 u0,.int .i64 u1,.bool u2,.string u3,.slice r1 r2 r3,.slice s1' s2' s3'] 36)) (a:=a) (cap:=cap) (xs:=xs) (kvs:=kvs) (fun j' t' hj'=>⟨(HKV.out j' t' hj').1,((HKV.out j' t' hj').2.on HB5.out).on ((Below.refl _ _).alloc (Nat.le_refl _) _)⟩) HXL.out (by rw [HLJ.out];exact HOWN7.out) (by rw [HLJ.out];exact HGR7.out) (by rw [HLJ.out];simpa using HAT7.out) ?_
     refine HTF5.out.move (by simp) (fun k h1 h2=>⟨?_,Below.heap_alloc _ _ k h1⟩)
     have h3:wr.heap.size≤k:=by simpa using h2
     cases ho:ownB a k with
     | false=>simp;omega
     | true=>exact absurd (HRB.out k ho).2 (by omega)
    ·refine HBR.out.trans (((Kept.of_below HB5.out).alloc (.cells #[.int .i64 u0,.int .i64 u1,.bool u2,.string u3,.slice r1 r2 r3,.slice s1' s2' s3'] 36)).trans (Kept.trans (b:=W7) ⟨HGR7.out.os,HGR7.out.tape,HGR7.out.output,HGR7.out.size,fun k hk hn=>HGR7.out.block k hk (fun e=>?_)⟩ (KZ.imp (fun k _ h=>Or.inl h))))
     have:=(World.ownsRow.lt HOWN.out k e.symm).1
     omega
   ·obtain rfl:j=ks.length:=by omega
    have hby:=(HBR.out.block (w.heap.size+1) (by omega) (by omega)).trans HY1.out
    obtain ⟨y0,y1,y2,y3,y4,y5,y6⟩:=cells6 hby
    have fy:=frz hby
    clear hby
    have HLJ:Hid (((ks.take ks.length).map cleanT).length=ks.length):=by unfold Hid;rw [List.length_map,List.length_take];omega
    have HT:Hid (R=.mk 9 0 false { data:=#[] } [] ((ks.take ks.length).map cleanT)):=by unfold Hid;rw [HR.out,List.take_length]
    generalize (ks.take ks.length).map cleanT=TS at *
    go_wp2
    refine bodyPost_ret (v:=.agg #[.int .i64 9,.int .i64 0,.bool false,.string { data:=#[] },.slice none 0 0,.slice a ks.length cap]) (by simp [results,Tryz.results45,go_sem,y0,y1,y2,y3,y4,y5]) rfl ⟨_,rfl,⟨_,_,_,_,_,_,_,_,_,_,rfl⟩,?_,?_⟩
    all_goals have KF:=keep6 (P:=fun k=>k=w.heap.size+1) (w:=wr) (b:=w.heap.size+1) (a0:=.int .i64 9) (a1:=.int .i64 0) (a2:=.bool false) (a3:=.string { data:=#[] }) (a4:=.slice none 0 0) (a5:=.slice a ks.length cap) rfl
    ·rw [HT.out]
     have hrow:=HROW.out.move (fun k hk=>by simp;omega) KF.size (fun k h1 h2=>KF.block k h1 (fun e=>by subst e;exact absurd h2 (by simp)))
     have hd2:=hrow.done (fun k hk=>by simp;omega) (f:=9) (n:=0) (hd:=false) (nm:={ data:=#[] }) (la:=none) (lc:=0) (ls:=[]) (Or.inl rfl) (fun _=>rfl) (Nat.le_refl _) (by omega)
     rw [HLJ.out] at hd2
     exact hd2.sub (fun k hk=>by simp at hk ⊢;omega)
    ·exact HG1.out.below.trans (Below.trans (HBR.out.below (by omega) (fun k hk=>by omega)) (KF.below (by omega) (fun k hk=>by omega)))
end Go.Proofs.YtgfgpjcnfnopnaaGreat
