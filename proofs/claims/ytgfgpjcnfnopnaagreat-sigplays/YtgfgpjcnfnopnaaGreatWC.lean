/- The contract of term.walk at int, for every visit and join. -/
import Derived.Test.YtgfgpjcnfnopnaaGreatWA
namespace Go.Proofs.YtgfgpjcnfnopnaaGreat
set_option maxRecDepth 100000
set_option maxHeartbeats 40000000
open Go.RowKit Go.Sort
def OutI {σ:Type}(I:σ→World→Prop) (R:Except Int (σ×Int)) (e:Ending) (w':World):Prop:=match R with
 | .error c=>c≠0∧∃r,e=.returned (.tuple #[.int .i64 r,.int .i64 c])
 | .ok (s',r)=>e=.returned (.tuple #[.int .i64 r,.int .i64 0])∧I s' w'
def VisitsI {σ:Type}(G:Tm→Prop) (P:Nat→Prop) (I:σ→World→Prop) (w0:World) (K:FuncId) (bs:Array Value) (visit:σ→Tm→Int→Int→Except Int (σ×Int)):Prop :=
 ∀(s:σ) (t:Tm) (v:Value) (b p:Int) (w:World),G t→I s w→TV w v t→RowKit.Below w0.heap.size w0 w→0≤b→b≤p→p≤1000000→Calls Tryz.prog K (bs++#[v,.agg #[.int .i64 b,.int .i64 p]]) w fun e w'=>Kept P w w'∧OutI I (visit s t b p) e w'
def JoinsI (J:FuncId) (join:Int→Int→Int):Prop:=∀(a b:Int) (w:World),Calls Tryz.prog J #[.int .i64 a,.int .i64 b] w fun e w'=>e=.returned (.int .i64 (join a b))∧w'=w
theorem infoKids:(Tryz.prog.info? 34).map (fun i=>i.size)=some 1:=by kernel_rfl
theorem ix0 (a1 a2:Option Addr) (l1 c1 l2 c2:Nat) (w:World):Sem.run Tryz.prog (Instr.index 138 (.agg #[.slice a1 l1 c1,.slice a2 l2 c2]) (.int .i64 0)) w=.ok (.slice a1 l1 c1) w:=by
 obtain ⟨i,hi,hs⟩:=Option.map_eq_some_iff.1 infoKids
 simp [Instr.index,go_sem,run_underlying Tryz.underlying138,sizeOf,typeInfo,hi,hs,part,asIntOf]
theorem ix1 (a1 a2:Option Addr) (l1 c1 l2 c2:Nat) (w:World):Sem.run Tryz.prog (Instr.index 138 (.agg #[.slice a1 l1 c1,.slice a2 l2 c2]) (.int .i64 1)) w=.ok (.slice a2 l2 c2) w:=by
 obtain ⟨i,hi,hs⟩:=Option.map_eq_some_iff.1 infoKids
 simp [Instr.index,go_sem,run_underlying Tryz.underlying138,sizeOf,typeInfo,hi,hs,part,asIntOf]
theorem walkI_any {σ:Type}{G:Tm→Prop}{P:Nat→Prop}{I:σ→World→Prop}{w0:World}{K J:FuncId}{bs:Array Value}{visit:σ→Tm→Int→Int→Except Int (σ×Int)}{join:Int→Int→Int}
  (hG:∀f n hd nm ls ks,G (.mk f n hd nm ls ks)→∀k∈ks,G k) (hP0:∀k,P k→w0.heap.size≤k) (hPI:∀s w k,I s w→P k→k<w.heap.size) (hI:∀s w w',I s w→RowKit.Below w.heap.size w w'→I s w') (hKc:∀(xs:Array Value) (w:World),Sem.run Tryz.prog (callFunc K xs) w=.ok (.enter K xs) w) (hJc:∀(xs:Array Value) (w:World),Sem.run Tryz.prog (callFunc J xs) w=.ok (.enter J xs) w) (hV:VisitsI G P I w0 K bs visit) (hJ:JoinsI J join) (t:Tm) :
  ∀(s:σ) (v:Value) (b p:Int) (w:World),G t→I s w→TV w0 v t→RowKit.Below w0.heap.size w0 w→0≤b→b≤p→p≤100000→((∀s t b p,100000≤p→∃c,visit s t b p=.error c)∨p+heightT t≤100000)→Calls Tryz.prog 72 #[v,.agg #[.int .i64 b,.int .i64 p],.func (.func K) bs #[],.func (.func J) #[] #[]] w fun e w'=>Kept P w w'∧OutI I (walkF visit join t s b p) e w':=by
 refine Tm.ind (P:=fun t=>∀(s:σ) (v:Value) (b p:Int) (w:World),G t→I s w→TV w0 v t→RowKit.Below w0.heap.size w0 w→0≤b→b≤p→p≤100000→((∀s t b p,100000≤p→∃c,visit s t b p=.error c)∨p+heightT t≤100000)→Calls Tryz.prog 72 #[v,.agg #[.int .i64 b,.int .i64 p],.func (.func K) bs #[],.func (.func J) #[] #[]] w fun e w'=>Kept P w w'∧OutI I (walkF visit join t s b p) e w') ?_ t
 intro f n hd nm ls ks ih s v b p w hg hIs hv hB hb0 hbp hp hstop
 have HTV:=Hid.mk hv
 cases hv with
 | @mk _ _ _ _ _ _ la lc ka kc kb ko hl hln hlc hlm hkn hkc hkm hk kids =>
  have HK:=Hid.mk hk
  have HKIDS:=Hid.mk kids
  have HIH:=Hid.mk ih
  have HB:=Hid.mk hB
  clear hk kids ih hl hB
  obtain ⟨W0,hW0⟩:∃W0,(w.alloc (.cells #[.int .i64 f,.int .i64 n,.bool hd,.string nm,.slice la ls.length lc,.slice ka ks.length kc] 36)).alloc (.cells #[.int .i64 b,.int .i64 p] 120)=W0:=⟨_,rfl⟩
  have HG0:Hid (Grew w W0):=by unfold Hid;rw [←hW0];exact ((Grew.refl w).alloc _).alloc _
  have HX0:Hid (W0.heap[w.heap.size]?=some (.cells #[.int .i64 f,.int .i64 n,.bool hd,.string nm,.slice la ls.length lc,.slice ka ks.length kc] 36 (0,0))):=by unfold Hid;rw [←hW0];exact box_at
  have HY0:Hid (W0.heap[w.heap.size+1]?=some (.cells #[.int .i64 b,.int .i64 p] 120 (0,0))):=by unfold Hid;rw [←hW0];exact box_at1
  have HCV:=hV s _ _ b p W0 hg (hI _ _ _ hIs HG0.out.below) (HTV.out.on (HB.out.trans (HG0.out.below.mono HB.out.size))) (HB.out.trans (HG0.out.below.mono HB.out.size)) hb0 hbp (by omega)
  have HW0:=Hid.mk hW0
  clear hW0
  have HGK:Hid (∀k∈ks,G k):=hG _ _ _ _ _ _ hg
  clear hG hg
  have HIW:=Hid.mk hI
  have HPI:=Hid.mk hPI
  have HP0:=Hid.mk hP0
  have HVIS:=Hid.mk hV
  have HJOIN:=Hid.mk hJ
  have HIS0:=Hid.mk hIs
  have HST:Hid (100000≤p→∃c,visit s (.mk f n hd nm ls ks) b p=.error c):=fun h=>by
   rcases hstop with h1 | h1
   ·exact h1 _ _ _ _ h
   ·rw [heightT_mk] at h1;omega
  have HSTK:Hid (∀k∈ks,(∀s t b p,100000≤p→∃c,visit s t b p=.error c)∨p+1+heightT k≤100000):=fun k hk=>by
   rcases hstop with h1 | h1
   ·exact Or.inl h1
   ·right
    rw [heightT_mk] at h1
    have:=high_kid hk
    omega
  clear hI hPI hP0 hV hJ hstop hIs HTV
  have HWF:=Hid.mk (walkF_mk visit join f n hd nm ls ks s b p)
  generalize walkF visit join (.mk f n hd nm ls ks) s b p=R at HWF ⊢
  obtain ⟨V,hVv⟩:∃V,visit s (.mk f n hd nm ls ks) b p=V:=⟨_,rfl⟩
  rw [hVv] at HWF HCV HST
  clear hVv
  cases V with
  | error c =>
   have hR:R=.error c:=HWF.out
   subst hR
   clear HWF
   go_enter Tryz.func72,Tryz.ntmps72
   go_wp2_with fail
   rw [HW0.out]
   refine HCV.mono ?_
   rintro e w1 ⟨hk1,hc,r,rfl⟩
   have hcb:(c != 0)=true:=by simpa using hc
   go_wp2
   go_ret2
   exact ⟨(Kept.of_grew HG0.out).trans hk1,hc,r,rfl⟩
  | ok q =>
   obtain ⟨s1,r1⟩:=q
   have HWF:Hid (R=walkL visit join f ks 0 s1 r1 b p):=HWF.out
   go_enter Tryz.func72,Tryz.ntmps72
   go_wp2_with fail
   rw [HW0.out]
   refine HCV.mono ?_
   rintro e w1 ⟨hk1,rfl,hI1⟩
   have HNP:Hid (∀k,w.heap.size≤k→¬P k):=fun k hk hp=>by have:=HPI.out s w k HIS0.out hp;omega
   have HK1:=Hid.mk hk1
   have HI1:=Hid.mk hI1
   have hz0:=HG0.out.below.size
   have hzz:w.heap.size+2≤W0.heap.size:=by rw [←HW0.out];simp
   have hz1:=hk1.size
   clear hk1 hI1 HCV
   obtain ⟨x0,x1,x2,x3,x4,x5,x6⟩:=cells6 ((HK1.out.block w.heap.size (by omega) (HNP.out _ (Nat.le_refl _))).trans HX0.out)
   obtain ⟨y0,y1,-,-,y4⟩:=cells2 ((HK1.out.block (w.heap.size+1) (by omega) (HNP.out _ (by omega))).trans HY0.out)
   have HCUT:=cut_any f n hd nm (.slice la ls.length lc) ks.length kc ka w1 hkn hkc hkm
   go_wp2_with fail
   refine HCUT.mono ?_
   rintro e w2 ⟨a2,rfl,ha2,hb2⟩
   have i0:=ix0
   have i1:=ix1
   have HA2:=Hid.mk ha2
   have HLEN:Hid (cutN f ks.length≤ks.length):=by unfold Hid cutN;split<;>omega
   obtain ⟨c,hc⟩:∃c,cutN f ks.length=c:=⟨_,rfl⟩
   rw [hc] at HA2 HLEN ⊢
   have HCN:Hid (cutN f ks.length=c):=hc
   have hp1:p<100000:=by
    rcases Int.lt_or_le p 100000 with h | h
    ·exact h
    ·obtain ⟨c',hc'⟩:=HST.out h;cases hc'
   have HKP0:Hid (Kept P W0 w2):=HK1.out.trans (Kept.of_below hb2)
   have HIP0:Hid (I s1 w2):=HIW.out _ _ _ HI1.out hb2
   have HWL0:Hid (walkL visit join f (ks.take (0+0)) 0 s1 r1 b p=.ok (s1,r1)):=by unfold Hid;simp [walkL]
   have hz2:W0.heap.size≤w2.heap.size:=HKP0.out.size
   have hcl:c≤ks.length:=HLEN.out
   clear hc hb2 ha2 x0 x1 x2 x3 x4 x5 y0 y1 HCUT HK1 HI1
   obtain ⟨x0,x1,x2,x3,x4,x5,-⟩:=cells6 ((HKP0.out.block w.heap.size (by omega) (HNP.out _ (Nat.le_refl _))).trans HX0.out)
   obtain ⟨y0,y1,-,-,-⟩:=cells2 ((HKP0.out.block (w.heap.size+1) (by omega) (HNP.out _ (by omega))).trans HY0.out)
   have hw2':w.heap.size+1<w2.heap.size:=by omega
   go_wp2_with fail
   refine wp_loop_rounds 3 ?_
   rw [rounds_succ]
   go_wp2_with fail
   obtain ⟨W03,hW3⟩:∃W,w2.alloc (.cells #[.int .i64 b,.int .i64 (p+1)] 120)=W:=⟨_,rfl⟩
   have HBOX0:Hid (W03.heap[w2.heap.size]?=some (.cells #[.int .i64 b,.int .i64 (p+1)] 120 (0,0))):=by unfold Hid;rw [←hW3];exact alloc_new _ _
   have hlt0:w2.heap.size<W03.heap.size:=by rw [←hW3];simp
   have HK3:Hid (Kept P W0 W03):=by unfold Hid;rw [←hW3];exact HKP0.out.alloc _
   have HI3:Hid (I s1 W03):=by unfold Hid;rw [←hW3];exact HIW.out _ _ _ HIP0.out ((Below.refl _ _).alloc (Nat.le_refl _) _)
   have HW3:=Hid.mk hW3
   clear hW3
   rw [HW3.out]
   clear x0 x1 x2 x3 x4 x5 y0 y1 HW3
   go_loopw [10,46] (fun vr i wr=>∃(j:Nat) (s':σ) (r':Int),j≤c∧i=.int .i64 j∧vr=.int .i64 r'∧walkL visit join f (ks.take (0+j)) 0 s1 r1 b p=.ok (s',r')∧Kept P W03 wr∧I s' wr) (fun _ i _=>c - (intOf i).toNat)
   case atStart=>exact ⟨0,s1,r1,Nat.zero_le _,rfl,rfl,HWL0.out,Kept.refl _ _,HI3.out⟩
   case round =>
    obtain ⟨j,s',r',hj,rfl,rfl,hwl,hkr,hir⟩:=hrel
    have HWR:=Hid.mk hwl
    have HKR:=Hid.mk hkr
    have HIR:=Hid.mk hir
    have hzr:=hkr.size
    have hz3:=HK3.out.size
    clear hwl hkr hir
    have HNPB:Hid (¬P w2.heap.size):=HNP.out _ (by omega)
    obtain ⟨z0,z1,-,-,z4⟩:=cells2 ((HKR.out.block w2.heap.size hlt0 HNPB.out).trans HBOX0.out)
    by_cases hlt:j<c
    ·have hjl:0+j<ks.length:=by have:=HLEN.out;omega
     have hkt:ks[0+j]?=some ks[0+j]:=List.getElem?_eq_getElem hjl
     obtain ⟨hka,hkb⟩:=HK.out (by intro e;rw [e] at hjl;simp at hjl)
     obtain ⟨o,ho⟩:∃o,ko=o:=⟨_,rfl⟩
     rw [ho] at hka
     rw [hka]
     have hB:RowKit.Below w0.heap.size w0 wr:=HB.out.trans ((HG0.out.below.mono HB.out.size).trans ((HK3.out.trans HKR.out).below (Nat.le_trans HB.out.size HG0.out.below.size) HP0.out))
     have htc0:=HKIDS.out (0+j) _ hkt
     rw [show ko+(0+j)*6=o+j*6 by omega] at htc0
     obtain ⟨v0,v1,v2,v3,l1,l2,l3,k1,k2,k3,c0,c1,c2,c3,c4,c5,hv⟩:=htc0.valE
     have hmem:ks[0+j]∈ks:=List.getElem_mem hjl
     have hdeep:deepC f b (0+j)=b:=by
      have:=HCN.out
      unfold cutN at this
      unfold deepC
      cases hbf:bindsB f<;>simp only [hbf] at this<;>simp<;>simp at this<;>omega
     have HCALL:=HIH.out ks[0+j] hmem s' _ (deepC f b (0+j)) (p+1) (wr.alloc (.cells #[.int .i64 v0,.int .i64 v1,.bool v2,.string v3,.slice l1 l2 l3,.slice k1 k2 k3] 36)) (HGK.out _ hmem) (HIW.out _ _ _ HIR.out ((Below.refl _ _).alloc (Nat.le_refl _) _)) hv (hB.alloc hB.size _) (by rw [hdeep];omega) (by rw [hdeep];omega) (by omega) (HSTK.out _ hmem)
     have HTAKE:=Hid.mk (walkL_take hkt HWR.out)
     have HBAD:=Hid.mk (fun e (h:walkF visit join ks[0+j] s' (deepC f b (0+j)) (p+1)=.error e)=>walkL_bad hkt HWR.out h)
     rw [hdeep] at HCALL HTAKE HBAD
     have d0:=(hB.cell (p:=⟨kb,o+j*6,none⟩) hkb).trans c0
     have d1:=(hB.cell (p:=⟨kb,o+j*6+1,none⟩) hkb).trans c1
     have d2:=(hB.cell (p:=⟨kb,o+j*6+2,none⟩) hkb).trans c2
     have d3:=(hB.cell (p:=⟨kb,o+j*6+3,none⟩) hkb).trans c3
     have d4:=(hB.cell (p:=⟨kb,o+j*6+4,none⟩) hkb).trans c4
     have d5:=(hB.cell (p:=⟨kb,o+j*6+5,none⟩) hkb).trans c5
     have hkr:kb<wr.heap.size:=Nat.lt_of_lt_of_le hkb hB.size
     have zj:(j:Int)<((c:Nat):Int):=by omega
     clear c0 c1 c2 c3 c4 c5 hv hmem hkt htc0 hdeep ho hka
     generalize walkF visit join ks[0+j] s' b (p+1)=F at HCALL HTAKE HBAD
     cases F with
     | error c' =>
      have HE:Hid (R=.error c'):=by unfold Hid;rw [HWF.out];exact HBAD.out c' rfl
      go_wp2_with fail
      refine HCALL.mono ?_
      rintro e w5 ⟨hk5,hc5,r5,rfl⟩
      have hcb:(c' != 0)=true:=by simpa using hc5
      go_wp2
      go_ret2
      rw [HE.out]
      exact ⟨(Kept.of_grew HG0.out).trans ((HK3.out.trans HKR.out).trans ((Kept.of_below ((Below.refl _ _).alloc (Nat.le_refl _) _)).trans hk5)),hc5,_,rfl⟩
     | ok q =>
      obtain ⟨s2,r2⟩:=q
      have HTAKE:Hid (walkL visit join f (ks.take (0+j+1)) 0 s1 r1 b p=.ok (s2,join r' r2)):=HTAKE.out
      go_wp2_with fail
      refine HCALL.mono ?_
      rintro e w5 ⟨hk5,rfl,hI5⟩
      have HK5:=Hid.mk hk5
      have HI5:=Hid.mk hI5
      clear hk5 hI5 HCALL
      go_wp2_with fail
      refine (HJOIN.out r' r2 _).mono ?_
      rintro e w6 ⟨rfl,rfl⟩
      go_wp2
      refine ⟨⟨j+1,s2,join r' r2,hlt,by go_num,rfl,HTAKE.out,HKR.out.trans ((Kept.of_below ((Below.refl _ _).alloc (Nat.le_refl _) _)).trans HK5.out),HI5.out⟩,by simp [intOf];omega⟩
    ·have HJ:Hid (j=c):=by unfold Hid;omega
     obtain ⟨W4,hW4⟩:∃W,W=wr:=⟨_,rfl⟩
     subst hW4
     have HKP1:Hid (Kept P W0 W4):=HK3.out.trans HKR.out
     have hz4:W0.heap.size≤W4.heap.size:=HKP1.out.size
     obtain ⟨x0,x1,x2,x3,x4,x5,-⟩:=cells6 ((HKP1.out.block w.heap.size (by omega) (HNP.out _ (Nat.le_refl _))).trans HX0.out)
     obtain ⟨y0,y1,-,-,-⟩:=cells2 ((HKP1.out.block (w.heap.size+1) (by omega) (HNP.out _ (by omega))).trans HY0.out)
     have hw4':w.heap.size+1<W4.heap.size:=by omega
     have HWL1:Hid (walkL visit join f (ks.take (c+0)) 0 s1 r1 b p=.ok (s',r')):=by unfold Hid;have:=HWR.out;rw [HJ.out] at this;rwa [Nat.zero_add] at this
     have HIP1:=HIR
     obtain ⟨sP,hsP⟩:∃x,x=s':=⟨_,rfl⟩
     obtain ⟨rP,hrP⟩:∃x,x=r':=⟨_,rfl⟩
     subst hsP
     subst hrP
     have hjc:(j:Int)=(c:Int):=by have:=HJ.out;omega
     have HJC:=Hid.mk hjc
     clear hjc
     have zj:¬(j:Int)<(c:Int):=by omega
     clear HKP0 HIP0 HWL0 HK3 HI3 HBOX0 hlt0 HNPB z0 z1 z4 hlt hzr hz3 HKR HIR HWR HJ hj
     go_wp2
     rw [rounds_succ]
     go_wp2_with fail
     obtain ⟨W13,hW3⟩:∃W,W4.alloc (.cells #[.int .i64 (b+1),.int .i64 (p+1)] 120)=W:=⟨_,rfl⟩
     have HBOX1:Hid (W13.heap[W4.heap.size]?=some (.cells #[.int .i64 (b+1),.int .i64 (p+1)] 120 (0,0))):=by unfold Hid;rw [←hW3];exact alloc_new _ _
     have hlt1:W4.heap.size<W13.heap.size:=by rw [←hW3];simp
     have HK3:Hid (Kept P W0 W13):=by unfold Hid;rw [←hW3];exact HKP1.out.alloc _
     have HI3:Hid (I sP W13):=by unfold Hid;rw [←hW3];exact HIW.out _ _ _ HIP1.out ((Below.refl _ _).alloc (Nat.le_refl _) _)
     have HW3:=Hid.mk hW3
     clear hW3
     rw [HW3.out]
     clear x0 x1 x2 x3 x4 x5 y0 y1 HW3
     go_loopw [10,46] (fun vr i wr=>∃(j:Nat) (s':σ) (r':Int),j≤(ks.length - c)∧i=.int .i64 j∧vr=.int .i64 r'∧walkL visit join f (ks.take (c+j)) 0 s1 r1 b p=.ok (s',r')∧Kept P W13 wr∧I s' wr) (fun _ i _=>(ks.length - c) - (intOf i).toNat)
     case atStart=>exact ⟨0,sP,rP,Nat.zero_le _,rfl,rfl,HWL1.out,Kept.refl _ _,HI3.out⟩
     case round =>
      obtain ⟨j,s',r',hj,rfl,rfl,hwl,hkr,hir⟩:=hrel
      have HWR:=Hid.mk hwl
      have HKR:=Hid.mk hkr
      have HIR:=Hid.mk hir
      have hzr:=hkr.size
      have hz3:=HK3.out.size
      clear hwl hkr hir
      have HNPB:Hid (¬P W4.heap.size):=HNP.out _ (by omega)
      obtain ⟨z0,z1,-,-,z4⟩:=cells2 ((HKR.out.block W4.heap.size hlt1 HNPB.out).trans HBOX1.out)
      by_cases hlt:j<(ks.length - c)
      ·have hjl:c+j<ks.length:=by have:=HLEN.out;omega
       have hkt:ks[c+j]?=some ks[c+j]:=List.getElem?_eq_getElem hjl
       obtain ⟨hka,hkb⟩:=HK.out (by intro e;rw [e] at hjl;simp at hjl)
       obtain ⟨o,ho⟩:∃o,ko+c*6=o:=⟨_,rfl⟩
       have hka2:a2=some ⟨kb,o,none⟩:=by rw [←ho];exact HA2.out kb ko hka (by omega)
       rw [hka2]
       clear hka2
       have hB:RowKit.Below w0.heap.size w0 wr:=HB.out.trans ((HG0.out.below.mono HB.out.size).trans ((HK3.out.trans HKR.out).below (Nat.le_trans HB.out.size HG0.out.below.size) HP0.out))
       have htc0:=HKIDS.out (c+j) _ hkt
       rw [show ko+(c+j)*6=o+j*6 by omega] at htc0
       obtain ⟨v0,v1,v2,v3,l1,l2,l3,k1,k2,k3,c0,c1,c2,c3,c4,c5,hv⟩:=htc0.valE
       have hmem:ks[c+j]∈ks:=List.getElem_mem hjl
       have hdeep:deepC f b (c+j)=(b+1):=by
        have:=HCN.out
        unfold cutN at this
        unfold deepC
        cases hbf:bindsB f<;>simp only [hbf] at this<;>simp<;>simp at this<;>omega
       have HCALL:=HIH.out ks[c+j] hmem s' _ (deepC f b (c+j)) (p+1) (wr.alloc (.cells #[.int .i64 v0,.int .i64 v1,.bool v2,.string v3,.slice l1 l2 l3,.slice k1 k2 k3] 36)) (HGK.out _ hmem) (HIW.out _ _ _ HIR.out ((Below.refl _ _).alloc (Nat.le_refl _) _)) hv (hB.alloc hB.size _) (by rw [hdeep];omega) (by rw [hdeep];omega) (by omega) (HSTK.out _ hmem)
       have HTAKE:=Hid.mk (walkL_take hkt HWR.out)
       have HBAD:=Hid.mk (fun e (h:walkF visit join ks[c+j] s' (deepC f b (c+j)) (p+1)=.error e)=>walkL_bad hkt HWR.out h)
       rw [hdeep] at HCALL HTAKE HBAD
       have d0:=(hB.cell (p:=⟨kb,o+j*6,none⟩) hkb).trans c0
       have d1:=(hB.cell (p:=⟨kb,o+j*6+1,none⟩) hkb).trans c1
       have d2:=(hB.cell (p:=⟨kb,o+j*6+2,none⟩) hkb).trans c2
       have d3:=(hB.cell (p:=⟨kb,o+j*6+3,none⟩) hkb).trans c3
       have d4:=(hB.cell (p:=⟨kb,o+j*6+4,none⟩) hkb).trans c4
       have d5:=(hB.cell (p:=⟨kb,o+j*6+5,none⟩) hkb).trans c5
       have hkr:kb<wr.heap.size:=Nat.lt_of_lt_of_le hkb hB.size
       have zj:(j:Int)<(((ks.length - c):Nat):Int):=by omega
       clear c0 c1 c2 c3 c4 c5 hv hmem hkt htc0 hdeep ho hka
       generalize walkF visit join ks[c+j] s' (b+1) (p+1)=F at HCALL HTAKE HBAD
       cases F with
       | error c' =>
        have HE:Hid (R=.error c'):=by unfold Hid;rw [HWF.out];exact HBAD.out c' rfl
        go_wp2_with fail
        refine HCALL.mono ?_
        rintro e w5 ⟨hk5,hc5,r5,rfl⟩
        have hcb:(c' != 0)=true:=by simpa using hc5
        go_wp2
        go_ret2
        rw [HE.out]
        exact ⟨(Kept.of_grew HG0.out).trans ((HK3.out.trans HKR.out).trans ((Kept.of_below ((Below.refl _ _).alloc (Nat.le_refl _) _)).trans hk5)),hc5,_,rfl⟩
       | ok q =>
        obtain ⟨s2,r2⟩:=q
        have HTAKE:Hid (walkL visit join f (ks.take (c+j+1)) 0 s1 r1 b p=.ok (s2,join r' r2)):=HTAKE.out
        go_wp2_with fail
        refine HCALL.mono ?_
        rintro e w5 ⟨hk5,rfl,hI5⟩
        have HK5:=Hid.mk hk5
        have HI5:=Hid.mk hI5
        clear hk5 hI5 HCALL
        go_wp2_with fail
        refine (HJOIN.out r' r2 _).mono ?_
        rintro e w6 ⟨rfl,rfl⟩
        go_wp2
        refine ⟨⟨j+1,s2,join r' r2,hlt,by go_num,rfl,HTAKE.out,HKR.out.trans ((Kept.of_below ((Below.refl _ _).alloc (Nat.le_refl _) _)).trans HK5.out),HI5.out⟩,by simp [intOf];omega⟩
      ·have HJ:Hid (j=(ks.length - c)):=by unfold Hid;omega
       have HE:Hid (R=.ok (s',r')):=by
        unfold Hid
        have h1:=HWR.out
        rw [List.take_of_length_le (by have:=HLEN.out;have:=HJ.out;omega)] at h1
        rw [HWF.out];exact h1
       go_wp2
       rw [rounds_succ]
       go_wp2
       go_ret2
       rw [HE.out]
       exact ⟨(Kept.of_grew HG0.out).trans (HK3.out.trans HKR.out),rfl,HIR.out⟩
theorem cf_count (xs:Array Value) (w:World):Sem.run Tryz.prog (callFunc 86 xs) w=.ok (.enter 86 xs) w:=by simp [callFunc,go_sem,Tryz.func86];rfl
theorem cf_above (xs:Array Value) (w:World):Sem.run Tryz.prog (callFunc 73 xs) w=.ok (.enter 73 xs) w:=by simp [callFunc,go_sem,Tryz.func73];rfl
theorem cf_judged (xs:Array Value) (w:World):Sem.run Tryz.prog (callFunc 79 xs) w=.ok (.enter 79 xs) w:=by simp [callFunc,go_sem,Tryz.func79];rfl
theorem cf_plus (xs:Array Value) (w:World):Sem.run Tryz.prog (callFunc 80 xs) w=.ok (.enter 80 xs) w:=by simp [callFunc,go_sem,Tryz.func80];rfl
theorem cf_greater (xs:Array Value) (w:World):Sem.run Tryz.prog (callFunc 74 xs) w=.ok (.enter 74 xs) w:=by simp [callFunc,go_sem,Tryz.func74];rfl
def wplus (a b:Int):Int:=wrap64 (a+b)
theorem plus_any:JoinsI 80 wplus:=by
 intro a b w
 go_enter Tryz.func80,Tryz.ntmps80
 go_wp2
 go_ret
 exact ⟨rfl,rfl⟩
theorem greater_any:JoinsI 74 max:=by
 intro a b w
 by_cases h:a<b
 ·go_enter Tryz.func74,Tryz.ntmps74
  go_wp2
  go_ret
  exact ⟨ret_int (by omega),rfl⟩
 ·go_enter Tryz.func74,Tryz.ntmps74
  go_wp2
  go_ret
  exact ⟨ret_int (by omega),rfl⟩
def cntV (H:Int) (s:Int) (_:Tm) (_ p:Int):Except Int (Int×Int):=if s≤0∨H≤p then .error 2 else .ok (s - 1,1)
def cntI (H:Int) (X:Nat) (s:Int) (w:World):Prop:=w.heap[X]?=some (.cells #[.int .i64 s,.int .i64 H] 137 (0,0))∧0≤s∧s≤16777216
theorem heap_set20 {w:World}{b:Nat}{u u2 x:Value}{t:TypeId}(h:w.heap[b]?=some (.cells #[u,u2] t (0,0))):(w.setCell ⟨b,0,none⟩ x).heap[b]?=some (.cells #[x,u2] t (0,0)):=by
 rw [setCell_eq];show (w.heap.modify b _)[b]?=_
 rw [Array.getElem?_modify,if_pos rfl,h];rfl
theorem cntI_grow (H:Int) (X:Nat) (s:Int) (w w':World) (h:cntI H X s w) (hb:RowKit.Below w.heap.size w w'):cntI H X s w':=⟨(hb.block X (Array.getElem?_eq_some_iff.1 h.1).1).trans h.1,h.2⟩
theorem Kept.drewN {P:Nat→Prop}{a w:World}(h:Kept P a w) (n:Nat):Kept P a (w.drewN n):=h.trans (Kept.of_grew ((Grew.refl w).drewN n))
theorem count_visits (H:Int) (X:Nat) (w0:World):VisitsI (fun _=>True) (·=X) (cntI H X) w0 86 #[.pointer (some ⟨X,0,none⟩)] (cntV H):=by
 intro s t v b p w _ hI hv _ hb0 hbp hp
 obtain ⟨hX,hs0,hs1⟩:=hI
 obtain ⟨x0,x1,x2,x3,x4⟩:=cells2 hX
 have HX:=Hid.mk hX
 clear hX
 have hvv:∃f n hd nm la l1 lc ka k1 kc,v=.agg #[.int .i64 f,.int .i64 n,.bool hd,.string nm,.slice la l1 lc,.slice ka k1 kc]:=by
  cases hv with
  | mk=>exact ⟨_,_,_,_,_,_,_,_,_,_,rfl⟩
 clear hv
 obtain ⟨f,n,hd,nm,la,l1,lc,ka,k1,kc,rfl⟩:=hvv
 show Calls Tryz.prog 86 #[.pointer (some ⟨X,0,none⟩),.agg #[.int .i64 f,.int .i64 n,.bool hd,.string nm,.slice la l1 lc,.slice ka k1 kc],.agg #[.int .i64 b,.int .i64 p]] w _
 obtain ⟨W1,hW1⟩:∃W1,((w.setCell ⟨X,0,none⟩ (.int .i64 (s - 1))).alloc (.cells #[.int .i64 f,.int .i64 n,.bool hd,.string nm,.slice la l1 lc,.slice ka k1 kc] 36)).alloc (.cells #[.int .i64 b,.int .i64 p] 120)=W1:=⟨_,rfl⟩
 have hXl:X<w.heap.size:=x4
 have hsz0:(w.setCell ⟨X,0,none⟩ (.int .i64 (s - 1))).heap.size=w.heap.size:=by simp [World.setCell]
 have HX1:Hid (W1.heap[X]?=some (.cells #[.int .i64 (s - 1),.int .i64 H] 137 (0,0))):=by unfold Hid;rw [←hW1];exact alloc_old (alloc_old (heap_set20 HX.out) _) _
 have HP1:Hid (W1.heap[w.heap.size+1]?=some (.cells #[.int .i64 b,.int .i64 p] 120 (0,0))):=by unfold Hid;rw [←hW1,←hsz0];exact box_at1
 have HK1:Hid (Kept (·=X) w W1):=by unfold Hid;rw [←hW1];exact (((Kept.refl (·=X) w).setCell (p:=⟨X,0,none⟩) rfl _).alloc _).alloc _
 have HW1:=Hid.mk hW1
 clear hW1 hsz0
 obtain ⟨u,hu⟩:∃u,s - 1=u:=⟨_,rfl⟩
 rw [hu] at HX1
 have HU:=Hid.mk hu
 rcases (show s≤0∨(0<s∧H≤p)∨(0<s∧p<H) by omega) with h | ⟨h,h2⟩ | ⟨h,h2⟩
 ·have HE:Hid (cntV H s t b p=.error 2):=by unfold Hid cntV;rw [if_pos (by omega)]
  generalize cntV H s t b p=R at HE ⊢
  have hz:u<0:=by omega
  clear hu
  go_enter Tryz.func86,Tryz.ntmps86
  go_wp2
  rw [HW1.out]
  clear x0 x1 x2 x3 x4
  obtain ⟨x0,x1,x2,x3,x4⟩:=cells2 HX1.out
  obtain ⟨y0,y1,y2,y3,y4⟩:=cells2 HP1.out
  go_quiet (fail)
  go_wp2
  go_ret2
  rw [HE.out]
  exact ⟨HK1.out.drewN _,by decide,_,rfl⟩
 ·have HE:Hid (cntV H s t b p=.error 2):=by unfold Hid cntV;rw [if_pos (by omega)]
  generalize cntV H s t b p=R at HE ⊢
  have hz:¬u<0:=by omega
  clear hu
  go_enter Tryz.func86,Tryz.ntmps86
  go_wp2
  rw [HW1.out]
  clear x0 x1 x2 x3 x4
  obtain ⟨x0,x1,x2,x3,x4⟩:=cells2 HX1.out
  obtain ⟨y0,y1,y2,y3,y4⟩:=cells2 HP1.out
  go_quiet (fail)
  go_wp2
  go_ret2
  rw [HE.out]
  exact ⟨HK1.out.drewN _,by decide,_,rfl⟩
 ·have HE:Hid (cntV H s t b p=.ok (s - 1,1)):=by unfold Hid cntV;rw [if_neg (by omega)]
  generalize cntV H s t b p=R at HE ⊢
  have hz:¬u<0:=by omega
  clear hu
  go_enter Tryz.func86,Tryz.ntmps86
  go_wp2
  rw [HW1.out]
  clear x0 x1 x2 x3 x4
  obtain ⟨x0,x1,x2,x3,x4⟩:=cells2 HX1.out
  obtain ⟨y0,y1,y2,y3,y4⟩:=cells2 HP1.out
  go_quiet (fail)
  go_wp2
  go_ret2
  rw [HE.out]
  exact ⟨HK1.out.drewN _,rfl,by rw [HU.out];exact HX1.out,by omega,by omega⟩
def aboV (_:Unit) (t:Tm) (b _:Int):Except Int (Unit×Int):=.ok ((),if t.form=1 then max 0 (wrap64 (wrap64 (t.n - b)+1)) else 0)
theorem TV.shape {w:World}{v:Value}{t:Tm}(h:TV w v t):∃la lc ka kc,v=.agg #[.int .i64 t.form,.int .i64 t.n,.bool t.hid,.string t.name,.slice la t.levels.length lc,.slice ka t.kids.length kc]:=by
 cases h with
 | mk=>exact ⟨_,_,_,_,rfl⟩
theorem above_visits (w0:World):VisitsI (fun _=>True) (fun _=>False) (fun _ _=>True) w0 73 #[] aboV:=by
 intro s t v b p w _ _ hv _ hb0 hbp hp
 obtain ⟨la,lc,ka,kc,rfl⟩:=hv.shape
 clear hv
 have HE:Hid (aboV s t b p=.ok ((),if t.form=1 then max 0 (wrap64 (wrap64 (t.n - b)+1)) else 0)):=rfl
 generalize aboV s t b p=R at HE ⊢
 generalize t.form=f at *
 generalize t.n=n at *
 generalize t.hid=hd at *
 generalize t.name=nm at *
 generalize t.levels.length=l1 at *
 generalize t.kids.length=k1 at *
 show Calls Tryz.prog 73 #[.agg #[.int .i64 f,.int .i64 n,.bool hd,.string nm,.slice la l1 lc,.slice ka k1 kc],.agg #[.int .i64 b,.int .i64 p]] w _
 by_cases hf:f=1
 ·rw [if_pos hf] at HE
  have hfb:(f != 1)=false:=by simp [hf]
  clear hf
  by_cases hm:0<wrap64 (wrap64 (n - b)+1)
  all_goals
   go_enter Tryz.func73,Tryz.ntmps73
   go_wp2
   go_ret2
   rw [HE.out]
   refine ⟨((Kept.refl _ w).alloc _).alloc _,?_,trivial⟩
   exact congrArg (fun x=>Ending.returned (.tuple #[.int .i64 x,.int .i64 0])) (by omega)
 ·rw [if_neg hf] at HE
  have hfb:(f != 1)=true:=by simp [hf]
  clear hf
  go_enter Tryz.func73,Tryz.ntmps73
  go_wp2
  go_ret2
  rw [HE.out]
  exact ⟨((Kept.refl _ w).alloc _).alloc _,rfl,trivial⟩
end Go.Proofs.YtgfgpjcnfnopnaaGreat
