/- The contract of term.walk at terms, for every visit. -/
import Derived.Test.YtgfgpjcnfnopnaaGreatOF
namespace Go.Proofs.YtgfgpjcnfnopnaaGreat
open Go.RowKit Go.Sort
def ShapeT (v:Value):Prop:=∃(v0 v1:Int) (v2:Bool) (v3:ByteArray) (l1:Option Addr) (l2 l3:Nat) (k1:Option Addr) (k2 k3:Nat),v=.agg #[.int .i64 v0,.int .i64 v1,.bool v2,.string v3,.slice l1 l2 l3,.slice k1 k2 k3]
def OutT {σ:Type}(I:σ→World→Prop) (B:Nat) (R:Except Int (σ×Tm)) (e:Ending) (w':World):Prop:=match R with
 | .error c=>c≠0∧∃v,ShapeT v∧e=.returned (.tuple #[v,.int .i64 c])
 | .ok (s',r)=>(∃v,e=.returned (.tuple #[v,.int .i64 0])∧TO w' B w'.heap.size v r)∧I s' w'
def OutV {σ:Type}(I:σ→World→Prop) (B k:Nat) (R:Except Int (σ×Tm)) (e:Ending) (w':World):Prop:=match R with
 | .error c=>c≠0∧∃v,ShapeT v∧e=.returned (.tuple #[v,.int .i64 c])
 | .ok (s',r)=>(∃v,e=.returned (.tuple #[v,.int .i64 0])∧Fresh w' B k v r∧(0<k→r.kids=[]))∧I s' w'
def VisitsT {σ:Type}(G:Tm→Prop) (P:Nat→Prop) (I:σ→World→Prop) (w0:World) (K:FuncId) (bs:Array Value) (visit:σ→Tm→Int→Int→Except Int (σ×Tm)):Prop :=
 ∀(s:σ) (t:Tm) (v:Value) (b p:Int) (w:World),G t→I s w→TV w0 v t→RowKit.Below w0.heap.size w0 w→0≤b→b≤p→p≤1000000→Calls Tryz.prog K (bs++#[v,.agg #[.int .i64 b,.int .i64 p]]) w fun e w'=>Kept P w w'∧OutV I w.heap.size t.kids.length (visit s t b p) e w'
theorem Kept.imp {P Q:Nat→Prop}{a b:World}(h:Kept P a b) (hPQ:∀k,k<a.heap.size→P k→Q k):Kept Q a b:=⟨h.os,h.tape,h.output,h.size,fun k hk hq=>h.block k hk (fun hp=>hq (hPQ k hk hp))⟩
theorem Kept.old {P Q:Nat→Prop}{a b c:World}(h:Kept P a b) (k:Kept Q b c) (hQ:∀i,i<a.heap.size→Q i→P i):Kept P a c :=
 ⟨k.os.trans h.os,k.tape.trans h.tape,k.output.trans h.output,Nat.le_trans h.size k.size,fun i hi hp=>(k.block i (Nat.lt_of_lt_of_le hi h.size) (fun hq=>hp (hQ i hi hq))).trans (h.block i hi hp)⟩
theorem set6 {w:World}{b:Nat}{u0 u1 u2 u3 u4 u5 a0 a1 a2 a3 a4 a5:Value}{t:TypeId}(h:w.heap[b]?=some (.cells #[u0,u1,u2,u3,u4,u5] t (0,0))):((((((w.setCell ⟨b,0,none⟩ a0).setCell ⟨b,1,none⟩ a1).setCell ⟨b,2,none⟩ a2).setCell ⟨b,3,none⟩ a3).setCell ⟨b,4,none⟩ a4).setCell ⟨b,5,none⟩ a5).heap[b]?=some (.cells #[a0,a1,a2,a3,a4,a5] t (0,0)):=by
 have st:∀(w:World) (cs:Array Value) (o:Nat) (x:Value),w.heap[b]?=some (.cells cs t (0,0))→(w.setCell ⟨b,o,none⟩ x).heap[b]?=some (.cells (cs.setIfInBounds o x) t (0,0)):=fun w cs o x h=>by
  rw [setCell_eq];show (w.heap.modify b _)[b]?=_
  rw [Array.getElem?_modify,if_pos rfl,h];rfl
 exact st _ _ 5 _ (st _ _ 4 _ (st _ _ 3 _ (st _ _ 2 _ (st _ _ 1 _ (st _ _ 0 _ h)))))
theorem keep6 {P:Nat→Prop}{w:World}{b:Nat}{a0 a1 a2 a3 a4 a5:Value}(hb:P b):Kept P w ((((((w.setCell ⟨b,0,none⟩ a0).setCell ⟨b,1,none⟩ a1).setCell ⟨b,2,none⟩ a2).setCell ⟨b,3,none⟩ a3).setCell ⟨b,4,none⟩ a4).setCell ⟨b,5,none⟩ a5) :=
 ((((((Kept.refl P w).setCell (p:=⟨b,0,none⟩) hb _).setCell (p:=⟨b,1,none⟩) hb _).setCell (p:=⟨b,2,none⟩) hb _).setCell (p:=⟨b,3,none⟩) hb _).setCell (p:=⟨b,4,none⟩) hb _).setCell (p:=⟨b,5,none⟩) hb _
theorem size6 {w:World}{b:Nat}{a0 a1 a2 a3 a4 a5:Value}:((((((w.setCell ⟨b,0,none⟩ a0).setCell ⟨b,1,none⟩ a1).setCell ⟨b,2,none⟩ a2).setCell ⟨b,3,none⟩ a3).setCell ⟨b,4,none⟩ a4).setCell ⟨b,5,none⟩ a5).heap.size=w.heap.size:=by simp [World.setCell]
theorem add_kids (r k:Tm):(r.add k).kids.length=r.kids.length+1:=by cases r;simp [Tm.add,Tm.kids]
def PartT (w:World) (B N g k:Nat) (v:Value) (r:Tm) (j:Nat):Prop:=(k=0∧TO w B N v r)∨(0<k∧RO w B N w.heap.size g k v r∧r.kids.length=j∧g<N)
theorem PartT.shape {w:World}{B N g k j:Nat}{v:Value}{r:Tm}(h:PartT w B N g k v r j):ShapeT v:=by
 rcases h with ⟨-,h⟩ | ⟨-,h,-⟩
 ·exact h.shapeE
 ·exact h.to.shapeE
theorem PartT.on {w w':World}{B N g k j:Nat}{v:Value}{r:Tm}(h:PartT w B N g k v r j) (hN:N≤w.heap.size) (hs:w.heap.size≤w'.heap.size) (hag:∀i,B≤i→i<w.heap.size→i≠N→w'.heap[i]?=w.heap[i]?):PartT w' B N g k v r j:=by
 rcases h with ⟨h1,h⟩ | ⟨h1,h,h2⟩
 ·exact Or.inl ⟨h1,h.on (fun i h1 h2=>hag i h1 (by omega) (by omega))⟩
 ·exact Or.inr ⟨h1,(h.on hag).mono (Nat.le_refl _) hs,h2⟩
theorem PartT.to {w:World}{B N g k j:Nat}{v:Value}{r:Tm}(h:PartT w B N g k v r j) (hN:N≤w.heap.size):TO w B w.heap.size v r:=by
 rcases h with ⟨-,h⟩ | ⟨-,h,-⟩
 ·exact h.mono (Nat.le_refl _) hN
 ·exact h.to
theorem Fresh.part {w w':World}{B k:Nat}{v:Value}{r:Tm}(h:Fresh w B k v r) (hr:0<k→r.kids=[]) (hs:w.heap.size<w'.heap.size) (hag:∀i,B≤i→i<w.heap.size→w'.heap[i]?=w.heap[i]?):∃g,(0<k→B≤g∧g<w.heap.size)∧PartT w' B w.heap.size g k v r 0:=by
 rcases h with ⟨h1,h⟩ | ⟨h1,g,hB,hg,h⟩
 ·exact ⟨0,fun h=>by omega,Or.inl ⟨h1,h.on (fun i a b=>hag i a b)⟩⟩
 ·refine ⟨g,fun _=>⟨hB,hg⟩,Or.inr ⟨h1,?_,by rw [hr h1];rfl,hg⟩⟩
  have h2:=h w.heap.size w'.heap.size hg hs
  obtain ⟨f,n,hh,nm,ls,ks,lv,m,bd,kvs,rfl,rfl,hl,hBm,hmg,hgN,hNb,hbd,hE,hrow,hkc,hkm,cells,kids⟩:=h2
  have hk:ks=[]:=hr h1
  subst hk
  have hag1:Agree B w.heap.size w w':=fun i a b=>hag i a b
  exact ⟨f,n,hh,nm,ls,[],lv,m,bd,kvs,rfl,rfl,hl.on (hag1.mono (Nat.le_refl _) (by omega)),hBm,hmg,hgN,hNb,hbd,hE,hrow.on hag1 (by omega) (by omega),hkc,hkm,fun i hi=>by simp at hi,fun i t hi=>by simp at hi⟩
set_option maxRecDepth 100000 in
set_option maxHeartbeats 8000000 in
theorem walkT_any {σ:Type}{G:Tm→Prop}{P:Nat→Prop}{I:σ→World→Prop}{w0:World}{K:FuncId}{bs:Array Value}{visit:σ→Tm→Int→Int→Except Int (σ×Tm)}
  (hG:∀f n hd nm ls ks,G (.mk f n hd nm ls ks)→∀k∈ks,G k) (hP0:∀k,P k→w0.heap.size≤k) (hPI:∀s w k,I s w→P k→k<w.heap.size) (hI:∀s a b M,I s a→w0.heap.size≤M→(∀k,P k→k<M)→Kept (fun k=>M≤k) a b→I s b) (hKc:∀(xs:Array Value) (w:World),Sem.run Tryz.prog (callFunc K xs) w=.ok (.enter K xs) w) (hV:VisitsT G P I w0 K bs visit) (t:Tm) :
  ∀(s:σ) (v:Value) (b p:Int) (w:World),G t→I s w→TV w0 v t→RowKit.Below w0.heap.size w0 w→0≤b→b≤p→p≤100000→((∀s t b p,100000≤p→∃c,visit s t b p=.error c)∨p+heightT t≤100000)→Calls Tryz.prog 69 #[v,.agg #[.int .i64 b,.int .i64 p],.func (.func K) bs #[],.func (.func 71) #[] #[]] w fun e w'=>Kept P w w'∧OutT I w.heap.size (walkF visit Tm.add t s b p) e w':=by
 refine Tm.ind (P:=fun t=>∀(s:σ) (v:Value) (b p:Int) (w:World),G t→I s w→TV w0 v t→RowKit.Below w0.heap.size w0 w→0≤b→b≤p→p≤100000→((∀s t b p,100000≤p→∃c,visit s t b p=.error c)∨p+heightT t≤100000)→Calls Tryz.prog 69 #[v,.agg #[.int .i64 b,.int .i64 p],.func (.func K) bs #[],.func (.func 71) #[] #[]] w fun e w'=>Kept P w w'∧OutT I w.heap.size (walkF visit Tm.add t s b p) e w') ?_ t
 intro f n hd nm ls ks ih s v b p w hg hIs hv hB hb0 hbp hp hstop
 have HTV:=Hid.mk hv
 cases hv with
 | @mk _ _ _ _ _ _ la lc ka kc kb ko hl hln hlc hlm hkn hkc hkm hk kids =>
  have HK:=Hid.mk hk
  have HKIDS:=Hid.mk kids
  have HIH:=Hid.mk ih
  have HB:=Hid.mk hB
  have HBS:Hid (w0.heap.size≤w.heap.size):=hB.size
  have HPW:Hid (∀k,P k→k<w.heap.size):=fun k hp=>hPI s w k hIs hp
  have HIM:Hid (∀s a b,I s a→Kept (fun k=>w.heap.size≤k) a b→I s b):=fun s a b h1 h2=>hI s a b w.heap.size h1 HBS.out HPW.out h2
  clear hk kids ih hl hB
  obtain ⟨W0,hW0⟩:∃W0,((w.alloc (.cells #[.int .i64 f,.int .i64 n,.bool hd,.string nm,.slice la ls.length lc,.slice ka ks.length kc] 36)).alloc (.cells #[.int .i64 b,.int .i64 p] 120)).alloc (.cells #[.int .i64 0,.int .i64 0,.bool false,.string { data:=#[] },.slice none 0 0,.slice none 0 0] 36)=W0:=⟨_,rfl⟩
  have HG0:Hid (Grew w W0):=by unfold Hid;rw [←hW0];exact (((Grew.refl w).alloc _).alloc _).alloc _
  have HX0:Hid (W0.heap[w.heap.size]?=some (.cells #[.int .i64 f,.int .i64 n,.bool hd,.string nm,.slice la ls.length lc,.slice ka ks.length kc] 36 (0,0))):=by unfold Hid;rw [←hW0];exact alloc_old box_at _
  have HY0:Hid (W0.heap[w.heap.size+1]?=some (.cells #[.int .i64 b,.int .i64 p] 120 (0,0))):=by unfold Hid;rw [←hW0];exact on1
  have HZ0:Hid (W0.heap[w.heap.size+1+1]?=some (.cells #[.int .i64 0,.int .i64 0,.bool false,.string { data:=#[] },.slice none 0 0,.slice none 0 0] 36 (0,0))):=by unfold Hid;rw [←hW0];exact on2
  have HSZ:Hid (W0.heap.size=w.heap.size+1+1+1):=by unfold Hid;rw [←hW0];exact sz3
  have HI0:Hid (I s W0):=HIM.out _ _ _ hIs (Kept.of_grew HG0.out)
  have HCV:=hV s _ _ b p W0 hg HI0.out HTV.out (HB.out.trans (HG0.out.below.mono HB.out.size)) hb0 hbp (by omega)
  have HW0:=Hid.mk hW0
  clear hW0
  have HGK:Hid (∀k∈ks,G k):=hG _ _ _ _ _ _ hg
  have HP0:=Hid.mk hP0
  have HST:Hid (100000≤p→∃c,visit s (.mk f n hd nm ls ks) b p=.error c):=fun h=>by
   rcases hstop with h1 | h1
   ·exact h1 _ _ _ _ h
   ·rw [heightT_mk] at h1;omega
  have HSTK:Hid (∀k∈ks,(∀s t b p,100000≤p→∃c,visit s t b p=.error c)∨p+1+heightT k≤100000):=fun k hk=>by
   rcases hstop with h1 | h1
   ·exact Or.inl h1
   ·right
    rw [heightT_mk] at h1
    have:=high_kid hk
    omega
  clear hI hPI hP0 hV hstop hIs HTV hG hg
  have HWF:=Hid.mk (walkF_mk visit Tm.add f n hd nm ls ks s b p)
  generalize walkF visit Tm.add (.mk f n hd nm ls ks) s b p=R at HWF ⊢
  obtain ⟨V,hVv⟩:∃V,visit s (.mk f n hd nm ls ks) b p=V:=⟨_,rfl⟩
  rw [hVv] at HWF HCV HST
  clear hVv
  have HNP:Hid (∀k,w.heap.size≤k→¬P k):=fun k hk hp=>by have:=HPW.out k hp;omega
  have hzz:W0.heap.size=w.heap.size+1+1+1:=HSZ.out
  cases V with
  | error c =>
   have hR:R=.error c:=HWF.out
   subst hR
   clear HWF hzz
   go_enter Tryz.func69,Tryz.ntmps69
   go_wp2_with fail
   rw [HW0.out]
   refine HCV.mono ?_
   rintro e w1 ⟨hk1,hc,v1,⟨z0,z1,z2,z3,z4,z5,z6,z7,z8,z9,rfl⟩,rfl⟩
   have hcb:(c != 0)=true:=by simpa using hc
   have hz1:w.heap.size+1+1<w1.heap.size:=by have:=hk1.size;have:=HSZ.out;omega
   have hr:=(hk1.block (w.heap.size+1+1) (by have:=HSZ.out;omega) (HNP.out _ (by omega))).trans HZ0.out
   obtain ⟨y0,y1,y2,y3,y4,y5,y6⟩:=cells6 hr
   have fr:=frz hr
   have HK1:Hid (Kept P w w1):=(Kept.of_grew HG0.out).trans hk1
   clear hr hk1
   go_wp2
   refine bodyPost_ret (v:=.tuple #[.agg #[.int .i64 z0,.int .i64 z1,.bool z2,.string z3,.slice z4 z5 z6,.slice z7 z8 z9],.int .i64 c]) (by simp [results,Tryz.results69,go_sem,y0,y1,y2,y3,y4,y5,hz1]) rfl ⟨?_,hc,_,⟨z0,z1,z2,z3,z4,z5,z6,z7,z8,z9,rfl⟩,rfl⟩
   exact (HK1.out.old (Q:=fun k=>k=w.heap.size+1+1) (keep6 rfl) (fun i h1 h2=>by omega)).alloc _
  | ok q =>
   obtain ⟨s1,r1⟩:=q
   have HWF:Hid (R=walkL visit Tm.add f ks 0 s1 r1 b p):=HWF.out
   clear hzz
   go_enter Tryz.func69,Tryz.ntmps69
   go_wp2_with fail
   rw [HW0.out]
   refine HCV.mono ?_
   rintro e w1 ⟨hk1,⟨v1,rfl,hfr,hrk⟩,hI1⟩
   have hz1:w.heap.size+1+1<w1.heap.size:=by have:=hk1.size;have:=HSZ.out;omega
   have hz1':W0.heap.size≤w1.heap.size:=hk1.size
   obtain ⟨g,hgB,hpt⟩:=hfr.part (w':=w1.alloc (.cells v1.cells 36)) hrk (by simp) (fun i _ h2=>Below.heap_alloc _ _ _ h2)
   obtain ⟨z0,z1,z2,z3,z4,z5,z6,z7,z8,z9,rfl⟩:=hpt.shape
   simp only [Value.cells] at hpt
   have HN:Hid (w1.heap.size=w1.heap.size):=rfl
   have HGB:=Hid.mk hgB
   have HPT0:=Hid.mk hpt
   have HK1:=Hid.mk hk1
   have HI1:=Hid.mk hI1
   clear hpt hgB hfr hrk hk1 hI1 HCV
   obtain ⟨x0,x1,x2,x3,x4,x5,x6⟩:=cells6 ((HK1.out.block w.heap.size (by have:=HSZ.out;omega) (HNP.out _ (Nat.le_refl _))).trans HX0.out)
   have hzb:w.heap.size<w1.heap.size:=by omega
   have HCUT:=cut_any f n hd nm (.slice la ls.length lc) ks.length kc ka (w1.alloc (.cells #[.int .i64 z0,.int .i64 z1,.bool z2,.string z3,.slice z4 z5 z6,.slice z7 z8 z9] 36)) hkn hkc hkm
   go_wp2_with fail
   refine HCUT.mono ?_
   rintro e w2 ⟨a2,rfl,ha2,hb2⟩
   have i0:=ix0
   have i1:=ix1
   have HA2:=Hid.mk ha2
   have HLEN:Hid (cutN f ks.length≤ks.length):=by unfold Hid cutN;split<;>omega
   obtain ⟨c,hc⟩:∃c,cutN f ks.length=c:=⟨_,rfl⟩
   rw [hc] at HA2 HLEN ⊢
   have HCN:Hid (cutN f ks.length=c):=hc
   have hp1:p<100000:=by
    rcases Int.lt_or_le p 100000 with h | h
    ·exact h
    ·obtain ⟨c',hc'⟩:=HST.out h;cases hc'
   have HZ2:Hid (w1.heap.size+1≤w2.heap.size):=by have:=hb2.size;unfold Hid;simpa using this
   have HK2:Hid (Kept P W0 w2):=(HK1.out.alloc _).trans (Kept.of_below hb2)
   have HI2:Hid (I s1 w2):=HIM.out _ _ _ HI1.out (((Kept.refl _ w1).alloc _).trans (Kept.of_below hb2))
   have HOB:Hid (w2.heap[w1.heap.size]?=some (.cells #[.int .i64 z0,.int .i64 z1,.bool z2,.string z3,.slice z4 z5 z6,.slice z7 z8 z9] 36 (0,0))):=by unfold Hid;exact (hb2.block w1.heap.size (by simp)).trans (alloc_new _ _)
   have HPT:Hid (PartT w2 W0.heap.size w1.heap.size g ks.length (.agg #[.int .i64 z0,.int .i64 z1,.bool z2,.string z3,.slice z4 z5 z6,.slice z7 z8 z9]) r1 0):=by
    unfold Hid
    exact HPT0.out.on (by simp) hb2.size (fun i _ h2 _=>hb2.block i h2)
   have HWL0:Hid (walkL visit Tm.add f (ks.take (0+0)) 0 s1 r1 b p=.ok (s1,r1)):=by unfold Hid;simp [walkL]
   have hcl:c≤ks.length:=HLEN.out
   have hz2:W0.heap.size≤w2.heap.size:=HK2.out.size
   have HNG:Hid (W0.heap.size≤w1.heap.size):=by unfold Hid;exact hz1'
   have hN2:w1.heap.size<w2.heap.size:=by have:=HZ2.out;have:=HN.out;omega
   clear hc hb2 ha2 x0 x1 x2 x3 x4 x5 HCUT HPT0 hzb hz1'
   have hsz0:W0.heap.size=w.heap.size+1+1+1:=HSZ.out
   obtain ⟨y0,y1,-,-,-⟩:=cells2 ((HK2.out.block (w.heap.size+1) (by omega) (HNP.out _ (by omega))).trans HY0.out)
   have hw2':w.heap.size+1<w2.heap.size:=by omega
   clear hsz0
   go_wp2_with fail
   refine wp_loop_rounds 3 ?_
   rw [rounds_succ]
   have HKP0:=HK2
   have HIP0:=HI2
   have HOB0:=HOB
   have HPT0:=HPT
   have hN0:=hN2
   clear HK2 HI2 HOB HPT
   go_wp2_with fail
   obtain ⟨W03,hW3⟩:∃W,w2.alloc (.cells #[.int .i64 b,.int .i64 (p+1)] 120)=W:=⟨_,rfl⟩
   have HBOX0:Hid (W03.heap[w2.heap.size]?=some (.cells #[.int .i64 b,.int .i64 (p+1)] 120 (0,0))):=by unfold Hid;rw [←hW3];exact alloc_new _ _
   have hlt0:w2.heap.size<W03.heap.size:=by rw [←hW3];simp
   have HK3:Hid (Kept P W0 W03):=by unfold Hid;rw [←hW3];exact HKP0.out.alloc _
   have HI3:Hid (I s1 W03):=by unfold Hid;rw [←hW3];exact HIM.out _ _ _ HIP0.out ((Kept.refl _ _).alloc _)
   have HO3:Hid (W03.heap[w1.heap.size]?=some (.cells #[.int .i64 z0,.int .i64 z1,.bool z2,.string z3,.slice z4 z5 z6,.slice z7 z8 z9] 36 (0,0))):=by unfold Hid;rw [←hW3];exact alloc_old HOB0.out _
   have HP3:Hid (PartT W03 W0.heap.size w1.heap.size g ks.length (.agg #[.int .i64 z0,.int .i64 z1,.bool z2,.string z3,.slice z4 z5 z6,.slice z7 z8 z9]) r1 0):=by
    unfold Hid;rw [←hW3];exact HPT0.out.on (Nat.le_of_lt hN0) (by simp) (fun i _ h2 _=>Below.heap_alloc _ _ _ h2)
   have hN03:w1.heap.size<W03.heap.size:=by rw [←hW3];simp;omega
   have HW3:=Hid.mk hW3
   clear hW3
   rw [HW3.out]
   clear y0 y1 HW3
   go_loopw [46] (fun i wr=>∃(j:Nat) (s':σ) (r':Tm) (o0 o1:Int) (o2:Bool) (o3:ByteArray) (o4:Option Addr) (o5 o6:Nat) (o7:Option Addr) (o8 o9:Nat),j≤c∧i=.int .i64 j∧walkL visit Tm.add f (ks.take (0+j)) 0 s1 r1 b p=.ok (s',r')∧Kept (fun k=>P k∨k=w1.heap.size∨(k=g∧0<ks.length)) W03 wr∧I s' wr∧wr.heap[w1.heap.size]?=some (.cells #[.int .i64 o0,.int .i64 o1,.bool o2,.string o3,.slice o4 o5 o6,.slice o7 o8 o9] 36 (0,0))∧PartT wr W0.heap.size w1.heap.size g ks.length (.agg #[.int .i64 o0,.int .i64 o1,.bool o2,.string o3,.slice o4 o5 o6,.slice o7 o8 o9]) r' (0+j)) (fun i _=>c - (intOf i).toNat)
   case atStart=>exact ⟨0,s1,r1,z0,z1,z2,z3,z4,z5,z6,z7,z8,z9,Nat.zero_le _,rfl,HWL0.out,Kept.refl _ _,HI3.out,HO3.out,HP3.out⟩
   case round =>
    obtain ⟨j,s',r',o0,o1,o2,o3,o4,o5,o6,o7,o8,o9,hj,rfl,hwl,hkr,hir,hor,hpr⟩:=hrel
    have HWR:=Hid.mk hwl
    have HKR:=Hid.mk hkr
    have HIR:=Hid.mk hir
    have HOR:=Hid.mk hor
    have HPR:=Hid.mk hpr
    have hzr:=hkr.size
    have hz3:=HK3.out.size
    have hNr:w1.heap.size<wr.heap.size:=by omega
    clear hwl hkr hir hpr
    have HKW:Hid (Kept P W0 wr):=HK3.out.old HKR.out (fun i h1 h2=>by
     have:=HNG.out
     rcases h2 with h2 | h2 | ⟨h2,h3⟩
     ·exact h2
     ·omega
     ·have:=HGB.out h3;omega)
    have HZR:Hid (wr.heap[w.heap.size+1+1]?=some (.cells #[.int .i64 0,.int .i64 0,.bool false,.string { data:=#[] },.slice none 0 0,.slice none 0 0] 36 (0,0))):=(HKW.out.block (w.heap.size+1+1) (by have:=HSZ.out;omega) (HNP.out _ (by omega))).trans HZ0.out
    have HNEB:Hid (w2.heap.size≠w1.heap.size∧¬P w2.heap.size∧(w2.heap.size=g→¬0<ks.length)):=⟨by omega,HNP.out _ (by have:=HSZ.out;omega),fun e h=>by have:=HGB.out h;have:=HN.out;omega⟩
    obtain ⟨z0',z1',-,-,z4'⟩:=cells2 ((HKR.out.block w2.heap.size hlt0 (fun h=>by
     rcases h with h | h | ⟨h,h3⟩
     ·exact HNEB.out.2.1 h
     ·exact HNEB.out.1 h
     ·exact HNEB.out.2.2 h h3)).trans HBOX0.out)
    by_cases hlt:j<c
    ·have hjl:0+j<ks.length:=by have:=HLEN.out;omega
     have hkt:ks[0+j]?=some ks[0+j]:=List.getElem?_eq_getElem hjl
     obtain ⟨hka,hkb⟩:=HK.out (by intro e;rw [e] at hjl;simp at hjl)
     obtain ⟨o,ho⟩:∃o,ko=o:=⟨_,rfl⟩
     rw [ho] at hka
     rw [hka]
     have hB:RowKit.Below w0.heap.size w0 wr:=HB.out.trans ((HG0.out.below.mono HB.out.size).trans (HKW.out.below (Nat.le_trans HB.out.size HG0.out.below.size) HP0.out))
     have htc0:=HKIDS.out (0+j) _ hkt
     rw [show ko+(0+j)*6=o+j*6 by omega] at htc0
     obtain ⟨v0,v1,v2,v3,l1,l2,l3,k1,k2,k3,c0,c1,c2,c3,c4,c5,hv⟩:=htc0.valE
     have hmem:ks[0+j]∈ks:=List.getElem_mem hjl
     have hdeep:deepC f b (0+j)=b:=by
      have:=HCN.out
      unfold cutN at this
      unfold deepC
      cases hbf:bindsB f<;>simp only [hbf] at this<;>simp<;>simp at this<;>omega
     have HCALL:=HIH.out ks[0+j] hmem s' _ (deepC f b (0+j)) (p+1) (wr.alloc (.cells #[.int .i64 v0,.int .i64 v1,.bool v2,.string v3,.slice l1 l2 l3,.slice k1 k2 k3] 36)) (HGK.out _ hmem) (HIM.out _ _ _ HIR.out ((Kept.refl _ _).alloc _)) hv (hB.alloc hB.size _) (by rw [hdeep];omega) (by rw [hdeep];omega) (by omega) (HSTK.out _ hmem)
     have HTAKE:=Hid.mk (walkL_take hkt HWR.out)
     have HBAD:=Hid.mk (fun e (h:walkF visit Tm.add ks[0+j] s' (deepC f b (0+j)) (p+1)=.error e)=>walkL_bad hkt HWR.out h)
     rw [hdeep] at HCALL HTAKE HBAD
     have d0:=(hB.cell (p:=⟨kb,o+j*6,none⟩) hkb).trans c0
     have d1:=(hB.cell (p:=⟨kb,o+j*6+1,none⟩) hkb).trans c1
     have d2:=(hB.cell (p:=⟨kb,o+j*6+2,none⟩) hkb).trans c2
     have d3:=(hB.cell (p:=⟨kb,o+j*6+3,none⟩) hkb).trans c3
     have d4:=(hB.cell (p:=⟨kb,o+j*6+4,none⟩) hkb).trans c4
     have d5:=(hB.cell (p:=⟨kb,o+j*6+5,none⟩) hkb).trans c5
     have hkr:kb<wr.heap.size:=Nat.lt_of_lt_of_le hkb hB.size
     have zj:(j:Int)<((c:Nat):Int):=by omega
     clear c0 c1 c2 c3 c4 c5 hv hmem hkt htc0 hdeep ho hka hor
     generalize walkF visit Tm.add ks[0+j] s' b (p+1)=F at HCALL HTAKE HBAD
     cases F with
     | error c' =>
      have HE:Hid (R=.error c'):=by unfold Hid;rw [HWF.out];exact HBAD.out c' rfl
      go_wp2_with fail
      refine HCALL.mono ?_
      rintro e w5 ⟨hk5,hc5,v5,⟨q0,q1,q2,q3,q4,q5,q6,q7,q8,q9,rfl⟩,rfl⟩
      have hcb:(c' != 0)=true:=by simpa using hc5
      have hz5:wr.heap.size<w5.heap.size:=by have:=hk5.size;simp at this;omega
      have hz6:w.heap.size+1+1<w5.heap.size:=by have:=HSZ.out;have:=HKW.out.size;omega
      have hr5:w5.heap[w.heap.size+1+1]?=_:=(hk5.block (w.heap.size+1+1) (by have:=HSZ.out;simp;omega) (HNP.out _ (by omega))).trans (alloc_old HZR.out _)
      have ho5:w5.heap[w1.heap.size]?=_:=(hk5.block w1.heap.size (by simp;omega) (HNP.out _ (by have:=HNG.out;have:=HSZ.out;omega))).trans (alloc_old HOR.out _)
      obtain ⟨y0,y1,y2,y3,y4,y5,y6⟩:=cells6 hr5
      have fr:=frz hr5
      obtain ⟨x0,x1,x2,x3,x4,x5,x6⟩:=cells6 ho5
      have HK5:Hid (Kept P w w5):=(Kept.of_grew HG0.out).trans (HKW.out.trans (((Kept.refl _ _).alloc _).trans hk5))
      clear hr5 ho5 hk5
      go_wp2
      refine bodyPost_ret (v:=.tuple #[.agg #[.int .i64 o0,.int .i64 o1,.bool o2,.string o3,.slice o4 o5 o6,.slice o7 o8 o9],.int .i64 c']) (by simp [results,Tryz.results69,go_sem,y0,y1,y2,y3,y4,y5,hz6]) rfl ⟨?_,?_⟩
      ·exact (HK5.out.old (Q:=fun k=>k=w.heap.size+1+1) (keep6 rfl) (fun i h1 h2=>by omega)).alloc _
      ·rw [HE.out]
       exact ⟨hc5,_,⟨o0,o1,o2,o3,o4,o5,o6,o7,o8,o9,rfl⟩,rfl⟩
     | ok q =>
      obtain ⟨s2,r2⟩:=q
      have HTAKE:Hid (walkL visit Tm.add f (ks.take (0+j+1)) 0 s1 r1 b p=.ok (s2,r'.add r2)):=HTAKE.out
      go_wp2_with fail
      refine HCALL.mono ?_
      rintro e w5 ⟨hk5,⟨v5,rfl,hto5⟩,hI5⟩
      obtain ⟨q0,q1,q2,q3,q4,q5,q6,q7,q8,q9,rfl⟩:=hto5.shapeE
      have hz5:wr.heap.size<w5.heap.size:=by have:=hk5.size;simp at this;omega
      have ho5:w5.heap[w1.heap.size]?=_:=(hk5.block w1.heap.size (by simp;omega) (HNP.out _ (by have:=HNG.out;have:=HSZ.out;omega))).trans (alloc_old HOR.out _)
      obtain ⟨x0,x1,x2,x3,x4,x5,x6⟩:=cells6 ho5
      have HO5:=Hid.mk ho5
      have HTO5:=Hid.mk hto5
      have HI5:=Hid.mk hI5
      have HK5:=Hid.mk hk5
      have hpos:0<ks.length:=by omega
      obtain ⟨hro,hkl,hgN⟩:RO wr W0.heap.size w1.heap.size wr.heap.size g ks.length (.agg #[.int .i64 o0,.int .i64 o1,.bool o2,.string o3,.slice o4 o5 o6,.slice o7 o8 o9]) r'∧r'.kids.length=0+j∧g<w1.heap.size:=by
       rcases HPR.out with ⟨h,-⟩ | ⟨-,h⟩
       ·omega
       ·exact h
      have HRO5:Hid (RO w5 W0.heap.size w1.heap.size wr.heap.size g ks.length (.agg #[.int .i64 o0,.int .i64 o1,.bool o2,.string o3,.slice o4 o5 o6,.slice o7 o8 o9]) r'):=hro.on (fun k h1 h2 _=>(hk5.block k (by simp;omega) (HNP.out _ (by have:=HSZ.out;omega))).trans (Below.heap_alloc _ _ _ h2))
      have HWK:=withKid_any (w5.alloc (.cells #[.int .i64 q0,.int .i64 q1,.bool q2,.string q3,.slice q4 q5 q6,.slice q7 q8 q9] 36)) (HRO5.out.on (fun k h1 h2 _=>Below.heap_alloc _ _ _ (by omega))) (hto5.on (fun k h1 h2=>Below.heap_alloc _ _ _ h2)) (by simp) (by simp) (by rw [hkl];omega)
      have HKL:Hid (r'.kids.length=0+j):=hkl
      clear ho5 hto5 hI5 hk5 hro HCALL hkl
      go_wp2_with fail
      refine HWK.mono ?_
      rintro e w7 ⟨v7,rfl,hro7,hk7⟩
      obtain ⟨u0,u1,u2,u3,u4,u5,u6,rfl⟩:=hro7.shapeE
      have ho7:w7.heap[w1.heap.size]?=_:=(hk7.block w1.heap.size (by simp;omega) (by omega)).trans (alloc_old HO5.out _)
      have hz7:w5.heap.size<w7.heap.size:=by have:=hk7.size;simp at this;omega
      clear x0 x1 x2 x3 x4 x5 x6
      obtain ⟨x0,x1,x2,x3,x4,x5,x6⟩:=cells6 ho7
      have fo:=frz ho7
      have HO7:=Hid.mk ho7
      have HRO7:=Hid.mk hro7
      have HK7:=Hid.mk hk7
      have HAD:Hid ((r'.add r2).kids.length=r'.kids.length+1):=add_kids r' r2
      generalize (r'.add r2).kids.length=kl at *
      clear ho7 hro7 hk7 HWK
      go_wp2
      refine ⟨⟨j+1,s2,r'.add r2,u0,u1,u2,u3,u4,u5,u6,some ⟨g,0,none⟩,kl,ks.length,hlt,by go_num,HTAKE.out,?_,?_,set6 HO7.out,Or.inr ⟨hpos,?_,?_,hgN⟩⟩,by simp [intOf];omega⟩
      ·refine HKR.out.trans (((Kept.refl _ wr).alloc _).trans ((HK5.out.imp (fun k _ h=>Or.inl h)).trans (((Kept.refl _ w5).alloc _).trans ((HK7.out.imp (fun k _ h=>Or.inr (Or.inr ⟨h,hpos⟩))).trans (keep6 (Or.inr (Or.inl rfl)))))))
      ·refine HIM.out _ _ _ HI5.out (((Kept.refl _ w5).alloc _).trans ((HK7.out.imp (fun k _ h=>?_)).trans (keep6 ?_)))
       ·have:=HGB.out hpos;have:=HSZ.out;omega
       ·have:=HNG.out;have:=HSZ.out;omega
      ·refine (HRO7.out.on (fun k h1 h2 hn=>(keep6 (P:=fun k=>k=w1.heap.size) rfl).block k (by omega) hn)).mono (Nat.le_refl _) ?_
       rw [size6];omega
      ·have h1:=HAD.out
       have h2:=HKL.out
       rw [add_kids];omega
    ·have HJ:Hid (j=c):=by unfold Hid;omega
     obtain ⟨W4,hW4⟩:∃W,W=wr:=⟨_,rfl⟩
     subst hW4
     have HKP1:=HKW
     have HIP1:=HIR
     have HOB1:=HOR
     have HPT1:Hid (PartT W4 W0.heap.size w1.heap.size g ks.length (.agg #[.int .i64 o0,.int .i64 o1,.bool o2,.string o3,.slice o4 o5 o6,.slice o7 o8 o9]) r' c):=by
      have h1:=HPR.out
      rw [HJ.out,Nat.zero_add] at h1
      exact h1
     have hN1:=hNr
     have HWL1:Hid (walkL visit Tm.add f (ks.take (c+0)) 0 s1 r1 b p=.ok (s',r')):=by unfold Hid;have:=HWR.out;rw [HJ.out] at this;rwa [Nat.zero_add] at this
     have hz4:W0.heap.size≤W4.heap.size:=HKW.out.size
     obtain ⟨y0,y1,-,-,-⟩:=cells2 ((HKW.out.block (w.heap.size+1) (by have:=HSZ.out;omega) (HNP.out _ (by omega))).trans HY0.out)
     have hw4':w.heap.size+1<W4.heap.size:=by have:=HSZ.out;omega
     have zj:¬(j:Int)<(c:Int):=by have:=HJ.out;omega
     clear HKP0 HIP0 HOB0 HPT0 HWL0 HK3 HI3 HO3 HP3 HBOX0 hlt0 HNEB z0' z1' z4' hlt hzr hz3 HKR HIR HWR HJ hj HOR HPR HZR hor
     go_wp2
     rw [rounds_succ]
     go_wp2_with fail
     obtain ⟨W13,hW3⟩:∃W,W4.alloc (.cells #[.int .i64 (b+1),.int .i64 (p+1)] 120)=W:=⟨_,rfl⟩
     have HBOX1:Hid (W13.heap[W4.heap.size]?=some (.cells #[.int .i64 (b+1),.int .i64 (p+1)] 120 (0,0))):=by unfold Hid;rw [←hW3];exact alloc_new _ _
     have hlt1:W4.heap.size<W13.heap.size:=by rw [←hW3];simp
     have HK3:Hid (Kept P W0 W13):=by unfold Hid;rw [←hW3];exact HKP1.out.alloc _
     have HI3:Hid (I s' W13):=by unfold Hid;rw [←hW3];exact HIM.out _ _ _ HIP1.out ((Kept.refl _ _).alloc _)
     have HO3:Hid (W13.heap[w1.heap.size]?=some (.cells #[.int .i64 o0,.int .i64 o1,.bool o2,.string o3,.slice o4 o5 o6,.slice o7 o8 o9] 36 (0,0))):=by unfold Hid;rw [←hW3];exact alloc_old HOB1.out _
     have HP3:Hid (PartT W13 W0.heap.size w1.heap.size g ks.length (.agg #[.int .i64 o0,.int .i64 o1,.bool o2,.string o3,.slice o4 o5 o6,.slice o7 o8 o9]) r' c):=by
      unfold Hid;rw [←hW3];exact HPT1.out.on (Nat.le_of_lt hN1) (by simp) (fun i _ h2 _=>Below.heap_alloc _ _ _ h2)
     have hN13:w1.heap.size<W13.heap.size:=by rw [←hW3];simp;omega
     have HW3:=Hid.mk hW3
     clear hW3
     rw [HW3.out]
     clear y0 y1 HW3
     go_loopw [46] (fun i wr=>∃(j:Nat) (s':σ) (r':Tm) (o0 o1:Int) (o2:Bool) (o3:ByteArray) (o4:Option Addr) (o5 o6:Nat) (o7:Option Addr) (o8 o9:Nat),j≤(ks.length - c)∧i=.int .i64 j∧walkL visit Tm.add f (ks.take (c+j)) 0 s1 r1 b p=.ok (s',r')∧Kept (fun k=>P k∨k=w1.heap.size∨(k=g∧0<ks.length)) W13 wr∧I s' wr∧wr.heap[w1.heap.size]?=some (.cells #[.int .i64 o0,.int .i64 o1,.bool o2,.string o3,.slice o4 o5 o6,.slice o7 o8 o9] 36 (0,0))∧PartT wr W0.heap.size w1.heap.size g ks.length (.agg #[.int .i64 o0,.int .i64 o1,.bool o2,.string o3,.slice o4 o5 o6,.slice o7 o8 o9]) r' (c+j)) (fun i _=>(ks.length - c) - (intOf i).toNat)
     case atStart=>exact ⟨0,s',r',o0,o1,o2,o3,o4,o5,o6,o7,o8,o9,Nat.zero_le _,rfl,HWL1.out,Kept.refl _ _,HI3.out,HO3.out,HP3.out⟩
     case round =>
      obtain ⟨j,s',r',o0,o1,o2,o3,o4,o5,o6,o7,o8,o9,hj,rfl,hwl,hkr,hir,hor,hpr⟩:=hrel
      have HWR:=Hid.mk hwl
      have HKR:=Hid.mk hkr
      have HIR:=Hid.mk hir
      have HOR:=Hid.mk hor
      have HPR:=Hid.mk hpr
      have hzr:=hkr.size
      have hz3:=HK3.out.size
      have hNr:w1.heap.size<wr.heap.size:=by omega
      clear hwl hkr hir hpr
      have HKW:Hid (Kept P W0 wr):=HK3.out.old HKR.out (fun i h1 h2=>by
       have:=HNG.out
       rcases h2 with h2 | h2 | ⟨h2,h3⟩
       ·exact h2
       ·omega
       ·have:=HGB.out h3;omega)
      have HZR:Hid (wr.heap[w.heap.size+1+1]?=some (.cells #[.int .i64 0,.int .i64 0,.bool false,.string { data:=#[] },.slice none 0 0,.slice none 0 0] 36 (0,0))):=(HKW.out.block (w.heap.size+1+1) (by have:=HSZ.out;omega) (HNP.out _ (by omega))).trans HZ0.out
      have HNEB:Hid (W4.heap.size≠w1.heap.size∧¬P W4.heap.size∧(W4.heap.size=g→¬0<ks.length)):=⟨by omega,HNP.out _ (by have:=HSZ.out;omega),fun e h=>by have:=HGB.out h;have:=HN.out;omega⟩
      obtain ⟨z0',z1',-,-,z4'⟩:=cells2 ((HKR.out.block W4.heap.size hlt1 (fun h=>by
       rcases h with h | h | ⟨h,h3⟩
       ·exact HNEB.out.2.1 h
       ·exact HNEB.out.1 h
       ·exact HNEB.out.2.2 h h3)).trans HBOX1.out)
      by_cases hlt:j<(ks.length - c)
      ·have hjl:c+j<ks.length:=by have:=HLEN.out;omega
       have hkt:ks[c+j]?=some ks[c+j]:=List.getElem?_eq_getElem hjl
       obtain ⟨hka,hkb⟩:=HK.out (by intro e;rw [e] at hjl;simp at hjl)
       obtain ⟨o,ho⟩:∃o,ko+c*6=o:=⟨_,rfl⟩
       have hka2:a2=some ⟨kb,o,none⟩:=by rw [←ho];exact HA2.out kb ko hka (by omega)
       rw [hka2]
       clear hka2
       have hB:RowKit.Below w0.heap.size w0 wr:=HB.out.trans ((HG0.out.below.mono HB.out.size).trans (HKW.out.below (Nat.le_trans HB.out.size HG0.out.below.size) HP0.out))
       have htc0:=HKIDS.out (c+j) _ hkt
       rw [show ko+(c+j)*6=o+j*6 by omega] at htc0
       obtain ⟨v0,v1,v2,v3,l1,l2,l3,k1,k2,k3,c0,c1,c2,c3,c4,c5,hv⟩:=htc0.valE
       have hmem:ks[c+j]∈ks:=List.getElem_mem hjl
       have hdeep:deepC f b (c+j)=(b+1):=by
        have:=HCN.out
        unfold cutN at this
        unfold deepC
        cases hbf:bindsB f<;>simp only [hbf] at this<;>simp<;>simp at this<;>omega
       have HCALL:=HIH.out ks[c+j] hmem s' _ (deepC f b (c+j)) (p+1) (wr.alloc (.cells #[.int .i64 v0,.int .i64 v1,.bool v2,.string v3,.slice l1 l2 l3,.slice k1 k2 k3] 36)) (HGK.out _ hmem) (HIM.out _ _ _ HIR.out ((Kept.refl _ _).alloc _)) hv (hB.alloc hB.size _) (by rw [hdeep];omega) (by rw [hdeep];omega) (by omega) (HSTK.out _ hmem)
       have HTAKE:=Hid.mk (walkL_take hkt HWR.out)
       have HBAD:=Hid.mk (fun e (h:walkF visit Tm.add ks[c+j] s' (deepC f b (c+j)) (p+1)=.error e)=>walkL_bad hkt HWR.out h)
       rw [hdeep] at HCALL HTAKE HBAD
       have d0:=(hB.cell (p:=⟨kb,o+j*6,none⟩) hkb).trans c0
       have d1:=(hB.cell (p:=⟨kb,o+j*6+1,none⟩) hkb).trans c1
       have d2:=(hB.cell (p:=⟨kb,o+j*6+2,none⟩) hkb).trans c2
       have d3:=(hB.cell (p:=⟨kb,o+j*6+3,none⟩) hkb).trans c3
       have d4:=(hB.cell (p:=⟨kb,o+j*6+4,none⟩) hkb).trans c4
       have d5:=(hB.cell (p:=⟨kb,o+j*6+5,none⟩) hkb).trans c5
       have hkr:kb<wr.heap.size:=Nat.lt_of_lt_of_le hkb hB.size
       have zj:(j:Int)<(((ks.length - c):Nat):Int):=by omega
       clear c0 c1 c2 c3 c4 c5 hv hmem hkt htc0 hdeep ho hka hor
       generalize walkF visit Tm.add ks[c+j] s' (b+1) (p+1)=F at HCALL HTAKE HBAD
       cases F with
       | error c' =>
        have HE:Hid (R=.error c'):=by unfold Hid;rw [HWF.out];exact HBAD.out c' rfl
        go_wp2_with fail
        refine HCALL.mono ?_
        rintro e w5 ⟨hk5,hc5,v5,⟨q0,q1,q2,q3,q4,q5,q6,q7,q8,q9,rfl⟩,rfl⟩
        have hcb:(c' != 0)=true:=by simpa using hc5
        have hz5:wr.heap.size<w5.heap.size:=by have:=hk5.size;simp at this;omega
        have hz6:w.heap.size+1+1<w5.heap.size:=by have:=HSZ.out;have:=HKW.out.size;omega
        have hr5:w5.heap[w.heap.size+1+1]?=_:=(hk5.block (w.heap.size+1+1) (by have:=HSZ.out;simp;omega) (HNP.out _ (by omega))).trans (alloc_old HZR.out _)
        have ho5:w5.heap[w1.heap.size]?=_:=(hk5.block w1.heap.size (by simp;omega) (HNP.out _ (by have:=HNG.out;have:=HSZ.out;omega))).trans (alloc_old HOR.out _)
        obtain ⟨y0,y1,y2,y3,y4,y5,y6⟩:=cells6 hr5
        have fr:=frz hr5
        obtain ⟨x0,x1,x2,x3,x4,x5,x6⟩:=cells6 ho5
        have HK5:Hid (Kept P w w5):=(Kept.of_grew HG0.out).trans (HKW.out.trans (((Kept.refl _ _).alloc _).trans hk5))
        clear hr5 ho5 hk5
        go_wp2
        refine bodyPost_ret (v:=.tuple #[.agg #[.int .i64 o0,.int .i64 o1,.bool o2,.string o3,.slice o4 o5 o6,.slice o7 o8 o9],.int .i64 c']) (by simp [results,Tryz.results69,go_sem,y0,y1,y2,y3,y4,y5,hz6]) rfl ⟨?_,?_⟩
        ·exact (HK5.out.old (Q:=fun k=>k=w.heap.size+1+1) (keep6 rfl) (fun i h1 h2=>by omega)).alloc _
        ·rw [HE.out]
         exact ⟨hc5,_,⟨o0,o1,o2,o3,o4,o5,o6,o7,o8,o9,rfl⟩,rfl⟩
       | ok q =>
        obtain ⟨s2,r2⟩:=q
        have HTAKE:Hid (walkL visit Tm.add f (ks.take (c+j+1)) 0 s1 r1 b p=.ok (s2,r'.add r2)):=HTAKE.out
        go_wp2_with fail
        refine HCALL.mono ?_
        rintro e w5 ⟨hk5,⟨v5,rfl,hto5⟩,hI5⟩
        obtain ⟨q0,q1,q2,q3,q4,q5,q6,q7,q8,q9,rfl⟩:=hto5.shapeE
        have hz5:wr.heap.size<w5.heap.size:=by have:=hk5.size;simp at this;omega
        have ho5:w5.heap[w1.heap.size]?=_:=(hk5.block w1.heap.size (by simp;omega) (HNP.out _ (by have:=HNG.out;have:=HSZ.out;omega))).trans (alloc_old HOR.out _)
        obtain ⟨x0,x1,x2,x3,x4,x5,x6⟩:=cells6 ho5
        have HO5:=Hid.mk ho5
        have HTO5:=Hid.mk hto5
        have HI5:=Hid.mk hI5
        have HK5:=Hid.mk hk5
        have hpos:0<ks.length:=by omega
        obtain ⟨hro,hkl,hgN⟩:RO wr W0.heap.size w1.heap.size wr.heap.size g ks.length (.agg #[.int .i64 o0,.int .i64 o1,.bool o2,.string o3,.slice o4 o5 o6,.slice o7 o8 o9]) r'∧r'.kids.length=c+j∧g<w1.heap.size:=by
         rcases HPR.out with ⟨h,-⟩ | ⟨-,h⟩
         ·omega
         ·exact h
        have HRO5:Hid (RO w5 W0.heap.size w1.heap.size wr.heap.size g ks.length (.agg #[.int .i64 o0,.int .i64 o1,.bool o2,.string o3,.slice o4 o5 o6,.slice o7 o8 o9]) r'):=hro.on (fun k h1 h2 _=>(hk5.block k (by simp;omega) (HNP.out _ (by have:=HSZ.out;omega))).trans (Below.heap_alloc _ _ _ h2))
        have HWK:=withKid_any (w5.alloc (.cells #[.int .i64 q0,.int .i64 q1,.bool q2,.string q3,.slice q4 q5 q6,.slice q7 q8 q9] 36)) (HRO5.out.on (fun k h1 h2 _=>Below.heap_alloc _ _ _ (by omega))) (hto5.on (fun k h1 h2=>Below.heap_alloc _ _ _ h2)) (by simp) (by simp) (by rw [hkl];omega)
        have HKL:Hid (r'.kids.length=c+j):=hkl
        clear ho5 hto5 hI5 hk5 hro HCALL hkl
        go_wp2_with fail
        refine HWK.mono ?_
        rintro e w7 ⟨v7,rfl,hro7,hk7⟩
        obtain ⟨u0,u1,u2,u3,u4,u5,u6,rfl⟩:=hro7.shapeE
        have ho7:w7.heap[w1.heap.size]?=_:=(hk7.block w1.heap.size (by simp;omega) (by omega)).trans (alloc_old HO5.out _)
        have hz7:w5.heap.size<w7.heap.size:=by have:=hk7.size;simp at this;omega
        clear x0 x1 x2 x3 x4 x5 x6
        obtain ⟨x0,x1,x2,x3,x4,x5,x6⟩:=cells6 ho7
        have fo:=frz ho7
        have HO7:=Hid.mk ho7
        have HRO7:=Hid.mk hro7
        have HK7:=Hid.mk hk7
        have HAD:Hid ((r'.add r2).kids.length=r'.kids.length+1):=add_kids r' r2
        generalize (r'.add r2).kids.length=kl at *
        clear ho7 hro7 hk7 HWK
        go_wp2
        refine ⟨⟨j+1,s2,r'.add r2,u0,u1,u2,u3,u4,u5,u6,some ⟨g,0,none⟩,kl,ks.length,hlt,by go_num,HTAKE.out,?_,?_,set6 HO7.out,Or.inr ⟨hpos,?_,?_,hgN⟩⟩,by simp [intOf];omega⟩
        ·refine HKR.out.trans (((Kept.refl _ wr).alloc _).trans ((HK5.out.imp (fun k _ h=>Or.inl h)).trans (((Kept.refl _ w5).alloc _).trans ((HK7.out.imp (fun k _ h=>Or.inr (Or.inr ⟨h,hpos⟩))).trans (keep6 (Or.inr (Or.inl rfl)))))))
        ·refine HIM.out _ _ _ HI5.out (((Kept.refl _ w5).alloc _).trans ((HK7.out.imp (fun k _ h=>?_)).trans (keep6 ?_)))
         ·have:=HGB.out hpos;have:=HSZ.out;omega
         ·have:=HNG.out;have:=HSZ.out;omega
        ·refine (HRO7.out.on (fun k h1 h2 hn=>(keep6 (P:=fun k=>k=w1.heap.size) rfl).block k (by omega) hn)).mono (Nat.le_refl _) ?_
         rw [size6];omega
        ·have h1:=HAD.out
         have h2:=HKL.out
         rw [add_kids];omega
      ·have HJ:Hid (j=(ks.length - c)):=by unfold Hid;omega
       have HE:Hid (R=.ok (s',r')):=by
        unfold Hid
        have h1:=HWR.out
        rw [List.take_of_length_le (by have:=HLEN.out;have:=HJ.out;omega)] at h1
        rw [HWF.out];exact h1
       have zj:¬(j:Int)<((ks.length - c:Nat):Int):=by have:=HJ.out;omega
       obtain ⟨y0,y1,y2,y3,y4,y5,y6⟩:=cells6 HZR.out
       have fr:=frz HZR.out
       obtain ⟨x0,x1,x2,x3,x4,x5,x6⟩:=cells6 HOR.out
       clear hor
       go_wp2
       rw [rounds_succ]
       go_wp2
       refine bodyPost_ret (v:=.tuple #[.agg #[.int .i64 o0,.int .i64 o1,.bool o2,.string o3,.slice o4 o5 o6,.slice o7 o8 o9],.int .i64 0]) (by simp [results,Tryz.results69,go_sem,y0,y1,y2,y3,y4,y5]) rfl ⟨?_,?_⟩
       ·exact ((Kept.of_grew HG0.out).trans HKW.out).old (Q:=fun k=>k=w.heap.size+1+1) (keep6 rfl) (fun i h1 h2=>by omega)
       ·rw [HE.out]
        refine ⟨⟨_,rfl,?_⟩,HIM.out _ _ _ HIR.out (keep6 (by omega))⟩
        rw [size6]
        exact ((HPR.out.to (Nat.le_of_lt hNr)).on (fun k h1 h2=>(keep6 (P:=fun k=>k=w.heap.size+1+1) rfl).block k h2 (by have:=HSZ.out;omega))).mono (by have:=HSZ.out;omega) (Nat.le_refl _)
end Go.Proofs.YtgfgpjcnfnopnaaGreat
