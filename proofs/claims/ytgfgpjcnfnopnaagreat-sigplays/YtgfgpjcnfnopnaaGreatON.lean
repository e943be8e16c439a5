/- The contract of telamonref1.Norm. -/
import Derived.Test.YtgfgpjcnfnopnaaGreatRB
import Derived.Test.YtgfgpjcnfnopnaaGreatOG
import Derived.Deep.AppendLies
namespace Go.Proofs.YtgfgpjcnfnopnaaGreat
set_option maxRecDepth 100000
set_option maxHeartbeats 40000000
open Go.RowKit Go.Sort Go.Shelf Go.Lib
theorem right_tidy {n:Int}{xs:List (Int×Int)}(h:rightB n xs=true):rightB (nOf n (tidyL xs)) (tidyL xs)=true:=by
 have hm:∀p∈tidyL xs,p∈xs:=fun p hp=>(((tidyL_is xs).2 p).1 hp).1
 have hl:=tidyL_le xs
 have hN:=right_n h
 simp only [rightB,Bool.and_eq_true,List.all_eq_true,decide_eq_true_eq,inR] at h ⊢
 refine ⟨⟨by omega,?_⟩,fun p hp=>h.2 p (hm p hp)⟩
 unfold nOf;split<;>omega
theorem canonR_right {n:Int}{xs:List (Int×Int)}(h:rightB n xs=true):canonR n xs=(nOf n (tidyL xs),tidyL xs,0):=by
 unfold canonR;rw [if_pos (right_tidy h)]
theorem normR_right {n:Int}{xs:List (Int×Int)}(h:rightB n xs=true):normR n xs=(nOf n (tidyL xs),tidyL xs,0):=by
 unfold normR;rw [if_pos h,canonR_right h]
theorem right_nonneg {n:Int}{xs:List (Int×Int)}(h:rightB n xs=true):∀p∈xs,0≤p.1:=fun p hp=>by
 simp only [rightB,Bool.and_eq_true,List.all_eq_true,decide_eq_true_eq,inR] at h
 exact ((h.2 p hp).1).1
theorem rNorm_any (n:Int) (xs:List (Int×Int)) (a:Option Addr) (cap:Nat) (w:World) (hS:SL w a xs) (hn:xs.length≤4398046511104) :
  Calls Tryz.prog 98 #[.agg #[.int .i64 n,.slice a xs.length cap]] w fun e w'=>Res w w' e (normR n xs):=by
 have HR:=rright_any n xs a cap ((w.alloc (.cells #[.int .i64 n,.slice a xs.length cap] 75)).alloc (.cells #[.int .i64 0,.slice none 0 0] 75)) (hS.below (((Grew.refl w).alloc _).alloc _).below) (by omega)
 have HS:=Hid.mk hS
 clear hS
 have hA:Grew w ((w.alloc (.cells #[.int .i64 n,.slice a xs.length cap] 75)).alloc (.cells #[.int .i64 0,.slice none 0 0] 75)):=((Grew.refl w).alloc _).alloc _
 have HA:=Hid.mk hA
 clear hA
 cases hr:rightB n xs
 ·have HC:Hid (normR n xs=(0,[],13)):=by unfold Hid normR;rw [hr];rfl
  rw [hr] at HR
  generalize normR n xs=D at HC ⊢
  go_enter Tryz.func98,Tryz.ntmps98
  go_wp2_with (go_at_call 104;refine HR.mono ?_;rintro e w1 ⟨rfl,hg⟩;obtain ⟨p0,p1,p2,p3,p4⟩:=cells2 ((hg.below.block (w.heap.size+1) (by simp)).trans box_at1))
  have hCe:=HC.out
  subst hCe
  refine bodyPost_ret (v:=.tuple #[.agg #[.int .i64 0,.slice none 0 0],.int .i64 13]) (by simp [results,Tryz.results98,go_sem,p0,p1]) rfl ⟨_,rfl,OR.nil _ _,?_⟩
  exact ((HA.out.trans hg).below.setCell (p:=⟨w.heap.size+1,0,none⟩) (Nat.le_succ _) _).setCell (p:=⟨w.heap.size+1,1,none⟩) (Nat.le_succ _) _
 ·have HC:Hid (normR n xs=(nOf n (tidyL xs),tidyL xs,0)):=normR_right hr
  rw [hr] at HR
  have HCa:=fun (W:World) (h:SL W a xs)=>tidy_any n xs a cap W h hn (right_nonneg hr)
  generalize nOf n (tidyL xs)=m at HC HCa
  generalize tidyL xs=T at HC HCa
  generalize normR n xs=D at HC ⊢
  go_enter Tryz.func98,Tryz.ntmps98
  go_wp2_with (first | (go_at_call 104;refine HR.mono ?_;rintro e w1 ⟨rfl,hg⟩;obtain ⟨r0,r1,r2,r3,r4⟩:=cells2 ((hg.below.block w.heap.size (by simp;omega)).trans box_at);have hR1:=(hg.below.block (w.heap.size+1) (by simp)).trans box_at1;have hlt1:w.heap.size+1<w1.heap.size:=(Array.getElem?_eq_some_iff.1 hR1).1) | (go_at_call 105;refine (HCa _ (by exact HS.out.below (HA.out.trans hg).below)).mono ?_;rintro e w2 ⟨v,rfl,hO,hb2⟩;obtain ⟨a',cap',rfl,-⟩:=hO.shape;obtain ⟨p0,p1,p2,p3,p4⟩:=cells2 ((hb2.block (w.heap.size+1) hlt1).trans hR1)))
  have hCe:=HC.out
  subst hCe
  refine bodyPost_ret (v:=.tuple #[.agg #[.int .i64 m,.slice a' T.length cap'],.int .i64 0]) (by simp [results,Tryz.results98,go_sem,p0,p1]) rfl ⟨_,rfl,?_,?_⟩
  ·exact OR.mono ((hO.setBelow (a:=⟨w.heap.size+1,0,none⟩) hlt1 _).setBelow (a:=⟨w.heap.size+1,1,none⟩) hlt1 _) (by omega)
  ·exact (((HA.out.trans hg).below.trans (hb2.mono (by omega))).setCell (p:=⟨w.heap.size+1,0,none⟩) (Nat.le_succ _) _).setCell (p:=⟨w.heap.size+1,1,none⟩) (Nat.le_succ _) _
theorem rCanonical_any (n:Int) (xs:List (Int×Int)) (a:Option Addr) (cap:Nat) (w:World) (hS:SL w a xs) (hn:xs.length≤4398046511104) :
  Calls Tryz.prog 90 #[.agg #[.int .i64 n,.slice a xs.length cap]] w fun e w'=>e=.returned (.bool (canonB (n,xs)))∧RowKit.Below w.heap.size w w':=by
 have HN:=rNorm_any n xs a cap (w.alloc (.cells #[.int .i64 n,.slice a xs.length cap] 75)) (hS.below ((Grew.refl w).alloc _).below) hn
 have HL:=normR_len n xs
 have HC:Hid (canonB (n,xs)=((normR n xs).2.2==0&&exactB (normR n xs).1 (normR n xs).2.1 n xs)):=rfl
 generalize canonB (n,xs)=C at HC ⊢
 obtain ⟨m,ys,e,hD⟩:∃m ys e,normR n xs=(m,ys,e):=⟨_,_,_,rfl⟩
 rw [hD] at HN HC HL
 simp only [] at HC HL
 clear hD
 have HS:=Hid.mk hS
 have mx:=mixed
 clear hS
 have pre:∀w1,RowKit.Below (w.alloc (.cells #[.int .i64 n,.slice a xs.length cap] 75)).heap.size (w.alloc (.cells #[.int .i64 n,.slice a xs.length cap] 75)) w1→w.heap.size<w1.heap.size∧Hid (RowKit.Below w.heap.size w w1)∧Hid (w1.heap[w.heap.size]?=some (.cells #[.int .i64 n,.slice a xs.length cap] 75 (0,0))):=fun w1 hb1=>⟨by have:=hb1.size;simp at this;omega,((Below.refl w.heap.size w).alloc (Nat.le_refl _) _).trans (hb1.mono (by simp)),(hb1.block w.heap.size (by simp)).trans (alloc_new _ _)⟩
 by_cases he:e=0
 ·subst he
  have HC:Hid (C=exactB m ys n xs):=by unfold Hid;rw [HC.out];rfl
  by_cases hm:m=n
  ·subst hm
   have hmb:(m != m)=false:=by simp
   by_cases hl:ys.length=xs.length
   ·have hlb:((ys.length:Int) != (xs.length:Int))=false:=by simp [hl]
    have HLQ:=Hid.mk hl
    clear hl
    go_enter Tryz.func90,Tryz.ntmps90
    go_wp2_with fail
    refine HN.mono ?_
    rintro e w1 ⟨v,rfl,hO,hb1⟩
    obtain ⟨a',cap',rfl,hS1,-⟩:=hO.shape
    obtain ⟨hz1,HB1,HX1⟩:=pre w1 hb1
    obtain ⟨x0,x1,-,-,-⟩:=cells2 HX1.out
    have HS1:=Hid.mk hS1
    clear hO hS1 hb1 pre
    go_wp2
    obtain ⟨W1,hW1⟩:∃W,w1.alloc (.cells #[.int .i64 m,.slice a' ys.length cap'] 75)=W:=⟨_,rfl⟩
    have HG1:Hid (Grew w1 W1):=by unfold Hid;rw [←hW1];exact (Grew.refl w1).alloc _
    have HN1:Hid (W1.heap[w1.heap.size]?=some (.cells #[.int .i64 m,.slice a' ys.length cap'] 75 (0,0))):=by unfold Hid;rw [←hW1];exact alloc_new _ _
    rw [hW1]
    clear hW1 x0 x1
    go_loopw [5] (fun i wr=>∃k:Nat,k≤ys.length∧i=.int .i64 k∧Grew W1 wr∧ys.take k=xs.take k) (fun i _=>ys.length - (intOf i).toNat)
    case atStart=>exact ⟨0,Nat.zero_le _,rfl,Grew.refl _,rfl⟩
    case round =>
     obtain ⟨k,hk,rfl,hb,htk⟩:=hrel
     have HT:=Hid.mk htk
     clear htk
     have hg1:=HG1.out.trans hb
     have hzr:=hg1.below.size
     obtain ⟨a0,a1,-,-,-⟩:=cells2 ((hb.below.block w1.heap.size (heap_lt HN1.out)).trans HN1.out)
     obtain ⟨b0,b1,-,-,-⟩:=cells2 ((hg1.below.block w.heap.size hz1).trans HX1.out)
     by_cases hlt:k<ys.length
     ·obtain ⟨b,off,x,y,rfl,hbl,hc0,hc1,hxy⟩:=(HS1.out.below hg1.below).at hlt
      obtain ⟨b',off',x',y',rfl,hbl',hc0',hc1',hxy'⟩:=(HS.out.below (HB1.out.trans (hg1.below.mono HB1.out.size))).at (k:=k) (by rw [←HLQ.out];exact hlt)
      have z1:(k:Int)<(ys.length:Int):=by omega
      have z2:(k:Int)<(xs.length:Int):=by have:=HLQ.out;omega
      have hq:=fun W=>run_neqLVar x y x' y' W
      have hgu:=run_guardLVar
      by_cases he:x=x'∧y=y'
      ·have hb1:(x==x'&&y==y')=true:=by simp [he.1,he.2]
       simp only [hb1] at hq
       have HX:Hid (ys[k]?=some (x',y')):=by have:=hxy.out;rwa [he.1,he.2] at this
       clear he hb1
       go_wp2_with fail
       go_quiet (fail)
       go_wp2
       refine ⟨⟨k+1,hlt,by go_num,hb.drewN _,take_eq HX.out hxy'.out HT.out⟩,by simp [intOf];omega⟩
      ·have hb1:(x==x'&&y==y')=false:=by rw [Bool.eq_false_iff];simpa using he
       simp only [hb1] at hq
       have HE:Hid (exactB m ys m xs=false):=exact_at hxy.out hxy'.out (by simpa using he)
       clear he hb1
       go_wp2_with fail
       go_quiet (fail)
       go_wp2
       go_ret
       exact ⟨by rw [HC.out,HE.out];rfl,HB1.out.trans ((hg1.drewN _).below.mono HB1.out.size)⟩
     ·have HE:Hid (exactB m ys m xs=true):=by
       have h1:ys.take k=ys:=List.take_of_length_le (by omega)
       have h2:xs.take k=xs:=List.take_of_length_le (by have:=HLQ.out;omega)
       have h3:=HT.out
       rw [h1,h2] at h3
       unfold Hid;simp [exactB,h3]
      go_wp2
      go_ret
      exact ⟨by rw [HC.out,HE.out];rfl,HB1.out.trans (hg1.below.mono HB1.out.size)⟩
   ·have hlb:((ys.length:Int) != (xs.length:Int))=true:=by simp;omega
    have HE:Hid (exactB m ys m xs=false):=exact_len hl
    clear hl
    go_enter Tryz.func90,Tryz.ntmps90
    go_wp2_with fail
    refine HN.mono ?_
    rintro e w1 ⟨v,rfl,hO,hb1⟩
    obtain ⟨a',cap',rfl,-,-⟩:=hO.shape
    obtain ⟨hz1,HB1,HX1⟩:=pre w1 hb1
    obtain ⟨x0,x1,-,-,-⟩:=cells2 HX1.out
    clear hO hb1 pre
    go_wp2
    go_ret
    exact ⟨by rw [HC.out,HE.out];rfl,HB1.out.alloc HB1.out.size _⟩
  ·have hmb:(m != n)=true:=by simpa using hm
   have HE:Hid (exactB m ys n xs=false):=by unfold Hid;simp [exactB,hm]
   clear hm
   go_enter Tryz.func90,Tryz.ntmps90
   go_wp2_with fail
   refine HN.mono ?_
   rintro e w1 ⟨v,rfl,hO,hb1⟩
   obtain ⟨a',cap',rfl,-,-⟩:=hO.shape
   obtain ⟨hz1,HB1,HX1⟩:=pre w1 hb1
   obtain ⟨x0,x1,-,-,-⟩:=cells2 HX1.out
   clear hO hb1 pre
   go_wp2
   go_ret
   exact ⟨by rw [HC.out,HE.out];rfl,HB1.out.alloc HB1.out.size _⟩
 ·have heb:(e != 0)=true:=by simpa using he
  have HC:Hid (C=false):=by unfold Hid;rw [HC.out];simp [he]
  clear he
  go_enter Tryz.func90,Tryz.ntmps90
  go_wp2_with fail
  refine HN.mono ?_
  rintro e w1 ⟨v,rfl,hO,hb1⟩
  obtain ⟨a',cap',rfl,-,-⟩:=hO.shape
  obtain ⟨hz1,HB1,HX1⟩:=pre w1 hb1
  clear hO hb1 pre
  go_wp2
  go_ret
  exact ⟨by rw [HC.out];rfl,HB1.out.alloc HB1.out.size _⟩
theorem RO.leafOn {w w':World}{B B' N E N' E' M g k:Nat}{v:Value}{r:Tm}(h:RO w B N E g k v r) (hr:r.kids=[]) (hg:g<M) (hag:Agree B M w w') (hB:B'≤B) (hN:g<N') (hE:N'<E'):RO w' B' N' E' g k v r:=by
 obtain ⟨f,n,hh,nm,ls,ks,lv,m,bd,kvs,rfl,rfl,hl,hBm,hmg,hgN,hNb,hbd,hE0,hrow,hkc,hkm,cells,kids⟩:=h
 have hk:ks=[]:=hr
 subst hk
 exact ⟨f,n,hh,nm,ls,[],lv,m,fun _=>N'+1,kvs,rfl,rfl,(hl.on (hag.mono (Nat.le_refl _) (by omega))).mono hB (Nat.le_refl _),by omega,hmg,hN,Nat.lt_succ_self N',fun _=>Nat.le_refl _,hE,hrow.on hag (by omega) (by omega),hkc,hkm,fun i hi=>by simp at hi,fun i t hi=>by simp at hi⟩
theorem Fresh.on {w w':World}{B B' k:Nat}{v:Value}{r:Tm}(h:Fresh w B k v r) (hr:0<k→r.kids=[]) (hs:w.heap.size≤w'.heap.size) (hag:Agree B w.heap.size w w') (hB:B'≤B):Fresh w' B' k v r:=by
 rcases h with ⟨h1,h⟩ | ⟨h1,g,hBg,hg,h⟩
 ·exact Or.inl ⟨h1,(h.on hag).mono hB hs⟩
 ·exact Or.inr ⟨h1,g,by omega,by omega,fun N E h2 h3=>(h (g+1) (g+2) (by omega) (by omega)).leafOn (hr h1) hg hag hB h2 h3⟩
theorem TO.shapeF {w:World}{B E:Nat}{v:Value}{t:Tm}(h:TO w B E v t):∃(l1:Option Addr) (l2 l3:Nat) (k1:Option Addr) (k2 k3:Nat),v=.agg #[.int .i64 t.form,.int .i64 t.n,.bool t.hid,.string t.name,.slice l1 l2 l3,.slice k1 k2 k3]:=by
 cases h with
 | leaf hl=>obtain ⟨la,lc,rfl,-⟩:=hl.ln;exact ⟨_,_,_,_,_,_,rfl⟩
 | row hl=>obtain ⟨la,lc,rfl,-⟩:=hl.ln;exact ⟨_,_,_,_,_,_,rfl⟩
theorem Fresh.shapeF {w:World}{B k:Nat}{v:Value}{t:Tm}(h:Fresh w B k v t):∃(l1:Option Addr) (l2 l3:Nat) (k1:Option Addr) (k2 k3:Nat),v=.agg #[.int .i64 t.form,.int .i64 t.n,.bool t.hid,.string t.name,.slice l1 l2 l3,.slice k1 k2 k3]:=by
 rcases h with ⟨-,h⟩ | ⟨-,g,-,-,h⟩
 ·exact h.shapeF
 ·exact (h (g+1) (g+2) (by omega) (by omega)).to.shapeF
def GT (t:Tm):Prop:=smT 1000000 t∧formedB t=true
theorem GT_kid (f n:Int) (hd:Bool) (nm:ByteArray) (ls:List LvT) (ks:List Tm) (h:GT (.mk f n hd nm ls ks)):∀k∈ks,GT k:=fun k hk=>by
 refine ⟨smT_kid _ _ _ _ _ _ _ h.1 k hk,?_⟩
 have:=h.2
 rw [formedB_mk,Bool.and_eq_true,List.all_eq_true] at this
 exact this.2 k hk
theorem GT_jud {t:Tm}(h:GT t):(t.kids.length:Int)=kidsR t.form∧fieldsB t=true:=by
 have h2:=h.2
 cases t
 rw [formedB_mk,Bool.and_eq_true] at h2
 have h3:=h2.1
 unfold judB at h3
 rw [Bool.and_eq_true] at h3
 exact ⟨of_decide_eq_true h3.1,h3.2⟩
theorem GT_leaf {t:Tm}(h:GT t) (hf:t.form=1∨t.form=2∨t.form=10∨t.form=11):t.kids=[]:=by
 have h1:=(GT_jud h).1
 have h2:kidsR t.form=0:=by unfold kidsR;rw [if_pos (by omega)]
 rw [h2] at h1
 exact List.length_eq_zero_iff.1 (by omega)
theorem bareT_kids (t:Tm):(bareT t).kids=[]:=by cases t;rfl
theorem formed_len {f n:Int}{hd:Bool}{nm:ByteArray}{ls:List LvT}{ks:List Tm}(h:formedB (.mk f n hd nm ls ks)=true):(ks.length:Int)=kidsR f∧∀k∈ks,formedB k=true:=by
 rw [formedB_mk,Bool.and_eq_true,List.all_eq_true] at h
 have h1:=h.1
 unfold judB at h1
 rw [Bool.and_eq_true,decide_eq_true_eq] at h1
 exact ⟨h1.1,h.2⟩
def Tm.addAll:Tm→List Tm→Tm
 | .mk f n h nm ls ks,l=>.mk f n h nm ls (ks++l)
theorem addAll_nil (t:Tm):t.addAll []=t:=by cases t;simp [Tm.addAll]
theorem add_addAll (t k:Tm) (l:List Tm):(t.add k).addAll l=t.addAll (k::l):=by cases t;simp [Tm.addAll,Tm.add]
theorem TV.leaf {w:World}(f n:Int) (h:Bool) (nm:ByteArray):TV w (.agg #[.int .i64 f,.int .i64 n,.bool h,.string nm,.slice none 0 0,.slice none 0 0]) (.mk f n h nm [] []) :=
 TV.mk (kb:=0) (ko:=0) (ls:=[]) (ks:=[]) (Or.inl rfl) (fun _=>rfl) (Nat.le_refl _) (by omega) (fun _=>rfl) (Nat.le_refl _) (by omega) (fun h=>absurd rfl h) (fun i t hi=>by simp at hi)
theorem TV.two {w:World}{b:Nat}{f:Int}{va vb:Value}{x y:Tm}{a0 a1 a2 a3 a4 a5 b0 b1 b2 b3 b4 b5:Value}(hva:va=.agg #[a0,a1,a2,a3,a4,a5]) (hvb:vb=.agg #[b0,b1,b2,b3,b4,b5]) (hx:TV w va x) (hy:TV w vb y) (hb:w.heap[b]?=some (.cells #[a0,a1,a2,a3,a4,a5,b0,b1,b2,b3,b4,b5] 36 (0,0))):TV w (.agg #[.int .i64 f,.int .i64 0,.bool false,.string { data:=#[] },.slice none 0 0,.slice (some ⟨b,0,none⟩) 2 2]) (.mk f 0 false { data:=#[] } [] [x,y]):=by
 subst hva hvb
 refine TV.mk (kb:=b) (ko:=0) (ls:=[]) (ks:=[x,y]) (Or.inl rfl) (fun _=>rfl) (Nat.le_refl _) (by omega) (fun e=>by cases e) (Nat.le_refl _) (by omega) (fun _=>⟨rfl,heap_lt hb⟩) (fun i t hi=>?_)
 have hc:∀o v,#[a0,a1,a2,a3,a4,a5,b0,b1,b2,b3,b4,b5][o]?=some v→w.cell? ⟨b,o,none⟩=some v:=fun o v h=>by rw [cell_of_row _ b o _ _ _ hb];exact h
 match i with
 | 0 =>
  simp at hi
  subst hi
  cases hx with
  | mk hl hln hlc hlm hkn hkc hkm hk kids=>exact TC.mk (hc 0 _ rfl) (hc 1 _ rfl) (hc 2 _ rfl) (hc 3 _ rfl) (hc 4 _ rfl) (hc 5 _ rfl) hl hln hlc hlm hkn hkc hkm hk kids
 | 1 =>
  simp at hi
  subst hi
  cases hy with
  | mk hl hln hlc hlm hkn hkc hkm hk kids=>exact TC.mk (hc 6 _ rfl) (hc 7 _ rfl) (hc 8 _ rfl) (hc 9 _ rfl) (hc 10 _ rfl) (hc 11 _ rfl) hl hln hlc hlm hkn hkc hkm hk kids
 | i+2=>simp at hi
theorem TV.shapeT {w:World}{v:Value}{t:Tm}(h:TV w v t):ShapeT v:=by
 cases h with
 | mk=>exact ⟨_,_,_,_,_,_,_,_,_,_,rfl⟩
theorem Const_any (nm:ByteArray) (w:World):Calls Tryz.prog 30 #[.string nm,.slice none 0 0] w fun e w'=>∃v,e=.returned v∧TV w' v (.mk 10 0 false nm [] [])∧RowKit.Below w.heap.size w w':=by
 go_enter Tryz.func30,Tryz.ntmps30
 go_wp2
 exact bodyPost_ret (v:=.agg #[.int .i64 10,.int .i64 0,.bool false,.string nm,.slice none 0 0,.slice none 0 0]) (by simp [results,Tryz.results30,go_sem]) rfl ⟨_,rfl,TV.leaf _ _ _ _,(Below.refl _ _).alloc (Nat.le_refl _) _⟩
theorem Exactly_exa (va vb:Value) (t:Tm) (w:World) (hs:smT 1000000 t) (ha:TV w va t) (hb:TV w vb t):Calls Tryz.prog 29 #[va,vb] w fun e w'=>e=.returned (.bool true)∧RowKit.Below w.heap.size w w' :=
 (Exactly_same t va vb w (smT_lv _ _ hs) ha hb).mono fun _ _ ⟨h1,h2⟩=>⟨h1,h2.below⟩
end Go.Proofs.YtgfgpjcnfnopnaaGreat
