/- The contract of telamonref1.free, where no index is too great. -/
import Derived.Test.YtgfgpjcnfnopnaaGreatTF
import Derived.Deep.QuietTactic
import Derived.BigQuiet
import Derived.Deep.RegionHeld3
namespace Go.Proofs.YtgfgpjcnfnopnaaGreat
set_option maxRecDepth 100000
set_option maxHeartbeats 40000000
open Go.RowKit Go.Sort
def varsB:Tm→Bool
 | .mk f n _ _ _ ks=>(!(f==1)||(decide (0≤n)&&decide (n≤1073741824)))&&ks.attach.all fun k=>varsB k.1
termination_by t=>SizeOf.sizeOf t
decreasing_by
 have:=List.sizeOf_lt_of_mem k.2
 simp only [Tm.mk.sizeOf_spec];omega
theorem varsB_mk (f n:Int) (hd:Bool) (nm:ByteArray) (ls:List LvT) (ks:List Tm):varsB (.mk f n hd nm ls ks)=((!(f==1)||(decide (0≤n)&&decide (n≤1073741824)))&&ks.all varsB):=by
 rw [varsB]
 congr 1
 rw [Bool.eq_iff_iff,List.all_eq_true,List.all_eq_true]
 exact ⟨fun h x hx=>h ⟨x,hx⟩ (List.mem_attach _ _),fun h x _=>h x.1 x.2⟩
def deepR (f deep:Int) (i:Nat):Int:=if i=1∧bindsB f=true then deep+1 else deep
def freeR:Tm→Int→Int
 | .mk f n _ _ _ ks,deep=>if f=1 then (if n<deep then 0 else n - deep+1) else (ks.attach.zipIdx.map fun p=>freeR p.1.1 (deepR f deep p.2)).foldl max 0
termination_by t=>SizeOf.sizeOf t
decreasing_by
 have:=List.sizeOf_lt_of_mem p.1.2
 simp only [Tm.mk.sizeOf_spec];omega
def freeK (f deep:Int) (ks:List Tm):Int:=(ks.zipIdx.map fun p=>freeR p.1 (deepR f deep p.2)).foldl max 0
theorem freeR_mk (f n:Int) (hd:Bool) (nm:ByteArray) (ls:List LvT) (ks:List Tm) (deep:Int):freeR (.mk f n hd nm ls ks) deep=if f=1 then (if n<deep then 0 else n - deep+1) else freeK f deep ks:=by
 rw [freeR]
 congr 1
 unfold freeK
 congr 1
 have:ks.zipIdx=ks.attach.zipIdx.map (fun p=>(p.1.1,p.2)):=by
  conv=>lhs;rw [←List.attach_map_subtype_val ks]
  rw [List.zipIdx_map]
  rfl
 rw [this,List.map_map]
 rfl
theorem freeK_take {f deep:Int}{ks:List Tm}{j:Nat}{k:Tm}(h:ks[j]?=some k):freeK f deep (ks.take (j+1))=max (freeK f deep (ks.take j)) (freeR k (deepR f deep j)):=by
 obtain ⟨hj,rfl⟩:=List.getElem?_eq_some_iff.1 h
 unfold freeK
 rw [List.take_succ_eq_append_getElem hj,List.zipIdx_append,List.map_append,List.foldl_append]
 have:(ks.take j).length=j:=by simp;omega
 simp [this]
theorem high_kid {ks:List Tm}{k:Tm}(h:k∈ks):heightT k≤(ks.map heightT).foldl max 0:=by
 obtain ⟨j,hj⟩:=List.getElem?_of_mem h
 have h1:=take_high hj
 have h2:=high_take_le ks (j+1)
 omega
theorem free_any (t:Tm):∀(deep:Int) (v:Value) (w:World),varsB t=true→0≤deep→deep+heightT t≤1000000→TV w v t→Calls Tryz.prog 60 #[v,.int .i64 deep] w fun e w'=>e=.returned (.int .i64 (freeR t deep))∧Grew w w':=by
 refine Tm.ind (P:=fun t=>∀(deep:Int) (v:Value) (w:World),varsB t=true→0≤deep→deep+heightT t≤1000000→TV w v t→Calls Tryz.prog 60 #[v,.int .i64 deep] w fun e w'=>e=.returned (.int .i64 (freeR t deep))∧Grew w w') ?_ t
 intro f n hd nm ls ks ih deep v w hvb hd0 hd1 hv
 cases hv with
 | @mk _ _ _ _ _ _ la lc ka kc kb ko hl hln hlc hlm hkn hkc hkm hk kids =>
  rw [varsB_mk,Bool.and_eq_true] at hvb
  obtain ⟨hvn,hvk⟩:=hvb
  rw [heightT_mk] at hd1
  have HR:Hid (freeR (.mk f n hd nm ls ks) deep=if f=1 then (if n<deep then 0 else n - deep+1) else freeK f deep ks):=freeR_mk f n hd nm ls ks deep
  generalize freeR (.mk f n hd nm ls ks) deep=R at HR ⊢
  have HK:=Hid.mk hk
  have HKIDS:=Hid.mk kids
  have HIH:=Hid.mk ih
  have HVK:Hid (∀k∈ks,varsB k=true):=List.all_eq_true.1 hvk
  have HHK:Hid (∀k∈ks,deep+1+heightT k≤1000000):=fun k hk=>by have:=high_kid hk;omega
  have hdb:deep≤1000000:=by omega
  clear hk kids ih hl hvk hd1
  obtain ⟨W0,hW0⟩:∃W0,w.alloc (.cells #[.int .i64 f,.int .i64 n,.bool hd,.string nm,.slice la ls.length lc,.slice ka ks.length kc] 36)=W0:=⟨_,rfl⟩
  have HG0:Hid (Grew w W0):=by unfold Hid;rw [←hW0];exact (Grew.refl w).alloc _
  have HX0:Hid (W0.heap[w.heap.size]?=some (.cells #[.int .i64 f,.int .i64 n,.bool hd,.string nm,.slice la ls.length lc,.slice ka ks.length kc] 36 (0,0))):=by unfold Hid;rw [←hW0];exact alloc_new _ _
  have HW0:=Hid.mk hW0
  clear hW0
  by_cases hf:f=1
  ·subst hf
   have hn:0≤n∧n≤1073741824:=by simpa using hvn
   obtain ⟨hn0,hn1⟩:=hn
   clear hvn
   have hR:=HR.out
   rw [if_pos rfl] at hR
   by_cases hnd:n<deep
   ·rw [if_pos hnd] at hR
    have HE:=Hid.mk hR
    clear hR HR
    go_enter Tryz.func60,Tryz.ntmps60
    go_wp2
    go_ret
    exact ⟨by rw [HE.out];rfl,by have:=HG0.out;rwa [←HW0.out] at this⟩
   ·rw [if_neg hnd] at hR
    have HE:=Hid.mk hR
    clear hR HR
    go_enter Tryz.func60,Tryz.ntmps60
    go_wp2
    go_ret
    exact ⟨by rw [HE.out];rfl,by have:=HG0.out;rwa [←HW0.out] at this⟩
  ·have hR:=HR.out
   rw [if_neg hf] at hR
   have HE:=Hid.mk hR
   have hf':(f==1)=false:=by simp [hf]
   clear hR HR hvn hf
   have HBI:=fun (W:World)=>Binds_any f W
   have HDR:Hid (∀j,deepR f deep j=if j=1∧bindsB f=true then deep+1 else deep):=fun j=>rfl
   obtain ⟨bf,hbf⟩:∃bf,bindsB f=bf:=⟨_,rfl⟩
   simp only [hbf] at HBI HDR
   clear hbf
   go_enter Tryz.func60,Tryz.ntmps60
   go_wp2
   rw [HW0.out]
   go_loopw [5,6] (fun vn i wr=>∃j:Nat,j≤ks.length∧i=.int .i64 j∧vn=.int .i64 (freeK f deep (ks.take j))∧Grew W0 wr) (fun _ i _=>ks.length - (intOf i).toNat)
   case atStart=>exact ⟨0,Nat.zero_le _,rfl,rfl,Grew.refl _⟩
   case round =>
    obtain ⟨j,hj,rfl,rfl,hg⟩:=hrel
    have HG:=Hid.mk hg
    clear hg
    obtain ⟨x0,x1,x2,x3,x4,x5,x6⟩:=cells6 ((HG.out.below.block w.heap.size (Array.getElem?_eq_some_iff.1 HX0.out).1).trans HX0.out)
    by_cases hlt:j<ks.length
    ·obtain ⟨rfl,hkb⟩:=HK.out (by intro e;rw [e] at hlt;simp at hlt)
     have hkt:ks[j]?=some ks[j]:=by simp [hlt]
     have htc:=(HKIDS.out j _ hkt).on (HG0.out.trans HG.out).below
     have HTF:=Hid.mk (freeK_take (f:=f) (deep:=deep) hkt)
     have hmem:ks[j]∈ks:=List.getElem_mem hlt
     have HCALL:=fun (d:Int) (v:Value) (W:World) (h1:0≤d) (h2:d≤deep+1) (hv:TV W v ks[j])=>HIH.out ks[j] hmem d v W (HVK.out _ hmem) h1 (by have:=HHK.out _ hmem;omega) hv
     have zj:(j:Int)<(ks.length:Int):=by omega
     rw [HDR.out] at HTF
     obtain ⟨k,hk⟩:∃k,ks[j]=k:=⟨_,rfl⟩
     rw [hk] at HTF HCALL htc
     have HTC:=Hid.mk htc
     clear hk hkt htc hmem
     generalize freeK f deep (ks.take j)=m at *
     rcases (show (j=1∧bf=true)∨(j=1∧bf=false)∨j≠1 by
      by_cases h:j=1
      ·cases bf
       ·exact .inr (.inl ⟨h,rfl⟩)
       ·exact .inl ⟨h,rfl⟩
      ·exact .inr (.inr h)) with ⟨hj1,hb⟩ | ⟨hj1,hb⟩ | hj1
     ·have hj1':((j:Int)==1)=true:=by simp [hj1]
      have hT:=HTF.out
      rw [if_pos ⟨hj1,hb⟩] at hT
      have HT:=Hid.mk hT
      subst hb
      have HJ:=Hid.mk hj1
      clear hj1 hT HTF
      obtain ⟨v0,v1,v2,v3,v4,v5,c0,c1,c2,c3,c4,c5,hv⟩:=HTC.out.val
      have HC:=Hid.mk (HCALL (deep+1) _ _ (by omega) (by omega) hv)
      clear hv HCALL
      generalize freeR k (deep+1)=q at HC HT
      go_wp2_with fail
      refine (HBI _).mono ?_
      rintro e w9 ⟨rfl,hw9⟩
      have hw9':=hw9.symm
      subst hw9'
      go_wp2_with fail
      refine HC.out.mono ?_
      rintro e w5 ⟨rfl,hg5⟩
      by_cases hq:m<q
      ·go_wp2
       refine ⟨⟨j+1,hlt,by go_num,by rw [HT.out,show max m q=q by omega],HG.out.trans hg5⟩,by simp [intOf];omega⟩
      ·go_wp2
       refine ⟨⟨j+1,hlt,by go_num,by rw [HT.out,show max m q=m by omega],HG.out.trans hg5⟩,by simp [intOf];omega⟩
     ·have hj1':((j:Int)==1)=true:=by simp [hj1]
      have hT:=HTF.out
      rw [if_neg (by rw [hb];simp)] at hT
      have HT:=Hid.mk hT
      subst hb
      have HJ:=Hid.mk hj1
      clear hj1 hT HTF
      obtain ⟨v0,v1,v2,v3,v4,v5,c0,c1,c2,c3,c4,c5,hv⟩:=HTC.out.val
      have HC:=Hid.mk (HCALL deep _ _ (by omega) (by omega) hv)
      clear hv HCALL
      generalize freeR k deep=q at HC HT
      go_wp2_with fail
      refine (HBI _).mono ?_
      rintro e w9 ⟨rfl,hw9⟩
      have hw9':=hw9.symm
      subst hw9'
      go_wp2_with fail
      refine HC.out.mono ?_
      rintro e w5 ⟨rfl,hg5⟩
      by_cases hq:m<q
      ·go_wp2
       refine ⟨⟨j+1,hlt,by go_num,by rw [HT.out,show max m q=q by omega],HG.out.trans hg5⟩,by simp [intOf];omega⟩
      ·go_wp2
       refine ⟨⟨j+1,hlt,by go_num,by rw [HT.out,show max m q=m by omega],HG.out.trans hg5⟩,by simp [intOf];omega⟩
     ·have hj1':((j:Int)==1)=false:=by simp;omega
      have hT:=HTF.out
      rw [if_neg (by omega)] at hT
      have HT:=Hid.mk hT
      clear hj1 hT HTF
      obtain ⟨v0,v1,v2,v3,v4,v5,c0,c1,c2,c3,c4,c5,hv⟩:=HTC.out.val
      have HC:=Hid.mk (HCALL deep _ _ (by omega) (by omega) hv)
      clear hv HCALL
      generalize freeR k deep=q at HC HT
      go_wp2_with fail
      refine HC.out.mono ?_
      rintro e w5 ⟨rfl,hg5⟩
      by_cases hq:m<q
      ·go_wp2
       refine ⟨⟨j+1,hlt,by go_num,by rw [HT.out,show max m q=q by omega],HG.out.trans hg5⟩,by simp [intOf];omega⟩
      ·go_wp2
       refine ⟨⟨j+1,hlt,by go_num,by rw [HT.out,show max m q=m by omega],HG.out.trans hg5⟩,by simp [intOf];omega⟩
    ·have HF:Hid (R=freeK f deep (ks.take j)):=by unfold Hid;rw [HE.out,List.take_of_length_le (by omega)]
     go_wp2
     go_ret
     exact ⟨by rw [HF.out];rfl,HG0.out.trans HG.out⟩
structure Kept (P:Nat→Prop) (w w':World):Prop where
 os:w'.os=w.os
 tape:w'.tape=w.tape
 output:w'.output=w.output
 size:w.heap.size≤w'.heap.size
 block:∀k,k<w.heap.size→¬P k→w'.heap[k]?=w.heap[k]?
theorem Kept.refl (P:Nat→Prop) (w:World):Kept P w w:=⟨rfl,rfl,rfl,Nat.le_refl _,fun _ _ _=>rfl⟩
theorem Kept.trans {P:Nat→Prop}{a b c:World}(h:Kept P a b) (k:Kept P b c):Kept P a c :=
 ⟨k.os.trans h.os,k.tape.trans h.tape,k.output.trans h.output,Nat.le_trans h.size k.size,fun i hi hp=>(k.block i (Nat.lt_of_lt_of_le hi h.size) hp).trans (h.block i hi hp)⟩
theorem Kept.of_below {P:Nat→Prop}{w w':World}(h:RowKit.Below w.heap.size w w'):Kept P w w':=⟨h.os,h.tape,h.output,h.size,fun k hk _=>h.block k hk⟩
theorem Kept.of_grew {P:Nat→Prop}{w w':World}(h:Grew w w'):Kept P w w':=Kept.of_below h.below
theorem Kept.below {P:Nat→Prop}{w w':World}(h:Kept P w w') {B:Nat}(hB:B≤w.heap.size) (hP:∀k,P k→B≤k):RowKit.Below B w w' :=
 ⟨h.os,h.tape,h.output,h.size,fun k hk=>h.block k (Nat.lt_of_lt_of_le hk hB) fun hp=>Nat.lt_irrefl _ (Nat.lt_of_lt_of_le hk (hP k hp))⟩
theorem Kept.alloc {P:Nat→Prop}{a w:World}(h:Kept P a w) (o:Obj):Kept P a (w.alloc o):=h.trans (Kept.of_below ((Below.refl _ _).alloc (Nat.le_refl _) o))
theorem Kept.setCell {P:Nat→Prop}{a w:World}(h:Kept P a w) {p:Addr}(hp:P p.block) (u:Value):Kept P a (w.setCell p u) :=
 h.trans ⟨rfl,rfl,rfl,by simp [World.setCell],fun k _ hk=>Below.heap_setCell _ _ _ _ (fun e=>hk (e ▸ hp))⟩
def deepC (f b:Int) (i:Nat):Int:=if 1≤i∧bindsB f=true then b+1 else b
mutual
def walkF {σ R:Type}(visit:σ→Tm→Int→Int→Except Int (σ×R)) (join:R→R→R):Tm→σ→Int→Int→Except Int (σ×R)
 | .mk f n hd nm ls ks,s,b,p=>match visit s (.mk f n hd nm ls ks) b p with
  | .error e=>.error e
  | .ok (s1,r1)=>walkL visit join f ks 0 s1 r1 b p
def walkL {σ R:Type}(visit:σ→Tm→Int→Int→Except Int (σ×R)) (join:R→R→R) (f:Int):List Tm→Nat→σ→R→Int→Int→Except Int (σ×R)
 | [],_,s,r,_,_=>.ok (s,r)
 | k::ks,i,s,r,b,p=>match walkF visit join k s (deepC f b i) (p+1) with
  | .error e=>.error e
  | .ok (s1,r1)=>walkL visit join f ks (i+1) s1 (join r r1) b p
end
theorem walkF_mk {σ R:Type}(visit:σ→Tm→Int→Int→Except Int (σ×R)) (join:R→R→R) (f n:Int) (hd:Bool) (nm:ByteArray) (ls:List LvT) (ks:List Tm) (s:σ) (b p:Int):walkF visit join (.mk f n hd nm ls ks) s b p=match visit s (.mk f n hd nm ls ks) b p with
  | .error e=>.error e
  | .ok (s1,r1)=>walkL visit join f ks 0 s1 r1 b p:=by rw [walkF]
theorem walkL_append {σ R:Type}(visit:σ→Tm→Int→Int→Except Int (σ×R)) (join:R→R→R) (f:Int):∀(xs ys:List Tm) (i:Nat) (s:σ) (r:R) (b p:Int),walkL visit join f (xs++ys) i s r b p=match walkL visit join f xs i s r b p with
  | .error e=>.error e
  | .ok (s1,r1)=>walkL visit join f ys (i+xs.length) s1 r1 b p
 | [],ys,i,s,r,b,p=>by simp [walkL]
 | x::xs,ys,i,s,r,b,p=>by
  rw [List.cons_append,walkL,walkL]
  cases walkF visit join x s (deepC f b i) (p+1) with
  | error e=>rfl
  | ok q=>obtain ⟨s1,r1⟩:=q;simp only [];rw [walkL_append visit join f xs ys (i+1) s1 (join r r1) b p,show i+1+xs.length=i+(x::xs).length by simp;omega]
theorem walkL_take {σ R:Type}{visit:σ→Tm→Int→Int→Except Int (σ×R)}{join:R→R→R}{f:Int}{ks:List Tm}{j:Nat}{k:Tm}{s s':σ}{r r':R}{b p:Int}(h:ks[j]?=some k) (h0:walkL visit join f (ks.take j) 0 s r b p=.ok (s',r')) :
  walkL visit join f (ks.take (j+1)) 0 s r b p=match walkF visit join k s' (deepC f b j) (p+1) with
  | .error e=>.error e
  | .ok (s1,r1)=>.ok (s1,join r' r1):=by
 obtain ⟨hj,rfl⟩:=List.getElem?_eq_some_iff.1 h
 rw [List.take_succ_eq_append_getElem hj,walkL_append,h0]
 simp only [List.length_take,Nat.zero_add,Nat.min_eq_left (Nat.le_of_lt hj),walkL]
theorem walkL_bad {σ R:Type}{visit:σ→Tm→Int→Int→Except Int (σ×R)}{join:R→R→R}{f:Int}{ks:List Tm}{j:Nat}{k:Tm}{s s':σ}{r r':R}{b p e:Int}(h:ks[j]?=some k) (h0:walkL visit join f (ks.take j) 0 s r b p=.ok (s',r')) (h1:walkF visit join k s' (deepC f b j) (p+1)=.error e) :
  walkL visit join f ks 0 s r b p=.error e:=by
 have h2:=walkL_take h h0
 rw [h1] at h2
 conv=>lhs;rw [←List.take_append_drop (j+1) ks]
 rw [walkL_append,h2]
def cutN (f:Int) (len:Nat):Nat:=if bindsB f then min len 1 else len
theorem drewN_below {B:Nat}{a w:World}(h:RowKit.Below B a w) (q:Nat):RowKit.Below B a (w.drewN q):=⟨h.os,h.tape,h.output,h.size,h.block⟩
theorem cut_plain (f n:Int) (hd:Bool) (nm:ByteArray) (lv:Value) (len kc:Nat) (ka:Option Addr) (w:World) (hkn:ka=none→kc=0) (hkc:len≤kc) (hkm:kc≤9223372036854775807) (hf:bindsB f=false) :
  Calls Tryz.prog 87 #[.agg #[.int .i64 f,.int .i64 n,.bool hd,.string nm,lv,.slice ka len kc]] w fun e w'=>e=.returned (.agg #[.slice ka len len,.slice ka 0 0])∧RowKit.Below w.heap.size w w':=by
 obtain ⟨h3,h4,h6⟩:(f==3)=false∧(f==4)=false∧(f==6)=false:=by
  simp [bindsB] at hf;exact ⟨by simpa using hf.1.1,by simpa using hf.1.2,by simpa using hf.2⟩
 clear hf
 cases ka with
 | none =>
  obtain rfl:=hkn rfl
  obtain rfl:len=0:=by omega
  go_enter Tryz.func87,Tryz.ntmps87
  go_wp2
  go_quiet (fail)
  go_wp2
  go_region
  rename_i K hK
  refine hK _ _ ?_
  go_wp2
  refine bodyPost_ret (v:=.agg #[.slice none 0 0,.slice none 0 0]) (by simp [results,Tryz.results87,go_sem]) rfl ⟨rfl,?_⟩
  exact ((drewN_below (((Below.refl _ _).alloc (Nat.le_refl _) _).alloc (by simp) _) _).setCell (by simp) _).setCell (by simp) _
 | some a =>
  go_enter Tryz.func87,Tryz.ntmps87
  go_wp2
  go_quiet (fail)
  go_wp2
  go_region
  rename_i K hK
  refine hK _ _ ?_
  go_wp2
  refine bodyPost_ret (v:=.agg #[.slice (some a) len len,.slice (some a) 0 0]) (by simp [results,Tryz.results87,go_sem]) rfl ⟨rfl,?_⟩
  exact ((drewN_below (((Below.refl _ _).alloc (Nat.le_refl _) _).alloc (by simp) _) _).setCell (by simp) _).setCell (by simp) _
theorem cut_binds (f n:Int) (hd:Bool) (nm:ByteArray) (lv:Value) (len kc:Nat) (ka:Option Addr) (w:World) (hkn:ka=none→kc=0) (hkc:len≤kc) (hkm:kc≤9223372036854775807) (hf:bindsB f=true) :
  Calls Tryz.prog 87 #[.agg #[.int .i64 f,.int .i64 n,.bool hd,.string nm,lv,.slice ka len kc]] w fun e w'=>∃a2,e=.returned (.agg #[.slice ka (min len 1) (min len 1),.slice a2 (len - min len 1) (len - min len 1)])∧(∀b o,ka=some ⟨b,o,none⟩→1<len→a2=some ⟨b,o+6,none⟩)∧RowKit.Below w.heap.size w w':=by
 have hf':(f==3)=true∨(f==3)=false∧(f==4)=true∨(f==3)=false∧(f==4)=false∧(f==6)=true:=by
  simp only [bindsB] at hf
  cases h3:(f==3)<;>cases h4:(f==4)<;>simp_all
 clear hf
 cases ka with
 | none =>
  obtain rfl:=hkn rfl
  obtain rfl:len=0:=by omega
  rcases hf' with h3 | ⟨h3,h4⟩ | ⟨h3,h4,h6⟩
  all_goals
   go_enter Tryz.func87,Tryz.ntmps87
   go_wp2
   go_quiet (fail)
   go_wp2
   go_region
   rename_i K hK
   refine hK _ _ ?_
   go_wp2
   refine bodyPost_ret (v:=.agg #[.slice none 0 0,.slice none 0 0]) (by simp [results,Tryz.results87,go_sem]) rfl ⟨none,rfl,fun _ _ h=>(by cases h),?_⟩
   exact ((drewN_below (((Below.refl _ _).alloc (Nat.le_refl _) _).alloc (by simp) _) _).setCell (by simp) _).setCell (by simp) _
 | some a =>
  rcases Nat.eq_zero_or_pos len with rfl | hp
  ·rcases hf' with h3 | ⟨h3,h4⟩ | ⟨h3,h4,h6⟩
   all_goals
    go_enter Tryz.func87,Tryz.ntmps87
    go_wp2
    go_quiet (fail)
    go_wp2
    go_region
    rename_i K hK
    refine hK _ _ ?_
    go_wp2
    refine bodyPost_ret (v:=.agg #[.slice (some a) 0 0,.slice (some a) 0 0]) (by simp [results,Tryz.results87,go_sem]) rfl ⟨some a,rfl,fun _ _ _ h=>absurd h (by omega),?_⟩
    exact ((drewN_below (((Below.refl _ _).alloc (Nat.le_refl _) _).alloc (by simp) _) _).setCell (by simp) _).setCell (by simp) _
  ·rcases (show len=1∨1<len by omega) with rfl | h1
   ·rcases hf' with h3 | ⟨h3,h4⟩ | ⟨h3,h4,h6⟩
    all_goals
     go_enter Tryz.func87,Tryz.ntmps87
     go_wp2
     go_quiet (fail)
     go_wp2
     go_region
     rename_i K hK
     refine hK _ _ ?_
     go_wp2
     refine bodyPost_ret (v:=.agg #[.slice (some a) 1 1,.slice (some a) 0 0]) (by simp [results,Tryz.results87,go_sem]) rfl ⟨some a,rfl,fun _ _ _ h=>absurd h (by omega),?_⟩
     exact ((drewN_below (((Below.refl _ _).alloc (Nat.le_refl _) _).alloc (by simp) _) _).setCell (by simp) _).setCell (by simp) _
   ·have hi:(1:Int)<(len:Int):=by omega
    have hm:min len 1=1:=by omega
    rw [hm]
    clear hm
    rcases hf' with h3 | ⟨h3,h4⟩ | ⟨h3,h4,h6⟩
    all_goals
     go_enter Tryz.func87,Tryz.ntmps87
     go_wp2
     go_quiet (fail)
     go_wp2
     go_region
     rename_i K hK
     refine hK _ _ ?_
     go_wp2
     refine bodyPost_ret (v:=.agg #[.slice (some a) 1 1,.slice (some (a.add 6)) (len - 1) (len - 1)]) (by simp [results,Tryz.results87,go_sem]) rfl ⟨some (a.add 6),rfl,fun b o h _=>(by cases h;rfl),?_⟩
     exact ((drewN_below (((Below.refl _ _).alloc (Nat.le_refl _) _).alloc (by simp) _) _).setCell (by simp) _).setCell (by simp) _
theorem cut_any (f n:Int) (hd:Bool) (nm:ByteArray) (lv:Value) (len kc:Nat) (ka:Option Addr) (w:World) (hkn:ka=none→kc=0) (hkc:len≤kc) (hkm:kc≤9223372036854775807) :
  Calls Tryz.prog 87 #[.agg #[.int .i64 f,.int .i64 n,.bool hd,.string nm,lv,.slice ka len kc]] w fun e w'=>∃a2,e=.returned (.agg #[.slice ka (cutN f len) (cutN f len),.slice a2 (len - cutN f len) (len - cutN f len)])∧(∀b o,ka=some ⟨b,o,none⟩→cutN f len<len→a2=some ⟨b,o+cutN f len*6,none⟩)∧RowKit.Below w.heap.size w w':=by
 cases hf:bindsB f
 ·have e:cutN f len=len:=by simp [cutN,hf]
  rw [e,Nat.sub_self]
  exact (cut_plain f n hd nm lv len kc ka w hkn hkc hkm hf).mono fun e w' ⟨h1,h2⟩=>⟨ka,h1,fun _ _ _ h=>absurd h (by omega),h2⟩
 ·have e:cutN f len=min len 1:=by simp [cutN,hf]
  rw [e]
  refine (cut_binds f n hd nm lv len kc ka w hkn hkc hkm hf).mono fun e w' ⟨a2,h1,h2,h3⟩=>⟨a2,h1,fun b o hk hl=>?_,h3⟩
  have h1':1<len:=by omega
  rw [h2 b o hk h1',show min len 1=1 by omega]
end Go.Proofs.YtgfgpjcnfnopnaaGreat
