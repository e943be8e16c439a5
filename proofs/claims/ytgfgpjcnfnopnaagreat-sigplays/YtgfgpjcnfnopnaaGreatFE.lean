/- The contracts of the reference's Check, Size, Free, Has. -/
import Derived.Test.YtgfgpjcnfnopnaaGreatRT
import Derived.Deep.AppendLies
import Derived.Test.YtgfgpjcnfnopnaaGreatRL
namespace Go.Proofs.YtgfgpjcnfnopnaaGreat
set_option maxRecDepth 100000
set_option maxHeartbeats 40000000
open Go.RowKit Go.Sort
theorem rCheck_any (t:Tm) (v:Value) (w:World) (hv:TV w v t) (hsm:smT 1000000 t):Calls Tryz.prog 56 #[v] w fun e w'=>e=.returned (.int .i64 (checkT t))∧RowKit.Below w.heap.size w w':=by
 have HC:Hid (checkT t=if sizeT t≤20000∧heightT t≤500 then (if formedB t then 0 else 10) else 2):=rfl
 have HP:=fun (W:World) (h:RowKit.Below w.heap.size w W)=>parts_any t 20000 500 v W (by decide) (by decide) (hv.on h)
 have HF:=fun (W:World) (h:RowKit.Below w.heap.size w W)=>formed_any t v W hsm (hv.on h)
 have HPR:Hid (partsR t 20000 500=if (sizeT t:Int)≤20000∧(heightT t:Int)≤500 then ((sizeT t:Int),(heightT t:Int)) else (1073741824,1073741824)):=rfl
 generalize partsR t 20000 500=P at HP HPR
 generalize checkT t=R at HC ⊢
 obtain ⟨la,lc,ka,kc,rfl⟩:=hv.shape
 clear hv hsm
 generalize formedB t=F at *
 generalize sizeT t=S at *
 generalize heightT t=H at *
 generalize t.form=f at *
 generalize t.n=n at *
 generalize t.hid=hd at *
 generalize t.name=nm at *
 generalize t.levels.length=l1 at *
 generalize t.kids.length=k1 at *
 have HG:=fun (a:Obj)=>(Below.refl w.heap.size w).alloc (Nat.le_refl _) a
 by_cases hc:S≤20000∧H≤500
 ·have hP:P=((S:Int),(H:Int)):=by rw [HPR.out,if_pos (by omega)]
  subst hP
  have HC2:Hid (R=if F then 0 else 10):=by unfold Hid;rw [HC.out,if_pos hc]
  obtain ⟨hc1,hc2⟩:=hc
  have g1:¬(S:Int)>20000:=by omega
  have g2:¬(H:Int)>500:=by omega
  clear HC HPR
  go_enter Tryz.func56,Tryz.ntmps56
  go_wp2_with fail
  refine (HP _ (HG _)).mono ?_
  rintro e w1 ⟨rfl,hg1⟩
  have hb1:=hg1.below
  obtain ⟨x0,x1,x2,x3,x4,x5,x6⟩:=cells6 ((hb1.block w.heap.size (by simp)).trans (alloc_new _ _))
  have HB1:Hid (RowKit.Below w.heap.size w w1):=(HG _).trans (hb1.mono (by simp))
  clear hg1 hb1
  go_wp2_with fail
  refine (HF _ HB1.out).mono ?_
  rintro e w2 ⟨rfl,hb2⟩
  cases F
  all_goals
   go_wp2
   go_ret
   exact ⟨by rw [HC2.out];rfl,HB1.out.trans (hb2.mono HB1.out.size)⟩
 ·have hP:P=(1073741824,1073741824):=by rw [HPR.out,if_neg (by omega)]
  subst hP
  have HC2:Hid (R=2):=by unfold Hid;rw [HC.out,if_neg hc]
  clear HC HPR hc
  go_enter Tryz.func56,Tryz.ntmps56
  go_wp2_with fail
  refine (HP _ (HG _)).mono ?_
  rintro e w1 ⟨rfl,hg1⟩
  go_wp2
  go_ret
  exact ⟨by rw [HC2.out];rfl,(HG _).trans (hg1.below.mono (by simp))⟩
theorem formed_vars (t:Tm):formedB t=true→varsB t=true:=by
 refine Tm.ind (P:=fun t=>formedB t=true→varsB t=true) ?_ t
 intro f n hd nm ls ks ih h
 have h2:=(formed_len h).2
 rw [varsB_mk,Bool.and_eq_true,List.all_eq_true]
 refine ⟨?_,fun k hk=>ih k hk (h2 k hk)⟩
 by_cases hf:f=1
 ·subst hf
  rw [formedB_mk,Bool.and_eq_true] at h
  have h1:=h.1
  unfold judB at h1
  rw [Bool.and_eq_true] at h1
  have h3:=h1.2
  simp [fieldsB] at h3
  simp;omega
 ·simp [hf]
theorem freeK_snoc (f deep:Int) (pre:List Tm) (k:Tm):freeK f deep (pre++[k])=max (freeK f deep pre) (freeR k (deepR f deep pre.length)):=by
 have:=freeK_take (f:=f) (deep:=deep) (ks:=pre++[k]) (j:=pre.length) (k:=k) (by simp)
 rw [List.take_of_length_le (by simp),List.take_left'  (by simp)] at this
 exact this
theorem deep_same {f:Int}{ks:List Tm}(hl:(ks.length:Int)=kidsR f) (b:Int) {i:Nat}(hi:i<ks.length):deepC f b i=deepR f b i:=by
 unfold deepC deepR
 by_cases hb:bindsB f=true
 ·have h2:i=0∨i=1:=by
   unfold bindsB at hb
   simp at hb
   unfold kidsR at hl
   rw [if_neg (by omega),if_neg (by omega),if_pos (by omega)] at hl
   omega
  rcases h2 with rfl | rfl
  ·simp
  ·simp
 ·simp [hb]
theorem abo_list (f b p:Int):∀(ks pre:List Tm),(∀(i:Nat) (k:Tm),ks[i]?=some k→deepC f b (pre.length+i)=deepR f b (pre.length+i))→(∀k∈ks,∀(c q:Int),0≤c→c+heightT k≤b+1+(ks.map heightT).foldl max 0→walkF aboV max k () c q=.ok ((),freeR k c))→0≤b→walkL aboV max f ks pre.length () (freeK f b pre) b p=.ok ((),freeK f b (pre++ks))
 | [],pre,_,_,_=>by rw [walkL];simp
 | k::ks,pre,hd,ih,hb=>by
  have hm:((k::ks).map heightT).foldl max 0=max (heightT k) ((ks.map heightT).foldl max 0):=by
   simp only [List.map_cons,List.foldl_cons]
   have:∀(l:List Nat) (a c:Nat),l.foldl max (max a c)=max a (l.foldl max c):=by
    intro l
    induction l with
    | nil=>intro a c;rfl
    | cons x l ihl=>intro a c;simp only [List.foldl_cons];rw [Nat.max_assoc,ihl]
   rw [Nat.max_comm 0,this]
  rw [hm] at ih
  have e0:=hd 0 k (by simp)
  rw [Nat.add_zero] at e0
  have hdc:0≤deepR f b pre.length∧deepR f b pre.length≤b+1:=by unfold deepR;split<;>omega
  rw [walkL,e0,ih k (by simp) _ _ hdc.1 (by omega)]
  simp only []
  rw [←freeK_snoc]
  have:=abo_list f b p ks (pre++[k]) (fun i k' hk'=>by
   have:=hd (i+1) k' (by simpa using hk')
   rw [List.length_append,List.length_singleton,show pre.length+1+i=pre.length+(i+1) by omega];exact this) (fun k' hk' c q h1 h2=>ih k' (by simp [hk']) c q h1 (by omega)) hb
  rw [List.length_append,List.length_singleton] at this
  rw [this,List.append_assoc];rfl
theorem abo_walk (t:Tm):formedB t=true→∀(b p:Int),0≤b→b+heightT t≤1000000→walkF aboV max t () b p=.ok ((),freeR t b):=by
 refine Tm.ind (P:=fun t=>formedB t=true→∀(b p:Int),0≤b→b+heightT t≤1000000→walkF aboV max t () b p=.ok ((),freeR t b)) ?_ t
 intro f n hd nm ls ks ih hf b p hb hh
 obtain ⟨h1,h2⟩:=formed_len hf
 have hv:=formed_vars _ hf
 rw [walkF_mk,freeR_mk]
 rw [heightT_mk] at hh
 by_cases h0:f=1
 ·subst h0
  have hk:ks=[]:=List.length_eq_zero_iff.1 (by unfold kidsR at h1;rw [if_pos (by omega)] at h1;omega)
  subst hk
  rw [varsB_mk] at hv
  simp at hv
  have hV:aboV () (.mk 1 n hd nm ls []) b p=.ok ((),if n<b then 0 else n - b+1):=by
   unfold aboV
   simp only [Tm.form,Tm.n,if_true]
   congr 2
   unfold wrap64
   split<;>omega
  rw [hV,if_pos rfl]
  simp only [walkL]
 ·have hV:aboV () (.mk f n hd nm ls ks) b p=.ok ((),0):=by
   unfold aboV;simp [Tm.form,h0]
  rw [hV,if_neg h0]
  have:=abo_list f b p ks [] (fun i k hk=>deep_same h1 b (by have:=(List.getElem?_eq_some_iff.1 hk).1;simpa using this)) (fun k hk c q hc hl=>ih k hk (h2 k hk) c q hc (by omega)) hb
  have e0:freeK f b []=0:=by simp [freeK]
  rw [e0] at this
  simpa using this
def tfreeR (t:Tm):Int:=if checkT t=0 then freeR t 0 else 0
theorem Free_any (t:Tm) (v:Value) (w:World) (hv:TV w v t) (hsm:smT 1000000 t):Calls Tryz.prog 54 #[v] w fun e w'=>e=.returned (.int .i64 (tfreeR t))∧RowKit.Below w.heap.size w w':=by
 have HR:Hid (tfreeR t=if checkT t=0 then freeR t 0 else 0):=rfl
 have HCH:=Check_any t v (w.alloc (.cells (v.cells) 36)) (hv.on ((Below.refl _ _).alloc (Nat.le_refl _) _)) hsm
 have HW:=fun (hc:checkT t=0) (W:World) (hB:RowKit.Below w.heap.size w W)=>walkI_any (w0:=w) (bs:=#[]) (fun _ _ _ _ _ _ _ _ _=>trivial) (fun k hk=>hk.elim) (fun s w' k hI hk=>hk.elim) (fun s a b h _=>trivial) cf_above cf_greater (above_visits w) greater_any t () v 0 0 W trivial trivial hv hB (by omega) (by omega) (by omega) (Or.inr (by have:=(check_ok hc).2.1;omega))
 have HE:=fun (hc:checkT t=0)=>abo_walk t (check_ok hc).2.2 0 0 (by omega) (by have:=(check_ok hc).2.1;omega)
 generalize tfreeR t=R at HR ⊢
 obtain ⟨la,lc,ka,kc,rfl⟩:=hv.shape
 clear hv hsm
 simp only [Value.cells] at HCH
 generalize checkT t=C at *
 generalize freeR t 0=F at *
 generalize walkF aboV max t () 0 0=V at *
 generalize t.form=f at *
 generalize t.n=n at *
 generalize t.hid=hd at *
 generalize t.name=nm at *
 generalize t.levels.length=l1 at *
 generalize t.kids.length=k1 at *
 by_cases hc:C=0
 ·subst hc
  have HW2:=HW rfl
  rw [HE rfl] at HW2
  have HR2:Hid (R=F):=by unfold Hid;rw [HR.out,if_pos rfl]
  clear HR HW HE
  go_enter Tryz.func54,Tryz.ntmps54
  go_wp2_with fail
  refine HCH.mono ?_
  rintro e w1 ⟨rfl,hb1⟩
  have HB1:Hid (RowKit.Below w.heap.size w w1):=((Below.refl w.heap.size w).alloc (Nat.le_refl _) _).trans (hb1.mono (by simp))
  obtain ⟨x0,x1,x2,x3,x4,x5,x6⟩:=cells6 ((hb1.block w.heap.size (by simp)).trans (alloc_new _ _))
  clear HCH hb1
  go_wp2_with fail
  refine (HW2 w1 HB1.out).mono ?_
  rintro e w2 ⟨hk2,rfl,-⟩
  go_wp2
  go_ret
  exact ⟨by rw [HR2.out];rfl,HB1.out.trans (hk2.below HB1.out.size (fun k hk=>hk.elim))⟩
 ·have hcb:(C != 0)=true:=by simpa using hc
  have HR2:Hid (R=0):=by unfold Hid;rw [HR.out,if_neg hc]
  clear hc HR HW HE
  go_enter Tryz.func54,Tryz.ntmps54
  go_wp2_with fail
  refine HCH.mono ?_
  rintro e w1 ⟨rfl,hb1⟩
  go_wp2
  go_ret
  exact ⟨by rw [HR2.out];rfl,((Below.refl w.heap.size w).alloc (Nat.le_refl _) _).trans (hb1.mono (by simp))⟩
theorem rFree_any (t:Tm) (v:Value) (w:World) (hv:TV w v t) (hsm:smT 1000000 t):Calls Tryz.prog 43 #[v] w fun e w'=>e=.returned (.int .i64 (tfreeR t))∧RowKit.Below w.heap.size w w':=by
 have HR:Hid (tfreeR t=if checkT t=0 then freeR t 0 else 0):=rfl
 have HCH:=rCheck_any t v (w.alloc (.cells (v.cells) 36)) (hv.on ((Below.refl _ _).alloc (Nat.le_refl _) _)) hsm
 have HW:=fun (hc:checkT t=0) (W:World) (hB:RowKit.Below w.heap.size w W)=>free_any t 0 v W (formed_vars t (check_ok hc).2.2) (by omega) (by have:=(check_ok hc).2.1;omega) (hv.on hB)
 generalize tfreeR t=R at HR ⊢
 obtain ⟨la,lc,ka,kc,rfl⟩:=hv.shape
 clear hv hsm
 simp only [Value.cells] at HCH
 generalize checkT t=C at *
 generalize freeR t 0=F at *
 generalize t.form=f at *
 generalize t.n=n at *
 generalize t.hid=hd at *
 generalize t.name=nm at *
 generalize t.levels.length=l1 at *
 generalize t.kids.length=k1 at *
 by_cases hc:C=0
 ·subst hc
  have HW2:=HW rfl
  have HR2:Hid (R=F):=by unfold Hid;rw [HR.out,if_pos rfl]
  clear HR HW
  go_enter Tryz.func43,Tryz.ntmps43
  go_wp2_with fail
  refine HCH.mono ?_
  rintro e w1 ⟨rfl,hb1⟩
  have HB1:Hid (RowKit.Below w.heap.size w w1):=((Below.refl w.heap.size w).alloc (Nat.le_refl _) _).trans (hb1.mono (by simp))
  obtain ⟨x0,x1,x2,x3,x4,x5,x6⟩:=cells6 ((hb1.block w.heap.size (by simp)).trans (alloc_new _ _))
  clear HCH hb1
  go_wp2_with fail
  refine (HW2 w1 HB1.out).mono ?_
  rintro e w2 ⟨rfl,hg2⟩
  go_wp2
  go_ret
  exact ⟨by rw [HR2.out];rfl,HB1.out.trans (hg2.below.mono HB1.out.size)⟩
 ·have hcb:(C != 0)=true:=by simpa using hc
  have HR2:Hid (R=0):=by unfold Hid;rw [HR.out,if_neg hc]
  clear hc HR HW
  go_enter Tryz.func43,Tryz.ntmps43
  go_wp2_with fail
  refine HCH.mono ?_
  rintro e w1 ⟨rfl,hb1⟩
  go_wp2
  go_ret
  exact ⟨by rw [HR2.out];rfl,((Below.refl w.heap.size w).alloc (Nat.le_refl _) _).trans (hb1.mono (by simp))⟩
theorem TF.sub {w:World}{P Q:Nat→Bool}{v:Value}{t:Tm}(h:TF w P v t) (hPQ:∀k,P k=false→Q k=false):TF w Q v t:=h.move (Nat.le_refl _) fun k _ hp=>⟨hPQ k hp,rfl⟩
theorem row_block {w:World}{B cap n:Nat}{a:Option Addr}{xs:List Value}(h:w.ownsRow B 36 6 (.slice a n cap) n xs) {k:Nat}(hk:ownB a k=true):B≤k∧k<w.heap.size:=by
 cases a with
 | none=>simp [ownB] at hk
 | some ad =>
  obtain ⟨_,_,e,-,-,-,hg⟩:=owns_shape h
  simp only [Value.slice.injEq,true_and] at e
  obtain ⟨rfl,rfl⟩:=e
  obtain ⟨g,rfl,h1,h2⟩:=hg ad rfl
  simp [ownB] at hk
  omega
mutual
def cleanT:Tm→Tm
 | .mk f n h nm ls ks=>.mk f (if f=1∨f=11 then n else 0) (if f=3∨f=4∨f=5 then h else false) (if f=10 then nm else ByteArray.empty) (if f=2∨f=10 then ls else []) (cleanTs ks)
def cleanTs:List Tm→List Tm
 | []=>[]
 | k::ks=>cleanT k::cleanTs ks
end
theorem cleanTs_map:∀ks:List Tm,cleanTs ks=ks.map cleanT
 | []=>by rw [cleanTs];rfl
 | k::ks=>by rw [cleanTs,cleanTs_map ks];rfl
theorem clean_mk (f n:Int) (h:Bool) (nm:ByteArray) (ls:List LvT) (ks:List Tm):cleanT (.mk f n h nm ls ks)=.mk f (if f=1∨f=11 then n else 0) (if f=3∨f=4∨f=5 then h else false) (if f=10 then nm else ByteArray.empty) (if f=2∨f=10 then ls else []) (ks.map cleanT):=by rw [cleanT,cleanTs_map]
theorem clean_form (t:Tm):(cleanT t).form=t.form:=by cases t;rw [clean_mk];rfl
theorem clean_size (t:Tm):sizeT (cleanT t)=sizeT t:=by
 refine Tm.ind (P:=fun t=>sizeT (cleanT t)=sizeT t) ?_ t
 intro f n hd nm ls ks ih
 rw [clean_mk,sizeT_mk,sizeT_mk,List.map_map]
 congr 2
 exact List.map_congr_left fun k hk=>ih k hk
theorem clean_high (t:Tm):heightT (cleanT t)=heightT t:=by
 refine Tm.ind (P:=fun t=>heightT (cleanT t)=heightT t) ?_ t
 intro f n hd nm ls ks ih
 rw [clean_mk,heightT_mk,heightT_mk,List.map_map]
 congr 2
 exact List.map_congr_left fun k hk=>ih k hk
theorem clean_fields (t:Tm):fieldsB (cleanT t)=fieldsB t:=by
 cases t with
 | mk f n h nm ls ks =>
  rw [clean_mk]
  unfold fieldsB
  by_cases h1:f=1∨f=11
  ·simp only [h1,if_true]
  ·by_cases h7:f=7
   ·subst h7
    simp only [h1,if_false,if_true]
    cases ks with
    | nil=>rfl
    | cons k ks=>simp only [List.map_cons];rw [clean_form]
   ·by_cases h2:f=2
    ·subst h2;simp
    ·by_cases h10:f=10
     ·subst h10;simp
     ·simp only [h1,h7,h2,h10,if_false,or_self]
theorem clean_formed (t:Tm):formedB (cleanT t)=formedB t:=by
 refine Tm.ind (P:=fun t=>formedB (cleanT t)=formedB t) ?_ t
 intro f n hd nm ls ks ih
 have hf:=clean_fields (.mk f n hd nm ls ks)
 rw [clean_mk] at hf ⊢
 rw [formedB_mk,formedB_mk]
 unfold judB
 rw [hf]
 congr 1
 ·simp only [Tm.kids,Tm.form,List.length_map]
  first | rfl | congr
 ·rw [List.all_map]
  clear hf
  induction ks with
  | nil=>rfl
  | cons k ks ihk=>simp only [List.all_cons,Function.comp];rw [ih k (by simp),ihk (fun k' hk'=>ih k' (by simp [hk']))]
theorem clean_check (t:Tm):checkT (cleanT t)=checkT t:=by
 unfold checkT;rw [clean_size,clean_high,clean_formed]
theorem smT_clean (m:Nat) (t:Tm):smT m t→smT m (cleanT t):=by
 refine Tm.ind (P:=fun t=>smT m t→smT m (cleanT t)) ?_ t
 intro f n hd nm ls ks ih h
 obtain ⟨h1,h2,h3,h4,h5⟩:=(smT_mk _ _ _ _ _ _ _).1 h
 rw [clean_mk,smT_mk]
 refine ⟨?_,?_,?_,by simpa using h4,fun k hk=>?_⟩
 ·split
  ·exact h1
  ·exact Nat.zero_le _
 ·split
  ·exact h2
  ·exact Nat.zero_le _
 ·intro l hl
  split at hl
  ·exact h3 l hl
  ·simp at hl
 ·obtain ⟨k',hk',rfl⟩:=List.mem_map.1 hk
  exact ih k' hk' (h5 k' hk')
theorem TO.tf {w:World}{B E:Nat}{v:Value}{t:Tm}(h:TO w B E v t) (P:Nat→Bool) (hP:∀k,B≤k→k<E→P k=false):TF w P v t :=
 (h.on (w':=maskB P w) fun k h1 h2=>maskB_no w (hP k h1 h2)).tv
def takV (_:Unit) (t:Tm) (_ _:Int):Except Int (Unit×Tm):=.ok ((),bareT t)
theorem cf_taken (xs:Array Value) (w:World):Sem.run Tryz.prog (callFunc 70 xs) w=.ok (.enter 70 xs) w:=by simp [callFunc,go_sem,Tryz.func70];rfl
theorem clean_bare (f n:Int) (h:Bool) (nm:ByteArray) (ls:List LvT) (ks:List Tm):cleanT (.mk f n h nm ls ks)=(bareT (.mk f n h nm ls ks)).addAll (ks.map cleanT):=by
 rw [clean_mk];simp [bareT,Tm.addAll]
theorem tak_list (f:Int):∀(ks:List Tm) (i:Nat) (r:Tm) (b p:Int),(∀k∈ks,∀(b p:Int),walkF takV Tm.add k () b p=.ok ((),cleanT k))→walkL takV Tm.add f ks i () r b p=.ok ((),r.addAll (ks.map cleanT))
 | [],i,r,b,p,_=>by rw [walkL,List.map_nil,addAll_nil]
 | k::ks,i,r,b,p,ih=>by
  rw [walkL,ih k (by simp),List.map_cons]
  simp only []
  rw [tak_list f ks (i+1) _ b p (fun k' hk'=>ih k' (by simp [hk'])),add_addAll]
theorem tak_walk (t:Tm):∀(b p:Int),walkF takV Tm.add t () b p=.ok ((),cleanT t):=by
 refine Tm.ind (P:=fun t=>∀(b p:Int),walkF takV Tm.add t () b p=.ok ((),cleanT t)) ?_ t
 intro f n hd nm ls ks ih b p
 have hV:takV () (.mk f n hd nm ls ks) b p=.ok ((),bareT (.mk f n hd nm ls ks)):=rfl
 rw [walkF_mk,hV,clean_bare]
 exact tak_list f ks 0 _ b p ih
theorem taken_visits (w0:World):VisitsT GT (fun _=>False) (fun _ _=>True) w0 70 #[] takV:=by
 intro s t v b p w hG _ hv0 hB0 hb0 hbp hp
 have hv:=hv0.on hB0
 clear hv0 hB0
 have HBA:=fun (W:World) (hb:RowKit.Below w.heap.size w W)=>bare_any t v W (hv.on hb) hG.1 (fun h=>GT_leaf hG (by omega))
 obtain ⟨la,lc,ka,kc,rfl⟩:=hv.shape
 have HE:Hid (takV s t b p=.ok ((),bareT t)):=rfl
 have HBK:=Hid.mk (bareT_kids t)
 generalize takV s t b p=R at HE ⊢
 generalize bareT t=r at *
 clear hv hG
 generalize t.form=f at *
 generalize t.n=n at *
 generalize t.hid=hd at *
 generalize t.name=nm at *
 generalize t.levels.length=l1 at *
 generalize t.kids.length=k1 at *
 show Calls Tryz.prog 70 #[.agg #[.int .i64 f,.int .i64 n,.bool hd,.string nm,.slice la l1 lc,.slice ka k1 kc],.agg #[.int .i64 b,.int .i64 p]] w _
 obtain ⟨W0,hW0⟩:∃W0,((w.alloc (.cells #[.int .i64 f,.int .i64 n,.bool hd,.string nm,.slice la l1 lc,.slice ka k1 kc] 36)).alloc (.cells #[.int .i64 b,.int .i64 p] 120)).alloc (.cells #[.int .i64 0,.int .i64 0,.bool false,.string { data:=#[] },.slice none 0 0,.slice none 0 0] 36)=W0:=⟨_,rfl⟩
 have HG0:Hid (Grew w W0):=by unfold Hid;rw [←hW0];exact (((Grew.refl w).alloc _).alloc _).alloc _
 have HX0:Hid (W0.heap[w.heap.size]?=some (.cells #[.int .i64 f,.int .i64 n,.bool hd,.string nm,.slice la l1 lc,.slice ka k1 kc] 36 (0,0))):=by unfold Hid;rw [←hW0];exact alloc_old box_at _
 have HZ0:Hid (W0.heap[w.heap.size+1+1]?=some (.cells #[.int .i64 0,.int .i64 0,.bool false,.string { data:=#[] },.slice none 0 0,.slice none 0 0] 36 (0,0))):=by unfold Hid;rw [←hW0];exact on2
 have HSZ:Hid (W0.heap.size=w.heap.size+1+1+1):=by unfold Hid;rw [←hW0];simp
 have HW0:=Hid.mk hW0
 clear hW0
 have HB0:=HBA W0 HG0.out.below
 clear HBA
 go_enter Tryz.func70,Tryz.ntmps70
 go_wp2_with fail
 rw [HW0.out]
 refine HB0.mono ?_
 rintro e w1 ⟨v1,rfl,hfr,hb1⟩
 obtain ⟨q1,q2,q3,p1,p2,p3,rfl⟩:=hfr.shapeF
 have HFR:=Hid.mk hfr
 have hz2:=HSZ.out
 have hz3:=hb1.size
 have hz1:w.heap.size+1+1<w1.heap.size:=by omega
 have hr:=(hb1.block (w.heap.size+1+1) (by omega)).trans HZ0.out
 obtain ⟨y0,y1,y2,y3,y4,y5,y6⟩:=cells6 hr
 have fr':=frz hr
 have HB1:=Hid.mk hb1
 clear hr hb1 hfr hz2 hz3
 generalize r.form=rf at *
 generalize r.n=rn at *
 generalize r.hid=rh at *
 generalize r.name=rm at *
 go_wp2
 refine bodyPost_ret (v:=.tuple #[.agg #[.int .i64 rf,.int .i64 rn,.bool rh,.string rm,.slice q1 q2 q3,.slice p1 p2 p3],.int .i64 0]) (by simp [results,Tryz.results70,go_sem,y0,y1,y2,y3,y4,y5]) rfl ⟨?_,?_⟩
 ·exact (((Kept.of_grew HG0.out).trans (Kept.of_below HB1.out)).old (Q:=fun k=>k=w.heap.size+1+1) (keep6 rfl) (fun i h1 h2=>by omega))
 ·rw [HE.out]
  refine ⟨⟨_,rfl,?_,fun _=>HBK.out⟩,trivial⟩
  refine HFR.out.on (fun _=>HBK.out) (by rw [size6];exact Nat.le_refl _) (fun k h1 h2=>?_) (by have:=HSZ.out;omega)
  exact (keep6 (P:=fun k=>k=w.heap.size+1+1) rfl).block k h2 (by have:=HSZ.out;omega)
theorem Copy_any (t:Tm) (v:Value) (w:World) (hv:TV w v t) (hG:GT t) (hs:(sizeT t:Int)≤16777216) (hh:(heightT t:Int)≤65536):Calls Tryz.prog 52 #[v] w fun e w'=>∃v',e=.returned v'∧TO w' w.heap.size w'.heap.size v' (cleanT t)∧RowKit.Below w.heap.size w w':=by
 have HC:=fun (W:World) (h:RowKit.Below w.heap.size w W)=>count_any 16777216 65536 (by omega) (by omega) (by omega) t v W (hv.on h)
 have HW:=fun (W:World) (hB:RowKit.Below w.heap.size w W)=>walkT_any (w0:=w) (bs:=#[]) GT_kid (fun k hk=>hk.elim) (fun s w' k hI hk=>hk.elim) (fun s a b M _ _ _ _=>trivial) cf_taken (taken_visits w) t () v 0 0 W hG trivial hv hB (by omega) (by omega) (by omega) (Or.inr (by omega))
 rw [tak_walk t 0 0] at HW
 have HOK:Hid ((sizeT t:Int)≤16777216∧(heightT t:Int)≤65536):=⟨hs,hh⟩
 generalize cleanT t=r at *
 obtain ⟨la,lc,ka,kc,rfl⟩:=hv.shape
 clear hv hG hs hh
 generalize t.form=f at *
 generalize t.n=n at *
 generalize t.hid=hd at *
 generalize t.name=nm at *
 generalize t.levels.length=l1 at *
 generalize t.kids.length=k1 at *
 obtain ⟨W0,hW0⟩:∃W0,(w.alloc (.cells #[.int .i64 f,.int .i64 n,.bool hd,.string nm,.slice la l1 lc,.slice ka k1 kc] 36)).alloc (.cells #[.int .i64 0,.int .i64 0,.bool false,.string { data:=#[] },.slice none 0 0,.slice none 0 0] 36)=W0:=⟨_,rfl⟩
 have hb0:RowKit.Below w.heap.size w W0:=by rw [←hW0];exact ((Below.refl _ _).alloc (Nat.le_refl _) _).alloc (by simp) _
 have HX0:Hid (W0.heap[w.heap.size]?=some (.cells #[.int .i64 f,.int .i64 n,.bool hd,.string nm,.slice la l1 lc,.slice ka k1 kc] 36 (0,0))):=by unfold Hid;rw [←hW0];exact box_at
 have HR0:Hid (W0.heap[w.heap.size+1]?=some (.cells #[.int .i64 0,.int .i64 0,.bool false,.string { data:=#[] },.slice none 0 0,.slice none 0 0] 36 (0,0))):=by unfold Hid;rw [←hW0];exact box_at1
 have HC0:=HC W0 hb0
 have HB0:=Hid.mk hb0
 have HW0:=Hid.mk hW0
 obtain ⟨x0,x1,x2,x3,x4,x5,x6⟩:=cells6 HX0.out
 clear hW0 hb0 HC
 go_enter Tryz.func52,Tryz.ntmps52
 go_wp2_with fail
 rw [HW0.out]
 refine HC0.mono ?_
 rintro e w1 ⟨⟨cr,cc,rfl,hok,-⟩,hb1⟩
 obtain ⟨-,rfl⟩:=hok HOK.out
 have HB1:Hid (RowKit.Below w.heap.size w w1):=HB0.out.trans (hb1.mono HB0.out.size)
 have HX1:=Hid.mk ((hb1.block _ (heap_lt HX0.out)).trans HX0.out)
 have HR1:=Hid.mk ((hb1.block _ (heap_lt HR0.out)).trans HR0.out)
 have HW1:=HW w1 HB1.out
 clear HC0 hb1 HW x0 x1 x2 x3 x4 x5 x6 hok
 obtain ⟨x0,x1,x2,x3,x4,x5,x6⟩:=cells6 HX1.out
 go_wp2_with fail
 refine HW1.mono ?_
 rintro e w2 ⟨hk2,⟨v2,rfl,hto2⟩,-⟩
 have hb2:RowKit.Below w1.heap.size w1 w2:=hk2.below (Nat.le_refl _) (fun k h=>h.elim)
 obtain ⟨u0,u1,u2,u3,u4,u5,u6,u7,u8,u9,rfl⟩:=hto2.shapeE
 have hr2:=(hb2.block _ (heap_lt HR1.out)).trans HR1.out
 obtain ⟨W3,hW3⟩:∃W3,w2.alloc (.cells #[.int .i64 u0,.int .i64 u1,.bool u2,.string u3,.slice u4 u5 u6,.slice u7 u8 u9] 36)=W3:=⟨_,rfl⟩
 have hb3:RowKit.Below w2.heap.size w2 W3:=by rw [←hW3];exact (Below.refl _ _).alloc (Nat.le_refl _) _
 have HZ3:Hid (W3.heap[w2.heap.size]?=some (.cells #[.int .i64 u0,.int .i64 u1,.bool u2,.string u3,.slice u4 u5 u6,.slice u7 u8 u9] 36 (0,0))):=by unfold Hid;rw [←hW3];exact alloc_new _ _
 have HR3:=Hid.mk ((hb3.block _ (heap_lt hr2)).trans hr2)
 have HB3:Hid (RowKit.Below w.heap.size w W3):=HB1.out.trans ((hb2.trans (hb3.mono hb2.size)).mono HB1.out.size)
 have HTO3:Hid (TO W3 w1.heap.size w2.heap.size (.agg #[.int .i64 u0,.int .i64 u1,.bool u2,.string u3,.slice u4 u5 u6,.slice u7 u8 u9]) r):=hto2.on fun k h1 h2=>hb3.block k h2
 have hs01:w.heap.size+1<w1.heap.size:=heap_lt HR1.out
 have hs12:=hb2.size
 have hs23:=hb3.size
 have HW3:=Hid.mk hW3
 obtain ⟨y0,y1,y2,y3,y4,y5,y6⟩:=cells6 HR3.out
 obtain ⟨z0,z1,z2,z3,z4,z5,z6⟩:=cells6 HZ3.out
 have fr':=frz HR3.out
 clear hk2 hto2 hb2 hb3 hr2 hW3 HW1 x0 x1 x2 x3 x4 x5 x6
 go_wp2_with (rw [HW3.out])
 refine bodyPost_ret (v:=.agg #[.int .i64 u0,.int .i64 u1,.bool u2,.string u3,.slice u4 u5 u6,.slice u7 u8 u9]) (by simp [results,Tryz.results52,go_sem,y0,y1,y2,y3,y4,y5]) rfl ⟨_,rfl,?_,?_⟩
 ·refine ((HTO3.out.on (fun k h1 h2=>?_)).mono (by omega) ?_)
  ·exact (keep6 (P:=fun k=>k=w.heap.size+1) rfl).block k (by omega) (by omega)
  ·rw [size6];omega
 ·exact HB3.out.trans ((keep6 (P:=fun k=>k=w.heap.size+1) rfl).below HB3.out.size (fun k hk=>by omega))
theorem ownsG_shape {w:World}{B n size:Nat}{e:TypeId}{v:Value}{xs:List Value}(h:w.ownsRow B e size v n xs):∃a cap,v=.slice a n cap∧n≤cap∧cap≤9223372036854775807∧(a=none→n=0∧cap=0)∧∀ad,a=some ad→∃g,ad=⟨g,0,none⟩∧B≤g∧g<w.heap.size:=by
 rcases h.2 with ⟨hv,hn⟩ | ⟨g,cap,cur,hv,hg,hh,hc,hm,hs,ht⟩
 ·exact ⟨none,0,by rw [hv,hn],by omega,by omega,fun _=>⟨hn,rfl⟩,fun ad h=>by cases h⟩
 ·exact ⟨_,cap,hv,hc,by unfold maxLen at hm;omega,fun h=>(by cases h),fun ad h=>⟨g,(by simpa using h.symm),hg,heap_lt hh⟩⟩
theorem ownsG_block {w W:World}{B n cap size:Nat}{e:TypeId}{a:Option Addr}{xs:List Value}(h:w.ownsRow B e size (.slice a n cap) n xs) (hk:∀g,a=some ⟨g,0,none⟩→W.heap[g]?=w.heap[g]?):W.ownsRow B e size (.slice a n cap) n xs:=by
 rcases h with ⟨h1,h2⟩
 refine ⟨h1,?_⟩
 rcases h2 with h2 | ⟨g,cap',cur,hv,hg,hh,r⟩
 ·exact Or.inl h2
 ·refine Or.inr ⟨g,cap',cur,hv,hg,(hk g ?_).trans hh,r⟩
  simp at hv
  exact hv.1
theorem rowG_block {w:World}{B cap n size:Nat}{e:TypeId}{a:Option Addr}{xs:List Value}(h:w.ownsRow B e size (.slice a n cap) n xs) {k:Nat}(hk:ownB a k=true):B≤k∧k<w.heap.size:=by
 cases a with
 | none=>simp [ownB] at hk
 | some ad =>
  obtain ⟨_,_,e,-,-,-,hg⟩:=ownsG_shape h
  simp only [Value.slice.injEq,true_and] at e
  obtain ⟨rfl,rfl⟩:=e
  obtain ⟨g,rfl,h1,h2⟩:=hg ad rfl
  simp [ownB] at hk
  omega
structure RowL (w:World) (B:Nat) (P:Nat→Bool) (a:Option Addr) (cap:Nat) (ls:List LvT):Prop where
 go:∃xs:List Value,w.ownsRow B 75 2 (.slice a ls.length cap) ls.length xs∧∀j n vs,ls[j]?=some (n,vs)→xs[j*2]?=some (.int .i64 n)∧∃a' cap',xs[j*2+1]?=some (.slice a' vs.length cap')∧(a'=none→cap'=0)∧SL (maskB (fun k=>P k||ownB a k) w) a' vs
theorem RowL.nil (w:World) (B:Nat) (P:Nat→Bool):RowL w B P none 0 []:=⟨[],World.ownsRow_nil _ _ _ _,fun j n vs h=>by simp at h⟩
theorem RowL.move {w w':World}{B cap:Nat}{P:Nat→Bool}{a:Option Addr}{ls:List LvT}(h:RowL w B P a cap ls) (hB:∀k,B≤k→P k=false) (hs:w.heap.size≤w'.heap.size) (hk:∀k,k<w.heap.size→P k=false→w'.heap[k]?=w.heap[k]?):RowL w' B P a cap ls:=by
 obtain ⟨xs,hown,hkv⟩:=h.go
 refine ⟨xs,ownsG_block hown fun g hg=>?_,fun j n vs hj=>?_⟩
 ·subst hg
  obtain ⟨h1,h2⟩:=World.ownsRow.lt hown g rfl
  exact hk g h2 (hB g h1)
 ·obtain ⟨c0,a',cap',c1,hn,hS⟩:=hkv j n vs hj
  refine ⟨c0,a',cap',c1,hn,hS.subF (by rw [maskB_size,maskB_size];exact hs) (maskB_keeps fun k h1 h2=>⟨h2,hk k h1 ?_⟩)⟩
  rw [Bool.or_eq_false_iff] at h2;exact h2.1
theorem RowL.snoc {w w':World}{B cap cap' g:Nat}{P:Nat→Bool}{a:Option Addr}{ls:List LvT}{xs:List Value}{n:Int}{vs:List (Int×Int)}{a':Option Addr}{c':Nat}(hkv:∀j n vs,ls[j]?=some (n,vs)→xs[j*2]?=some (.int .i64 n)∧∃a' cap',xs[j*2+1]?=some (.slice a' vs.length cap')∧(a'=none→cap'=0)∧SL (maskB (fun k=>P k||ownB a k) w) a' vs) (hl:xs.length=ls.length*2)
  (hown:w'.ownsRow B 75 2 (.slice (some ⟨g,0,none⟩) (ls.length+1) cap') (ls.length+1) (xs++[.int .i64 n,.slice a' vs.length c'])) (hgr:w.grownBy w' (Value.slice a ls.length cap).ownBlock) (hat:(Value.slice a ls.length cap).ownBlock=some g∨g=w.heap.size)
  (hn:a'=none→c'=0) (hnew:SL (maskB (fun k=>P k||ownB a k) w) a' vs):RowL w' B P (some ⟨g,0,none⟩) cap' (ls++[(n,vs)]):=by
 have hmv:∀k,k<w.heap.size→(P k||ownB a k)=false→(P k||ownB (some ⟨g,0,none⟩) k)=false∧w'.heap[k]?=w.heap[k]?:=by
  intro k hk hp
  rw [Bool.or_eq_false_iff] at hp
  refine ⟨?_,hgr.block k hk (ownB_none hp.2)⟩
  rw [Bool.or_eq_false_iff]
  refine ⟨hp.1,?_⟩
  simp only [ownB,beq_eq_false_iff_ne]
  rcases hat with hat | hat
  ·intro e
   exact ownB_none hp.2 (by rw [←e,hat])
  ·omega
 have hsz:(maskB (fun k=>P k||ownB a k) w).heap.size≤(maskB (fun k=>P k||ownB (some ⟨g,0,none⟩) k) w').heap.size:=by rw [maskB_size,maskB_size];exact hgr.size
 refine ⟨_,by rw [List.length_append];exact hown,fun j m us hj=>?_⟩
 by_cases h:j<ls.length
 ·rw [List.getElem?_append_left h] at hj
  obtain ⟨c0,b',cap2,c1,hn2,hS⟩:=hkv j m us hj
  exact ⟨by rw [List.getElem?_append_left (by omega)];exact c0,b',cap2,by rw [List.getElem?_append_left (by omega)];exact c1,hn2,hS.subF hsz (maskB_keeps hmv)⟩
 ·obtain rfl:j=ls.length:=by
   have:=(List.getElem?_eq_some_iff.1 hj).1;simp at this;omega
  simp only [List.getElem?_concat_length,Option.some.injEq,Prod.mk.injEq] at hj
  obtain ⟨rfl,rfl⟩:=hj
  refine ⟨?_,a',c',?_,hn,hnew.subF hsz (maskB_keeps hmv)⟩
  ·rw [List.getElem?_append_right (by omega),hl,Nat.sub_self];rfl
  ·rw [List.getElem?_append_right (by omega),hl,Nat.add_sub_cancel_left];rfl
theorem RowL.ln {w:World}{B cap:Nat}{P:Nat→Bool}{a:Option Addr}{ls:List LvT}(h:RowL w B P a cap ls) (hB:∀k,B≤k→P k=false):LN (maskB P w) a ls∧(a=none→cap=0)∧ls.length≤cap∧cap≤9223372036854775807:=by
 obtain ⟨xs,hown,hkv⟩:=h.go
 obtain ⟨a0,cap0,e,hc,hm,hn,hg⟩:=ownsG_shape hown
 simp only [Value.slice.injEq,true_and] at e
 obtain ⟨rfl,rfl⟩:=e
 have hsub:∀p v,(maskB (fun k=>P k||ownB a k) w).cell? p=some v→(maskB P w).cell? p=some v:=maskB_keeps fun k _ hp=>⟨by rw [Bool.or_eq_false_iff] at hp;exact hp.1,rfl⟩
 refine ⟨?_,fun e=>(hn e).2,hc,hm⟩
 cases a with
 | none=>exact Or.inl (List.length_eq_zero_iff.1 (hn rfl).1)
 | some ad =>
  obtain ⟨g,rfl,hg1,hg2⟩:=hg ad rfl
  refine Or.inr ⟨g,0,rfl,by rw [maskB_size];exact hg2,fun i n vs hi=>?_⟩
  have hi':i<ls.length:=(List.getElem?_eq_some_iff.1 hi).1
  obtain ⟨c0,a',cap',c1,hn',hS⟩:=hkv i n vs hi
  have hcell:∀o,(maskB P w).cell? ⟨g,o,none⟩=w.cell? ⟨g,o,none⟩:=fun o=>World.cell?_of_block (maskB_no w (hB g hg1))
  refine ⟨?_,a',cap',?_,hS.subF (by rw [maskB_size,maskB_size];exact Nat.le_refl _) hsub,hn'⟩
  ·rw [Nat.zero_add,hcell,World.ownsRow.cellAt hown (i*2) (by omega)];exact c0
  ·rw [Nat.zero_add,hcell,World.ownsRow.cellAt hown (i*2+1) (by omega)];exact c1
theorem OR.slF {B:Nat}{w:World}{v:Value}{xs:List (Int×Int)}{P:Nat→Bool}(h:OR B w v xs) (hP:∀k,B≤k→P k=false):∃a cap,v=.slice a xs.length cap∧SL (maskB P w) a xs∧(a=none→cap=0):=by
 rcases h.2 with ⟨hv,hn⟩ | ⟨g,cap,cur,hv,hg,hh,hc,hm,hs,ht⟩
 ·have:xs=[]:=List.length_eq_zero_iff.1 hn
  subst this
  exact ⟨none,0,hv,Or.inl rfl,fun _=>rfl⟩
 ·refine ⟨some ⟨g,0,none⟩,cap,hv,?_,fun e=>by cases e⟩
  obtain ⟨a',cap',e,hS,-⟩:=h.shape
  rw [hv] at e
  simp only [Value.slice.injEq,true_and] at e
  obtain ⟨rfl,rfl⟩:=e
  rcases hS with hS | ⟨b,off,ha,hlt,hS⟩
  ·exact Or.inl hS
  ·simp only [Option.some.injEq,Addr.mk.injEq,and_true] at ha
   obtain ⟨rfl,rfl⟩:=ha
   have hcell:∀o,(maskB P w).cell? ⟨g,o,none⟩=w.cell? ⟨g,o,none⟩:=fun o=>World.cell?_of_block (maskB_no w (hP g hg))
   exact Or.inr ⟨g,0,rfl,by rw [maskB_size];exact hlt,fun i hi=>⟨(hcell _).trans (hS i hi).1,(hcell _).trans (hS i hi).2⟩⟩
theorem step_appV {w:World}{ops:Array Oper}{o:Oper}{a:Act}{K:Act→World→Prop}{Q:Exit→Act→World→Prop}{E:Prop}(hgd:o.guard=none) (s x:Operand) (ho:o.op=.call { callee:=.builtin .append,args:=#[s,x],argTypes:=#[73,73] })
  (B:Nat) (xs:List (Int×Int)) (a1:Option Addr) (c1:Nat) (hs:a.eval s=.slice none 0 0) (hx:a.eval x=.slice a1 xs.length c1) (hS:SL w a1 xs) (hn:a1=none→c1=0) (hl:xs.length≤4398046511104) (hB:B≤w.heap.size)
  (h:∀v' w',OR B w' v' xs→w.grownBy w' none→K (a.put o.dst v') w'):if Region.wanted o (yielded ops a.tmps)=true then Oper.wp Tryz.prog o a w K Q else E:=by
 have hw:Region.wanted o (yielded ops a.tmps)=true:=by simp [Region.wanted,hgd]
 rw [if_pos hw]
 obtain ⟨i0,hi,hz0,hz1,hz2⟩:=info_parts infoLVar
 have hO:OR B w (.slice none 0 0) []:=OR.nil _ _
 cases a1 with
 | none =>
  have hxe:xs=[]:=by
   rcases hS with h | ⟨b,off,ha,_⟩
   ·exact h
   ·cases ha
  subst hxe
  rw [hn rfl] at hx
  have hrun:=run_append_owned_none (P:=Tryz.prog) (w:=w) B 73 o.type 109 i0 2 Tryz.underlying73 hi (.slice none 0 0) 0 [] hO
  unfold Oper.wp
  simp only [List.length_nil] at hx
  simp [execOp,ho,resolve,invoke,builtin,hs,hx,hrun,Result.andThen]
  exact h _ w hO ⟨rfl,rfl,rfl,Nat.le_refl _,fun _ _ _=>rfl⟩
 | some ad =>
  have hnews:∀j u,(flat xs)[j]?=some u→w.cell? (ad.add j)=some u:=by
   rcases hS with h | ⟨b,off,ha,hr⟩
   ·subst h;intro j u hu;simp [flat] at hu
   ·have ha':ad=⟨b,off,none⟩:=by simpa using ha
    subst ha'
    exact SL.flat (Or.inr ⟨b,off,rfl,hr⟩)
  refine wp_append_own _ s x 73 ho B 109 i0 _ 2 16 Tryz.underlying73 hi hz0 hz1 hz2 rfl (by decide) (.slice none 0 0) 0 [] hs hO ad xs.length c1 (flat xs) hx (flat_length xs) hnews (flat_one xs) (by simp [maxLen];omega) (by omega) hB ?_
  intro v' w' hown hgr _
  exact h v' w' (by unfold OR;simpa using hown) hgr
theorem set5_heap {w:World}{b:Nat}{u0 u1 u2 u3 u4 u5 x:Value}{t:TypeId}(h:w.heap[b]?=some (.cells #[u0,u1,u2,u3,u4,u5] t (0,0))):(w.setCell ⟨b,5,none⟩ x).heap[b]?=some (.cells #[u0,u1,u2,u3,u4,x] t (0,0)):=by
 rw [setCell_eq];show (w.heap.modify b _)[b]?=_
 rw [Array.getElem?_modify,if_pos rfl,h];rfl
theorem set4_heap {w:World}{b:Nat}{u0 u1 u2 u3 u4 u5 x:Value}{t:TypeId}(h:w.heap[b]?=some (.cells #[u0,u1,u2,u3,u4,u5] t (0,0))):(w.setCell ⟨b,4,none⟩ x).heap[b]?=some (.cells #[u0,u1,u2,u3,x,u5] t (0,0)):=by
 rw [setCell_eq];show (w.heap.modify b _)[b]?=_
 rw [Array.getElem?_modify,if_pos rfl,h];rfl
end Go.Proofs.YtgfgpjcnfnopnaaGreat
