/- The contracts of term's judged, Check, Size, Free, Has. -/
import Derived.Test.YtgfgpjcnfnopnaaGreatWE
namespace Go.Proofs.YtgfgpjcnfnopnaaGreat
set_option maxRecDepth 100000
set_option maxHeartbeats 40000000
open Go.RowKit Go.Sort
mutual
def smT (m:Nat):Tm→Prop
 | .mk _ _ _ nm ls ks=>nm.size≤m∧ls.length≤m∧(∀l∈ls,l.2.length≤m)∧ks.length≤m∧smTs m ks
def smTs (m:Nat):List Tm→Prop
 | []=>True
 | k::ks=>smT m k∧smTs m ks
end
theorem smTs_iff (m:Nat):∀ks:List Tm,smTs m ks↔∀k∈ks,smT m k
 | []=>by simp [smTs]
 | k::ks=>by simp [smTs,smTs_iff m ks]
theorem smT_mk (m:Nat) (f n:Int) (hd:Bool) (nm:ByteArray) (ls:List LvT) (ks:List Tm):smT m (.mk f n hd nm ls ks)↔nm.size≤m∧ls.length≤m∧(∀l∈ls,l.2.length≤m)∧ks.length≤m∧∀k∈ks,smT m k:=by
 rw [smT,smTs_iff]
theorem smT_kid (m:Nat) (f n:Int) (hd:Bool) (nm:ByteArray) (ls:List LvT) (ks:List Tm) (h:smT m (.mk f n hd nm ls ks)):∀k∈ks,smT m k:=((smT_mk m f n hd nm ls ks).1 h).2.2.2.2
theorem smT_lv (m:Nat) (t:Tm):smT m t→lvB m t=true:=by
 refine Tm.ind (P:=fun t=>smT m t→lvB m t=true) ?_ t
 intro f n hd nm ls ks ih h
 rw [smT_mk] at h
 rw [lvB_mk,Bool.and_eq_true,List.all_eq_true,List.all_eq_true]
 exact ⟨fun l hl=>by simpa using h.2.2.1 l hl,fun k hk=>ih k hk (h.2.2.2.2 k hk)⟩
def judB (t:Tm):Bool:=decide ((t.kids.length:Int)=kidsR t.form)&&fieldsB t
def judV (_:Unit) (t:Tm) (_ _:Int):Except Int (Unit×Int):=if judB t then .ok ((),1) else .error 10
theorem judged_visits (w0:World):VisitsI (smT 1000000) (fun _=>False) (fun _ _=>True) w0 79 #[] judV:=by
 intro s t v b p w hsm _ hv _ hb0 hbp hp
 have hlv:∀l∈t.levels,l.2.length≤1000000:=by cases t;exact ((smT_mk _ _ _ _ _ _ _).1 hsm).2.2.1
 have hll:t.levels.length≤1000000:=by cases t;exact ((smT_mk _ _ _ _ _ _ _).1 hsm).2.1
 have hkl:t.kids.length≤1000000:=by cases t;exact ((smT_mk _ _ _ _ _ _ _).1 hsm).2.2.2.1
 clear hsm
 have HFR:=fun (W:World) (h:RowKit.Below w.heap.size w W) (h7:t.form=7→t.kids≠[])=>fieldsRight_any t v W (hv.on h) h7 hlv (by omega)
 obtain ⟨la,lc,ka,kc,rfl⟩:=hv.shape
 clear hv hlv
 have HE:Hid (judV s t b p=if judB t then .ok ((),1) else .error 10):=rfl
 have HJ:Hid (judB t=(decide ((t.kids.length:Int)=kidsR t.form)&&fieldsB t)):=rfl
 have H7:Hid ((t.kids.length:Int)=kidsR t.form→t.form=7→t.kids≠[]):=fun h h7 e=>by rw [h7,e] at h;simp [kidsR] at h
 generalize judV s t b p=R at HE ⊢
 generalize judB t=J at HE HJ
 generalize fieldsB t=F at *
 generalize t.form=f at *
 generalize t.n=n at *
 generalize t.hid=hd at *
 generalize t.name=nm at *
 generalize t.levels.length=l1 at *
 generalize hks:t.kids=ks at *
 clear hks
 show Calls Tryz.prog 79 #[.agg #[.int .i64 f,.int .i64 n,.bool hd,.string nm,.slice la l1 lc,.slice ka ks.length kc],.agg #[.int .i64 b,.int .i64 p]] w _
 obtain ⟨W0,hW0⟩:∃W0,(w.alloc (.cells #[.int .i64 f,.int .i64 n,.bool hd,.string nm,.slice la l1 lc,.slice ka ks.length kc] 36)).alloc (.cells #[.int .i64 b,.int .i64 p] 120)=W0:=⟨_,rfl⟩
 have HG0:Hid (Grew w W0):=by unfold Hid;rw [←hW0];exact ((Grew.refl w).alloc _).alloc _
 have HX0:Hid (W0.heap[w.heap.size]?=some (.cells #[.int .i64 f,.int .i64 n,.bool hd,.string nm,.slice la l1 lc,.slice ka ks.length kc] 36 (0,0))):=by unfold Hid;rw [←hW0];exact box_at
 obtain ⟨x0,x1,x2,x3,x4,x5,x6⟩:=cells6 HX0.out
 have HW0:=Hid.mk hW0
 clear hW0
 have mx:=mixed
 by_cases hq:(ks.length:Int)=kidsR f
 ·have hqb:((ks.length:Int) != kidsR f)=false:=by simpa using hq
  have HJ2:Hid (J=F):=by unfold Hid;rw [HJ.out];simp [hq]
  clear HJ
  have HF:=HFR W0.drew (HG0.out.below.drew) (H7.out hq)
  clear hq HFR
  have HCEL:Hid (∀W:World,RowKit.Below W0.heap.size W0 W→W.cell? ⟨w.heap.size,0,none⟩=some (.int .i64 f)∧W.cell? ⟨w.heap.size,1,none⟩=some (.int .i64 n)∧W.cell? ⟨w.heap.size,2,none⟩=some (.bool hd)∧W.cell? ⟨w.heap.size,3,none⟩=some (.string nm)∧W.cell? ⟨w.heap.size,4,none⟩=some (.slice la l1 lc)∧W.cell? ⟨w.heap.size,5,none⟩=some (.slice ka ks.length kc)):=fun W h=>⟨(h.cell (p:=⟨w.heap.size,0,none⟩) x6).trans x0,(h.cell (p:=⟨w.heap.size,1,none⟩) x6).trans x1,(h.cell (p:=⟨w.heap.size,2,none⟩) x6).trans x2,(h.cell (p:=⟨w.heap.size,3,none⟩) x6).trans x3,(h.cell (p:=⟨w.heap.size,4,none⟩) x6).trans x4,(h.cell (p:=⟨w.heap.size,5,none⟩) x6).trans x5⟩
  have HA:=arity_any f
  generalize kidsR f=K at *
  cases F
  ·go_enter Tryz.func79,Tryz.ntmps79
   go_wp2_with fail
   rw [HW0.out]
   go_region_held3 (fun w'=>w'.cell? ⟨w.heap.size,0,none⟩=some (.int .i64 f)∧w'.cell? ⟨w.heap.size,1,none⟩=some (.int .i64 n)∧w'.cell? ⟨w.heap.size,2,none⟩=some (.bool hd)∧w'.cell? ⟨w.heap.size,3,none⟩=some (.string nm)∧w'.cell? ⟨w.heap.size,4,none⟩=some (.slice la l1 lc)∧w'.cell? ⟨w.heap.size,5,none⟩=some (.slice ka ks.length kc)) (first | exact HCEL.out _ (Below.refl _ _).drew | exact HCEL.out _ hb5)
    (first | (go_at_call 91;refine (HA _).mono ?_;rintro e w' ⟨rfl,rfl⟩) | (go_at_call 92;refine HF.mono ?_;rintro e w5 ⟨rfl,hg5⟩;have hb5:RowKit.Below W0.heap.size W0 w5:=(Below.refl _ _).drew.trans hg5;have HG5:=Hid.mk hb5;clear hg5))
   go_wp2
   go_ret2
   have hR:R=.error 10:=by rw [HE.out,HJ2.out];rfl
   rw [hR]
   exact ⟨Kept.of_below (HG0.out.below.trans (HG5.out.mono HG0.out.below.size)),by decide,_,rfl⟩
  ·go_enter Tryz.func79,Tryz.ntmps79
   go_wp2_with fail
   rw [HW0.out]
   go_region_held3 (fun w'=>w'.cell? ⟨w.heap.size,0,none⟩=some (.int .i64 f)∧w'.cell? ⟨w.heap.size,1,none⟩=some (.int .i64 n)∧w'.cell? ⟨w.heap.size,2,none⟩=some (.bool hd)∧w'.cell? ⟨w.heap.size,3,none⟩=some (.string nm)∧w'.cell? ⟨w.heap.size,4,none⟩=some (.slice la l1 lc)∧w'.cell? ⟨w.heap.size,5,none⟩=some (.slice ka ks.length kc)) (first | exact HCEL.out _ (Below.refl _ _).drew | exact HCEL.out _ hb5)
    (first | (go_at_call 91;refine (HA _).mono ?_;rintro e w' ⟨rfl,rfl⟩) | (go_at_call 92;refine HF.mono ?_;rintro e w5 ⟨rfl,hg5⟩;have hb5:RowKit.Below W0.heap.size W0 w5:=(Below.refl _ _).drew.trans hg5;have HG5:=Hid.mk hb5;clear hg5))
   go_wp2
   go_ret2
   have hR:R=.ok ((),1):=by rw [HE.out,HJ2.out];rfl
   rw [hR]
   exact ⟨Kept.of_below (HG0.out.below.trans (HG5.out.mono HG0.out.below.size)),rfl,trivial⟩
 ·have hqb:((ks.length:Int) != kidsR f)=true:=by simpa using hq
  have HJ2:Hid (J=false):=by unfold Hid;rw [HJ.out];simp [hq]
  clear hq HFR H7
  have HA:=arity_any f
  generalize kidsR f=K at *
  go_enter Tryz.func79,Tryz.ntmps79
  go_wp2_with fail
  rw [HW0.out]
  go_quiet ((go_at_call 91;exact Calls.quiet_of_same (HA _)))
  go_wp2
  go_ret2
  have hR:R=.error 10:=by rw [HE.out,HJ2.out];rfl
  rw [hR]
  exact ⟨Kept.of_grew (HG0.out.drewN _),by decide,_,rfl⟩
theorem wplus_eq {a b:Int}(h0:0≤a+b) (h1:a+b≤1000000000000):wplus a b=a+b:=by
 unfold wplus wrap64;omega
theorem sizeT_pos (t:Tm):1≤sizeT t:=by cases t;rw [sizeT_mk];omega
theorem cnt_list (H:Int) (f:Int):∀(ks:List Tm) (i:Nat) (s r b p:Int),(∀k∈ks,∀(s b p:Int),0≤s→s≤16777216→walkF (cntV H) wplus k s b p=if (sizeT k:Int)≤s∧p+heightT k≤H then .ok (s - sizeT k,(sizeT k:Int)) else .error 2)→0≤r→r+s≤16777216→0≤s →
  walkL (cntV H) wplus f ks i s r b p=if (((ks.map sizeT).sum:Nat):Int)≤s∧(ks=[]∨p+1+((ks.map heightT).foldl max 0:Nat)≤H) then .ok (s - ((ks.map sizeT).sum:Nat),r+((ks.map sizeT).sum:Nat)) else .error 2
 | [],i,s,r,b,p,_,h0,h1,h2=>by
  rw [walkL];simp [h2]
 | k::ks,i,s,r,b,p,ih,h0,h1,h2=>by
  rw [walkL,ih k (by simp) s _ _ (by omega) (by omega)]
  have hm:((k::ks).map heightT).foldl max 0=max (heightT k) ((ks.map heightT).foldl max 0):=by
   simp only [List.map_cons,List.foldl_cons]
   have:∀(l:List Nat) (a c:Nat),l.foldl max (max a c)=max a (l.foldl max c):=by
    intro l
    induction l with
    | nil=>intro a c;rfl
    | cons x l ihl=>intro a c;simp only [List.foldl_cons];rw [Nat.max_assoc,ihl]
   rw [Nat.max_comm 0,this]
  have hs:((k::ks).map sizeT).sum=sizeT k+(ks.map sizeT).sum:=by simp
  rw [hm,hs]
  have hk:=sizeT_pos k
  by_cases hc:(sizeT k:Int)≤s∧p+1+heightT k≤H
  ·rw [if_pos hc]
   simp only []
   rw [cnt_list H f ks (i+1) (s - sizeT k) (wplus r (sizeT k)) b p (fun k' hk'=>ih k' (by simp [hk'])) (by rw [wplus_eq]<;>omega) (by rw [wplus_eq]<;>omega) (by omega)]
   rw [wplus_eq (by omega) (by omega)]
   by_cases hd:(((ks.map sizeT).sum:Nat):Int)≤s - sizeT k∧(ks=[]∨p+1+((ks.map heightT).foldl max 0:Nat)≤H)
   ·rw [if_pos hd,if_pos]
    ·congr 1
     simp only [Prod.mk.injEq];omega
    ·refine ⟨by omega,Or.inr ?_⟩
     rcases hd.2 with rfl | h
     ·simp at *;omega
     ·omega
   ·rw [if_neg hd,if_neg]
    intro hn
    apply hd
    refine ⟨by omega,?_⟩
    rcases hn.2 with h | h
    ·cases h
    ·right;omega
  ·rw [if_neg hc,if_neg]
   intro hn
   apply hc
   rcases hn.2 with h | h
   ·cases h
   ·omega
theorem cnt_walk (H:Int) (t:Tm):∀(s b p:Int),0≤s→s≤16777216→walkF (cntV H) wplus t s b p=if (sizeT t:Int)≤s∧p+heightT t≤H then .ok (s - sizeT t,(sizeT t:Int)) else .error 2:=by
 refine Tm.ind (P:=fun t=>∀(s b p:Int),0≤s→s≤16777216→walkF (cntV H) wplus t s b p=if (sizeT t:Int)≤s∧p+heightT t≤H then .ok (s - sizeT t,(sizeT t:Int)) else .error 2) ?_ t
 intro f n hd nm ls ks ih s b p h0 h1
 rw [walkF_mk,sizeT_mk,heightT_mk]
 unfold cntV
 by_cases hc:s≤0∨H≤p
 ·rw [if_pos hc,if_neg (by omega)]
 ·rw [if_neg hc]
  show walkL (cntV H) wplus f ks 0 (s - 1) 1 b p=_
  rw [cnt_list H f ks 0 (s - 1) 1 b p ih (by omega) (by omega) (by omega)]
  by_cases hd:(((ks.map sizeT).sum:Nat):Int)≤s - 1∧(ks=[]∨p+1+((ks.map heightT).foldl max 0:Nat)≤H)
  ·rw [if_pos hd,if_pos]
   ·congr 1
    simp only [Prod.mk.injEq];omega
   ·refine ⟨by omega,?_⟩
    rcases hd.2 with rfl | h
    ·simp;omega
    ·omega
  ·rw [if_neg hd,if_neg]
   intro hn
   exact hd ⟨by omega,Or.inr (by omega)⟩
theorem count_any (M H:Int) (hM0:0≤M) (hM:M≤16777216) (hH:H≤100000) (t:Tm) (v:Value) (w:World) (hv:TV w v t):Calls Tryz.prog 68 #[v,.int .i64 M,.int .i64 H] w fun e w'=>(∃r c:Int,e=.returned (.tuple #[.int .i64 r,.int .i64 c])∧(((sizeT t:Int)≤M∧(heightT t:Int)≤H)→r=sizeT t∧c=0)∧(¬((sizeT t:Int)≤M∧(heightT t:Int)≤H)→c=2))∧RowKit.Below w.heap.size w w':=by
 have HW1:=fun W hI hB=>walkI_any (w0:=w) (bs:=#[.pointer (some ⟨w.heap.size+1,0,none⟩)]) (fun _ _ _ _ _ _ _ _ _=>trivial) (fun k hk=>by omega) (fun s w' k hI hk=>by subst hk;exact (Array.getElem?_eq_some_iff.1 hI.1).1) (fun s a b h=>cntI_grow H _ s a b h) cf_count cf_plus (count_visits H (w.heap.size+1) w) plus_any t M v 0 0 W trivial hI hv hB (by omega) (by omega) (by omega) (Or.inl fun s t b p h=>⟨2,by unfold cntV;rw [if_pos (by omega)]⟩)
 rw [cnt_walk H t M 0 0 hM0 hM] at HW1
 obtain ⟨la,lc,ka,kc,rfl⟩:=hv.shape
 clear hv
 generalize sizeT t=S at *
 generalize heightT t=Ht at *
 generalize t.form=f at *
 generalize t.n=n at *
 generalize t.hid=hd at *
 generalize t.name=nm at *
 generalize t.levels.length=l1 at *
 generalize t.kids.length=k1 at *
 have HG1:Hid (Grew w ((w.alloc (.cells #[.int .i64 f,.int .i64 n,.bool hd,.string nm,.slice la l1 lc,.slice ka k1 kc] 36)).alloc (.cells #[.int .i64 M,.int .i64 H] 137))):=((Grew.refl w).alloc _).alloc _
 have HI1:Hid (cntI H (w.heap.size+1) M ((w.alloc (.cells #[.int .i64 f,.int .i64 n,.bool hd,.string nm,.slice la l1 lc,.slice ka k1 kc] 36)).alloc (.cells #[.int .i64 M,.int .i64 H] 137))):=⟨box_at1,by omega,by omega⟩
 by_cases hc:(S:Int)≤M∧(0:Int)+Ht≤H
 ·rw [if_pos hc] at HW1
  have HC:Hid ((S:Int)≤M∧(Ht:Int)≤H):=⟨hc.1,by omega⟩
  clear hc
  go_enter Tryz.func68,Tryz.ntmps68
  go_wp2_with fail
  refine (HW1 _ HI1.out HG1.out.below).mono ?_
  rintro e w1 ⟨hk1,rfl,hI1⟩
  go_wp2
  go_ret2
  exact ⟨⟨_,_,rfl,fun _=>⟨rfl,rfl⟩,fun h=>absurd HC.out h⟩,HG1.out.below.trans (hk1.below HG1.out.below.size (fun k hk=>by omega))⟩
 ·rw [if_neg hc] at HW1
  have HC:Hid (¬((S:Int)≤M∧(Ht:Int)≤H)):=fun h=>hc ⟨h.1,by omega⟩
  clear hc
  go_enter Tryz.func68,Tryz.ntmps68
  go_wp2_with fail
  refine (HW1 _ HI1.out HG1.out.below).mono ?_
  rintro e w1 ⟨hk1,-,r,rfl⟩
  go_wp2
  go_ret2
  exact ⟨⟨_,_,rfl,fun h=>absurd h HC.out,fun _=>rfl⟩,HG1.out.below.trans (hk1.below HG1.out.below.size (fun k hk=>by omega))⟩
mutual
def formedB:Tm→Bool
 | .mk f n hd nm ls ks=>judB (.mk f n hd nm ls ks)&&formedBs ks
def formedBs:List Tm→Bool
 | []=>true
 | k::ks=>formedB k&&formedBs ks
end
theorem formedBs_all:∀ks:List Tm,formedBs ks=ks.all formedB
 | []=>rfl
 | k::ks=>by rw [formedBs,formedBs_all ks,List.all_cons]
theorem formedB_mk (f n:Int) (hd:Bool) (nm:ByteArray) (ls:List LvT) (ks:List Tm):formedB (.mk f n hd nm ls ks)=(judB (.mk f n hd nm ls ks)&&ks.all formedB):=by rw [formedB,formedBs_all]
theorem jud_list (f:Int):∀(ks:List Tm) (i:Nat) (r b p:Int),(∀k∈ks,∀(b p:Int),(formedB k=true→∃r,walkF judV wplus k () b p=.ok ((),r))∧(formedB k=false→walkF judV wplus k () b p=.error 10)) →
  (ks.all formedB=true→∃r',walkL judV wplus f ks i () r b p=.ok ((),r'))∧(ks.all formedB=false→walkL judV wplus f ks i () r b p=.error 10)
 | [],i,r,b,p,_=>⟨fun _=>⟨r,by rw [walkL]⟩,fun h=>by simp at h⟩
 | k::ks,i,r,b,p,ih=>by
  rw [List.all_cons,walkL]
  obtain ⟨h1,h2⟩:=ih k (by simp) (deepC f b i) (p+1)
  cases hk:formedB k
  ·rw [h2 hk];simp
  ·obtain ⟨r1,e1⟩:=h1 hk
   rw [e1]
   simpa using jud_list f ks (i+1) (wplus r r1) b p (fun k' hk'=>ih k' (by simp [hk']))
theorem jud_walk (t:Tm):∀(b p:Int),(formedB t=true→∃r,walkF judV wplus t () b p=.ok ((),r))∧(formedB t=false→walkF judV wplus t () b p=.error 10):=by
 refine Tm.ind (P:=fun t=>∀(b p:Int),(formedB t=true→∃r,walkF judV wplus t () b p=.ok ((),r))∧(formedB t=false→walkF judV wplus t () b p=.error 10)) ?_ t
 intro f n hd nm ls ks ih b p
 rw [walkF_mk,formedB_mk]
 have hV:judV () (.mk f n hd nm ls ks) b p=if judB (.mk f n hd nm ls ks) then .ok ((),1) else .error 10:=rfl
 rw [hV]
 cases hj:judB (.mk f n hd nm ls ks)
 ·simp
 ·simpa using jud_list f ks 0 1 b p ih
def checkT (t:Tm):Int:=if sizeT t≤20000∧heightT t≤500 then (if formedB t then 0 else 10) else 2
theorem Check_any (t:Tm) (v:Value) (w:World) (hv:TV w v t) (hsm:smT 1000000 t):Calls Tryz.prog 63 #[v] w fun e w'=>e=.returned (.int .i64 (checkT t))∧RowKit.Below w.heap.size w w':=by
 have HC:Hid (checkT t=if sizeT t≤20000∧heightT t≤500 then (if formedB t then 0 else 10) else 2):=rfl
 have HW1:=count_any 20000 500 (by omega) (by omega) (by omega) t v (w.alloc (.cells v.cells 36)) (hv.on ((Below.refl _ _).alloc (Nat.le_refl _) _))
 have HW2:=fun W hB hh=>walkI_any (w0:=w) (bs:=#[]) (G:=smT 1000000) (smT_kid 1000000) (fun k hk=>hk.elim) (fun s w' k hI hk=>hk.elim) (fun s a b h _=>trivial) cf_judged cf_plus (judged_visits w) plus_any t () v 0 0 W hsm trivial hv hB (by omega) (by omega) (by omega) (Or.inr hh)
 have HJ:=Hid.mk (jud_walk t 0 0)
 generalize walkF judV wplus t () 0 0=J at HW2 HJ
 generalize checkT t=R at HC ⊢
 obtain ⟨la,lc,ka,kc,rfl⟩:=hv.shape
 clear hv hsm
 simp only [Value.cells] at HW1
 generalize formedB t=F at *
 generalize sizeT t=S at *
 generalize heightT t=H at *
 generalize t.form=f at *
 generalize t.n=n at *
 generalize t.hid=hd at *
 generalize t.name=nm at *
 generalize t.levels.length=l1 at *
 generalize t.kids.length=k1 at *
 by_cases hc:(S:Int)≤20000∧(H:Int)≤500
 ·have HC2:Hid (R=if F then 0 else 10):=by unfold Hid;rw [HC.out,if_pos (by omega)]
  have hh:(0:Int)+H≤100000:=by omega
  have HCC:=Hid.mk hc
  clear HC hc
  go_enter Tryz.func63,Tryz.ntmps63
  go_wp2_with fail
  refine HW1.mono ?_
  rintro e w1 ⟨⟨r1,c1,rfl,hq,-⟩,hb1⟩
  obtain ⟨-,rfl⟩:=hq HCC.out
  have HB1:Hid (RowKit.Below w.heap.size w w1):=((Below.refl w.heap.size w).alloc (Nat.le_refl _) _).trans (hb1.mono (by simp))
  obtain ⟨x0,x1,x2,x3,x4,x5,x6⟩:=cells6 ((hb1.block w.heap.size (by simp)).trans (alloc_new _ _))
  clear hb1 HW1 hq
  go_wp2_with fail
  have HW3:=HW2 w1 HB1.out hh
  cases F
  ·have hJ:J=.error 10:=HJ.out.2 rfl
   rw [hJ] at HW3
   refine HW3.mono ?_
   rintro e w2 ⟨hk2,hc2,r,rfl⟩
   go_wp2
   go_ret
   exact ⟨by rw [HC2.out];rfl,HB1.out.trans (hk2.below HB1.out.size (fun k hk=>hk.elim))⟩
  ·obtain ⟨r,hJ⟩:=HJ.out.1 rfl
   rw [hJ] at HW3
   refine HW3.mono ?_
   rintro e w2 ⟨hk2,rfl,-⟩
   go_wp2
   go_ret
   exact ⟨by rw [HC2.out];rfl,HB1.out.trans (hk2.below HB1.out.size (fun k hk=>hk.elim))⟩
 ·have HC2:Hid (R=2):=by unfold Hid;rw [HC.out,if_neg (by omega)]
  have HCC:=Hid.mk hc
  clear HC hc
  go_enter Tryz.func63,Tryz.ntmps63
  go_wp2_with fail
  refine HW1.mono ?_
  rintro e w1 ⟨⟨r1,c1,rfl,-,hq⟩,hb1⟩
  obtain rfl:=hq HCC.out
  clear hq
  go_wp2
  go_ret
  exact ⟨by rw [HC2.out];rfl,((Below.refl w.heap.size w).alloc (Nat.le_refl _) _).trans (hb1.mono (by simp))⟩
theorem check_ok {t:Tm}(h:checkT t=0):sizeT t≤20000∧heightT t≤500∧formedB t=true:=by
 unfold checkT at h
 split at h
 ·rename_i hc
  split at h
  ·rename_i hf;exact ⟨hc.1,hc.2,hf⟩
  ·cases h
 ·cases h
def SO (w:World) (B E:Nat) (a:Option Addr) (xs:List (Int×Int)):Prop :=
 xs=[]∨∃b,a=some ⟨b,0,none⟩∧B≤b∧b<E∧b<w.heap.size∧∀i,i<xs.length→w.cell? ⟨b,i*2,none⟩=some (.int .i64 (xs[i]?.getD (0,0)).1)∧w.cell? ⟨b,i*2+1,none⟩=some (.int .i64 (xs[i]?.getD (0,0)).2)
theorem SO.sl {w:World}{B E:Nat}{a:Option Addr}{xs:List (Int×Int)}(h:SO w B E a xs):SL w a xs:=by
 rcases h with h | ⟨b,ha,-,-,hlt,hc⟩
 ·exact Or.inl h
 ·exact Or.inr ⟨b,0,ha,hlt,fun i hi=>by have:=hc i hi;simpa using this⟩
def Agree (B E:Nat) (w w':World):Prop:=∀k,B≤k→k<E→w'.heap[k]?=w.heap[k]?
theorem Agree.mono {B E B' E':Nat}{w w':World}(h:Agree B E w w') (hB:B≤B') (hE:E'≤E):Agree B' E' w w':=fun k h1 h2=>h k (by omega) (by omega)
theorem Agree.cell {B E:Nat}{w w':World}(h:Agree B E w w') {p:Addr}(h1:B≤p.block) (h2:p.block<E):w'.cell? p=w.cell? p:=World.cell?_of_block (w:=w) (h p.block h1 h2)
theorem heap_lt {w:World}{b:Nat}{o:Obj}(h:w.heap[b]?=some o):b<w.heap.size:=(Array.getElem?_eq_some_iff.1 h).1
theorem lt_of_agree {w w':World}{b:Nat}(h:w'.heap[b]?=w.heap[b]?) (hb:b<w.heap.size):b<w'.heap.size:=by
 rw [Array.getElem?_eq_getElem hb] at h
 exact heap_lt h
theorem SO.on {w w':World}{B E:Nat}{a:Option Addr}{xs:List (Int×Int)}(h:SO w B E a xs) (hag:Agree B E w w'):SO w' B E a xs:=by
 rcases h with h | ⟨b,ha,h1,h2,hlt,hc⟩
 ·exact Or.inl h
 ·exact Or.inr ⟨b,ha,h1,h2,lt_of_agree (hag b h1 h2) hlt,fun i hi=>⟨(hag.cell (p:=⟨b,i*2,none⟩) h1 h2).trans (hc i hi).1,(hag.cell (p:=⟨b,i*2+1,none⟩) h1 h2).trans (hc i hi).2⟩⟩
theorem SO.mono {w:World}{B E B' E':Nat}{a:Option Addr}{xs:List (Int×Int)}(h:SO w B E a xs) (hB:B'≤B) (hE:E≤E'):SO w B' E' a xs:=by
 rcases h with h | ⟨b,ha,h1,h2,r⟩
 ·exact Or.inl h
 ·exact Or.inr ⟨b,ha,by omega,by omega,r⟩
def LO (w:World) (B E:Nat) (v:Value) (ls:List LvT):Prop :=
 (ls=[]∧v=.slice none 0 0)∨∃g cap cur,v=.slice (some ⟨g,0,none⟩) ls.length cap∧B≤g∧g<E∧w.heap[g]?=some (.cells cur 75 (0,0))∧ls.length≤cap∧cap≤9223372036854775807∧cur.size=cap*2 ∧
  ∀i n xs,ls[i]?=some (n,xs)→w.cell? ⟨g,i*2,none⟩=some (.int .i64 n)∧∃a' cap',w.cell? ⟨g,i*2+1,none⟩=some (.slice a' xs.length cap')∧(a'=none→cap'=0)∧SO w B E a' xs
theorem LO.on {w w':World}{B E:Nat}{v:Value}{ls:List LvT}(h:LO w B E v ls) (hag:Agree B E w w'):LO w' B E v ls:=by
 rcases h with h | ⟨g,cap,cur,hv,h1,h2,hh,hc,hm,hs,hx⟩
 ·exact Or.inl h
 ·refine Or.inr ⟨g,cap,cur,hv,h1,h2,(hag g h1 h2).trans hh,hc,hm,hs,fun i n xs hi=>?_⟩
  obtain ⟨c0,a',cap',c1,hn,hS⟩:=hx i n xs hi
  exact ⟨(hag.cell (p:=⟨g,i*2,none⟩) h1 h2).trans c0,a',cap',(hag.cell (p:=⟨g,i*2+1,none⟩) h1 h2).trans c1,hn,hS.on hag⟩
theorem LO.mono {w:World}{B E B' E':Nat}{v:Value}{ls:List LvT}(h:LO w B E v ls) (hB:B'≤B) (hE:E≤E'):LO w B' E' v ls:=by
 rcases h with h | ⟨g,cap,cur,hv,h1,h2,hh,hc,hm,hs,hx⟩
 ·exact Or.inl h
 ·refine Or.inr ⟨g,cap,cur,hv,by omega,by omega,hh,hc,hm,hs,fun i n xs hi=>?_⟩
  obtain ⟨c0,a',cap',c1,hn,hS⟩:=hx i n xs hi
  exact ⟨c0,a',cap',c1,hn,hS.mono hB hE⟩
theorem LO.ln {w:World}{B E:Nat}{v:Value}{ls:List LvT}(h:LO w B E v ls):∃la lc,v=.slice la ls.length lc∧LN w la ls∧(la=none→lc=0)∧ls.length≤lc∧lc≤9223372036854775807:=by
 rcases h with ⟨h,hv⟩ | ⟨g,cap,cur,hv,h1,h2,hh,hc,hm,hs,hx⟩
 ·subst h;exact ⟨none,0,hv,Or.inl rfl,fun _=>rfl,Nat.le_refl _,by omega⟩
 ·refine ⟨_,cap,hv,Or.inr ⟨g,0,rfl,heap_lt hh,fun i n xs hi=>?_⟩,fun e=>(by cases e),hc,hm⟩
  obtain ⟨c0,a',cap',c1,hn,hS⟩:=hx i n xs hi
  exact ⟨by simpa using c0,a',cap',by simpa using c1,hS.sl,hn⟩
def CellsAt (w:World) (g o:Nat) (v:Value):Prop :=
 ∃(v0 v1:Int) (v2:Bool) (v3:ByteArray) (l1:Option Addr) (l2 l3:Nat) (k1:Option Addr) (k2 k3:Nat),v=.agg #[.int .i64 v0,.int .i64 v1,.bool v2,.string v3,.slice l1 l2 l3,.slice k1 k2 k3]∧w.cell? ⟨g,o,none⟩=some (.int .i64 v0)∧w.cell? ⟨g,o+1,none⟩=some (.int .i64 v1)∧w.cell? ⟨g,o+2,none⟩=some (.bool v2)∧w.cell? ⟨g,o+3,none⟩=some (.string v3)∧w.cell? ⟨g,o+4,none⟩=some (.slice l1 l2 l3)∧w.cell? ⟨g,o+5,none⟩=some (.slice k1 k2 k3)
def RowAt (w:World) (g kc:Nat):Prop:=∃cur,w.heap[g]?=some (.cells cur 36 (0,0))∧cur.size=kc*6
inductive TO (w:World):Nat→Nat→Value→Tm→Prop where
 | leaf {B E m:Nat} {f n:Int} {h:Bool} {nm:ByteArray} {ls:List LvT} {lv:Value} (hl:LO w B m lv ls) (hBm:B≤m) (hmE:m≤E):TO w B E (.agg #[.int .i64 f,.int .i64 n,.bool h,.string nm,lv,.slice none 0 0]) (.mk f n h nm ls [])
 | row {B E m g kc:Nat} {f n:Int} {h:Bool} {nm:ByteArray} {ls:List LvT} {ks:List Tm} {lv:Value} {bd:Nat→Nat} {kvs:Nat→Value} (hl:LO w B m lv ls) (hBm:B≤m) (hmg:m≤g) (hgE:g<bd 0) (hbd:∀i,bd i≤bd (i+1)) (hE:bd ks.length≤E) (hrow:RowAt w g kc) (hkc:ks.length≤kc) (hkm:kc≤9223372036854775807)
   (cells:∀i,i<ks.length→CellsAt w g (i*6) (kvs i)) (kids:∀i t,ks[i]?=some t→TO w (bd i) (bd (i+1)) (kvs i) t):TO w B E (.agg #[.int .i64 f,.int .i64 n,.bool h,.string nm,lv,.slice (some ⟨g,0,none⟩) ks.length kc]) (.mk f n h nm ls ks)
theorem bd_mono {bd:Nat→Nat}(h:∀i,bd i≤bd (i+1)) {i j:Nat}(hij:i≤j):bd i≤bd j:=by
 induction hij with
 | refl=>exact Nat.le_refl _
 | step _ ih=>exact Nat.le_trans ih (h _)
theorem RowAt.on {w w':World}{g kc B E:Nat}(h:RowAt w g kc) (hag:Agree B E w w') (h1:B≤g) (h2:g<E):RowAt w' g kc:=by
 obtain ⟨cur,hh,hs⟩:=h
 exact ⟨cur,(hag g h1 h2).trans hh,hs⟩
theorem CellsAt.on {w w':World}{g o B E:Nat}{v:Value}(h:CellsAt w g o v) (hag:Agree B E w w') (h1:B≤g) (h2:g<E):CellsAt w' g o v:=by
 obtain ⟨v0,v1,v2,v3,l1,l2,l3,k1,k2,k3,hv,c0,c1,c2,c3,c4,c5⟩:=h
 exact ⟨v0,v1,v2,v3,l1,l2,l3,k1,k2,k3,hv,(hag.cell (p:=⟨g,o,none⟩) h1 h2).trans c0,(hag.cell (p:=⟨g,o+1,none⟩) h1 h2).trans c1,(hag.cell (p:=⟨g,o+2,none⟩) h1 h2).trans c2,(hag.cell (p:=⟨g,o+3,none⟩) h1 h2).trans c3,(hag.cell (p:=⟨g,o+4,none⟩) h1 h2).trans c4,(hag.cell (p:=⟨g,o+5,none⟩) h1 h2).trans c5⟩
theorem TO.on {w w':World}{B E:Nat}{v:Value}{t:Tm}(h:TO w B E v t):Agree B E w w'→TO w' B E v t:=by
 induction h with
 | leaf hl hBm hmE=>exact fun hag=>TO.leaf (hl.on (hag.mono (Nat.le_refl _) hmE)) hBm hmE
 | @row B E m g kc f n h nm ls ks lv bd kvs hl hBm hmg hgE hbd hE hrow hkc hkm cells kids ih =>
  intro hag
  have h0:bd 0≤bd ks.length:=bd_mono hbd (Nat.zero_le _)
  refine TO.row (hl.on (hag.mono (Nat.le_refl _) (by omega))) hBm hmg hgE hbd hE (hrow.on hag (by omega) (by omega)) hkc hkm (fun i hi=>(cells i hi).on hag (by omega) (by omega)) (fun i t hi=>ih i t hi (hag.mono ?_ ?_))
  ·have:=bd_mono hbd (Nat.zero_le i);omega
  ·have:i<ks.length:=(List.getElem?_eq_some_iff.1 hi).1
   have:=bd_mono hbd (show i+1≤ks.length from this)
   omega
theorem TO.mono {w:World}{B E B' E':Nat}{v:Value}{t:Tm}(h:TO w B E v t) (hB:B'≤B) (hE:E≤E'):TO w B' E' v t:=by
 cases h with
 | leaf hl hBm hmE=>exact TO.leaf (hl.mono hB (Nat.le_refl _)) (by omega) (by omega)
 | row hl hBm hmg hgE hbd hE' hrow hkc hkm cells kids=>exact TO.row (hl.mono hB (Nat.le_refl _)) (by omega) hmg hgE hbd (by omega) hrow hkc hkm cells kids
theorem TO.le {w:World}{B E:Nat}{v:Value}{t:Tm}(h:TO w B E v t):B≤E:=by
 cases h with
 | leaf hl hBm hmE=>omega
 | @row _ _ m g kc f n h nm ls ks lv bd kvs hl hBm hmg hgE hbd hE hrow hkc hkm cells kids=>have:=bd_mono hbd (Nat.zero_le ks.length);omega
theorem CellsAt.tc {w:World}{g o:Nat}{v:Value}{t:Tm}(h:CellsAt w g o v) (hv:TV w v t):TC w g o t:=by
 obtain ⟨v0,v1,v2,v3,l1,l2,l3,k1,k2,k3,rfl,c0,c1,c2,c3,c4,c5⟩:=h
 cases hv with
 | mk hl hln hlc hlm hkn hkc hkm hk kids=>exact TC.mk c0 c1 c2 c3 c4 c5 hl hln hlc hlm hkn hkc hkm hk kids
theorem TO.tv {w:World}{B E:Nat}{v:Value}{t:Tm}(h:TO w B E v t):TV w v t:=by
 induction h with
 | leaf hl hBm hmE =>
  obtain ⟨la,lc,rfl,h1,h2,h3,h4⟩:=hl.ln
  exact TV.mk (kb:=0) (ko:=0) h1 h2 h3 h4 (fun _=>rfl) (Nat.le_refl _) (by omega) (fun h=>absurd rfl h) (fun i t hi=>by simp at hi)
 | @row B E m g kc f n h nm ls ks lv bd kvs hl hBm hmg hgE hbd hE hrow hkc hkm cells kids ih =>
  obtain ⟨la,lc,rfl,h1,h2,h3,h4⟩:=hl.ln
  obtain ⟨cur,hh,-⟩:=hrow
  refine TV.mk (kb:=g) (ko:=0) h1 h2 h3 h4 (fun e=>(by cases e)) hkc hkm (fun _=>⟨rfl,heap_lt hh⟩) (fun i t hi=>?_)
  have hi':i<ks.length:=(List.getElem?_eq_some_iff.1 hi).1
  have:=(cells i hi').tc (ih i t hi)
  rwa [Nat.zero_add]
def RO (w:World) (B N E g kc:Nat) (v:Value) (t:Tm):Prop :=
 ∃(f n:Int) (h:Bool) (nm:ByteArray) (ls:List LvT) (ks:List Tm) (lv:Value) (m:Nat) (bd:Nat→Nat) (kvs:Nat→Value),v=.agg #[.int .i64 f,.int .i64 n,.bool h,.string nm,lv,.slice (some ⟨g,0,none⟩) ks.length kc]∧t=.mk f n h nm ls ks∧LO w B m lv ls∧B≤m∧m≤g∧g<N∧N<bd 0∧(∀i,bd i≤bd (i+1))∧bd ks.length≤E∧RowAt w g kc∧ks.length≤kc∧kc≤9223372036854775807∧(∀i,i<ks.length→CellsAt w g (i*6) (kvs i))∧(∀i t,ks[i]?=some t→TO w (bd i) (bd (i+1)) (kvs i) t)
theorem RO.to {w:World}{B N E g kc:Nat}{v:Value}{t:Tm}(h:RO w B N E g kc v t):TO w B E v t:=by
 obtain ⟨f,n,h,nm,ls,ks,lv,m,bd,kvs,rfl,rfl,hl,hBm,hmg,hgN,hNb,hbd,hE,hrow,hkc,hkm,cells,kids⟩:=h
 exact TO.row hl hBm hmg (by omega) hbd hE hrow hkc hkm cells kids
theorem RO.on {w w':World}{B N E g kc:Nat}{v:Value}{t:Tm}(h:RO w B N E g kc v t) (hag:∀k,B≤k→k<E→k≠N→w'.heap[k]?=w.heap[k]?):RO w' B N E g kc v t:=by
 obtain ⟨f,n,h,nm,ls,ks,lv,m,bd,kvs,rfl,rfl,hl,hBm,hmg,hgN,hNb,hbd,hE,hrow,hkc,hkm,cells,kids⟩:=h
 have h0:bd 0≤bd ks.length:=bd_mono hbd (Nat.zero_le _)
 have hag1:Agree B N w w':=fun k h1 h2=>hag k h1 (by omega) (by omega)
 refine ⟨f,n,h,nm,ls,ks,lv,m,bd,kvs,rfl,rfl,hl.on (hag1.mono (Nat.le_refl _) (by omega)),hBm,hmg,hgN,hNb,hbd,hE,hrow.on hag1 (by omega) (by omega),hkc,hkm,fun i hi=>(cells i hi).on hag1 (by omega) (by omega),fun i t hi=>(kids i t hi).on (fun k h1 h2=>hag k ?_ ?_ ?_)⟩
 ·have:=bd_mono hbd (Nat.zero_le i);omega
 ·have:i<ks.length:=(List.getElem?_eq_some_iff.1 hi).1
  have:=bd_mono hbd (show i+1≤ks.length from this)
  omega
 ·have:=bd_mono hbd (Nat.zero_le i);omega
theorem RO.mono {w:World}{B N E B' E' g kc:Nat}{v:Value}{t:Tm}(h:RO w B N E g kc v t) (hB:B'≤B) (hE':E≤E'):RO w B' N E' g kc v t:=by
 obtain ⟨f,n,h,nm,ls,ks,lv,m,bd,kvs,rfl,rfl,hl,hBm,hmg,hgN,hNb,hbd,hE,r⟩:=h
 exact ⟨f,n,h,nm,ls,ks,lv,m,bd,kvs,rfl,rfl,hl.mono hB (Nat.le_refl _),by omega,hmg,hgN,hNb,hbd,by omega,r⟩
def Tm.add:Tm→Tm→Tm
 | .mk f n h nm ls ks,k=>.mk f n h nm ls (ks++[k])
end Go.Proofs.YtgfgpjcnfnopnaaGreat
