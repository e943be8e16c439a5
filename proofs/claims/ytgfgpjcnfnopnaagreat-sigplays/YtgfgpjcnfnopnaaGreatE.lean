/- Plain facts on lists of pairs: what is kept of runs of one key. -/
import Derived.RowKit
import Derived.Test.YtgfgpjcnfnopnaaGreatTF
import Derived.Shelf.SlSortCmp.QuietGrown
import Derived.Deep.LoopGhost
namespace Go.Proofs.YtgfgpjcnfnopnaaGreat
def ddStep (acc:List (Int×Int)) (p:Int×Int):List (Int×Int):=if acc.getLast?.map (·.1)=some p.1 then acc else acc++[p]
def dd (xs:List (Int×Int)):List (Int×Int):=xs.foldl ddStep []
theorem dd_snoc (xs:List (Int×Int)) (p:Int×Int):dd (xs++[p])=ddStep (dd xs) p:=by simp [dd,List.foldl_append]
theorem dd_last (xs:List (Int×Int)) (p:Int×Int):(dd (xs++[p])).getLast?.map (·.1)=some p.1:=by
 rw [dd_snoc];unfold ddStep;split
 ·assumption
 ·simp
theorem dd_same (xs:List (Int×Int)) (q p:Int×Int) (h:p.1=q.1):dd (xs++[q]++[p])=dd (xs++[q]):=by
 rw [dd_snoc _ p];unfold ddStep;rw [if_pos (by rw [dd_last,h])]
theorem dd_other (xs:List (Int×Int)) (q p:Int×Int) (h:p.1≠q.1):dd (xs++[q]++[p])=dd (xs++[q])++[p]:=by
 rw [dd_snoc _ p];unfold ddStep;rw [if_neg (by rw [dd_last];simpa using Ne.symm h)]
theorem take_snoc2 {xs:List (Int×Int)}{k:Nat}{q p:Int×Int}(hq:xs[k]?=some q) (hp:xs[k+1]?=some p):xs.take (k+2)=xs.take k++[q]++[p]∧xs.take (k+1)=xs.take k++[q]:=by
 obtain ⟨h1,rfl⟩:=List.getElem?_eq_some_iff.1 hq
 obtain ⟨h2,rfl⟩:=List.getElem?_eq_some_iff.1 hp
 exact ⟨by rw [List.take_succ_eq_append_getElem h2,List.take_succ_eq_append_getElem h1],by rw [List.take_succ_eq_append_getElem h1]⟩
theorem dd_take_same {xs:List (Int×Int)}{k:Nat}{q p:Int×Int}(hq:xs[k]?=some q) (hp:xs[k+1]?=some p) (h:p.1=q.1):dd (xs.take (k+2))=dd (xs.take (k+1)):=by
 obtain ⟨e1,e2⟩:=take_snoc2 hq hp;rw [e1,e2,dd_same _ _ _ h]
theorem dd_take_other {xs:List (Int×Int)}{k:Nat}{q p:Int×Int}(hq:xs[k]?=some q) (hp:xs[k+1]?=some p) (h:p.1≠q.1):dd (xs.take (k+2))=dd (xs.take (k+1))++[p]:=by
 obtain ⟨e1,e2⟩:=take_snoc2 hq hp;rw [e1,e2,dd_other _ _ _ h]
theorem dd_le (xs:List (Int×Int)):(dd xs).length≤xs.length:=by
 suffices h:∀(ys acc:List (Int×Int)),(ys.foldl ddStep acc).length≤acc.length+ys.length by simpa [dd] using h xs []
 intro ys
 induction ys with
 | nil=>simp
 | cons p r ih =>
  intro acc;have:=ih (ddStep acc p)
  have h2:(ddStep acc p).length≤acc.length+1:=by unfold ddStep;split<;>simp
  simp only [List.foldl_cons,List.length_cons];omega
theorem dd_short {xs:List (Int×Int)}(h:xs.length<2):dd xs=xs:=by
 match xs,h with
 | [],_=>rfl
 | [p],_=>simp [dd,ddStep]
theorem take_set_snoc {zs:List (Int×Int)}{kk:Nat}{p:Int×Int}(h:kk<zs.length):(zs.set kk p).take (kk+1)=zs.take kk++[p]:=by
 rw [List.take_succ_eq_append_getElem (by simpa using h),List.take_set_of_le (Nat.le_refl _)];simp
theorem drop_set {zs:List (Int×Int)}{kk m:Nat}{p:Int×Int}(h:kk<m):(zs.set kk p).drop m=zs.drop m:=by
 rw [List.drop_set];simp [h]
open Go.RowKit Go.Sort
theorem mixed:Tryz.prog.follows .mixedOrders=true:=by kernel_rfl
theorem Below.ofGrew {B:Nat}{a b c:World}(h:Below B a b) (k:Grew b c) (hB:B≤b.heap.size):Below B a c:=h.trans (k.below.mono hB)
theorem frozen_grown {w:World}{a:Addr}{v:Bool}(hb:a.block<w.heap.size) (h:w.frozen? a=v) (n:Nat) (os:Array Obj):(grow (w.drewN n) os).frozen? a=v:=by
 rw [frozen?_grow _ _ _ (by exact hb)];exact h
theorem run_clear2 (w:World) (ty:TypeId) (b o n c:Nat) (hn:0<n) (hc:∀j,j<n*2→(w.cell? ⟨b,o+j,none⟩).isSome=true) (hf:∀j,j<n*2→w.frozen? ⟨b,o+j,none⟩=false) :
  (Builtin.clear_ #[73] ty #[.slice (some ⟨b,o,none⟩) n c]).run Tryz.prog w=.ok (.tuple #[]) (w.setCells b o (List.replicate (n*2) (.int .i64 0))):=by
 have hzc:(Builtin.zeroCells (Value.agg #[.int .i64 0,.int .i64 0]).cells n).toList=List.replicate (n*2) (.int .i64 0):=by
  simp [Builtin.zeroCells,Value.cells]
  apply List.ext_getElem
  ·simp
  ·intro i h1 h2
   simp
   rcases Nat.mod_two_eq_zero_or_one i with h | h<;>simp [h]
 have hst:=run_storeCells_cells (P:=Tryz.prog) b o (List.replicate (n*2) (.int .i64 0)) 0 w (by simpa using hc) (by simpa using hf) (by intro v hv';rw [List.eq_of_mem_replicate hv'];rfl)
 simp only [Nat.add_zero] at hst
 obtain ⟨m,rfl⟩:∃m,n=m+1:=⟨n - 1,by omega⟩
 simp [Builtin.clear_,run_underlying Tryz.underlying73,Tryz.zeroValue109,hzc,hst]
set_option maxHeartbeats 2000000 in
theorem CompactFunc_any (B g fb cap:Nat) (xs:List (Int×Int)) (w:World) (hO:OR B w (.slice (some ⟨g,0,none⟩) xs.length cap) xs) (hfb:fb<B) (hfw:B≤w.heap.size) (hf:w.cell? ⟨fb,0,none⟩=some (.func (.func 114) #[] #[])) (hn:xs.length≤35184372088832) :
  Calls Tryz.prog 118 #[.slice (some ⟨g,0,none⟩) xs.length cap,.func (.func 119) #[] #[.pointer (some ⟨fb,0,none⟩)]] w fun e w' =>
   e=.returned (.slice (some ⟨g,0,none⟩) (dd xs).length cap)∧OR B w' (.slice (some ⟨g,0,none⟩) (dd xs).length cap) (dd xs)∧Below B w w':=by
 have mx:=mixed
 have HO:=Hid.mk hO
 obtain ⟨hgB,hgw,-,-,hcap⟩:=hO.lt
 simp only at hgB hgw
 clear hO
 by_cases h2:xs.length<2
 ·have HE:Hid (dd xs=xs):=dd_short h2
  go_enter Tryz.func118,Tryz.ntmps118
  go_wp2
  go_ret
  rw [HE.out]
  exact ⟨rfl,HO.out,Below.refl _ _⟩
 ·go_enter Tryz.func118,Tryz.ntmps118
  go_wp2
  go_loopw [5] (fun i wr=>∃k:Nat,k+1≤xs.length∧i=.int .i64 (k+1:Nat)∧Grew w wr∧dd (xs.take (k+1))=xs.take (k+1)) (fun i _=>xs.length - (intOf i).toNat)
  case atStart=>exact ⟨0,by omega,rfl,Grew.refl _,dd_short (by simp;omega)⟩
  case round =>
   obtain ⟨k,hk,rfl,hb,hdd⟩:=hrel
   have HD:=Hid.mk hdd
   clear hdd
   have hOr:=HO.out.below hb.below
   have hbb:=hb.below.size
   have hfr:wr.cell? ⟨fb,0,none⟩=some (.func (.func 114) #[] #[]):=(hb.below.cell (p:=⟨fb,0,none⟩) (by exact Nat.lt_of_lt_of_le hfb hfw)).trans hf
   by_cases hlt:k+1<xs.length
   ·obtain ⟨x,y,hc0,hc1,hf0,hf1,hxy⟩:=hOr.at (k:=k) (by omega)
    obtain ⟨x',y',hc0',hc1',hf0',hf1',hxy'⟩:=hOr.at hlt
    have c0:=cell_grown (w:=wr) (a:=⟨g,k*2,none⟩) (Nat.lt_of_lt_of_le hgw hbb) hc0
    have c1:=cell_grown (w:=wr) (a:=⟨g,k*2+1,none⟩) (Nat.lt_of_lt_of_le hgw hbb) hc1
    have c0':=cell_grown (w:=wr) (a:=⟨g,(k+1)*2,none⟩) (Nat.lt_of_lt_of_le hgw hbb) hc0'
    have c1':=cell_grown (w:=wr) (a:=⟨g,(k+1)*2+1,none⟩) (Nat.lt_of_lt_of_le hgw hbb) hc1'
    have cf:=cell_grown (w:=wr) (a:=⟨fb,0,none⟩) (by simp only;omega) hfr
    have hcall:∀n os,Calls Tryz.prog 119 #[.agg #[.int .i64 x',.int .i64 y'],.agg #[.int .i64 x,.int .i64 y],.pointer (some ⟨fb,0,none⟩)] (grow (wr.drewN n) os) fun e w'=>e=.returned (.bool (x'==x))∧Grew (grow (wr.drewN n) os) w':=fun n os=>gathered2_any x' y' x y fb _ (by simp [World.drewN];omega) (cf n os)
    have z1:(k:Int)+1<(xs.length:Int):=by omega
    have z2:(k:Int)<(xs.length:Int):=by omega
    have z3:(0:Int)≤(k:Int)+1:=by omega
    have e0:((k:Int)+1).toNat=k+1:=by omega
    have hwp:IntKind.i64.wrap (k:Int)=(k:Int):=by rw [IntKind.wrap_i64];omega
    clear hfr cf
    have HOr:=Hid.mk hOr
    clear hOr
    by_cases heq:x'=x
    ·have hq:(x'==x)=true:=by simp [heq]
     simp only [hq] at hcall
     have HN:=Hid.mk heq
     clear heq hq
     go_wp2_with fail
     go_quiet_grown (first | (go_at_call 119;refine Calls.grown_of (hcall _ _)))
     have HB2:Hid (Below B w (grow (wr.drewN nq) osq)):=Below.ofGrew (hb.below.mono hfw) ⟨nq,osq,rfl⟩ (by omega)
     have HO2:Hid (OR B (grow (wr.drewN nq) osq) (.slice (some ⟨g,0,none⟩) xs.length cap) xs):=HOr.out.below (Grew.below ⟨nq,osq,rfl⟩)
     have hs2:w.heap.size≤(grow (wr.drewN nq) osq).heap.size:=by simp [World.drewN];omega
     clear hc0 hc1 hf0 hf1 hc0' hc1' hf0' hf1' c0 c1 c0' c1' hcall HOr
     generalize grow (wr.drewN nq) osq=wq at HB2 HO2 hs2 ⊢
     have zc:((k:Int)+1≤(cap:Int)):=by omega
     go_wp2
     go_loopw [5,7] (fun i j wz=>∃(kk k2:Nat) (zs:List (Int×Int)),i=.int .i64 kk∧j=.int .i64 (k2+1:Nat)∧k+1+k2+1≤xs.length∧zs.length=xs.length∧kk≤k+1+k2∧w.heap.size≤wz.heap.size ∧
       OR B wz (.slice (some ⟨g,0,none⟩) zs.length cap) zs∧Below B w wz∧zs.take kk=dd (xs.take (k+1+k2+1))∧zs.drop (k+1+k2)=xs.drop (k+1+k2)) (fun _ j _=>xs.length - (intOf j).toNat)
     case atStart=>exact ⟨k+1,0,xs,by go_num,rfl,by omega,rfl,by omega,hs2,HO2.out,HB2.out,by rw [←HD.out];exact (dd_take_same hxy.out hxy'.out HN.out).symm,rfl⟩
     case round =>
      clear HO2 HB2 HD hxy hxy' HN
      obtain ⟨kk,k2,zs,rfl,rfl,hk2,hzl,hkk,hs3,hOz,hbz,htk,hdr⟩:=hrel
      have HT:=Hid.mk htk
      have HDr:=Hid.mk hdr
      have HBz:=Hid.mk hbz
      have HZl:=Hid.mk hzl
      clear htk hdr
      by_cases hlt2:k+1+k2+1<xs.length
      ·obtain ⟨x,y,hc0,hc1,-,-,hxy⟩:=hOz.at (k:=k+1+k2) (by omega)
       obtain ⟨x',y',hc0',hc1',-,-,hxy'⟩:=hOz.at (k:=k+1+k2+1) (by omega)
       obtain ⟨x0,y0,hk0,hk1,hf0,hf1,-⟩:=hOz.at (k:=kk) (by omega)
       have hX:Hid (xs[k+1+k2]?=some (x,y)):=by
        have h:=congrArg (fun l:List (Int×Int)=>l[0]?) HDr.out
        simp only [List.getElem?_drop,Nat.add_zero] at h
        exact h.symm.trans hxy.out
       have hX':Hid (xs[k+1+k2+1]?=some (x',y')):=by
        have h:=congrArg (fun l:List (Int×Int)=>l[1]?) HDr.out
        simp only [List.getElem?_drop] at h
        exact h.symm.trans hxy'.out
       rw [show (k+1+k2)*2=(k+1)*2+k2*2 by omega] at hc0 hc1
       rw [show (k+1+k2+1)*2=(k+1)*2+(k2+1)*2 by omega] at hc0' hc1'
       have hgr:g<wr.heap.size:=by omega
       have c0:=cell_grown (w:=wr) (a:=⟨g,(k+1)*2+k2*2,none⟩) hgr hc0
       have c1:=cell_grown (w:=wr) (a:=⟨g,(k+1)*2+k2*2+1,none⟩) hgr hc1
       have c0':=cell_grown (w:=wr) (a:=⟨g,(k+1)*2+(k2+1)*2,none⟩) hgr hc0'
       have c1':=cell_grown (w:=wr) (a:=⟨g,(k+1)*2+(k2+1)*2+1,none⟩) hgr hc1'
       have cf:=cell_grown (w:=wr) (a:=⟨fb,0,none⟩) (by simp only;omega) ((hbz.cell (p:=⟨fb,0,none⟩) hfb).trans hf)
       have hcall:∀n os,Calls Tryz.prog 119 #[.agg #[.int .i64 x',.int .i64 y'],.agg #[.int .i64 x,.int .i64 y],.pointer (some ⟨fb,0,none⟩)] (grow (wr.drewN n) os) fun e w'=>e=.returned (.bool (x'==x))∧Grew (grow (wr.drewN n) os) w':=fun n os=>gathered2_any x' y' x y fb _ (by simp [World.drewN];omega) (cf n os)
       clear cf
       have z1:(k2:Int)+1<((xs.length - (k+1):Nat):Int):=by omega
       have z2:(k2:Int)<((xs.length - (k+1):Nat):Int):=by omega
       have z3:(0:Int)≤(k2:Int)+1:=by omega
       have e0:((k2:Int)+1).toNat=k2+1:=by omega
       have hwp:IntKind.i64.wrap (k2:Int)=(k2:Int):=by rw [IntKind.wrap_i64];omega
       have HOz:=Hid.mk hOz
       clear hOz hbz hzl
       by_cases heq:x'=x
       ·have hq:(x'==x)=true:=by simp [heq]
        simp only [hq] at hcall
        have HN:=Hid.mk heq
        clear heq hq
        go_wp2_with fail
        go_quiet_grown (first | (go_at_call 119;refine Calls.grown_of (hcall _ _)))
        go_wp2
        refine ⟨⟨kk,k2+1,zs,rfl,by go_num,by omega,HZl.out,by omega,by simp [World.drewN];omega,HOz.out.below (Grew.below ⟨nq,osq,rfl⟩),Below.ofGrew HBz.out ⟨nq,osq,rfl⟩ (by omega),?_,?_⟩,by simp [intOf];omega⟩
        ·rw [HT.out];exact (dd_take_same hX.out hX'.out HN.out).symm
        ·have h:=congrArg (List.drop 1) HDr.out
         simp only [List.drop_drop] at h
         exact h
       ·have hq:(x'==x)=false:=by simp [heq]
        simp only [hq] at hcall
        have HN:=Hid.mk heq
        clear heq hq
        have k0:=cell_grown (w:=wr) (a:=⟨g,kk*2,none⟩) hgr hk0
        have k1:=cell_grown (w:=wr) (a:=⟨g,kk*2+1,none⟩) hgr hk1
        have fk0:=frozen_grown (w:=wr) (a:=⟨g,kk*2,none⟩) hgr hf0
        have fk1:=frozen_grown (w:=wr) (a:=⟨g,kk*2+1,none⟩) hgr hf1
        go_wp2_with fail
        go_quiet_grown (first | (go_at_call 119;refine Calls.grown_of (hcall _ _)))
        have HB2:Hid (RowKit.Below B w (grow (wr.drewN nq) osq)):=Below.ofGrew HBz.out ⟨nq,osq,rfl⟩ (by omega)
        have HO2:Hid (OR B (grow (wr.drewN nq) osq) (.slice (some ⟨g,0,none⟩) zs.length cap) zs):=HOz.out.below (Grew.below ⟨nq,osq,rfl⟩)
        have hs2:w.heap.size≤(grow (wr.drewN nq) osq).heap.size:=by simp [World.drewN];omega
        have q0:=c0' nq osq
        have q1:=c1' nq osq
        have q2:=k0 nq osq
        have q3:=k1 nq osq
        have q4:=fk0 nq osq
        have q5:=fk1 nq osq
        clear hc0 hc1 hc0' hc1' hk0 hk1 hf0 hf1 c0 c1 c0' c1' k0 k1 fk0 fk1 hcall HOz
        generalize grow (wr.drewN nq) osq=wq at HB2 HO2 hs2 q0 q1 q2 q3 q4 q5 ⊢
        have z4:(kk:Int)<(xs.length:Int):=by omega
        go_wp2
        refine ⟨⟨kk+1,k2+1,zs.set kk (x',y'),by go_num,by go_num,by omega,by simpa using HZl.out,by omega,by simpa using hs2,HO2.out.set kk x' y',(HB2.out.setCell (p:=⟨g,kk*2,none⟩) hgB _).setCell (p:=⟨g,kk*2+1,none⟩) hgB _,?_,?_⟩,by simp [intOf];omega⟩
        ·rw [take_set_snoc (by have:=HZl.out;omega),HT.out];exact (dd_take_other hX.out hX'.out HN.out).symm
        ·rw [drop_set (by omega)]
         have h:=congrArg (List.drop 1) HDr.out
         simp only [List.drop_drop] at h
         exact h
      ·have hall:∀j,j<(xs.length - kk)*2→wr.cell? ⟨g,kk*2+j,none⟩=(flat zs)[kk*2+j]?:=fun j hj=>World.ownsRow.cellAt hOz (kk*2+j) (by omega)
       have hcl:∀ty,(Builtin.clear_ #[73] ty #[.slice (some ⟨g,kk*2,none⟩) (xs.length - kk) (cap - kk)]).run Tryz.prog wr=.ok (.tuple #[]) (wr.setCells g (kk*2) (List.replicate ((xs.length - kk)*2) (.int .i64 0))) :=
        fun ty=>run_clear2 wr ty g (kk*2) (xs.length - kk) (cap - kk) (by omega) (fun j hj=>by rw [hall j hj];simp [flat_length];omega) (fun j _=>World.ownsRow.frozenAt hOz _)
       have HOz:=Hid.mk hOz
       clear hall hOz hbz hzl
       go_wp2
       go_ret
       have hm:k+1+k2+1=xs.length:=by omega
       have hT:=HT.out
       rw [hm,List.take_length] at hT
       have hzl:=HZl.out
       have hlen:(dd xs).length=kk:=by rw [←hT];simp;omega
       have h3:=OR.cut (k:=kk) (owns_setCells (List.replicate ((xs.length - kk)*2) (.int .i64 0)) (kk*2) _ _ HOz.out) (by rw [setL_take _ _ _ _ (Nat.le_refl _),flat_take]) (by omega)
       rw [hT] at h3
       exact ⟨by rw [hlen];rfl,h3,below_setCells _ _ _ HBz.out hgB⟩
    ·have hq:(x'==x)=false:=by simp [heq]
     simp only [hq] at hcall
     have HN:=Hid.mk heq
     clear heq
     go_wp2_with fail
     go_quiet_grown (first | (go_at_call 119;refine Calls.grown_of (hcall _ _)))
     go_wp2
     refine ⟨⟨k+1,by omega,by go_num,hb.trans ⟨nq,osq,rfl⟩,?_⟩,by simp [intOf];omega⟩
     obtain ⟨e1,e2⟩:=take_snoc2 hxy.out hxy'.out
     rw [show k+1+1=k+2 by rfl,dd_take_other hxy.out hxy'.out HN.out,HD.out,e1,e2]
   ·have hk':k+1=xs.length:=by omega
    have HE:Hid (dd xs=xs):=by have:=HD.out;rwa [hk',List.take_length] at this
    have HOr:=Hid.mk hOr
    clear hOr hk'
    go_wp2
    go_ret
    rw [HE.out]
    exact ⟨rfl,HOr.out,hb.below.mono hfw⟩
end Go.Proofs.YtgfgpjcnfnopnaaGreat
