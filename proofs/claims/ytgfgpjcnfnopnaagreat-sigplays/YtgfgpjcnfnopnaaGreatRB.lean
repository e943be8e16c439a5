/- Plain facts on canonical lists of pairs: what tidyL is, and what telamonref1's search finds. -/
import Derived.Test.YtgfgpjcnfnopnaaGreatWD
import Derived.Deep.RegionHeld3
import Derived.Deep.AppendLies
namespace Go.Proofs.YtgfgpjcnfnopnaaGreat
def IsTidy (ys xs:List (Int×Int)):Prop:=ys.Pairwise (fun p q=>p.1<q.1)∧∀p,p∈ys↔(p∈xs∧∀q∈xs,q.1=p.1→q.2≤p.2)
theorem dd_sorted (xs:List (Int×Int)):xs.Pairwise (fun x y=>x.1<y.1∨(x.1=y.1∧y.2≤x.2)) →
  (dd xs).Pairwise (fun p q=>p.1<q.1)∧(∀p∈dd xs,p∈xs)∧(∀q∈xs,∃p∈dd xs,p.1=q.1∧q.2≤p.2):=by
 suffices h:∀ys:List (Int×Int),ys.reverse.Pairwise (fun x y=>x.1<y.1∨(x.1=y.1∧y.2≤x.2)) →
   (dd ys.reverse).Pairwise (fun p q=>p.1<q.1)∧(∀p∈dd ys.reverse,p∈ys.reverse)∧(∀q∈ys.reverse,∃p∈dd ys.reverse,p.1=q.1∧q.2≤p.2) by
  have:=h xs.reverse;rwa [List.reverse_reverse] at this
 intro ys
 induction ys with
 | nil=>intro _;simp [dd]
 | cons p r ih =>
  intro hp
  rw [List.reverse_cons] at hp ⊢
  obtain ⟨hp1,-,hp2⟩:=List.pairwise_append.1 hp
  obtain ⟨i1,i2,i3⟩:=ih hp1
  have hR:∀x∈r.reverse,x.1<p.1∨(x.1=p.1∧p.2≤x.2):=fun x hx=>hp2 x hx p (by simp)
  rw [dd_snoc]
  unfold ddStep
  split
  ·rename_i hl
   refine ⟨i1,fun q hq=>List.mem_append.2 (.inl (i2 q hq)),fun q hq=>?_⟩
   rcases List.mem_append.1 hq with hq | hq
   ·exact i3 q hq
   ·simp at hq;subst hq
    rcases hg:(dd r.reverse).getLast? with _ | l
    ·rw [hg] at hl;simp at hl
    ·rw [hg] at hl;simp at hl
     have hm:=List.mem_of_getLast? hg
     rcases hR l (i2 l hm) with h | ⟨_,h⟩
     ·omega
     ·exact ⟨l,hm,hl,h⟩
  ·rename_i hl
   refine ⟨List.pairwise_append.2 ⟨i1,by simp,fun x hx y hy=>?_⟩,fun q hq=>?_,fun q hq=>?_⟩
   ·simp at hy;subst hy
    rcases hR x (i2 x hx) with h | ⟨h,_⟩
    ·exact h
    ·exfalso
     rcases hg:(dd r.reverse).getLast? with _ | l
     ·have:dd r.reverse=[]:=List.getLast?_eq_none_iff.1 hg
      rw [this] at hx;simp at hx
     ·rw [hg] at hl
      have hm:=List.mem_of_getLast? hg
      have hl':l.1≠y.1:=fun e=>hl (by simp [e])
      have hle:x.1≤l.1:=by
       obtain ⟨ys,hys⟩:=List.getLast?_eq_some_iff.1 hg
       rw [hys] at hx i1
       rcases List.mem_append.1 hx with hx | hx
       ·exact Int.le_of_lt ((List.pairwise_append.1 i1).2.2 x hx l (by simp))
       ·simp at hx;rw [hx];exact Int.le_refl _
      rcases hR l (i2 l hm) with h2 | ⟨h2,_⟩<;>omega
   ·rcases List.mem_append.1 hq with hq | hq
    ·exact List.mem_append.2 (.inl (i2 q hq))
    ·exact List.mem_append.2 (.inr hq)
   ·rcases List.mem_append.1 hq with hq | hq
    ·obtain ⟨p',h1,h2⟩:=i3 q hq
     exact ⟨p',List.mem_append.2 (.inl h1),h2⟩
    ·simp at hq;subst hq
     exact ⟨q,by simp,rfl,Int.le_refl _⟩
theorem eq_of_key {T:List (Int×Int)}(hT:T.Pairwise (fun p q=>p.1<q.1)) {p q:Int×Int}(hp:p∈T) (hq:q∈T) (h:p.1=q.1):p=q:=by
 induction T with
 | nil=>simp at hp
 | cons t r ih =>
  rw [List.pairwise_cons] at hT
  rcases List.mem_cons.1 hp with e1 | hp1
  ·rcases List.mem_cons.1 hq with e2 | hq1
   ·rw [e1,e2]
   ·have:=hT.1 q hq1;rw [←e1] at this;omega
  ·rcases List.mem_cons.1 hq with e2 | hq1
   ·have:=hT.1 p hp1;rw [←e2] at this;omega
   ·exact ih hT.2 hp1 hq1
theorem tidyL_is (xs:List (Int×Int)):IsTidy (tidyL xs) xs:=by
 obtain ⟨h1,h2,h3⟩:=dd_sorted (srt xs) (srt_pw xs)
 have hm:∀p,p∈srt xs↔p∈xs:=fun p=>(srt_perm xs).mem_iff
 refine ⟨h1,fun p=>⟨fun hp=>⟨(hm p).1 (h2 p hp),fun q hq hk=>?_⟩,fun ⟨hp,hmax⟩=>?_⟩⟩
 ·obtain ⟨p',hp',hk',hle⟩:=h3 q ((hm q).2 hq)
  have:p'=p:=eq_of_key h1 hp' hp (by omega)
  rw [←this];exact hle
 ·obtain ⟨p',hp',hk',hle⟩:=h3 p ((hm p).2 hp)
  have h4:=hmax p' ((hm p').1 (h2 p' hp')) hk'
  have:p'=p:=Prod.ext hk' (by omega)
  rw [←this];exact hp'
def pstep (last:Int) (s:Int×Int) (v:Int×Int):Int×Int :=
 if v.1≤last then s else if s.1<0∨v.1<s.1 then v else if v.1=s.1∧s.2<v.2 then (s.1,v.2) else s
def pick (last:Int) (xs:List (Int×Int)):Int×Int:=xs.foldl (pstep last) (-1,0)
def Found (last:Int) (xs:List (Int×Int)) (s:Int×Int):Prop :=
 (s=(-1,0)∧∀q∈xs,q.1≤last)∨(s∈xs∧last<s.1∧(∀q∈xs,last<q.1→s.1≤q.1)∧∀q∈xs,q.1=s.1→q.2≤s.2)
theorem found_snoc {last:Int}(hl:-1≤last) {xs:List (Int×Int)}{s v:Int×Int}(hs:Found last xs s):Found last (xs++[v]) (pstep last s v):=by
 unfold pstep
 split
 ·rename_i h
  rcases hs with ⟨rfl,h0⟩ | ⟨h1,h2,h3,h4⟩
  ·exact .inl ⟨rfl,fun q hq=>by rcases List.mem_append.1 hq with hq | hq;exact h0 q hq;simp at hq;subst hq;exact h⟩
  ·refine .inr ⟨List.mem_append.2 (.inl h1),h2,fun q hq hlt=>?_,fun q hq hk=>?_⟩
   ·rcases List.mem_append.1 hq with hq | hq;exact h3 q hq hlt;simp at hq;subst hq;omega
   ·rcases List.mem_append.1 hq with hq | hq;exact h4 q hq hk;simp at hq;subst hq;omega
 ·rename_i h
  split
  ·rename_i h5
   refine .inr ⟨by simp,by omega,fun q hq hlt=>?_,fun q hq hk=>?_⟩
   ·rcases List.mem_append.1 hq with hq | hq
    ·rcases hs with ⟨rfl,h0⟩ | ⟨h1,h2,h3,h4⟩
     ·have:=h0 q hq;omega
     ·have:=h3 q hq hlt;omega
    ·simp at hq;subst hq;exact Int.le_refl _
   ·rcases List.mem_append.1 hq with hq | hq
    ·rcases hs with ⟨rfl,h0⟩ | ⟨h1,h2,h3,h4⟩
     ·have:=h0 q hq;omega
     ·have:=h3 q hq (by omega);omega
    ·simp at hq;subst hq;exact Int.le_refl _
  ·rename_i h5
   rcases hs with ⟨rfl,h0⟩ | ⟨h1,h2,h3,h4⟩
   ·simp at h5
   ·split
    ·rename_i h6
     refine .inr ⟨List.mem_append.2 (.inr (by simp;exact Prod.ext h6.1.symm rfl)),h2,fun q hq hlt=>?_,fun q hq hk=>?_⟩
     ·rcases List.mem_append.1 hq with hq | hq;exact h3 q hq hlt;simp at hq;subst hq;simp only;omega
     ·rcases List.mem_append.1 hq with hq | hq
      ·have:=h4 q hq hk;simp only at *;omega
      ·simp at hq;subst hq;exact Int.le_refl _
    ·rename_i h6
     refine .inr ⟨List.mem_append.2 (.inl h1),h2,fun q hq hlt=>?_,fun q hq hk=>?_⟩
     ·rcases List.mem_append.1 hq with hq | hq;exact h3 q hq hlt;simp at hq;subst hq;omega
     ·rcases List.mem_append.1 hq with hq | hq;exact h4 q hq hk;simp at hq;subst hq;omega
theorem pick_found {last:Int}(hl:-1≤last) (xs:List (Int×Int)):Found last xs (pick last xs):=by
 suffices h:∀(ys zs:List (Int×Int)) (s:Int×Int),Found last zs s→Found last (zs++ys) (ys.foldl (pstep last) s) by
  have:=h xs [] (-1,0) (.inl ⟨rfl,by simp⟩);simpa [pick] using this
 intro ys
 induction ys with
 | nil=>intro zs s hs;simpa using hs
 | cons v r ih=>intro zs s hs;have:=ih (zs++[v]) (pstep last s v) (found_snoc hl hs);simpa using this
def lastOf (T:List (Int×Int)) (j:Nat):Int:=if j=0 then -1 else (T[j - 1]?.getD (-1,0)).1
theorem lastOf_zero (T:List (Int×Int)):lastOf T 0=-1:=rfl
theorem lastOf_succ {T:List (Int×Int)}{j:Nat}{p:Int×Int}(h:T[j]?=some p):lastOf T (j+1)=p.1:=by simp [lastOf,h]
theorem last_split {T:List (Int×Int)}(hT:T.Pairwise (fun p q=>p.1<q.1)) (h0:∀p∈T,0≤p.1) {j:Nat}(hj:j≤T.length) :
  -1≤lastOf T j∧(∀i p,T[i]?=some p→(i<j↔p.1≤lastOf T j)):=by
 rcases Nat.eq_zero_or_pos j with rfl | hp
 ·refine ⟨Int.le_refl _,fun i p hi=>⟨fun h=>by omega,fun h=>?_⟩⟩
  have:=h0 p (List.mem_of_getElem? hi);rw [lastOf_zero] at h;omega
 ·obtain ⟨k,rfl⟩:∃k,j=k+1:=⟨j - 1,by omega⟩
  have hk:k<T.length:=by omega
  have hg:T[k]?=some T[k]:=by simp [hk]
  rw [lastOf_succ hg]
  refine ⟨by have:=h0 T[k] (List.getElem_mem hk);omega,fun i p hi=>?_⟩
  obtain ⟨hi',rfl⟩:=List.getElem?_eq_some_iff.1 hi
  rw [List.pairwise_iff_getElem] at hT
  constructor
  ·intro h
   rcases Nat.lt_or_ge i k with hlt | hge
   ·exact Int.le_of_lt (hT i k hi' hk hlt)
   ·have:i=k:=by omega
    subst this;exact Int.le_refl _
  ·intro h
   rcases Nat.lt_or_ge i (k+1) with hlt | hge
   ·exact hlt
   ·have:=hT k i hk hi' (by omega);omega
theorem pick_at {T xs:List (Int×Int)}(hT:IsTidy T xs) (h0:∀p∈xs,0≤p.1) {j:Nat}(hj:j≤T.length):pick (lastOf T j) xs=T[j]?.getD (-1,0):=by
 have h0':∀p∈T,0≤p.1:=fun p hp=>h0 p ((hT.2 p).1 hp).1
 obtain ⟨hl,hs⟩:=last_split hT.1 h0' hj
 rcases pick_found hl xs with ⟨he,hall⟩ | ⟨h1,h2,h3,h4⟩
 ·rw [he]
  rcases hg:T[j]? with _ | p
  ·rfl
  ·have hp:=((hT.2 p).1 (List.mem_of_getElem? hg)).1
   have:=(hs j p hg).2 (hall p hp);omega
 ·generalize pick (lastOf T j) xs=s at *
  have hsT:s∈T:=(hT.2 s).2 ⟨h1,h4⟩
  obtain ⟨i,hi,hie⟩:=List.getElem_of_mem hsT
  have hgi:T[i]?=some s:=by simp [hi,hie]
  have hij:j≤i:=by
   rcases Nat.lt_or_ge i j with h | h
   ·have:=(hs i s hgi).1 h;omega
   ·exact h
  have hjl:j<T.length:=by omega
  have hgj:T[j]?=some T[j]:=by simp [hjl]
  rw [hgj]
  have hjx:=((hT.2 T[j]).1 (List.getElem_mem hjl)).1
  have hlj:lastOf T j<T[j].1:=by
   rcases Int.lt_or_le (lastOf T j) T[j].1 with h | h
   ·exact h
   ·have:=(hs j T[j] hgj).2 h;omega
  have h5:=h3 T[j] hjx hlj
  rcases Nat.lt_or_ge j i with hlt | hge
  ·have hp:=hT.1
   rw [List.pairwise_iff_getElem] at hp
   have:=hp j i hjl hi hlt
   rw [hie] at this;omega
  ·have:j=i:=by omega
   subst this
   exact hie.symm
open Go.RowKit Go.Sort Go.Shelf Go.Lib
theorem box3r {w:World}{o p q:Obj}:(((w.alloc o).alloc p).alloc q).heap[w.heap.size]?=some o∧(((w.alloc o).alloc p).alloc q).heap[w.heap.size+1]?=some p∧(((w.alloc o).alloc p).alloc q).heap[w.heap.size+2]?=some q :=
 ⟨alloc_old box_at q,alloc_old box_at1 q,by have:=alloc_new ((w.alloc o).alloc p) q;simpa using this⟩
def sLen:Option Value→Nat
 | some (.slice _ n _)=>n
 | _=>0
theorem pick_take {last:Int}{xs:List (Int×Int)}{k:Nat}{z:Int×Int}(h:xs[k]?=some z):pick last (xs.take (k+1))=pstep last (pick last (xs.take k)) z:=by
 unfold pick;rw [take_fold h]
theorem ownsRow_some {w:World}{B e sz:Nat}{v:Value}{n:Nat}{l:List Value}(h:w.ownsRow B e sz v n l) (hn:0<n):∃g c,v=.slice (some ⟨g,0,none⟩) n c:=by
 rcases h.2 with ⟨_,h0⟩ | ⟨g,c,cur,hv,r⟩
 ·omega
 ·exact ⟨g,c,hv⟩
theorem OR.ne {B b:Nat}{w:World}{v:Value}{xs:List (Int×Int)}(h:OR B w v xs) (hb:b<B):v.ownBlock≠some b:=fun e=>by have:=(World.ownsRow.lt h b e).1;omega
theorem set1_heap {w:World}{b:Nat}{u v x:Value}{t:TypeId}(h:w.heap[b]?=some (.cells #[u,v] t (0,0))):(w.setCell ⟨b,1,none⟩ x).heap[b]?=some (.cells #[u,x] t (0,0)):=by
 rw [setCell_eq];show (w.heap.modify b _)[b]?=_
 rw [Array.getElem?_modify,if_pos rfl,h];rfl
theorem tidy_app {w wr w3:World}{T:List (Int×Int)}{j:Nat}{p1 p2:Int}{v v' m:Value}{n:Int}{a:Option Addr}{l cap:Nat}(hp:T[j]?=some (p1,p2)) (hlen:(T.take j).length=j) (hO:OR (w.heap.size+3) wr v (T.take j)) (hH:wr.heap[w.heap.size+2]?=some (.cells #[m,v] 75 (0,0))) (hL:wr.heap[w.heap.size]?=some (.cells #[.int .i64 n,.slice a l cap] 75 (0,0))) (hz:w.heap.size+3≤wr.heap.size)
  (hown:w3.ownsRow (w.heap.size+3) 109 2 v' ((T.take j).length+1) (flat (T.take j)++[.int .i64 p1,.int .i64 p2])) (hg:(wr.alloc (.cells #[.int .i64 p1,.int .i64 p2] 109)).grownBy w3 v.ownBlock) :
  w3.ownsRow (w.heap.size+3) 109 2 v' (j+1) (flat (T.take (j+1)))∧RowKit.Below (w.heap.size+2) wr w3∧w3.heap[w.heap.size]?=some (.cells #[.int .i64 n,.slice a l cap] 75 (0,0))∧w3.heap[w.heap.size+2]?=some (.cells #[m,v] 75 (0,0)):=by
 obtain ⟨hk,he⟩:=List.getElem?_eq_some_iff.1 hp
 have hne:∀b,b<w.heap.size+3→some b≠v.ownBlock:=fun b hb e=>hO.ne hb e.symm
 refine ⟨?_,((Below.refl _ wr).alloc (by omega) _).grown hg (by simp;omega) (fun k e=>by have:=(World.ownsRow.lt hO k e).1;omega),?_,?_⟩
 ·rw [List.take_succ_eq_append_getElem hk,flat_append,he]
  rw [hlen] at hown
  exact hown
 ·rw [hg.block w.heap.size (by simp;omega) (hne _ (by omega))];exact alloc_old hL _
 ·rw [hg.block (w.heap.size+2) (by simp;omega) (hne _ (by omega))];exact alloc_old hH _
theorem ps1 {last s1 s2 x y:Int}(h:x≤last):pstep last (s1,s2) (x,y)=(s1,s2):=by unfold pstep;rw [if_pos h]
theorem ps2 {last s1 s2 x y:Int}(h:¬x≤last) (h2:s1<0∨x<s1):pstep last (s1,s2) (x,y)=(x,y):=by unfold pstep;rw [if_neg h,if_pos h2]
theorem ps3 {last s1 s2 x y:Int}(h:¬x≤last) (h2:¬(s1<0∨x<s1)) (h3:x=s1∧s2<y):pstep last (s1,s2) (x,y)=(s1,y):=by unfold pstep;rw [if_neg h,if_neg h2,if_pos h3]
theorem ps4 {last s1 s2 x y:Int}(h:¬x≤last) (h2:¬(s1<0∨x<s1)) (h3:¬(x=s1∧s2<y)):pstep last (s1,s2) (x,y)=(s1,s2):=by unfold pstep;rw [if_neg h,if_neg h2,if_neg h3]
set_option maxRecDepth 100000 in
set_option maxHeartbeats 8000000 in
theorem tidy_any (n:Int) (xs:List (Int×Int)) (a:Option Addr) (cap:Nat) (w:World) (hS:SL w a xs) (hn:xs.length≤4398046511104) (h0:∀p∈xs,0≤p.1) :
  Calls Tryz.prog 105 #[.agg #[.int .i64 n,.slice a xs.length cap]] w fun e w'=>∃v,e=.returned (.agg #[.int .i64 (nOf n (tidyL xs)),v])∧OR w.heap.size w' v (tidyL xs)∧RowKit.Below w.heap.size w w':=by
 obtain ⟨i0,hi,hz0,hz1,hz2⟩:=info_parts infoLVar
 have hTl:(tidyL xs).length≤xs.length:=tidyL_le xs
 have HT:=Hid.mk (tidyL_is xs)
 have HPK:Hid (∀j,j≤(tidyL xs).length→pick (lastOf (tidyL xs) j) xs=(tidyL xs)[j]?.getD (-1,0)):=fun j hj=>pick_at (tidyL_is xs) h0 hj
 have HLT:Hid (∀j,j≤(tidyL xs).length→-1≤lastOf (tidyL xs) j):=fun j hj=>(last_split (tidyL_is xs).1 (fun p hp=>h0 p (((tidyL_is xs).2 p).1 hp).1) hj).1
 have H0T:Hid (∀p∈tidyL xs,0≤p.1):=fun p hp=>h0 p (((tidyL_is xs).2 p).1 hp).1
 generalize tidyL xs=T at *
 obtain ⟨W0,hW0⟩:∃W0,((w.alloc (.cells #[.int .i64 n,.slice a xs.length cap] 75)).alloc (.cells #[.int .i64 0,.slice none 0 0] 75)).alloc (.cells #[.int .i64 n,.slice none 0 0] 75)=W0:=⟨_,rfl⟩
 have HA:Hid (Grew w W0):=by rw [←hW0];exact (((Grew.refl w).alloc _).alloc _).alloc _
 obtain ⟨hb0,hb1,hb2⟩:W0.heap[w.heap.size]?=some (.cells #[.int .i64 n,.slice a xs.length cap] 75 (0,0))∧W0.heap[w.heap.size+1]?=some (.cells #[.int .i64 0,.slice none 0 0] 75 (0,0))∧W0.heap[w.heap.size+2]?=some (.cells #[.int .i64 n,.slice none 0 0] 75 (0,0)):=by rw [←hW0];exact box3r
 have hsz:W0.heap.size=w.heap.size+3:=by rw [←hW0];simp
 have HW0:=Hid.mk hW0
 have HSZ:=Hid.mk hsz
 have H1:=Hid.mk hb0
 have H2:=Hid.mk hb1
 have H3:=Hid.mk hb2
 have HS:=Hid.mk hS
 clear hS h0 hW0 hsz hb0 hb1 hb2
 go_enter Tryz.func105,Tryz.ntmps105
 go_wp2
 rw [HW0.out]
 go_loopw [4] (fun la wr=>∃(j:Nat) (v:Value),j≤T.length∧la=.int .i64 (lastOf T j)∧RowKit.Below (w.heap.size+2) W0 wr∧wr.heap[w.heap.size+2]?=some (.cells #[.int .i64 (nOf n (T.take j)),v] 75 (0,0))∧OR (w.heap.size+3) wr v (T.take j)) (fun _ wr=>T.length - sLen (wr.cell? ⟨w.heap.size+2,1,none⟩))
 case atStart=>exact ⟨0,.slice none 0 0,Nat.zero_le _,rfl,Below.refl _ _,by simpa [nOf] using H3.out,OR.nil _ _⟩
 case round =>
  obtain ⟨j,v,hj,rfl,hb,hh,hO⟩:=hrel
  have HH:=Hid.mk hh
  have hl4:=(cells2 hh).2.2.2.2
  have hpk:=HPK.out j hj
  have hla:=HLT.out j hj
  have HPJ:=Hid.mk hpk
  have HO:=Hid.mk hO
  have HLJ:Hid (lastOf T j=lastOf T j):=rfl
  clear hh hO hpk
  generalize hlast:lastOf T j=last at *
  have HLA:=Hid.mk hlast
  clear hlast HLJ
  generalize wr=w5 at *
  have HB:=Hid.mk hb
  obtain ⟨e0,e1,-,-,e4⟩:=cells2 ((hb.block w.heap.size (by omega)).trans H1.out)
  clear hb
  go_wp2
  go_loopw [5,6,7] (fun nx ad i wi=>∃k:Nat,k≤xs.length∧i=.int .i64 k∧nx=.int .i64 (pick last (xs.take k)).1∧ad=.int .i64 (pick last (xs.take k)).2∧Grew w5 wi) (fun _ _ i _=>xs.length - (intOf i).toNat)
  case atStart=>exact ⟨0,Nat.zero_le _,rfl,rfl,rfl,Grew.refl _⟩
  case round =>
   obtain ⟨k,hk,rfl,rfl,rfl,hg⟩:=hrel
   have hgb:=hg.below.size
   clear e0 e1
   obtain ⟨q0,q1,-,-,q4⟩:=cells2 ((hg.below.block w.heap.size e4).trans ((HB.out.block w.heap.size (by omega)).trans H1.out))
   by_cases hlt:k<xs.length
   ·have hgw:RowKit.Below w.heap.size w wr:=(HA.out.below.trans (HB.out.mono (by omega))).trans (hg.below.mono (by omega))
    obtain ⟨b,off,x,y,rfl,hbl,hc0,hc1,hxy⟩:=(HS.out.below hgw).at hlt
    obtain ⟨s1,s2,hs⟩:∃s1 s2,pick last (xs.take k)=(s1,s2):=⟨_,_,rfl⟩
    have HE:Hid (pick last (xs.take (k+1))=pstep last (s1,s2) (x,y)):=by unfold Hid;rw [pick_take hxy.out,hs]
    rw [hs]
    clear hs hgw
    have close:∀r1 r2,pstep last (s1,s2) (x,y)=(r1,r2)→pick last (xs.take (k+1))=(r1,r2):=fun r1 r2 h=>HE.out.trans h
    have CL:=Hid.mk close
    clear close HE
    by_cases c1:x≤last
    ·have HP:=Hid.mk (CL.out _ _ (ps1 c1))
     go_wp2
     refine ⟨⟨k+1,hlt,by go_num,by rw [HP.out],by rw [HP.out],hg.alloc _⟩,by simp [intOf];omega⟩
    ·by_cases c2:s1<0
     ·have HP:=Hid.mk (CL.out _ _ (ps2 c1 (.inl c2)))
      go_wp2
      refine ⟨⟨k+1,hlt,by go_num,by rw [HP.out],by rw [HP.out],hg.alloc _⟩,by simp [intOf];omega⟩
     ·by_cases c3:x<s1
      ·have HP:=Hid.mk (CL.out _ _ (ps2 c1 (.inr c3)))
       go_wp2
       refine ⟨⟨k+1,hlt,by go_num,by rw [HP.out],by rw [HP.out],hg.alloc _⟩,by simp [intOf];omega⟩
      ·by_cases c4:x=s1
       ·by_cases c5:s2<y
        ·have HP:=Hid.mk (CL.out _ _ (ps3 c1 (by omega) ⟨c4,c5⟩))
         have c4':(x==s1)=true:=by simp [c4]
         have C4:=Hid.mk c4
         clear c4
         go_wp2
         refine ⟨⟨k+1,hlt,by go_num,by rw [HP.out],by rw [HP.out],hg.alloc _⟩,by simp [intOf];omega⟩
        ·have HP:=Hid.mk (CL.out _ _ (ps4 c1 (by omega) (by omega)))
         have c4':(x==s1)=true:=by simp [c4]
         have C4:=Hid.mk c4
         clear c4
         go_wp2
         refine ⟨⟨k+1,hlt,by go_num,by rw [HP.out],by rw [HP.out],hg.alloc _⟩,by simp [intOf];omega⟩
       ·have HP:=Hid.mk (CL.out _ _ (ps4 c1 (by omega) (by omega)))
        have c4':(x==s1)=false:=by simp [c4]
        clear c4
        go_wp2
        refine ⟨⟨k+1,hlt,by go_num,by rw [HP.out],by rw [HP.out],hg.alloc _⟩,by simp [intOf];omega⟩
   ·have htk:xs.take k=xs:=List.take_of_length_le (by omega)
    rw [htk,HPJ.out]
    clear htk
    have HHr:=Hid.mk ((hg.below.block (w.heap.size+2) hl4).trans HH.out)
    have HOr:=Hid.mk (HO.out.below hg.below)
    obtain ⟨o0,o1,o2,o3,o4⟩:=cells2 HHr.out
    have hlen:(T.take j).length=j:=by simp;omega
    obtain ⟨va,vc,hv,-,-⟩:=HOr.out.shape
    rw [hlen] at hv
    subst hv
    have HLEN:=Hid.mk hlen
    clear hlen
    have HBr:Hid (RowKit.Below (w.heap.size+2) W0 wr):=HB.out.trans (hg.below.mono (by omega))
    have hzr:w.heap.size+3≤wr.heap.size:=by omega
    by_cases hjl:j<T.length
    ·obtain ⟨p1,p2,hp⟩:∃p1 p2,T[j]?=some (p1,p2):=⟨T[j].1,T[j].2,by simp [hjl]⟩
     rw [hp]
     have hp0:0≤p1:=H0T.out (p1,p2) (List.mem_of_getElem? hp)
     have HP:=Hid.mk hp
     have hnw:¬p1<0:=by omega
     have HNO:=Hid.mk (nOf_take (n:=n) hp)
     clear hp
     simp only [Option.getD_some]
     generalize nOf n (T.take j)=m at *
     have hold:=(cells2 HH.out).2.1
     have HOLD:=Hid.mk hold
     clear hold
     by_cases hge:n≤p2
     ·go_wp2_with (first | (at_builtin;refine wpList_append_own _ rfl _ _ 73 rfl (w.heap.size+3) 109 i0 _ 2 16 Tryz.underlying73 hi hz0 hz1 hz2 rfl (by decide) _ (T.take j).length (flat (T.take j)) rfl (HOr.out.alloc _) ⟨wr.heap.size,0,none⟩ 1 1 [.int .i64 p1,.int .i64 p2] rfl rfl (World.news_of_block (cs:=#[.int .i64 p1,.int .i64 p2]) (t:=109) (fr:=(0,0)) (alloc_new _ _)) (by simp [Value.oneCell']) (by rw [HLEN.out];simp [maxLen];omega) (by rw [HLEN.out];omega) (by simp;omega) ?_;intro v' w3 hown' hgrow _;obtain ⟨hO3,hB3,hL3,hHH3⟩:=tidy_app HP.out HLEN.out HOr.out HHr.out ((hg.below.block w.heap.size e4).trans ((HB.out.block w.heap.size (by omega)).trans H1.out)) hzr hown' hgrow;obtain ⟨g3,c3,rfl⟩:=ownsRow_some hO3 (by simp);obtain ⟨t0,t1,t2,t3,t4⟩:=cells2 hHH3;obtain ⟨z0,z1,z2,z3,z4⟩:=cells2 hL3;have HO3:=Hid.mk hO3;have HB3:=Hid.mk (HBr.out.trans hB3);have HH3:=Hid.mk hHH3;have hz3:w.heap.size+3≤w3.heap.size:=Nat.le_trans hzr hB3.size;clear hO3 hB3 hHH3 hL3 hown' hgrow))
      have hor:OR (w.heap.size+3) w3 (.slice (some ⟨g3,0,none⟩) (j+1) c3) (T.take (j+1)):=by
       unfold OR;rw [show (T.take (j+1)).length=j+1 by simp;omega];exact HO3.out
      have hnew:=heap_set0 (x:=.int .i64 0) (set1_heap (x:=.slice (some ⟨g3,0,none⟩) (j+1) c3) HH3.out)
      refine ⟨⟨j+1,.slice (some ⟨g3,0,none⟩) (j+1) c3,hjl,by rw [lastOf_succ HP.out],(HB3.out.setCell (p:=⟨w.heap.size+2,1,none⟩) (Nat.le_refl _) _).setCell (p:=⟨w.heap.size+2,0,none⟩) (Nat.le_refl _) _,?_,?_⟩,?_⟩
      ·rw [HNO.out,if_pos hge];exact hnew
      ·exact (hor.setBelow (a:=⟨w.heap.size+2,1,none⟩) (by simp) _).setBelow (a:=⟨w.heap.size+2,0,none⟩) (by simp) _
      ·rw [HOLD.out,show ((w3.setCell ⟨w.heap.size+1+1,1,none⟩ (.slice (some ⟨g3,0,none⟩) (j+1) c3)).setCell ⟨w.heap.size+1+1,0,none⟩ (.int .i64 0)).cell? ⟨w.heap.size+2,1,none⟩=some (.slice (some ⟨g3,0,none⟩) (j+1) c3) from (cells2 hnew).2.1]
       simp only [sLen];omega
     ·go_wp2_with (first | (at_builtin;refine wpList_append_own _ rfl _ _ 73 rfl (w.heap.size+3) 109 i0 _ 2 16 Tryz.underlying73 hi hz0 hz1 hz2 rfl (by decide) _ (T.take j).length (flat (T.take j)) rfl (HOr.out.alloc _) ⟨wr.heap.size,0,none⟩ 1 1 [.int .i64 p1,.int .i64 p2] rfl rfl (World.news_of_block (cs:=#[.int .i64 p1,.int .i64 p2]) (t:=109) (fr:=(0,0)) (alloc_new _ _)) (by simp [Value.oneCell']) (by rw [HLEN.out];simp [maxLen];omega) (by rw [HLEN.out];omega) (by simp;omega) ?_;intro v' w3 hown' hgrow _;obtain ⟨hO3,hB3,hL3,hHH3⟩:=tidy_app HP.out HLEN.out HOr.out HHr.out ((hg.below.block w.heap.size e4).trans ((HB.out.block w.heap.size (by omega)).trans H1.out)) hzr hown' hgrow;obtain ⟨g3,c3,rfl⟩:=ownsRow_some hO3 (by simp);obtain ⟨t0,t1,t2,t3,t4⟩:=cells2 hHH3;obtain ⟨z0,z1,z2,z3,z4⟩:=cells2 hL3;have HO3:=Hid.mk hO3;have HB3:=Hid.mk (HBr.out.trans hB3);have HH3:=Hid.mk hHH3;have hz3:w.heap.size+3≤w3.heap.size:=Nat.le_trans hzr hB3.size;clear hO3 hB3 hHH3 hL3 hown' hgrow))
      have hor:OR (w.heap.size+3) w3 (.slice (some ⟨g3,0,none⟩) (j+1) c3) (T.take (j+1)):=by
       unfold OR;rw [show (T.take (j+1)).length=j+1 by simp;omega];exact HO3.out
      have hnew:=set1_heap (x:=.slice (some ⟨g3,0,none⟩) (j+1) c3) HH3.out
      refine ⟨⟨j+1,.slice (some ⟨g3,0,none⟩) (j+1) c3,hjl,by rw [lastOf_succ HP.out],HB3.out.setCell (p:=⟨w.heap.size+2,1,none⟩) (Nat.le_refl _) _,?_,?_⟩,?_⟩
      ·rw [HNO.out,if_neg hge];exact hnew
      ·exact hor.setBelow (a:=⟨w.heap.size+2,1,none⟩) (by simp) _
      ·rw [HOLD.out,show (w3.setCell ⟨w.heap.size+1+1,1,none⟩ (.slice (some ⟨g3,0,none⟩) (j+1) c3)).cell? ⟨w.heap.size+2,1,none⟩=some (.slice (some ⟨g3,0,none⟩) (j+1) c3) from (cells2 hnew).2.1]
       simp only [sLen];omega
    ·have hjT:T[j]?=none:=List.getElem?_eq_none (by omega)
     rw [hjT]
     have htT:T.take j=T:=List.take_of_length_le (by omega)
     rw [htT] at HOr HHr o0
     clear hjT htT
     simp only [Option.getD_none]
     obtain ⟨c0,c1,c2,c3,c4⟩:=cells2 ((HBr.out.block (w.heap.size+1) (by omega)).trans H2.out)
     generalize hm:nOf n T=m at *
     have HM:=Hid.mk hm
     clear hm
     go_wp2
     refine bodyPost_ret (v:=.agg #[.int .i64 m,.slice va j vc]) (by simp [results,Tryz.results105,go_sem,c0,c1]) rfl ⟨_,by rw [HM.out],?_,?_⟩
     ·exact OR.mono ((HOr.out.setBelow (a:=⟨w.heap.size+1,0,none⟩) (by simp only;omega) _).setBelow (a:=⟨w.heap.size+1,1,none⟩) (by simp only;omega) _) (by omega)
     ·exact ((HA.out.below.trans (HBr.out.mono (by omega))).setCell (p:=⟨w.heap.size+1,0,none⟩) (Nat.le_succ _) _).setCell (p:=⟨w.heap.size+1,1,none⟩) (Nat.le_succ _) _
end Go.Proofs.YtgfgpjcnfnopnaaGreat
