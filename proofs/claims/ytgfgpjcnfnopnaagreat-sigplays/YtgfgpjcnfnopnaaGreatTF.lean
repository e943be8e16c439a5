/- The contracts of level.value, level.Eval, level.greatestAdd and level.Bound. -/
import Derived.Test.YtgfgpjcnfnopnaaGreatA
import Derived.Deep.QuietTactic
import Derived.BigQuiet
namespace Go.Proofs.YtgfgpjcnfnopnaaGreat
set_option maxRecDepth 100000
set_option maxHeartbeats 40000000
open Go.RowKit Go.Sort
theorem ret_int {k:IntKind}{a b:Int}(h:a=b):Ending.returned (.int k a)=.returned (.int k b):=by rw [h]
theorem take_fold {β:Type}{f:β→Int×Int→β}{n:β}{xs:List (Int×Int)}{k:Nat}{z:Int×Int}(h:xs[k]?=some z):(xs.take (k+1)).foldl f n=f ((xs.take k).foldl f n) z:=by
 obtain ⟨hk,rfl⟩:=List.getElem?_eq_some_iff.1 h
 rw [List.take_succ_eq_append_getElem hk,List.foldl_append];simp
theorem right_n {n:Int}{xs:List (Int×Int)}(h:rightB n xs=true):0≤n∧n≤1000∧xs.length≤64:=by
 simp only [rightB,Bool.and_eq_true,inR,decide_eq_true_eq] at h;omega
def cmpI (a b:Int):Int:=if a<b then -1 else if b<a then 1 else 0
theorem Compare_any (a b:Int) (w:World):Calls Tryz.prog 117 #[.int .i64 a,.int .i64 b] w fun e w'=>e=.returned (.int .i64 (cmpI a b))∧w'=w:=by
 by_cases h1:a<b
 ·go_enter Tryz.func117,Tryz.ntmps117
  go_wp2
  go_ret
  exact ⟨by simp [cmpI,h1],rfl⟩
 ·by_cases h2:b<a
  all_goals
   go_enter Tryz.func117,Tryz.ntmps117
   go_wp2
   go_ret
   exact ⟨ret_int (by unfold cmpI;by_cases c1:a<b<;>by_cases c2:b<a<;>simp [c1,c2]<;>omega),rfl⟩
theorem keyAndValue_any (x y:Int) (w:World):Calls Tryz.prog 114 #[.agg #[.int .i64 x,.int .i64 y]] w fun e w'=>e=.returned (.tuple #[.int .i64 x,.int .i64 y])∧∃q,w'=(w.alloc (.cells #[.int .i64 x,.int .i64 y] 109)).drewN q:=by
 go_enter Tryz.func114,Tryz.ntmps114
 go_wp2
 go_quiet (fail)
 go_wp2
 go_ret2
 exact ⟨rfl,_,rfl⟩
theorem cell3 {w:World}{p:Addr}{v:Value}(hp:p.block<w.heap.size) (h:w.cell? p=some v):∀o1 o2 o3,(((w.alloc o1).alloc o2).alloc o3).cell? p=some v:=fun o1 o2 o3=>by
 rw [((((Below.refl w.heap.size w).alloc (Nat.le_refl _) o1).alloc (by simp) o2).alloc (by simp;omega) o3).cell hp];exact h
def cmpP (x y:Int×Int):Int:=if x.1=y.1 then cmpI y.2 x.2 else cmpI x.1 y.1
theorem gathered1_any (x1 x2 y1 y2:Int) (fb:Nat) (w:World) (hfb:fb<w.heap.size) (hc:w.cell? ⟨fb,0,none⟩=some (.func (.func 114) #[] #[])) :
  Calls Tryz.prog 116 #[.agg #[.int .i64 x1,.int .i64 x2],.agg #[.int .i64 y1,.int .i64 y2],.pointer (some ⟨fb,0,none⟩)] w fun e w'=>e=.returned (.int .i64 (cmpP (x1,x2) (y1,y2)))∧Grew w w':=by
 by_cases h:x1=y1
 ·have hb:(x1 != y1)=false:=by simp [h]
  have HE:Hid (cmpP (x1,x2) (y1,y2)=cmpI y2 x2):=by unfold Hid cmpP;rw [if_pos h]
  clear h
  have hc3:=cell3 (p:=⟨fb,0,none⟩) hfb hc
  go_enter Tryz.func116,Tryz.ntmps116
  go_wp2_with (first | (go_at_call 114;refine (keyAndValue_any _ _ _).mono ?_;rintro e w' ⟨rfl,q,rfl⟩) | (go_at_call 117;refine (Compare_any _ _ _).mono ?_;rintro e w' ⟨rfl,rfl⟩))
  go_ret
  exact ⟨ret_int HE.out.symm,by repeat (first | exact Grew.refl _ | refine Grew.drewN ?_ _ | refine Grew.alloc ?_ _)⟩
 ·have hb:(x1 != y1)=true:=by simp [h]
  have HE:Hid (cmpP (x1,x2) (y1,y2)=cmpI x1 y1):=by unfold Hid cmpP;rw [if_neg h]
  clear h
  have hc3:=cell3 (p:=⟨fb,0,none⟩) hfb hc
  go_enter Tryz.func116,Tryz.ntmps116
  go_wp2_with (first | (go_at_call 114;refine (keyAndValue_any _ _ _).mono ?_;rintro e w' ⟨rfl,q,rfl⟩) | (go_at_call 117;refine (Compare_any _ _ _).mono ?_;rintro e w' ⟨rfl,rfl⟩))
  go_ret
  exact ⟨ret_int HE.out.symm,by repeat (first | exact Grew.refl _ | refine Grew.drewN ?_ _ | refine Grew.alloc ?_ _)⟩
theorem gathered2_any (x1 x2 y1 y2:Int) (fb:Nat) (w:World) (hfb:fb<w.heap.size) (hc:w.cell? ⟨fb,0,none⟩=some (.func (.func 114) #[] #[])) :
  Calls Tryz.prog 119 #[.agg #[.int .i64 x1,.int .i64 x2],.agg #[.int .i64 y1,.int .i64 y2],.pointer (some ⟨fb,0,none⟩)] w fun e w'=>e=.returned (.bool (x1==y1))∧Grew w w':=by
 have hc3:=cell3 (p:=⟨fb,0,none⟩) hfb hc
 go_enter Tryz.func119,Tryz.ntmps119
 go_wp2_with (first | (go_at_call 114;refine (keyAndValue_any _ _ _).mono ?_;rintro e w' ⟨rfl,q,rfl⟩))
 go_ret
 exact ⟨rfl,by repeat (first | exact Grew.refl _ | refine Grew.drewN ?_ _ | refine Grew.alloc ?_ _)⟩
def flat:List (Int×Int)→List Value
 | []=>[]
 | p::r=>.int .i64 p.1::.int .i64 p.2::flat r
theorem flat_length:∀xs:List (Int×Int),(flat xs).length=xs.length*2
 | []=>rfl
 | _::r=>by simp [flat,flat_length r];omega
theorem flat_append:∀xs ys:List (Int×Int),flat (xs++ys)=flat xs++flat ys
 | [],_=>rfl
 | _::r,ys=>by simp [flat,flat_append r ys]
theorem flat_get:∀(xs:List (Int×Int)) (k:Nat) (x y:Int),xs[k]?=some (x,y)→(flat xs)[k*2]?=some (.int .i64 x)∧(flat xs)[k*2+1]?=some (.int .i64 y)
 | [],_,_,_,h=>by simp at h
 | p::r,0,x,y,h=>by simp at h;subst h;simp [flat]
 | p::r,k+1,x,y,h=>by
  have:=flat_get r k x y (by simpa using h)
  rw [show (k+1)*2=k*2+1+1 by omega]
  simpa [flat] using this
theorem flat_set:∀(xs:List (Int×Int)) (k:Nat) (x y:Int),((flat xs).set (k*2) (.int .i64 x)).set (k*2+1) (.int .i64 y)=flat (xs.set k (x,y))
 | [],_,_,_=>by simp [flat]
 | p::r,0,x,y=>by simp [flat]
 | p::r,k+1,x,y=>by
  rw [show (k+1)*2=k*2+1+1 by omega]
  simp [flat,flat_set r k x y]
theorem flat_take:∀(xs:List (Int×Int)) (k:Nat),(flat xs).take (k*2)=flat (xs.take k)
 | [],_=>by simp [flat]
 | p::r,0=>by simp [flat]
 | p::r,k+1=>by
  rw [show (k+1)*2=k*2+1+1 by omega]
  simp [flat,flat_take r k]
theorem flat_one (xs:List (Int×Int)):∀u∈flat xs,u.oneCell'=true:=by
 induction xs with
 | nil=>simp [flat]
 | cons p r ih=>intro u hu;simp [flat] at hu;rcases hu with rfl | rfl | hu;rfl;rfl;exact ih u hu
def OR (B:Nat) (w:World) (v:Value) (xs:List (Int×Int)):Prop:=w.ownsRow B 109 2 v xs.length (flat xs)
theorem OR.nil (B:Nat) (w:World):OR B w (.slice none 0 0) []:=World.ownsRow_nil _ _ _ _
theorem OR.mono {B B':Nat}{w:World}{v:Value}{xs:List (Int×Int)}(h:OR B w v xs) (hB:B'≤B):OR B' w v xs:=by
 obtain ⟨h1,h2⟩:=h
 refine ⟨h1,?_⟩
 rcases h2 with h2 | ⟨g,cap,cur,hv,hg,r⟩
 ·exact Or.inl h2
 ·exact Or.inr ⟨g,cap,cur,hv,Nat.le_trans hB hg,r⟩
theorem OR.shape {B:Nat}{w:World}{v:Value}{xs:List (Int×Int)}(h:OR B w v xs):∃a cap,v=.slice a xs.length cap∧SL w a xs∧xs.length≤9223372036854775807:=by
 rcases h.2 with ⟨hv,hn⟩ | ⟨g,cap,cur,hv,hg,hh,hc,hm,hs,ht⟩
 ·have:xs=[]:=List.length_eq_zero_iff.1 hn
  subst this
  exact ⟨none,0,hv,Or.inl rfl,by simp⟩
 ·refine ⟨_,cap,hv,Or.inr ⟨g,0,rfl,(Array.getElem?_eq_some_iff.1 hh).1,fun i hi=>?_⟩,by unfold maxLen at hm;omega⟩
  have hx:xs[i]?=some (xs[i]?.getD (0,0)):=by simp [hi]
  obtain ⟨f0,f1⟩:=flat_get xs i _ _ hx
  subst hv
  rw [←World.ownsRow.cellAt h (i*2) (by omega)] at f0
  rw [←World.ownsRow.cellAt h (i*2+1) (by omega)] at f1
  exact ⟨by rw [Nat.zero_add];exact f0,by rw [Nat.zero_add];exact f1⟩
theorem OR.below {B:Nat}{w w':World}{v:Value}{xs:List (Int×Int)}(h:OR B w v xs) (hb:Below w.heap.size w w'):OR B w' v xs:=by
 obtain ⟨h1,h2⟩:=h
 refine ⟨h1,?_⟩
 rcases h2 with h2 | ⟨g,cap,cur,hv,hg,hh,r⟩
 ·exact Or.inl h2
 ·exact Or.inr ⟨g,cap,cur,hv,hg,(hb.block g (Array.getElem?_eq_some_iff.1 hh).1).trans hh,r⟩
theorem OR.lt {B:Nat}{w:World}{a:Addr}{n cap:Nat}{xs:List (Int×Int)}(h:OR B w (.slice (some a) n cap) xs):B≤a.block∧a.block<w.heap.size∧a.off=0∧n=xs.length∧n≤cap:=by
 rcases h.2 with ⟨hv,_⟩ | ⟨g,cap',cur,hv,hg,hh,hc,_⟩
 ·simp at hv
 ·simp at hv
  obtain ⟨rfl,rfl,rfl⟩:=hv
  exact ⟨hg,(Array.getElem?_eq_some_iff.1 hh).1,rfl,rfl,hc⟩
theorem OR.at {B:Nat}{w:World}{g cap:Nat}{xs:List (Int×Int)}(h:OR B w (.slice (some ⟨g,0,none⟩) xs.length cap) xs) {k:Nat}(hk:k<xs.length) :
  ∃x y,w.cell? ⟨g,k*2,none⟩=some (.int .i64 x)∧w.cell? ⟨g,k*2+1,none⟩=some (.int .i64 y)∧w.frozen? ⟨g,k*2,none⟩=false∧w.frozen? ⟨g,k*2+1,none⟩=false∧Hid (xs[k]?=some (x,y)):=by
 have hx:xs[k]?=some (xs[k]?.getD (0,0)):=by simp [hk]
 obtain ⟨f0,f1⟩:=flat_get xs k _ _ hx
 rw [←World.ownsRow.cellAt h (k*2) (by omega)] at f0
 rw [←World.ownsRow.cellAt h (k*2+1) (by omega)] at f1
 exact ⟨_,_,f0,f1,World.ownsRow.frozenAt h _,World.ownsRow.frozenAt h _,hx⟩
theorem OR.set {B:Nat}{w:World}{g cap:Nat}{xs:List (Int×Int)}(h:OR B w (.slice (some ⟨g,0,none⟩) xs.length cap) xs) (k:Nat) (x y:Int) :
  OR B ((w.setCell ⟨g,k*2,none⟩ (.int .i64 x)).setCell ⟨g,k*2+1,none⟩ (.int .i64 y)) (.slice (some ⟨g,0,none⟩) (xs.set k (x,y)).length cap) (xs.set k (x,y)):=by
 have h1:=World.ownsRow.stored h (k*2) (.int .i64 x)
 have h2:=World.ownsRow.stored h1.1 (k*2+1) (.int .i64 y)
 rw [flat_set] at h2
 unfold OR
 simpa using h2.1
def setL:List Value→Nat→List Value→List Value
 | l,_,[]=>l
 | l,o,v::r=>setL (l.set o v) (o+1) r
theorem setL_take:∀(vs l:List Value) (o m:Nat),m≤o→(setL l o vs).take m=l.take m
 | [],_,_,_,_=>rfl
 | v::r,l,o,m,h=>by rw [setL,setL_take r _ (o+1) m (by omega),List.take_set_of_le h]
theorem owns_setCells {B g cap n:Nat}{e:TypeId}{size:Nat}:∀(vs:List Value) (o:Nat) (w:World) (xs:List Value),w.ownsRow B e size (.slice (some ⟨g,0,none⟩) n cap) n xs→(w.setCells g o vs).ownsRow B e size (.slice (some ⟨g,0,none⟩) n cap) n (setL xs o vs)
 | [],_,_,_,h=>h
 | v::r,o,w,xs,h=>by
  rw [World.setCells,setL]
  exact owns_setCells r (o+1) _ _ (World.ownsRow.stored h o v).1
theorem below_setCells {B g:Nat}{a:World}:∀(vs:List Value) (o:Nat) (w:World),Below B a w→B≤g→Below B a (w.setCells g o vs)
 | [],_,_,h,_=>h
 | v::r,o,w,h,hg=>by
  rw [World.setCells]
  exact below_setCells r (o+1) _ (h.setCell (p:=⟨g,o,none⟩) hg v) hg
theorem OR.cut {B g cap k:Nat}{w:World}{xs:List (Int×Int)}{l:List Value}(h:w.ownsRow B 109 2 (.slice (some ⟨g,0,none⟩) xs.length cap) xs.length l) (hl:l.take (k*2)=flat (xs.take k)) (hk:k≤xs.length) :
  OR B w (.slice (some ⟨g,0,none⟩) (xs.take k).length cap) (xs.take k):=by
 rcases h.2 with ⟨hv,_⟩ | ⟨g',cap',cur,hv,hg,hh,hc,hm,hs,ht⟩
 ·simp at hv
 ·simp at hv
  obtain ⟨rfl,rfl⟩:=hv
  have e:(xs.take k).length=k:=by simp;omega
  refine ⟨by rw [flat_length],Or.inr ⟨g,cap,cur,rfl,hg,hh,by rw [e];omega,hm,hs,?_⟩⟩
  rw [e,←hl,←ht,List.take_take,Nat.min_eq_left (by omega)]
theorem cells2 {w:World}{b:Nat}{u v:Value}{t:TypeId}(h:w.heap[b]?=some (.cells #[u,v] t (0,0))) :
  w.cell? ⟨b,0,none⟩=some u∧w.cell? ⟨b,1,none⟩=some v∧w.frozen? ⟨b,0,none⟩=false∧w.frozen? ⟨b,1,none⟩=false∧b<w.heap.size :=
 ⟨by rw [cell_of_row _ b 0 _ _ _ h];rfl,by rw [cell_of_row _ b 1 _ _ _ h];rfl,by simp [World.frozen?,h],by simp [World.frozen?,h],(Array.getElem?_eq_some_iff.1 h).1⟩
theorem heap_set0 {w:World}{b:Nat}{u v x:Value}{t:TypeId}(h:w.heap[b]?=some (.cells #[u,v] t (0,0))):(w.setCell ⟨b,0,none⟩ x).heap[b]?=some (.cells #[x,v] t (0,0)):=by
 rw [setCell_eq];show (w.heap.modify b _)[b]?=_
 rw [Array.getElem?_modify,if_pos rfl,h];rfl
theorem alloc_new (w:World) (o:Obj):(w.alloc o).heap[w.heap.size]?=some o:=by
 show (w.heap.push o)[w.heap.size]?=_
 simp
theorem alloc_old {w:World}{b:Nat}{o:Obj}(h:w.heap[b]?=some o) (p:Obj):(w.alloc p).heap[b]?=some o :=
 (Below.heap_alloc w p b (Array.getElem?_eq_some_iff.1 h).1).trans h
theorem box_at {w:World}{o p:Obj}:((w.alloc o).alloc p).heap[w.heap.size]?=some o:=alloc_old (alloc_new w o) p
theorem box_at1 {w:World}{o p:Obj}:((w.alloc o).alloc p).heap[w.heap.size+1]?=some p:=by have:=alloc_new (w.alloc o) p;simpa using this
def LL (w:World) (a:Option Addr) (ls:List (Int×List (Int×Int))):Prop :=
 ls=[]∨∃b off,a=some ⟨b,off,none⟩∧b<w.heap.size∧∀i n xs,ls[i]?=some (n,xs)→w.cell? ⟨b,off+i*2,none⟩=some (.int .i64 n)∧∃a' cap',w.cell? ⟨b,off+i*2+1,none⟩=some (.slice a' xs.length cap')∧SL w a' xs
theorem LL.below {w w':World}{a:Option Addr}{ls:List (Int×List (Int×Int))}(h:LL w a ls) (hb:RowKit.Below w.heap.size w w'):LL w' a ls:=by
 rcases h with h | ⟨b,off,ha,hlt,hc⟩
 ·exact Or.inl h
 ·refine Or.inr ⟨b,off,ha,Nat.lt_of_lt_of_le hlt hb.size,fun i n xs hi=>?_⟩
  obtain ⟨c0,a',cap',c1,hs⟩:=hc i n xs hi
  exact ⟨(hb.cell (p:=⟨b,off+i*2,none⟩) hlt).trans c0,a',cap',(hb.cell (p:=⟨b,off+i*2+1,none⟩) hlt).trans c1,hs.below hb⟩
theorem LL.at {w:World}{a:Option Addr}{ls:List (Int×List (Int×Int))}(h:LL w a ls) {k:Nat}(hk:k<ls.length) :
  ∃b off n xs a' cap',a=some ⟨b,off,none⟩∧b<w.heap.size∧w.cell? ⟨b,off+k*2,none⟩=some (.int .i64 n)∧w.cell? ⟨b,off+k*2+1,none⟩=some (.slice a' xs.length cap')∧SL w a' xs∧Hid (ls[k]?=some (n,xs)):=by
 rcases h with h | ⟨b,off,ha,hlt,hc⟩
 ·subst h;simp at hk
 ·have hx:ls[k]?=some (ls[k].1,ls[k].2):=by simp [hk]
  obtain ⟨c0,a',cap',c1,hs⟩:=hc k _ _ hx
  exact ⟨b,off,_,_,a',cap',ha,hlt,c0,c1,hs,hx⟩
theorem take_any {α:Type}{p:α→Bool}{xs:List α}{k:Nat}{z:α}(h:xs[k]?=some z):(xs.take (k+1)).any p=((xs.take k).any p||p z):=by
 obtain ⟨hk,rfl⟩:=List.getElem?_eq_some_iff.1 h
 rw [List.take_succ_eq_append_getElem hk,List.any_append];simp
theorem any_yes {α:Type}{p:α→Bool}{xs:List α}{k:Nat}{z:α}(h:xs[k]?=some z) (h0:p z=true):xs.any p=true:=by
 obtain ⟨hk,rfl⟩:=List.getElem?_eq_some_iff.1 h
 rw [List.any_eq_true];exact ⟨xs[k],List.getElem_mem hk,h0⟩
abbrev LvT:=Int×List (Int×Int)
inductive Tm where
 | mk (form n:Int) (hid:Bool) (name:ByteArray) (ls:List LvT) (ks:List Tm)
def LN (w:World) (a:Option Addr) (ls:List LvT):Prop :=
 ls=[]∨∃b off,a=some ⟨b,off,none⟩∧b<w.heap.size∧∀i n xs,ls[i]?=some (n,xs)→w.cell? ⟨b,off+i*2,none⟩=some (.int .i64 n)∧∃a' cap',w.cell? ⟨b,off+i*2+1,none⟩=some (.slice a' xs.length cap')∧SL w a' xs∧(a'=none→cap'=0)
theorem LN.toLL {w:World}{a:Option Addr}{ls:List LvT}(h:LN w a ls):LL w a ls:=by
 rcases h with h | ⟨b,off,ha,hlt,hc⟩
 ·exact Or.inl h
 ·refine Or.inr ⟨b,off,ha,hlt,fun i n xs hi=>?_⟩
  obtain ⟨c0,a',cap',c1,hs,-⟩:=hc i n xs hi
  exact ⟨c0,a',cap',c1,hs⟩
theorem LN.below {w w':World}{a:Option Addr}{ls:List LvT}(h:LN w a ls) (hb:RowKit.Below w.heap.size w w'):LN w' a ls:=by
 rcases h with h | ⟨b,off,ha,hlt,hc⟩
 ·exact Or.inl h
 ·refine Or.inr ⟨b,off,ha,Nat.lt_of_lt_of_le hlt hb.size,fun i n xs hi=>?_⟩
  obtain ⟨c0,a',cap',c1,hs,hn⟩:=hc i n xs hi
  exact ⟨(hb.cell (p:=⟨b,off+i*2,none⟩) hlt).trans c0,a',cap',(hb.cell (p:=⟨b,off+i*2+1,none⟩) hlt).trans c1,hs.below hb,hn⟩
inductive TC (w:World):Nat→Nat→Tm→Prop where
 | mk {b o:Nat} {f n:Int} {h:Bool} {nm:ByteArray} {ls:List LvT} {ks:List Tm} {la:Option Addr} {lc:Nat} {ka:Option Addr} {kc kb ko:Nat}
  (c0:w.cell? ⟨b,o,none⟩=some (.int .i64 f)) (c1:w.cell? ⟨b,o+1,none⟩=some (.int .i64 n)) (c2:w.cell? ⟨b,o+2,none⟩=some (.bool h)) (c3:w.cell? ⟨b,o+3,none⟩=some (.string nm)) (c4:w.cell? ⟨b,o+4,none⟩=some (.slice la ls.length lc)) (c5:w.cell? ⟨b,o+5,none⟩=some (.slice ka ks.length kc))
  (hl:LN w la ls) (hln:la=none→lc=0) (hlc:ls.length≤lc) (hlm:lc≤9223372036854775807) (hkn:ka=none→kc=0) (hkc:ks.length≤kc) (hkm:kc≤9223372036854775807) (hk:ks≠[]→ka=some ⟨kb,ko,none⟩∧kb<w.heap.size) (kids:∀i t,ks[i]?=some t→TC w kb (ko+i*6) t):TC w b o (.mk f n h nm ls ks)
inductive TV (w:World):Value→Tm→Prop where
 | mk {f n:Int} {h:Bool} {nm:ByteArray} {ls:List LvT} {ks:List Tm} {la:Option Addr} {lc:Nat} {ka:Option Addr} {kc kb ko:Nat}
  (hl:LN w la ls) (hln:la=none→lc=0) (hlc:ls.length≤lc) (hlm:lc≤9223372036854775807) (hkn:ka=none→kc=0) (hkc:ks.length≤kc) (hkm:kc≤9223372036854775807) (hk:ks≠[]→ka=some ⟨kb,ko,none⟩∧kb<w.heap.size) (kids:∀i t,ks[i]?=some t→TC w kb (ko+i*6) t):TV w (.agg #[.int .i64 f,.int .i64 n,.bool h,.string nm,.slice la ls.length lc,.slice ka ks.length kc]) (.mk f n h nm ls ks)
theorem TC.lt {w:World}{b o:Nat}{t:Tm}(h:TC w b o t):b<w.heap.size:=by
 cases h with
 | mk c0=>exact World.block_lt_of_cell? w _ c0
theorem TC.on {w w':World}{b o:Nat}{t:Tm}(h:TC w b o t) (hb:RowKit.Below w.heap.size w w'):TC w' b o t:=by
 induction h with
 | @mk b o f n h nm ls ks la lc ka kc kb ko c0 c1 c2 c3 c4 c5 hl hln hlc hlm hkn hkc hkm hk kids ih =>
  have hlt:b<w.heap.size:=World.block_lt_of_cell? w _ c0
  refine TC.mk (kb:=kb) (ko:=ko) ((hb.cell (p:=⟨b,o,none⟩) hlt).trans c0) ((hb.cell (p:=⟨b,o+1,none⟩) hlt).trans c1) ((hb.cell (p:=⟨b,o+2,none⟩) hlt).trans c2) ((hb.cell (p:=⟨b,o+3,none⟩) hlt).trans c3) ((hb.cell (p:=⟨b,o+4,none⟩) hlt).trans c4) ((hb.cell (p:=⟨b,o+5,none⟩) hlt).trans c5) (hl.below hb) hln hlc hlm hkn hkc hkm (fun hne=>⟨(hk hne).1,Nat.lt_of_lt_of_le (hk hne).2 hb.size⟩) ih
theorem TV.on {w w':World}{v:Value}{t:Tm}(h:TV w v t) (hb:RowKit.Below w.heap.size w w'):TV w' v t:=by
 cases h with
 | mk hl hln hlc hlm hkn hkc hkm hk kids=>exact TV.mk (hl.below hb) hln hlc hlm hkn hkc hkm (fun hne=>⟨(hk hne).1,Nat.lt_of_lt_of_le (hk hne).2 hb.size⟩) (fun i t hi=>(kids i t hi).on hb)
theorem TC.val {w:World}{b o:Nat}{t:Tm}(h:TC w b o t):∃v0 v1 v2 v3 v4 v5,w.cell? ⟨b,o,none⟩=some v0∧w.cell? ⟨b,o+1,none⟩=some v1∧w.cell? ⟨b,o+2,none⟩=some v2∧w.cell? ⟨b,o+3,none⟩=some v3∧w.cell? ⟨b,o+4,none⟩=some v4∧w.cell? ⟨b,o+5,none⟩=some v5∧TV w (.agg #[v0,v1,v2,v3,v4,v5]) t:=by
 cases h with
 | mk c0 c1 c2 c3 c4 c5 hl hln hlc hlm hkn hkc hkm hk kids=>exact ⟨_,_,_,_,_,_,c0,c1,c2,c3,c4,c5,TV.mk hl hln hlc hlm hkn hkc hkm hk kids⟩
theorem TC.valE {w:World}{b o:Nat}{t:Tm}(h:TC w b o t):∃(v0 v1:Int) (v2:Bool) (v3:ByteArray) (l1:Option Addr) (l2 l3:Nat) (k1:Option Addr) (k2 k3:Nat),w.cell? ⟨b,o,none⟩=some (.int .i64 v0)∧w.cell? ⟨b,o+1,none⟩=some (.int .i64 v1)∧w.cell? ⟨b,o+2,none⟩=some (.bool v2)∧w.cell? ⟨b,o+3,none⟩=some (.string v3)∧w.cell? ⟨b,o+4,none⟩=some (.slice l1 l2 l3)∧w.cell? ⟨b,o+5,none⟩=some (.slice k1 k2 k3)∧TV w (.agg #[.int .i64 v0,.int .i64 v1,.bool v2,.string v3,.slice l1 l2 l3,.slice k1 k2 k3]) t:=by
 cases h with
 | mk c0 c1 c2 c3 c4 c5 hl hln hlc hlm hkn hkc hkm hk kids=>exact ⟨_,_,_,_,_,_,_,_,_,_,c0,c1,c2,c3,c4,c5,TV.mk hl hln hlc hlm hkn hkc hkm hk kids⟩
def Tm.form:Tm→Int | .mk f _ _ _ _ _=>f
def Tm.kids:Tm→List Tm | .mk _ _ _ _ _ ks=>ks
def Tm.n:Tm→Int | .mk _ n _ _ _ _=>n
def Tm.hid:Tm→Bool | .mk _ _ h _ _ _=>h
def Tm.name:Tm→ByteArray | .mk _ _ _ nm _ _=>nm
def Tm.levels:Tm→List LvT | .mk _ _ _ _ ls _=>ls
theorem Tm.ind {P:Tm→Prop}(h:∀f n hd nm ls ks,(∀k∈ks,P k)→P (.mk f n hd nm ls ks)) (t:Tm):P t :=
 Tm.rec (motive_1:=P) (motive_2:=fun ks=>∀k∈ks,P k) (fun f n hd nm ls ks ih=>h f n hd nm ls ks ih) (by simp) (fun k ks h1 h2=>by
  intro x hx
  rcases List.mem_cons.1 hx with rfl | hx
  ·exact h1
  ·exact h2 x hx) t
theorem cells6 {w:World}{b:Nat}{v0 v1 v2 v3 v4 v5:Value}{t:TypeId}(h:w.heap[b]?=some (.cells #[v0,v1,v2,v3,v4,v5] t (0,0))) :
  w.cell? ⟨b,0,none⟩=some v0∧w.cell? ⟨b,1,none⟩=some v1∧w.cell? ⟨b,2,none⟩=some v2∧w.cell? ⟨b,3,none⟩=some v3∧w.cell? ⟨b,4,none⟩=some v4∧w.cell? ⟨b,5,none⟩=some v5∧b<w.heap.size :=
 ⟨by rw [cell_of_row _ b 0 _ _ _ h];rfl,by rw [cell_of_row _ b 1 _ _ _ h];rfl,by rw [cell_of_row _ b 2 _ _ _ h];rfl,by rw [cell_of_row _ b 3 _ _ _ h];rfl,by rw [cell_of_row _ b 4 _ _ _ h];rfl,by rw [cell_of_row _ b 5 _ _ _ h];rfl,(Array.getElem?_eq_some_iff.1 h).1⟩
def sizeT:Tm→Nat
 | .mk _ _ _ _ _ ks=>1+(ks.attach.map fun k=>sizeT k.1).sum
termination_by t=>SizeOf.sizeOf t
decreasing_by
 have:=List.sizeOf_lt_of_mem k.2
 simp only [Tm.mk.sizeOf_spec];omega
def heightT:Tm→Nat
 | .mk _ _ _ _ _ ks=>1+(ks.attach.map fun k=>heightT k.1).foldl max 0
termination_by t=>SizeOf.sizeOf t
decreasing_by
 have:=List.sizeOf_lt_of_mem k.2
 simp only [Tm.mk.sizeOf_spec];omega
theorem sizeT_mk (f n:Int) (hd:Bool) (nm:ByteArray) (ls:List LvT) (ks:List Tm):sizeT (.mk f n hd nm ls ks)=1+(ks.map sizeT).sum:=by
 rw [sizeT,List.attach_map_val (f:=sizeT)]
theorem heightT_mk (f n:Int) (hd:Bool) (nm:ByteArray) (ls:List LvT) (ks:List Tm):heightT (.mk f n hd nm ls ks)=1+(ks.map heightT).foldl max 0:=by
 rw [heightT,List.attach_map_val (f:=heightT)]
theorem take_sum {ks:List Tm}{j:Nat}{k:Tm}(h:ks[j]?=some k):((ks.take (j+1)).map sizeT).sum=((ks.take j).map sizeT).sum+sizeT k:=by
 obtain ⟨hj,rfl⟩:=List.getElem?_eq_some_iff.1 h
 rw [List.take_succ_eq_append_getElem hj,List.map_append,List.sum_append];simp
theorem take_high {ks:List Tm}{j:Nat}{k:Tm}(h:ks[j]?=some k):((ks.take (j+1)).map heightT).foldl max 0=max (((ks.take j).map heightT).foldl max 0) (heightT k):=by
 obtain ⟨hj,rfl⟩:=List.getElem?_eq_some_iff.1 h
 rw [List.take_succ_eq_append_getElem hj,List.map_append,List.foldl_append];simp
theorem sum_take_le (ks:List Tm) (j:Nat):((ks.take j).map sizeT).sum≤(ks.map sizeT).sum:=by
 conv=>rhs;rw [←List.take_append_drop j ks]
 rw [List.map_append,List.sum_append];omega
theorem foldl_max_ge (l:List Nat) (m:Nat):m≤l.foldl max m:=by
 induction l generalizing m with
 | nil=>exact Nat.le_refl _
 | cons a r ih=>exact Nat.le_trans (Nat.le_max_left m a) (ih (max m a))
theorem high_take_le (ks:List Tm) (j:Nat):((ks.take j).map heightT).foldl max 0≤(ks.map heightT).foldl max 0:=by
 conv=>rhs;rw [←List.take_append_drop j ks]
 rw [List.map_append,List.foldl_append]
 exact foldl_max_ge _ _
def partsR (t:Tm) (left high:Int):Int×Int:=if (sizeT t:Int)≤left∧(heightT t:Int)≤high then (sizeT t,heightT t) else (1073741824,1073741824)
theorem parts_any (t:Tm):∀(left high:Int) (v:Value) (w:World),left≤20000→high≤500→TV w v t→Calls Tryz.prog 75 #[v,.int .i64 left,.int .i64 high] w fun e w'=>e=.returned (.tuple #[.int .i64 (partsR t left high).1,.int .i64 (partsR t left high).2])∧Grew w w':=by
 refine Tm.ind (P:=fun t=>∀(left high:Int) (v:Value) (w:World),left≤20000→high≤500→TV w v t→Calls Tryz.prog 75 #[v,.int .i64 left,.int .i64 high] w fun e w'=>e=.returned (.tuple #[.int .i64 (partsR t left high).1,.int .i64 (partsR t left high).2])∧Grew w w') ?_ t
 intro f n hd nm ls ks ih left high v w hle hhi hv
 cases hv with
 | @mk _ _ _ _ _ _ la lc ka kc kb ko hl hln hlc hlm hkn hkc hkm hk kids =>
  have HS:Hid (sizeT (.mk f n hd nm ls ks)=1+(ks.map sizeT).sum):=sizeT_mk f n hd nm ls ks
  have HH:Hid (heightT (.mk f n hd nm ls ks)=1+(ks.map heightT).foldl max 0):=heightT_mk f n hd nm ls ks
  have HP:Hid (partsR (.mk f n hd nm ls ks) left high=if (((1+(ks.map sizeT).sum:Nat):Int)≤left∧((1+(ks.map heightT).foldl max 0:Nat):Int)≤high) then ((((1+(ks.map sizeT).sum:Nat):Int),((1+(ks.map heightT).foldl max 0:Nat):Int)):Int×Int) else (1073741824,1073741824)):=by
   unfold Hid partsR;rw [HS.out,HH.out]
  generalize partsR (.mk f n hd nm ls ks) left high=R at HP ⊢
  have HK:=Hid.mk hk
  have HKIDS:=Hid.mk kids
  have HIH:=Hid.mk ih
  clear hk kids ih hl HS HH
  obtain ⟨W0,hW0⟩:∃W0,w.alloc (.cells #[.int .i64 f,.int .i64 n,.bool hd,.string nm,.slice la ls.length lc,.slice ka ks.length kc] 36)=W0:=⟨_,rfl⟩
  have HG0:Hid (Grew w W0):=by unfold Hid;rw [←hW0];exact (Grew.refl w).alloc _
  have HX0:Hid (W0.heap[w.heap.size]?=some (.cells #[.int .i64 f,.int .i64 n,.bool hd,.string nm,.slice la ls.length lc,.slice ka ks.length kc] 36 (0,0))):=by unfold Hid;rw [←hW0];exact alloc_new _ _
  have HW0:=Hid.mk hW0
  clear hW0
  rcases (show left<1∨(1≤left∧high<1)∨(1≤left∧1≤high) by omega) with h1 | ⟨h1,h2⟩ | ⟨h1,h2⟩
  ·have HR:Hid (R=(1073741824,1073741824)):=by unfold Hid;rw [HP.out,if_neg (by omega)]
   clear HP
   go_enter Tryz.func75,Tryz.ntmps75
   go_wp2
   go_ret2
   exact ⟨by rw [HR.out];rfl,by have:=HG0.out;rwa [←HW0.out] at this⟩
  ·have HR:Hid (R=(1073741824,1073741824)):=by unfold Hid;rw [HP.out,if_neg (by omega)]
   clear HP
   go_enter Tryz.func75,Tryz.ntmps75
   go_wp2
   go_ret2
   exact ⟨by rw [HR.out];rfl,by have:=HG0.out;rwa [←HW0.out] at this⟩
  ·go_enter Tryz.func75,Tryz.ntmps75
   go_wp2
   rw [HW0.out]
   go_loopw [8,9,10] (fun vn vh i wr=>∃j:Nat,j≤ks.length∧i=.int .i64 j∧vn=.int .i64 ((1+((ks.take j).map sizeT).sum:Nat):Int)∧vh=.int .i64 ((((ks.take j).map heightT).foldl max 0:Nat):Int)∧((1+((ks.take j).map sizeT).sum:Nat):Int)≤left∧((((ks.take j).map heightT).foldl max 0:Nat):Int)<high∧Grew W0 wr) (fun _ _ i _=>ks.length - (intOf i).toNat)
   case atStart=>exact ⟨0,Nat.zero_le _,rfl,rfl,rfl,by simpa using h1,by simp;omega,Grew.refl _⟩
   case round =>
    obtain ⟨j,hj,rfl,rfl,rfl,hn1,hh1,hg⟩:=hrel
    have HG:=Hid.mk hg
    clear hg
    obtain ⟨x0,x1,x2,x3,x4,x5,x6⟩:=cells6 ((HG.out.below.block w.heap.size (Array.getElem?_eq_some_iff.1 HX0.out).1).trans HX0.out)
    by_cases hlt:j<ks.length
    ·obtain ⟨rfl,hkb⟩:=HK.out (by intro e;rw [e] at hlt;simp at hlt)
     have hkt:ks[j]?=some ks[j]:=by simp [hlt]
     have htc:=((HKIDS.out j _ hkt).on (HG0.out.trans HG.out).below)
     obtain ⟨v0,v1,v2,v3,v4,v5,c0,c1,c2,c3,c4,c5,hv⟩:=htc.val
     have HTS:=Hid.mk (take_sum hkt)
     have HTH:=Hid.mk (take_high hkt)
     have HLS:=Hid.mk (sum_take_le ks (j+1))
     have HLH:=Hid.mk (high_take_le ks (j+1))
     obtain ⟨s,hs⟩:∃s,((ks.take j).map sizeT).sum=s:=⟨_,rfl⟩
     obtain ⟨m,hm⟩:∃m,((ks.take j).map heightT).foldl max 0=m:=⟨_,rfl⟩
     rw [hs] at hn1 HTS ⊢
     rw [hm] at hh1 HTH ⊢
     clear hs hm
     have HCALL:=HIH.out ks[j] (List.getElem_mem hlt) (left - ((1+s:Nat):Int)) (high - 1) _ wr (by omega) (by omega) hv
     have zj:(j:Int)<(ks.length:Int):=by omega
     obtain ⟨k,hk⟩:∃k,ks[j]=k:=⟨_,rfl⟩
     rw [hk] at HTS HTH HCALL
     clear hk hkt htc hv
     have HPK:Hid (partsR k (left - ((1+s:Nat):Int)) (high - 1)=if (sizeT k:Int)≤left - ((1+s:Nat):Int)∧(heightT k:Int)≤high - 1 then ((sizeT k:Int),(heightT k:Int)) else (1073741824,1073741824)):=rfl
     generalize sizeT k=sk at *
     generalize heightT k=hk at *
     by_cases hc:(sk:Int)≤left - ((1+s:Nat):Int)∧(hk:Int)≤high - 1
     ·have e:=HPK.out
      rw [if_pos hc] at e
      rw [e] at HCALL
      obtain ⟨hc1,hc2⟩:=hc
      clear HPK e
      by_cases hmk:m<hk
      all_goals
       go_wp2_with fail
       refine HCALL.mono ?_
       rintro e w5 ⟨rfl,hg5⟩
       go_wp2
       refine ⟨⟨j+1,hlt,by go_num,?_,?_,?_,?_,HG.out.trans hg5⟩,by simp [intOf];omega⟩
       ·rw [HTS.out];exact congrArg (Value.int .i64) (by omega)
       ·rw [HTH.out];exact congrArg (Value.int .i64) (by omega)
       ·rw [HTS.out];omega
       ·rw [HTH.out];omega
     ·have e:=HPK.out
      rw [if_neg hc] at e
      rw [e] at HCALL
      have HR:Hid (R=(1073741824,1073741824)):=by
       unfold Hid
       have h1':=HTS.out
       have h2':=HTH.out
       have h3':=HLS.out
       have h4':=HLH.out
       rw [HP.out,if_neg (by omega)]
      clear HPK e hc
      obtain ⟨B,hB,hB0,hB1⟩:∃B:Int,(1073741824:Int)=B∧1000000≤B∧B≤2000000000:=⟨_,rfl,by decide,by decide⟩
      simp only [hB] at HCALL
      clear hB
      go_wp2_with fail
      refine HCALL.mono ?_
      rintro e w5 ⟨rfl,hg5⟩
      go_wp2
      go_ret2
      exact ⟨by rw [HR.out];rfl,(HG0.out.trans HG.out).trans hg5⟩
    ·have hjk:ks.take j=ks:=List.take_of_length_le (by omega)
     rw [hjk] at hn1 hh1 ⊢
     have HR:Hid (R=(((1+(ks.map sizeT).sum:Nat):Int),((1+(ks.map heightT).foldl max 0:Nat):Int))):=by
      unfold Hid
      rw [HP.out,if_pos ⟨hn1,by omega⟩]
     obtain ⟨s,hs⟩:∃s,(ks.map sizeT).sum=s:=⟨_,rfl⟩
     obtain ⟨m,hm⟩:∃m,(ks.map heightT).foldl max 0=m:=⟨_,rfl⟩
     rw [hs,hm] at HR
     rw [hs] at hn1 ⊢
     rw [hm] at hh1 ⊢
     clear hs hm hjk HP
     go_wp2
     go_ret2
     refine ⟨?_,HG0.out.trans HG.out⟩
     rw [HR.out]
     exact congrArg (fun z=>Ending.returned (Value.tuple #[.int .i64 ((1+s:Nat):Int),.int .i64 z])) (by omega)
def bindsB (f:Int):Bool:=f==3||f==4||f==6
theorem Binds_any (f:Int) (w:World):Calls Tryz.prog 78 #[.int .i64 f] w fun e w'=>e=.returned (.bool (bindsB f))∧w'=w:=by
 rcases (show f=3∨f=4∨f=6∨(f≠3∧f≠4∧f≠6) by omega) with h | h | h | ⟨h1,h2,h3⟩
 ·subst h
  go_enter Tryz.func78,Tryz.ntmps78
  go_wp2
  go_ret
  exact ⟨rfl,rfl⟩
 ·subst h
  go_enter Tryz.func78,Tryz.ntmps78
  go_wp2
  go_ret
  exact ⟨rfl,rfl⟩
 ·subst h
  go_enter Tryz.func78,Tryz.ntmps78
  go_wp2
  go_ret
  exact ⟨rfl,rfl⟩
 ·have e1:(f==3)=false:=by simp [h1]
  have e2:(f==4)=false:=by simp [h2]
  have e3:(f==6)=false:=by simp [h3]
  have HE:Hid (bindsB f=false):=by unfold Hid bindsB;rw [e1,e2,e3];rfl
  clear h1 h2 h3
  go_enter Tryz.func78,Tryz.ntmps78
  go_wp2
  go_ret
  exact ⟨by rw [HE.out];rfl,rfl⟩
def kidsR (f:Int):Int:=if f=1∨f=2∨f=10∨f=11 then 0 else if f=8∨f=9 then 1 else if f=3∨f=4∨f=5∨f=6 then 2 else if f=7 then 3 else -1
theorem kids_any (f:Int) (w:World):Calls Tryz.prog 89 #[.int .i64 f] w fun e w'=>e=.returned (.int .i64 (kidsR f))∧w'=w:=by
 by_cases hin:1≤f∧f≤11
 ·obtain ⟨k,rfl⟩:=Int.eq_ofNat_of_zero_le (show 0≤f by omega)
  have hk:k=1∨k=2∨k=3∨k=4∨k=5∨k=6∨k=7∨k=8∨k=9∨k=10∨k=11:=by omega
  clear hin
  rcases hk with rfl | rfl | rfl | rfl | rfl | rfl | rfl | rfl | rfl | rfl | rfl
  all_goals
   go_enter Tryz.func89,Tryz.ntmps89
   go_wp2
   go_ret
   exact ⟨rfl,rfl⟩
 ·have HE:Hid (kidsR f=-1):=by unfold Hid kidsR;rw [if_neg (by omega),if_neg (by omega),if_neg (by omega),if_neg (by omega)]
  have e:∀k:Int,1≤k→k≤11→(f==k)=false:=fun k h1 h2=>by simp;omega
  have e1:=e 1 (by decide) (by decide)
  have e2:=e 2 (by decide) (by decide)
  have e3:=e 3 (by decide) (by decide)
  have e4:=e 4 (by decide) (by decide)
  have e5:=e 5 (by decide) (by decide)
  have e6:=e 6 (by decide) (by decide)
  have e7:=e 7 (by decide) (by decide)
  have e8:=e 8 (by decide) (by decide)
  have e9:=e 9 (by decide) (by decide)
  have e10:=e 10 (by decide) (by decide)
  have e11:=e 11 (by decide) (by decide)
  clear e hin
  go_enter Tryz.func89,Tryz.ntmps89
  go_wp2
  go_ret
  exact ⟨by rw [HE.out];rfl,rfl⟩
end Go.Proofs.YtgfgpjcnfnopnaaGreat
