/- An executor for closed calls, 30: a drawn region whose last three operations are a look and two writes that do not wait for one another. -/
import Derived.Test.YtphfjjopeghhnaaGreatXZB
namespace Go.Proofs.YtphfjjopeghhnaaGreat.X
open Go.RowKit
section
variable {P:Program} {w0:World} {ops:Array Oper} {n0:Nat} {F:Fence} {n:Nat}
structure TailOk (ops:Array Oper) (n0:Nat):Prop where
 size:ops.size=n0+3
 pre:∀ i o,i<n0→ops[i]?=some o→(∀ e ∈ o.after,Region.binds .any e=true→e.on<i)∧∀ j b,o.guard=some (j,b)→j<n0
 all:∀ i o,n0≤i→ops[i]?=some o→∀ j,j<n0→∃ e ∈ o.after,Region.binds .any e=true∧e.on=j
 q:∀ o,ops[n0]?=some o→∀ e ∈ o.after,Region.binds .any e=true→e.on<n0
 s1:∀ o,ops[n0+1]?=some o→(∀ e ∈ o.after,Region.binds .any e=true→e.on<n0+1)∧∃ e ∈ o.after,Region.binds .any e=true∧e.on=n0
 s2:∀ o,ops[n0+2]?=some o→∀ e ∈ o.after,Region.binds .any e=true→e.on<n0
theorem preB_spec {n0:Nat}:∀ {l:List Oper} {k:Nat},preB n0 l k=true→∀ i o,l[i]?=some o→(∀ e ∈ o.after,Region.binds .any e=true→e.on<k+i)∧∀ j b,o.guard=some (j,b)→j<n0
 | [],_,_,i,o,h=>by simp at h
 | x :: l,k,h,i,o,ho=>by
  simp only [preB,Bool.and_eq_true] at h
  obtain ⟨⟨h1,h2⟩,h3⟩:=h
  cases i with
  | zero =>
   simp only [List.getElem?_cons_zero,Option.some.injEq] at ho
   subst ho
   refine ⟨fun e he hb=>?_,fun j b hg=>?_⟩
   ·have:=List.all_eq_true.1 h1 e (by simpa using he)
    simp only [hb,Bool.not_true,Bool.false_or] at this
    simpa using this
   ·rw [hg] at h2
    simpa using h2
  | succ i =>
   have:=preB_spec h3 i o (by simpa using ho)
   exact ⟨fun e he hb=>by have:=this.1 e he hb; omega,this.2⟩
theorem allB_spec {o:Oper}:∀ {n:Nat},allB n o=true→∀ j,j<n→∃ e ∈ o.after,Region.binds .any e=true∧e.on=j
 | 0,_,j,hj=>by omega
 | n+1,h,j,hj=>by
  have h:((o.after.toList.any fun e=>Region.binds .any e&&Nat.beq e.on n)&&allB n o)=true:=h
  simp only [Bool.and_eq_true] at h
  rcases Nat.lt_succ_iff_lt_or_eq.1 hj with h1 | rfl
  ·exact allB_spec h.2 j h1
  ·obtain ⟨e,he,hb⟩:=List.any_eq_true.1 h.1
   simp only [Bool.and_eq_true] at hb
   exact ⟨e,by simpa using he,hb.1,Nat.eq_of_beq_eq_true hb.2⟩
theorem ltB_spec {o:Oper} {n:Nat} (h:ltB n o=true):∀ e ∈ o.after,Region.binds .any e=true→e.on<n:=fun e he hb=>by
 have:=List.all_eq_true.1 h e (by simpa using he)
 simp only [hb,Bool.not_true,Bool.false_or] at this
 simpa using this
theorem hitB_spec {o:Oper} {n:Nat} (h:hitB n o=true):∃ e ∈ o.after,Region.binds .any e=true∧e.on=n:=by
 obtain ⟨e,he,hb⟩:=List.any_eq_true.1 h
 simp only [Bool.and_eq_true] at hb
 exact ⟨e,by simpa using he,hb.1,Nat.eq_of_beq_eq_true hb.2⟩
theorem tailB_spec (h:tailB ops n0=true):TailOk ops n0:=by
 simp only [tailB,Bool.and_eq_true] at h
 obtain ⟨⟨h1,h2⟩,h3⟩:=h
 have h1:=Nat.eq_of_beq_eq_true h1
 split at h3
 ·rename_i q s1 s2 e1 e2 e3
  simp only [Bool.and_eq_true] at h3
  obtain ⟨⟨⟨⟨⟨⟨g1,g2⟩,g3⟩,g4⟩,g5⟩,g6⟩,g7⟩:=h3
  refine ⟨h1,fun i o hi ho=>?_,fun i o hi ho j hj=>?_,fun o ho=>?_,fun o ho=>?_,fun o ho=>?_⟩
  ·have:=preB_spec h2 i o (by rw [List.getElem?_take_of_lt hi]; simpa using ho)
   simpa using this
  ·have hlt:i<ops.size:=(Array.getElem?_eq_some_iff.1 ho).1
   have:i=n0∨i=n0+1∨i=n0+2:=by omega
   rcases this with rfl | rfl | rfl
   ·rw [e1] at ho; cases ho; exact allB_spec g1 j hj
   ·rw [e2] at ho; cases ho; exact allB_spec g2 j hj
   ·rw [e3] at ho; cases ho; exact allB_spec g3 j hj
  ·rw [e1] at ho; cases ho; exact ltB_spec g4
  ·rw [e2] at ho; cases ho; exact ⟨ltB_spec g5,hitB_spec g6⟩
  ·rw [e3] at ho; cases ho; exact ltB_spec g7
 ·cases h3
def Qx (X:Act→World→Prop) (Q:Exit→Act→World→Prop):Exit→Act→World→Prop
 | .normal,a,w=>X a w
 | e,a,w=>Q e a w
theorem least {p:Nat→Prop}:∀ n,p n→∃ i,p i∧∀ j,j<i→¬ p j:=by
 intro n
 induction n using Nat.strongRecOn with
 | ind n ih =>
  intro h
  by_cases hj:∃ j,j<n∧p j
  ·obtain ⟨j,h1,h2⟩:=hj; exact ih j h1 h2
  ·exact ⟨n,h,fun j h1 h2=>hj ⟨j,h1,h2⟩⟩
theorem ops1_get {i:Nat} (hi:i<n0):(ops1 ops n0)[i]?=ops[i]?:=by
 simp [ops1,List.getElem?_take_of_lt hi]
theorem ops1_size (h:n0≤ops.size):(ops1 ops n0).size=n0:=by simp [ops1]; omega
theorem wpIn_turn {o:Oper} {a:Act} {w:World} {K K':Act→World→Prop} {X:Act→World→Prop} {Q:Exit→Act→World→Prop} (hK:∀ a w,K a w→K' a w) (h:o.wpIn F n P a w K (Qx X Q)):o.wpIn F n P a w K' Q:=by
 obtain ⟨h1,h2⟩:=h
 refine ⟨h1,?_⟩
 generalize (o.semAt F.round a.eval).run P w=res at *
 cases res with
 | ok x w' =>
  cases x with
  | value v=>exact hK _ _ h2
  | skip=>exact hK _ _ h2
  | defer d=>exact hK _ _ h2
  | enter f args=>exact ⟨h2.1,h2.2.mono fun e w'' he=>by cases e <;> first | exact hK _ _ he | exact he⟩
  | row x args=>exact ⟨h2.1,h2.2.mono fun v w'' he=>hK _ _ he⟩
  | round l f t x y=>exact ⟨h2.1,h2.2.mono fun e w'' he=>by cases e <;> first | exact hK _ _ he | exact he⟩
  | _=>exact h2
 | halt x w'=>cases x <;> exact h2
theorem wpOp_turn (T:TailOk ops n0) {i:Nat} (hi:i<n0) {a:Act} {w:World} {K K':Act→World→Prop} {X:Act→World→Prop} {Q:Exit→Act→World→Prop} (hK:∀ a w,K a w→K' a w) (h:wpOpIn F n P (ops1 ops n0) (Qx X Q) i K a w):wpOpIn F n P ops Q i K' a w:=by
 unfold wpOpIn at h ⊢
 rw [ops1_get hi] at h
 cases ho:ops[i]? with
 | none=>rw [ho] at h; exact hK _ _ h
 | some o =>
  rw [ho] at h
  simp only at h ⊢
  have hw:Region.wanted o (yielded (ops1 ops n0) a.tmps)=Region.wanted o (yielded ops a.tmps):=by
   unfold Region.wanted
   cases hg:o.guard with
   | none=>rfl
   | some jb =>
    obtain ⟨j,b⟩:=jb
    have hj:=(T.pre i o hi ho).2 j b hg
    simp only [yielded,ops1_get hj]
  rw [hw] at h
  split
  ·rename_i hh; rw [if_pos hh] at h; exact wpIn_turn hK h
  ·rename_i hh; rw [if_neg hh] at h; exact ⟨h.1,hK _ _ h.2⟩
theorem getD_app {l1 l2:Array Bool} {i:Nat} {d:Bool}:(l1 ++ l2).getD i d=if i<l1.size then l1.getD i d else l2.getD (i - l1.size) d:=by
 simp only [Array.getD_eq_getD_getElem?,Array.getElem?_append]
 split <;> rfl
theorem any_split (T:TailOk ops n0) {Q:Exit→Act→World→Prop}:∀ (fuel:Nat) (l1:Array Bool) (a:Act) (w:World),l1.size=n0→fuel=(l1.toList.filter (!·)).length →
  wpAnyIn F n P .any (ops1 ops n0) (Qx (wpAnyIn F n P .any ops Q 3 (Array.replicate n0 true ++ #[false,false,false])) Q) fuel l1 a w→wpAnyIn F n P .any ops Q (fuel+3) (l1 ++ #[false,false,false]) a w
 | 0,l1,a,w,hs,hf,h=>by
  have hall:∀ b ∈ l1.toList,b=true:=fun b hb=>by
   cases b with
   | true=>rfl
   | false =>
    have:false ∈ l1.toList.filter (!·):=List.mem_filter.2 ⟨hb,rfl⟩
    rw [List.length_eq_zero_iff.1 hf.symm] at this
    cases this
  have:l1=Array.replicate n0 true:=by
   apply Array.ext'
   rw [List.eq_replicate_of_mem hall]
   simp [hs]
  rw [this,Nat.zero_add]
  exact h.2
 | fuel+1,l1,a,w,hs,hf,h=>by
  rw [show fuel+1+3=(fuel+3)+1 by omega]
  obtain ⟨b,hb⟩:∃ i,i<n0∧l1.getD i true=false:=by
   have:0<(l1.toList.filter (!·)).length:=by omega
   obtain ⟨x,hx⟩:=List.exists_mem_of_length_pos this
   obtain ⟨hx,hn⟩:=List.mem_filter.1 hx
   have hx:x=false:=by simpa using hn
   subst hx
   obtain ⟨i,hi,e⟩:=List.mem_iff_getElem.1 (List.mem_filter.1 (by assumption)).1
   exact ⟨i,by simpa [hs] using hi,by simp at hi; simp [hi]; simpa using e⟩
  obtain ⟨b,⟨hb1,hb2⟩,hmin⟩:=least (p:=fun i=>i<n0∧l1.getD i true=false) b hb
  have hsz:=T.size
  have hbo:b<ops.size:=by omega
  have hfull:∀ j,j<b→l1.getD j false=true:=fun j hj=>getD_or (by omega) fun e=>hmin j hj ⟨by omega,e⟩
  have hrb:b ∈ Region.ready .any ops (l1 ++ #[false,false,false]):=by
   refine mem_ready.2 ⟨by rw [getD_app,if_pos (by omega)]; exact hb2,ops[b],by simp [hbo],fun e he hbd=>?_⟩
   have:=(T.pre b ops[b] hb1 (by simp [hbo])).1 e he hbd
   rw [getD_app,if_pos (by omega)]
   exact hfull _ this
  refine ⟨fun e=>(by rw [e] at hrb; cases hrb),fun i hi=>?_⟩
  obtain ⟨h1,o,ho,hall⟩:=mem_ready.1 hi
  have hin:i<n0:=by
   rcases Nat.lt_or_ge i n0 with h2 | h2
   ·exact h2
   ·exfalso
    obtain ⟨e,he,hbd,hon⟩:=T.all i o h2 ho b hb1
    have:=hall e he hbd
    rw [hon,getD_app,if_pos (by omega)] at this
    exact getD_ne hb2 this
  rw [getD_app,if_pos (by omega)] at h1
  have hr1:i ∈ Region.ready .any (ops1 ops n0) l1:=by
   refine mem_ready.2 ⟨h1,o,by rw [ops1_get hin]; exact ho,fun e he hbd=>?_⟩
   have:=hall e he hbd
   have hlt:=(T.pre i o hin ho).1 e he hbd
   rw [getD_app,if_pos (by omega)] at this
   exact this
  refine wpOp_turn T hin (fun a' w' hk=>?_) (h.2 i hr1)
  have hset:(l1 ++ #[false,false,false]).setIfInBounds i true=l1.setIfInBounds i true ++ #[false,false,false]:=by
   apply Array.ext'
   simp [hs,hin]
  rw [hset]
  refine any_split T fuel (l1.setIfInBounds i true) a' w' (by simpa using hs) ?_ hk
  have hil:i<l1.size:=by omega
  have hx:l1.toList[i]?=some false:=by
   simp [hil] at h1 ⊢; exact h1
  have key:∀ (l:List Bool) (i:Nat),l[i]?=some false→(l.filter (!·)).length=((l.set i true).filter (!·)).length+1:=by
   intro l
   induction l with
   | nil=>intro i h; simp at h
   | cons x l ih =>
    intro i h
    cases i with
    | zero=>simp at h; subst h; simp
    | succ i=>simp only [List.getElem?_cons_succ] at h; have:=ih i h; cases x <;> simp [this]
  have:=key _ _ hx
  simp only [Array.toList_setIfInBounds]
  omega
end
end Go.Proofs.YtphfjjopeghhnaaGreat.X
