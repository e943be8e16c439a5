/- An executor for closed calls, 27: the script that is made is a plan. -/
import Derived.Test.YtidggaoacldgkaaGreatDoorXZ
namespace Go.Proofs.YtidggaoacldgkaaGreatDoor.X
open Go.RowKit
theorem inP_false {p:Sl}:∀ {l:List Sl},inP p l=false→p ∉ l
 | [],_=>by simp
 | q :: l,h=>by
  simp only [inP,Bool.or_eq_false_iff] at h
  simp only [List.mem_cons,not_or]
  exact ⟨fun e=>(by rw [e,eqS_refl] at h; cases h.1),inP_false h.2⟩
theorem inD_false {d:Option Sl} {l:List Sl} (h:inD d l=false):∀ p,d=some p→p ∉ l:=fun p hp=>by
 subst hp; exact inP_false h
theorem sameD_false {d d':Option Sl} (h:sameD d d'=false):∀ p,d=some p→d'≠some p:=fun p hp hp'=>by
 subst hp; subst hp'
 simp only [sameD,eqS_refl] at h; cases h
theorem hasI_true {i:Nat}:∀ {l:List It},hasI i l=true→∃ y ∈ l,y.i=i
 | [],h=>by cases h
 | y :: l,h=>by
  simp only [hasI,Bool.or_eq_true] at h
  rcases h with h | h
  ·exact ⟨y,List.mem_cons_self ..,Nat.eq_of_beq_eq_true h⟩
  ·obtain ⟨z,hz,e⟩:=hasI_true h
   exact ⟨z,List.mem_cons_of_mem _ hz,e⟩
theorem mask1_true {acc:List Nat} {j:Nat}:∀ {l:List Edge},(mask1 acc l).testBit j=true→∃ e ∈ l,Region.binds .any e=true∧(e.on=j∨(acc.getD e.on 0).testBit j=true)
 | [],h=>by simp [mask1] at h
 | e :: l,h=>by
  unfold mask1 at h
  cases hb:Region.binds .any e with
  | false =>
   rw [hb] at h
   obtain ⟨e',he,h'⟩:=mask1_true h
   exact ⟨e',List.mem_cons_of_mem _ he,h'⟩
  | true =>
   rw [hb] at h
   have h:((2 ^ e.on ||| acc.getD e.on 0) ||| mask1 acc l).testBit j=true:=h
   rw [Nat.testBit_or,Nat.testBit_or,Nat.testBit_two_pow] at h
   simp only [Bool.or_eq_true,decide_eq_true_eq] at h
   rcases h with (h | h) | h
   ·exact ⟨e,List.mem_cons_self ..,hb,.inl h⟩
   ·exact ⟨e,List.mem_cons_self ..,hb,.inr h⟩
   ·obtain ⟨e',he,h'⟩:=mask1_true h
    exact ⟨e',List.mem_cons_of_mem _ he,h'⟩
theorem masks_anc {ops:Array Oper}:∀ (l s:List Oper) (acc:List Nat),ops.toList=s ++ l→acc.length=s.length→(∀ i j,MB acc i j=true→Anc ops i j)→∀ i j,MB (masks l acc) i j=true→Anc ops i j
 | [],_,_,_,_,h=>h
 | o :: l,s,acc,hl,hs,h=>by
  refine masks_anc l (s ++ [o]) _ (by rw [hl]; simp) (by simp [hs]) fun i j hm=>?_
  unfold MB at hm
  rcases Nat.lt_trichotomy i acc.length with hi | hi | hi
  ·refine h i j ?_
   unfold MB
   rw [List.getD_eq_getElem?_getD,List.getElem?_append_left hi] at hm
   rw [List.getD_eq_getElem?_getD]; exact hm
  ·have:(acc ++ [mask1 acc o.after.toList]).getD i 0=mask1 acc o.after.toList:=by rw [hi,List.getD_eq_getElem?_getD]; simp
   rw [this] at hm
   obtain ⟨e,he,hb,h1⟩:=mask1_true hm
   have ho:ops[i]?=some o:=by
    rw [← Array.getElem?_toList,hl,hi,hs]; simp
   rcases h1 with h1 | h1
   ·refine ⟨1,?_⟩
    unfold anc
    rw [ho]
    simp only [List.any_eq_true,Bool.and_eq_true,Bool.or_eq_true]
    exact ⟨e,he,hb,.inl (by rw [h1]; exact Nat.beq_refl j)⟩
   ·obtain ⟨f,hf⟩:=h e.on j h1
    refine ⟨f+1,?_⟩
    unfold anc
    rw [ho]
    simp only [List.any_eq_true,Bool.and_eq_true,Bool.or_eq_true]
    exact ⟨e,he,hb,.inr hf⟩
  ·rw [List.getD_eq_getElem?_getD,List.getElem?_eq_none (by simp; omega)] at hm
   simp at hm
theorem mapO_get {α β:Type} {f:α→Option β}:∀ {l:List α} {r:List β},mapO f l=some r→∀ {j:Nat} {y:β},r[j]?=some y→∃ x,l[j]?=some x∧f x=some y
 | [],r,h,j,y,hj=>by cases h; simp at hj
 | x :: l,r,h,j,y,hj=>by
  obtain ⟨z,ys,h1,h2,rfl⟩:=mapO_cons h
  cases j with
  | zero=>simp only [List.getElem?_cons_zero] at hj; cases hj; exact ⟨x,rfl,h1⟩
  | succ j=>exact mapO_get h2 (by simpa using hj)
theorem mkAll_split {ms:List Nat} {xs:List AOper}:∀ {js:List Nat} {pre l:List It},mkAll ms xs js pre=some l→∃ t,l=pre ++ t∧∀ s it u,t=s ++ it :: u→∃ j,mkIt ms xs (pre ++ s) j=some it
 | [],pre,l,h=>by
  cases h
  exact ⟨[],by simp,fun s it u e=>by cases s <;> cases e⟩
 | j :: js,pre,l,h=>by
  unfold mkAll at h
  split at h
  ·rename_i it hit
   obtain ⟨t,h1,h2⟩:=mkAll_split h
   refine ⟨it :: t,by rw [h1]; simp,fun s x u e=>?_⟩
   cases s with
   | nil=>cases e; exact ⟨j,by simpa using hit⟩
   | cons z s =>
    cases e
    obtain ⟨j',h3⟩:=h2 s x u rfl
    exact ⟨j',by simpa using h3⟩
  ·cases h
theorem splits_of {f:List It→It→List It→Bool}:∀ {l pre:List It},splitsB f pre l=true→∀ s x t,l=s ++ x :: t→f (pre ++ s) x t=true
 | [],pre,_,s,x,t,e=>by cases s <;> cases e
 | y :: l,pre,h,s,x,t,e=>by
  simp only [splitsB,Bool.and_eq_true] at h
  cases s with
  | nil=>cases e; simpa using h.1
  | cons z s =>
   cases e
   have:=splits_of h.2 s x t rfl
   simpa using this
theorem coverB_true {l:List It}:∀ {n:Nat},coverB l n=true→∀ i,i<n→∃ y ∈ l,y.i=i
 | 0,_,i,hi=>by omega
 | n+1,h,i,hi=>by
  simp only [coverB,Bool.and_eq_true] at h
  by_cases e:i=n
  ·subst e; exact hasI_true h.1
  ·exact coverB_true h.2 i (by omega)
theorem mem_rcOf {ms:List Nat} {i:Nat} {pre:List It} {q:Sl × AOper} (h:q ∈ rcOf ms i pre):quietX q.2=true:=by
 unfold rcOf at h
 obtain ⟨it,-,h⟩:=List.mem_filterMap.1 h
 split at h
 ·split at h
  ·rename_i hb
   cases h
   simp only [Bool.and_eq_true] at hb
   exact hb.1.2
  ·cases h
 ·cases h
theorem rcOf_mem {ms:List Nat} {i:Nat} {pre:List It} {j:Nat} {p:Sl} {y:AOper} {bs:List Nat} (h:It.n j bs p y ∈ pre) (hh:heapX y=true) (hq:quietX y=true) (hm:MB ms i j=false):(p,y) ∈ rcOf ms i pre:=by
 unfold rcOf
 refine List.mem_filterMap.2 ⟨_,h,?_⟩
 simp [hh,hq,hm]
theorem mem_abOf {ms:List Nat} {i j:Nat} {pre:List It} (h:j ∈ abOf ms i pre):MB ms i j=true:=by
 unfold abOf at h
 obtain ⟨it,-,h⟩:=List.mem_filterMap.1 h
 split at h
 ·split at h
  ·rename_i hb; cases h; exact hb
  ·cases h
 ·cases h
theorem mem_abN {ms:List Nat} {i j:Nat} {op:AOp} {pre:List It} (h:j ∈ abN ms i op pre):MB ms i j=true:=by
 unfold abN at h
 split at h
 ·exact (List.mem_filter.1 h).2
 ·exact (List.mem_filter.1 h).2
 ·cases h
theorem mkIt_spec {ms:List Nat} {xs:List AOper} {pre:List It} {j:Nat} {it:It} (h:mkIt ms xs pre j=some it):∃ x,xs[j]?=some x∧it.i=j ∧
  ((it=.e j (abOf ms j pre) (rcOf ms j pre) x)∨(∃ op p,it=.n j (abN ms j op pre) p x∧x.dst=some p∧quietX x=true)∨∃ p op,it=.a j p op∧x=⟨some p,.v op,none⟩):=by
 unfold mkIt at h
 split at h
 ·cases h
 ·rename_i x hx
  refine ⟨x,hx,?_⟩
  split at h
  ·cases h; exact ⟨rfl,.inl rfl⟩
  ·split at h
   ·rename_i p op g _
    split at h
    ·rename_i hq _
     cases h
     exact ⟨rfl,.inr (.inl ⟨op,p,rfl,rfl,hq⟩)⟩
    ·cases h; exact ⟨rfl,.inr (.inr ⟨p,op,rfl,rfl⟩)⟩
    ·cases h
   ·cases h
theorem plan_ok {P:Program} {m:Nat} {ops:Array Oper} {l:List It} (h:plan P m ops=some l):Plan P m ops l:=by
 unfold plan at h
 split at h
 ·cases h
 ·rename_i xs hxs
  split at h
  ·cases h
  ·rename_i l' hl
   split at h
   ·rename_i hb
    cases h
    simp only [Bool.and_eq_true] at hb
    obtain ⟨⟨hb1,hb2⟩,hb3⟩:=hb
    have hM:∀ i j,MB (masks ops.toList []) i j=true→Anc ops i j:=masks_anc ops.toList [] [] rfl rfl fun i j hm=>by simp [MB] at hm
    obtain ⟨t,et,hmk⟩:=mkAll_split hl
    have et:l=t:=by simpa using et
    subst et
    have hS:=splits_of hb1
    have hS:∀ s x t,l=s ++ x :: t→planB ops (masks ops.toList []) s x t=true:=fun s x t e=>by simpa using hS s x t e
    have hmk:∀ s it u,l=s ++ it :: u→∃ j,mkIt (masks ops.toList []) xs s j=some it:=fun s it u e=>by simpa using hmk s it u e
    have hitem:∀ it ∈ l,ItOk P m ops it:=fun it hit=>by
     obtain ⟨s,u,e⟩:=List.append_of_mem hit
     obtain ⟨j,hj⟩:=hmk s it u e
     obtain ⟨x,hx,-,h1⟩:=mkIt_spec hj
     obtain ⟨o,ho,hc⟩:=mapO_get hxs hx
     rw [Array.getElem?_toList] at ho
     rcases h1 with rfl | ⟨_,p,rfl,hd,hq⟩ | ⟨p,op,rfl,rfl⟩
     ·exact ⟨o,ho,hc,fun q hq=>mem_rcOf hq⟩
     ·exact ⟨o,ho,hc,hd,hq⟩
     ·exact ⟨o,ho,hc⟩
    generalize hms:masks ops.toList []=ms at *
    have hB:∀ s x u,l=s ++ x :: u→(∃ o,ops[x.i]?=some o∧∀ e ∈ o.after,Region.binds .any e=true→∃ y ∈ s,y.i=e.on)∧(x.isE=true→∀ y ∈ u,Anc ops y.i x.i)∧(∀ y ∈ u,(∀ p,x.dst=some p→y.dst≠some p)∧x.i≠y.i)∧(x.isE=false→∀ p,x.dst=some p→p ∉ x.rd) ∧
      (∀ y ∈ s,y.isE=false→∀ p,y.dst=some p→p ∈ x.rd→Anc ops x.i y.i)∧(∀ y ∈ u,y.isE=false→∀ p,y.dst=some p→p ∉ x.rd)∧(x.isE=true→∀ y ∈ s,y.isE=false→∀ p,x.dst=some p→p ∈ y.rd→Anc ops x.i y.i)∧(x.isE=true→∀ y ∈ s,leanB ms x.i y=true):=fun s x u e=>by
     have hp:=hS s x u e
     unfold planB at hp
     simp only [Bool.and_eq_true] at hp
     obtain ⟨⟨⟨⟨⟨⟨⟨p1,p2⟩,p3⟩,p4⟩,p5⟩,p6⟩,p7⟩,p8⟩:=hp
     refine ⟨?_,fun hE y hy=>?_,fun y hy=>?_,fun hE=>?_,fun y hy hE p hd hr=>?_,fun y hy hE=>?_,fun hE y hy hE' p hd hr=>?_,fun hE y hy=>?_⟩
     ·split at p1
      ·rename_i o ho
       refine ⟨o,ho,fun d hd hb=>?_⟩
       have:=List.all_eq_true.1 p1 d (Array.mem_toList_iff.2 hd)
       rw [hb] at this
       exact hasI_true (by simpa using this)
      ·cases p1
     ·rw [hE] at p2
      exact hM _ _ (List.all_eq_true.1 (by simpa using p2) y hy)
     ·have:=List.all_eq_true.1 p3 y hy
      simp only [Bool.and_eq_true,Bool.not_eq_true'] at this
      exact ⟨sameD_false this.1,fun e=>by rw [e,Nat.beq_refl] at this; cases this.2⟩
     ·rw [hE] at p4
      exact inD_false (by simpa using p4)
     ·have:=List.all_eq_true.1 p5 y hy
      rw [hE] at this
      simp only [Bool.false_or,Bool.or_eq_true,Bool.not_eq_true'] at this
      rcases this with h1 | h1
      ·exact absurd hr (inD_false h1 p hd)
      ·exact hM _ _ h1
     ·have:=List.all_eq_true.1 p6 y hy
      rw [hE] at this
      exact inD_false (by simpa using this)
     ·rw [hE] at p7
      have:=List.all_eq_true.1 (show (s.all fun y=>y.isE||!inD x.dst y.rd||MB ms x.i y.i)=true by simpa using p7) y hy
      rw [hE'] at this
      simp only [Bool.false_or,Bool.or_eq_true,Bool.not_eq_true'] at this
      rcases this with h1 | h1
      ·exact absurd hr (inD_false h1 p hd)
      ·exact hM _ _ h1
     ·rw [hE] at p8
      exact List.all_eq_true.1 (by simpa using p8) y hy
    have hnd:∀ (k:List It) (s:List It),l=s ++ k→(k.map It.i).Nodup:=fun k=>by
     induction k with
     | nil=>intro s _; simp
     | cons x k ih =>
      intro s e
      simp only [List.map_cons,List.nodup_cons,List.mem_map,not_exists,not_and]
      exact ⟨fun y hy e'=>((hB s x k e).2.2.1 y hy).2 e'.symm,ih (s ++ [x]) (by rw [e]; simp)⟩
    have hpos:∀ x ∈ l,∀ y ∈ l,x.i≠y.i→∃ s u,l=s ++ x :: u∧(y ∈ s∨y ∈ u):=fun x hx y hy hne=>by
     obtain ⟨s,u,e⟩:=List.append_of_mem hx
     refine ⟨s,u,e,?_⟩
     rw [e] at hy
     rcases List.mem_append.1 hy with h1 | h1
     ·exact .inl h1
     ·rcases List.mem_cons.1 h1 with rfl | h1
      ·exact absurd rfl hne
      ·exact .inr h1
    refine ⟨hitem,Nat.eq_of_beq_eq_true hb2,hnd l [] rfl,fun i hi=>coverB_true hb3 i hi,?_,fun s x u e hE=>(hB s x u e).2.1 hE,?_,?_,?_,fun s x u e y hy hE p hd=>(hB s x u e).2.2.2.2.2.1 y hy hE p hd,fun s x u e hE y hy hE' p hd hr=>(hB s x u e).2.2.2.2.2.2.1 hE y hy hE' p hd hr,?_,?_,?_,?_⟩
    ·intro s x u e o ho d hd hb
     obtain ⟨o',ho',h1⟩:=(hB s x u e).1
     rw [ho] at ho'; cases ho'
     exact h1 d hd hb
    ·intro x hx y hy hne p hd
     obtain ⟨s,u,e,h1 | h1⟩:=hpos x hx y hy hne
     ·obtain ⟨s1,s2,rfl⟩:=List.append_of_mem h1
      exact fun hd'=>((hB s1 y (s2 ++ x :: u) (by rw [e]; simp)).2.2.1 x (by simp)).1 p hd' hd
     ·exact ((hB s x u e).2.2.1 y h1).1 p hd
    ·intro x hx hE p hd
     obtain ⟨s,u,e⟩:=List.append_of_mem hx
     exact (hB s x u e).2.2.2.1 hE p hd
    ·intro x hx y hy hne hE p hd hr
     obtain ⟨s,u,e,h1 | h1⟩:=hpos x hx y hy hne
     ·exact (hB s x u e).2.2.2.2.1 y h1 hE p hd hr
     ·exact absurd hr ((hB s x u e).2.2.2.2.2.1 y h1 hE p hd)
    ·intro i ab rc x hx j hj
     obtain ⟨s,u,e⟩:=List.append_of_mem hx
     obtain ⟨j',hj'⟩:=hmk s _ u e
     obtain ⟨x',-,e1,h1⟩:=mkIt_spec hj'
     rcases h1 with h1 | ⟨_,p,h1,-⟩ | ⟨p,op,h1,-⟩
     ·cases h1; exact hM _ _ (mem_abOf hj)
     ·cases h1
     ·cases h1
    ·intro s i ab rc x u e j bs p y hy hh
     obtain ⟨j',hj'⟩:=hmk s _ u e
     obtain ⟨x',-,e1,h1⟩:=mkIt_spec hj'
     rcases h1 with h1 | ⟨_,p,h1,-⟩ | ⟨p,op,h1,-⟩
     ·cases h1
      obtain ⟨_,_,_,_,hq⟩:=hitem _ (show It.n j bs p y ∈ l by rw [e]; exact List.mem_append.2 (.inl hy))
      cases hm:MB ms i j with
      | true=>exact .inl (hM _ _ hm)
      | false =>
       refine .inr ⟨rcOf_mem hy hh hq hm,?_⟩
       have h8:=(hB s _ u e).2.2.2.2.2.2.2 rfl _ hy
       cases bs with
       | nil=>rfl
       | cons b bs=>have h8:MB ms i j=true:=h8; rw [hm] at h8; cases h8
     ·cases h1
     ·cases h1
    ·intro i bs p x hx j hj
     obtain ⟨s,u,e⟩:=List.append_of_mem hx
     obtain ⟨j',hj'⟩:=hmk s _ u e
     obtain ⟨x',-,e1,h1⟩:=mkIt_spec hj'
     rcases h1 with h1 | ⟨op,p,h1,-⟩ | ⟨p,op,h1,-⟩
     ·cases h1
     ·cases h1; exact hM _ _ (mem_abN hj)
     ·cases h1
    ·intro s i ab rc x u e j b bs p y hy
     exact hM _ _ ((hB s _ u e).2.2.2.2.2.2.2 rfl _ hy:MB ms i j=true)
   ·cases h
end Go.Proofs.YtidggaoacldgkaaGreatDoor.X

/- An executor for closed calls, 30: a drawn region whose last three operations are a look and two writes that do not wait for one another. -/
namespace Go.Proofs.YtidggaoacldgkaaGreatDoor.X
open Go.RowKit
section
variable {P:Program} {w0:World} {ops:Array Oper} {n0:Nat} {F:Fence} {n:Nat}
structure TailOk (ops:Array Oper) (n0:Nat):Prop where
 size:ops.size=n0+3
 pre:∀ i o,i<n0→ops[i]?=some o→(∀ e ∈ o.after,Region.binds .any e=true→e.on<i)∧∀ j b,o.guard=some (j,b)→j<n0
 all:∀ i o,n0≤i→ops[i]?=some o→∀ j,j<n0→∃ e ∈ o.after,Region.binds .any e=true∧e.on=j
 q:∀ o,ops[n0]?=some o→∀ e ∈ o.after,Region.binds .any e=true→e.on<n0
 s1:∀ o,ops[n0+1]?=some o→(∀ e ∈ o.after,Region.binds .any e=true→e.on<n0+1)∧∃ e ∈ o.after,Region.binds .any e=true∧e.on=n0
 s2:∀ o,ops[n0+2]?=some o→∀ e ∈ o.after,Region.binds .any e=true→e.on<n0
theorem preB_spec {n0:Nat}:∀ {l:List Oper} {k:Nat},preB n0 l k=true→∀ i o,l[i]?=some o→(∀ e ∈ o.after,Region.binds .any e=true→e.on<k+i)∧∀ j b,o.guard=some (j,b)→j<n0
 | [],_,_,i,o,h=>by simp at h
 | x :: l,k,h,i,o,ho=>by
  simp only [preB,Bool.and_eq_true] at h
  obtain ⟨⟨h1,h2⟩,h3⟩:=h
  cases i with
  | zero =>
   simp only [List.getElem?_cons_zero,Option.some.injEq] at ho
   subst ho
   refine ⟨fun e he hb=>?_,fun j b hg=>?_⟩
   ·have:=List.all_eq_true.1 h1 e (by simpa using he)
    simp only [hb,Bool.not_true,Bool.false_or] at this
    simpa using this
   ·rw [hg] at h2
    simpa using h2
  | succ i =>
   have:=preB_spec h3 i o (by simpa using ho)
   exact ⟨fun e he hb=>by have:=this.1 e he hb; omega,this.2⟩
theorem allB_spec {o:Oper}:∀ {n:Nat},allB n o=true→∀ j,j<n→∃ e ∈ o.after,Region.binds .any e=true∧e.on=j
 | 0,_,j,hj=>by omega
 | n+1,h,j,hj=>by
  have h:((o.after.toList.any fun e=>Region.binds .any e&&Nat.beq e.on n)&&allB n o)=true:=h
  simp only [Bool.and_eq_true] at h
  rcases Nat.lt_succ_iff_lt_or_eq.1 hj with h1 | rfl
  ·exact allB_spec h.2 j h1
  ·obtain ⟨e,he,hb⟩:=List.any_eq_true.1 h.1
   simp only [Bool.and_eq_true] at hb
   exact ⟨e,by simpa using he,hb.1,Nat.eq_of_beq_eq_true hb.2⟩
theorem ltB_spec {o:Oper} {n:Nat} (h:ltB n o=true):∀ e ∈ o.after,Region.binds .any e=true→e.on<n:=fun e he hb=>by
 have:=List.all_eq_true.1 h e (by simpa using he)
 simp only [hb,Bool.not_true,Bool.false_or] at this
 simpa using this
theorem hitB_spec {o:Oper} {n:Nat} (h:hitB n o=true):∃ e ∈ o.after,Region.binds .any e=true∧e.on=n:=by
 obtain ⟨e,he,hb⟩:=List.any_eq_true.1 h
 simp only [Bool.and_eq_true] at hb
 exact ⟨e,by simpa using he,hb.1,Nat.eq_of_beq_eq_true hb.2⟩
theorem tailB_spec (h:tailB ops n0=true):TailOk ops n0:=by
 simp only [tailB,Bool.and_eq_true] at h
 obtain ⟨⟨h1,h2⟩,h3⟩:=h
 have h1:=Nat.eq_of_beq_eq_true h1
 split at h3
 ·rename_i q s1 s2 e1 e2 e3
  simp only [Bool.and_eq_true] at h3
  obtain ⟨⟨⟨⟨⟨⟨g1,g2⟩,g3⟩,g4⟩,g5⟩,g6⟩,g7⟩:=h3
  refine ⟨h1,fun i o hi ho=>?_,fun i o hi ho j hj=>?_,fun o ho=>?_,fun o ho=>?_,fun o ho=>?_⟩
  ·have:=preB_spec h2 i o (by rw [List.getElem?_take_of_lt hi]; simpa using ho)
   simpa using this
  ·have hlt:i<ops.size:=(Array.getElem?_eq_some_iff.1 ho).1
   have:i=n0∨i=n0+1∨i=n0+2:=by omega
   rcases this with rfl | rfl | rfl
   ·rw [e1] at ho; cases ho; exact allB_spec g1 j hj
   ·rw [e2] at ho; cases ho; exact allB_spec g2 j hj
   ·rw [e3] at ho; cases ho; exact allB_spec g3 j hj
  ·rw [e1] at ho; cases ho; exact ltB_spec g4
  ·rw [e2] at ho; cases ho; exact ⟨ltB_spec g5,hitB_spec g6⟩
  ·rw [e3] at ho; cases ho; exact ltB_spec g7
 ·cases h3
def Qx (X:Act→World→Prop) (Q:Exit→Act→World→Prop):Exit→Act→World→Prop
 | .normal,a,w=>X a w
 | e,a,w=>Q e a w
theorem least {p:Nat→Prop}:∀ n,p n→∃ i,p i∧∀ j,j<i→¬ p j:=by
 intro n
 induction n using Nat.strongRecOn with
 | ind n ih =>
  intro h
  by_cases hj:∃ j,j<n∧p j
  ·obtain ⟨j,h1,h2⟩:=hj; exact ih j h1 h2
  ·exact ⟨n,h,fun j h1 h2=>hj ⟨j,h1,h2⟩⟩
theorem ops1_get {i:Nat} (hi:i<n0):(ops1 ops n0)[i]?=ops[i]?:=by
 simp [ops1,List.getElem?_take_of_lt hi]
theorem ops1_size (h:n0≤ops.size):(ops1 ops n0).size=n0:=by simp [ops1]; omega
theorem wpIn_turn {o:Oper} {a:Act} {w:World} {K K':Act→World→Prop} {X:Act→World→Prop} {Q:Exit→Act→World→Prop} (hK:∀ a w,K a w→K' a w) (h:o.wpIn F n P a w K (Qx X Q)):o.wpIn F n P a w K' Q:=by
 obtain ⟨h1,h2⟩:=h
 refine ⟨h1,?_⟩
 generalize (o.semAt F.round a.eval).run P w=res at *
 cases res with
 | ok x w' =>
  cases x with
  | value v=>exact hK _ _ h2
  | skip=>exact hK _ _ h2
  | defer d=>exact hK _ _ h2
  | enter f args=>exact ⟨h2.1,h2.2.mono fun e w'' he=>by cases e <;> first | exact hK _ _ he | exact he⟩
  | row x args=>exact ⟨h2.1,h2.2.mono fun v w'' he=>hK _ _ he⟩
  | round l f t x y=>exact ⟨h2.1,h2.2.mono fun e w'' he=>by cases e <;> first | exact hK _ _ he | exact he⟩
  | _=>exact h2
 | halt x w'=>cases x <;> exact h2
theorem wpOp_turn (T:TailOk ops n0) {i:Nat} (hi:i<n0) {a:Act} {w:World} {K K':Act→World→Prop} {X:Act→World→Prop} {Q:Exit→Act→World→Prop} (hK:∀ a w,K a w→K' a w) (h:wpOpIn F n P (ops1 ops n0) (Qx X Q) i K a w):wpOpIn F n P ops Q i K' a w:=by
 unfold wpOpIn at h ⊢
 rw [ops1_get hi] at h
 cases ho:ops[i]? with
 | none=>rw [ho] at h; exact hK _ _ h
 | some o =>
  rw [ho] at h
  simp only at h ⊢
  have hw:Region.wanted o (yielded (ops1 ops n0) a.tmps)=Region.wanted o (yielded ops a.tmps):=by
   unfold Region.wanted
   cases hg:o.guard with
   | none=>rfl
   | some jb =>
    obtain ⟨j,b⟩:=jb
    have hj:=(T.pre i o hi ho).2 j b hg
    simp only [yielded,ops1_get hj]
  rw [hw] at h
  split
  ·rename_i hh; rw [if_pos hh] at h; exact wpIn_turn hK h
  ·rename_i hh; rw [if_neg hh] at h; exact ⟨h.1,hK _ _ h.2⟩
theorem getD_app {l1 l2:Array Bool} {i:Nat} {d:Bool}:(l1 ++ l2).getD i d=if i<l1.size then l1.getD i d else l2.getD (i - l1.size) d:=by
 simp only [Array.getD_eq_getD_getElem?,Array.getElem?_append]
 split <;> rfl
theorem any_split (T:TailOk ops n0) {Q:Exit→Act→World→Prop}:∀ (fuel:Nat) (l1:Array Bool) (a:Act) (w:World),l1.size=n0→fuel=(l1.toList.filter (!·)).length →
  wpAnyIn F n P .any (ops1 ops n0) (Qx (wpAnyIn F n P .any ops Q 3 (Array.replicate n0 true ++ #[false,false,false])) Q) fuel l1 a w→wpAnyIn F n P .any ops Q (fuel+3) (l1 ++ #[false,false,false]) a w
 | 0,l1,a,w,hs,hf,h=>by
  have hall:∀ b ∈ l1.toList,b=true:=fun b hb=>by
   cases b with
   | true=>rfl
   | false =>
    have:false ∈ l1.toList.filter (!·):=List.mem_filter.2 ⟨hb,rfl⟩
    rw [List.length_eq_zero_iff.1 hf.symm] at this
    cases this
  have:l1=Array.replicate n0 true:=by
   apply Array.ext'
   rw [List.eq_replicate_of_mem hall]
   simp [hs]
  rw [this,Nat.zero_add]
  exact h.2
 | fuel+1,l1,a,w,hs,hf,h=>by
  rw [show fuel+1+3=(fuel+3)+1 by omega]
  obtain ⟨b,hb⟩:∃ i,i<n0∧l1.getD i true=false:=by
   have:0<(l1.toList.filter (!·)).length:=by omega
   obtain ⟨x,hx⟩:=List.exists_mem_of_length_pos this
   obtain ⟨hx,hn⟩:=List.mem_filter.1 hx
   have hx:x=false:=by simpa using hn
   subst hx
   obtain ⟨i,hi,e⟩:=List.mem_iff_getElem.1 (List.mem_filter.1 (by assumption)).1
   exact ⟨i,by simpa [hs] using hi,by simp at hi; simp [hi]; simpa using e⟩
  obtain ⟨b,⟨hb1,hb2⟩,hmin⟩:=least (p:=fun i=>i<n0∧l1.getD i true=false) b hb
  have hsz:=T.size
  have hbo:b<ops.size:=by omega
  have hfull:∀ j,j<b→l1.getD j false=true:=fun j hj=>getD_or (by omega) fun e=>hmin j hj ⟨by omega,e⟩
  have hrb:b ∈ Region.ready .any ops (l1 ++ #[false,false,false]):=by
   refine mem_ready.2 ⟨by rw [getD_app,if_pos (by omega)]; exact hb2,ops[b],by simp [hbo],fun e he hbd=>?_⟩
   have:=(T.pre b ops[b] hb1 (by simp [hbo])).1 e he hbd
   rw [getD_app,if_pos (by omega)]
   exact hfull _ this
  refine ⟨fun e=>(by rw [e] at hrb; cases hrb),fun i hi=>?_⟩
  obtain ⟨h1,o,ho,hall⟩:=mem_ready.1 hi
  have hin:i<n0:=by
   rcases Nat.lt_or_ge i n0 with h2 | h2
   ·exact h2
   ·exfalso
    obtain ⟨e,he,hbd,hon⟩:=T.all i o h2 ho b hb1
    have:=hall e he hbd
    rw [hon,getD_app,if_pos (by omega)] at this
    exact getD_ne hb2 this
  rw [getD_app,if_pos (by omega)] at h1
  have hr1:i ∈ Region.ready .any (ops1 ops n0) l1:=by
   refine mem_ready.2 ⟨h1,o,by rw [ops1_get hin]; exact ho,fun e he hbd=>?_⟩
   have:=hall e he hbd
   have hlt:=(T.pre i o hin ho).1 e he hbd
   rw [getD_app,if_pos (by omega)] at this
   exact this
  refine wpOp_turn T hin (fun a' w' hk=>?_) (h.2 i hr1)
  have hset:(l1 ++ #[false,false,false]).setIfInBounds i true=l1.setIfInBounds i true ++ #[false,false,false]:=by
   apply Array.ext'
   simp [hs,hin]
  rw [hset]
  refine any_split T fuel (l1.setIfInBounds i true) a' w' (by simpa using hs) ?_ hk
  have hil:i<l1.size:=by omega
  have hx:l1.toList[i]?=some false:=by
   simp [hil] at h1 ⊢; exact h1
  have key:∀ (l:List Bool) (i:Nat),l[i]?=some false→(l.filter (!·)).length=((l.set i true).filter (!·)).length+1:=by
   intro l
   induction l with
   | nil=>intro i h; simp at h
   | cons x l ih =>
    intro i h
    cases i with
    | zero=>simp at h; subst h; simp
    | succ i=>simp only [List.getElem?_cons_succ] at h; have:=ih i h; cases x <;> simp [this]
  have:=key _ _ hx
  simp only [Array.toList_setIfInBounds]
  omega
end
end Go.Proofs.YtidggaoacldgkaaGreatDoor.X
