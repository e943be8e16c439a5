/- An executor for closed calls, 27: the script that is made is a plan. -/
import Derived.Test.YtphfjjopeghhnaaGreatXZ
namespace Go.Proofs.YtphfjjopeghhnaaGreat.X
open Go.RowKit
theorem inP_false {p:Sl}:∀ {l:List Sl},inP p l=false→p ∉ l
 | [],_=>by simp
 | q :: l,h=>by
  simp only [inP,Bool.or_eq_false_iff] at h
  simp only [List.mem_cons,not_or]
  exact ⟨fun e=>(by rw [e,eqS_refl] at h; cases h.1),inP_false h.2⟩
theorem inD_false {d:Option Sl} {l:List Sl} (h:inD d l=false):∀ p,d=some p→p ∉ l:=fun p hp=>by
 subst hp; exact inP_false h
theorem sameD_false {d d':Option Sl} (h:sameD d d'=false):∀ p,d=some p→d'≠some p:=fun p hp hp'=>by
 subst hp; subst hp'
 simp only [sameD,eqS_refl] at h; cases h
theorem hasI_true {i:Nat}:∀ {l:List It},hasI i l=true→∃ y ∈ l,y.i=i
 | [],h=>by cases h
 | y :: l,h=>by
  simp only [hasI,Bool.or_eq_true] at h
  rcases h with h | h
  ·exact ⟨y,List.mem_cons_self ..,Nat.eq_of_beq_eq_true h⟩
  ·obtain ⟨z,hz,e⟩:=hasI_true h
   exact ⟨z,List.mem_cons_of_mem _ hz,e⟩
theorem mask1_true {acc:List Nat} {j:Nat}:∀ {l:List Edge},(mask1 acc l).testBit j=true→∃ e ∈ l,Region.binds .any e=true∧(e.on=j∨(acc.getD e.on 0).testBit j=true)
 | [],h=>by simp [mask1] at h
 | e :: l,h=>by
  unfold mask1 at h
  cases hb:Region.binds .any e with
  | false =>
   rw [hb] at h
   obtain ⟨e',he,h'⟩:=mask1_true h
   exact ⟨e',List.mem_cons_of_mem _ he,h'⟩
  | true =>
   rw [hb] at h
   have h:((2 ^ e.on ||| acc.getD e.on 0) ||| mask1 acc l).testBit j=true:=h
   rw [Nat.testBit_or,Nat.testBit_or,Nat.testBit_two_pow] at h
   simp only [Bool.or_eq_true,decide_eq_true_eq] at h
   rcases h with (h | h) | h
   ·exact ⟨e,List.mem_cons_self ..,hb,.inl h⟩
   ·exact ⟨e,List.mem_cons_self ..,hb,.inr h⟩
   ·obtain ⟨e',he,h'⟩:=mask1_true h
    exact ⟨e',List.mem_cons_of_mem _ he,h'⟩
theorem masks_anc {ops:Array Oper}:∀ (l s:List Oper) (acc:List Nat),ops.toList=s ++ l→acc.length=s.length→(∀ i j,MB acc i j=true→Anc ops i j)→∀ i j,MB (masks l acc) i j=true→Anc ops i j
 | [],_,_,_,_,h=>h
 | o :: l,s,acc,hl,hs,h=>by
  refine masks_anc l (s ++ [o]) _ (by rw [hl]; simp) (by simp [hs]) fun i j hm=>?_
  unfold MB at hm
  rcases Nat.lt_trichotomy i acc.length with hi | hi | hi
  ·refine h i j ?_
   unfold MB
   rw [List.getD_eq_getElem?_getD,List.getElem?_append_left hi] at hm
   rw [List.getD_eq_getElem?_getD]; exact hm
  ·have:(acc ++ [mask1 acc o.after.toList]).getD i 0=mask1 acc o.after.toList:=by rw [hi,List.getD_eq_getElem?_getD]; simp
   rw [this] at hm
   obtain ⟨e,he,hb,h1⟩:=mask1_true hm
   have ho:ops[i]?=some o:=by
    rw [← Array.getElem?_toList,hl,hi,hs]; simp
   rcases h1 with h1 | h1
   ·refine ⟨1,?_⟩
    unfold anc
    rw [ho]
    simp only [List.any_eq_true,Bool.and_eq_true,Bool.or_eq_true]
    exact ⟨e,he,hb,.inl (by rw [h1]; exact Nat.beq_refl j)⟩
   ·obtain ⟨f,hf⟩:=h e.on j h1
    refine ⟨f+1,?_⟩
    unfold anc
    rw [ho]
    simp only [List.any_eq_true,Bool.and_eq_true,Bool.or_eq_true]
    exact ⟨e,he,hb,.inr hf⟩
  ·rw [List.getD_eq_getElem?_getD,List.getElem?_eq_none (by simp; omega)] at hm
   simp at hm
theorem mapO_get {α β:Type} {f:α→Option β}:∀ {l:List α} {r:List β},mapO f l=some r→∀ {j:Nat} {y:β},r[j]?=some y→∃ x,l[j]?=some x∧f x=some y
 | [],r,h,j,y,hj=>by cases h; simp at hj
 | x :: l,r,h,j,y,hj=>by
  obtain ⟨z,ys,h1,h2,rfl⟩:=mapO_cons h
  cases j with
  | zero=>simp only [List.getElem?_cons_zero] at hj; cases hj; exact ⟨x,rfl,h1⟩
  | succ j=>exact mapO_get h2 (by simpa using hj)
theorem mkAll_split {ms:List Nat} {xs:List AOper}:∀ {js:List Nat} {pre l:List It},mkAll ms xs js pre=some l→∃ t,l=pre ++ t∧∀ s it u,t=s ++ it :: u→∃ j,mkIt ms xs (pre ++ s) j=some it
 | [],pre,l,h=>by
  cases h
  exact ⟨[],by simp,fun s it u e=>by cases s <;> cases e⟩
 | j :: js,pre,l,h=>by
  unfold mkAll at h
  split at h
  ·rename_i it hit
   obtain ⟨t,h1,h2⟩:=mkAll_split h
   refine ⟨it :: t,by rw [h1]; simp,fun s x u e=>?_⟩
   cases s with
   | nil=>cases e; exact ⟨j,by simpa using hit⟩
   | cons z s =>
    cases e
    obtain ⟨j',h3⟩:=h2 s x u rfl
    exact ⟨j',by simpa using h3⟩
  ·cases h
theorem splits_of {f:List It→It→List It→Bool}:∀ {l pre:List It},splitsB f pre l=true→∀ s x t,l=s ++ x :: t→f (pre ++ s) x t=true
 | [],pre,_,s,x,t,e=>by cases s <;> cases e
 | y :: l,pre,h,s,x,t,e=>by
  simp only [splitsB,Bool.and_eq_true] at h
  cases s with
  | nil=>cases e; simpa using h.1
  | cons z s =>
   cases e
   have:=splits_of h.2 s x t rfl
   simpa using this
theorem coverB_true {l:List It}:∀ {n:Nat},coverB l n=true→∀ i,i<n→∃ y ∈ l,y.i=i
 | 0,_,i,hi=>by omega
 | n+1,h,i,hi=>by
  simp only [coverB,Bool.and_eq_true] at h
  by_cases e:i=n
  ·subst e; exact hasI_true h.1
  ·exact coverB_true h.2 i (by omega)
theorem mem_rcOf {ms:List Nat} {i:Nat} {pre:List It} {q:Sl × AOper} (h:q ∈ rcOf ms i pre):quietX q.2=true:=by
 unfold rcOf at h
 obtain ⟨it,-,h⟩:=List.mem_filterMap.1 h
 split at h
 ·split at h
  ·rename_i hb
   cases h
   simp only [Bool.and_eq_true] at hb
   exact hb.1.2
  ·cases h
 ·cases h
theorem rcOf_mem {ms:List Nat} {i:Nat} {pre:List It} {j:Nat} {p:Sl} {y:AOper} {bs:List Nat} (h:It.n j bs p y ∈ pre) (hh:heapX y=true) (hq:quietX y=true) (hm:MB ms i j=false):(p,y) ∈ rcOf ms i pre:=by
 unfold rcOf
 refine List.mem_filterMap.2 ⟨_,h,?_⟩
 simp [hh,hq,hm]
theorem mem_abOf {ms:List Nat} {i j:Nat} {pre:List It} (h:j ∈ abOf ms i pre):MB ms i j=true:=by
 unfold abOf at h
 obtain ⟨it,-,h⟩:=List.mem_filterMap.1 h
 split at h
 ·split at h
  ·rename_i hb; cases h; exact hb
  ·cases h
 ·cases h
theorem mem_abN {ms:List Nat} {i j:Nat} {op:AOp} {pre:List It} (h:j ∈ abN ms i op pre):MB ms i j=true:=by
 unfold abN at h
 split at h
 ·exact (List.mem_filter.1 h).2
 ·exact (List.mem_filter.1 h).2
 ·cases h
theorem mkIt_spec {ms:List Nat} {xs:List AOper} {pre:List It} {j:Nat} {it:It} (h:mkIt ms xs pre j=some it):∃ x,xs[j]?=some x∧it.i=j ∧
  ((it=.e j (abOf ms j pre) (rcOf ms j pre) x)∨(∃ op p,it=.n j (abN ms j op pre) p x∧x.dst=some p∧quietX x=true)∨∃ p op,it=.a j p op∧x=⟨some p,.v op,none⟩):=by
 unfold mkIt at h
 split at h
 ·cases h
 ·rename_i x hx
  refine ⟨x,hx,?_⟩
  split at h
  ·cases h; exact ⟨rfl,.inl rfl⟩
  ·split at h
   ·rename_i p op g _
    split at h
    ·rename_i hq _
     cases h
     exact ⟨rfl,.inr (.inl ⟨op,p,rfl,rfl,hq⟩)⟩
    ·cases h; exact ⟨rfl,.inr (.inr ⟨p,op,rfl,rfl⟩)⟩
    ·cases h
   ·cases h
theorem plan_ok {P:Program} {m:Nat} {ops:Array Oper} {l:List It} (h:plan P m ops=some l):Plan P m ops l:=by
 unfold plan at h
 split at h
 ·cases h
 ·rename_i xs hxs
  split at h
  ·cases h
  ·rename_i l' hl
   split at h
   ·rename_i hb
    cases h
    simp only [Bool.and_eq_true] at hb
    obtain ⟨⟨hb1,hb2⟩,hb3⟩:=hb
    have hM:∀ i j,MB (masks ops.toList []) i j=true→Anc ops i j:=masks_anc ops.toList [] [] rfl rfl fun i j hm=>by simp [MB] at hm
    obtain ⟨t,et,hmk⟩:=mkAll_split hl
    have et:l=t:=by simpa using et
    subst et
    have hS:=splits_of hb1
    have hS:∀ s x t,l=s ++ x :: t→planB ops (masks ops.toList []) s x t=true:=fun s x t e=>by simpa using hS s x t e
    have hmk:∀ s it u,l=s ++ it :: u→∃ j,mkIt (masks ops.toList []) xs s j=some it:=fun s it u e=>by simpa using hmk s it u e
    have hitem:∀ it ∈ l,ItOk P m ops it:=fun it hit=>by
     obtain ⟨s,u,e⟩:=List.append_of_mem hit
     obtain ⟨j,hj⟩:=hmk s it u e
     obtain ⟨x,hx,-,h1⟩:=mkIt_spec hj
     obtain ⟨o,ho,hc⟩:=mapO_get hxs hx
     rw [Array.getElem?_toList] at ho
     rcases h1 with rfl | ⟨_,p,rfl,hd,hq⟩ | ⟨p,op,rfl,rfl⟩
     ·exact ⟨o,ho,hc,fun q hq=>mem_rcOf hq⟩
     ·exact ⟨o,ho,hc,hd,hq⟩
     ·exact ⟨o,ho,hc⟩
    generalize hms:masks ops.toList []=ms at *
    have hB:∀ s x u,l=s ++ x :: u→(∃ o,ops[x.i]?=some o∧∀ e ∈ o.after,Region.binds .any e=true→∃ y ∈ s,y.i=e.on)∧(x.isE=true→∀ y ∈ u,Anc ops y.i x.i)∧(∀ y ∈ u,(∀ p,x.dst=some p→y.dst≠some p)∧x.i≠y.i)∧(x.isE=false→∀ p,x.dst=some p→p ∉ x.rd) ∧
      (∀ y ∈ s,y.isE=false→∀ p,y.dst=some p→p ∈ x.rd→Anc ops x.i y.i)∧(∀ y ∈ u,y.isE=false→∀ p,y.dst=some p→p ∉ x.rd)∧(x.isE=true→∀ y ∈ s,y.isE=false→∀ p,x.dst=some p→p ∈ y.rd→Anc ops x.i y.i)∧(x.isE=true→∀ y ∈ s,leanB ms x.i y=true):=fun s x u e=>by
     have hp:=hS s x u e
     unfold planB at hp
     simp only [Bool.and_eq_true] at hp
     obtain ⟨⟨⟨⟨⟨⟨⟨p1,p2⟩,p3⟩,p4⟩,p5⟩,p6⟩,p7⟩,p8⟩:=hp
     refine ⟨?_,fun hE y hy=>?_,fun y hy=>?_,fun hE=>?_,fun y hy hE p hd hr=>?_,fun y hy hE=>?_,fun hE y hy hE' p hd hr=>?_,fun hE y hy=>?_⟩
     ·split at p1
      ·rename_i o ho
       refine ⟨o,ho,fun d hd hb=>?_⟩
       have:=List.all_eq_true.1 p1 d (Array.mem_toList_iff.2 hd)
       rw [hb] at this
       exact hasI_true (by simpa using this)
      ·cases p1
     ·rw [hE] at p2
      exact hM _ _ (List.all_eq_true.1 (by simpa using p2) y hy)
     ·have:=List.all_eq_true.1 p3 y hy
      simp only [Bool.and_eq_true,Bool.not_eq_true'] at this
      exact ⟨sameD_false this.1,fun e=>by rw [e,Nat.beq_refl] at this; cases this.2⟩
     ·rw [hE] at p4
      exact inD_false (by simpa using p4)
     ·have:=List.all_eq_true.1 p5 y hy
      rw [hE] at this
      simp only [Bool.false_or,Bool.or_eq_true,Bool.not_eq_true'] at this
      rcases this with h1 | h1
      ·exact absurd hr (inD_false h1 p hd)
      ·exact hM _ _ h1
     ·have:=List.all_eq_true.1 p6 y hy
      rw [hE] at this
      exact inD_false (by simpa using this)
     ·rw [hE] at p7
      have:=List.all_eq_true.1 (show (s.all fun y=>y.isE||!inD x.dst y.rd||MB ms x.i y.i)=true by simpa using p7) y hy
      rw [hE'] at this
      simp only [Bool.false_or,Bool.or_eq_true,Bool.not_eq_true'] at this
      rcases this with h1 | h1
      ·exact absurd hr (inD_false h1 p hd)
      ·exact hM _ _ h1
     ·rw [hE] at p8
      exact List.all_eq_true.1 (by simpa using p8) y hy
    have hnd:∀ (k:List It) (s:List It),l=s ++ k→(k.map It.i).Nodup:=fun k=>by
     induction k with
     | nil=>intro s _; simp
     | cons x k ih =>
      intro s e
      simp only [List.map_cons,List.nodup_cons,List.mem_map,not_exists,not_and]
      exact ⟨fun y hy e'=>((hB s x k e).2.2.1 y hy).2 e'.symm,ih (s ++ [x]) (by rw [e]; simp)⟩
    have hpos:∀ x ∈ l,∀ y ∈ l,x.i≠y.i→∃ s u,l=s ++ x :: u∧(y ∈ s∨y ∈ u):=fun x hx y hy hne=>by
     obtain ⟨s,u,e⟩:=List.append_of_mem hx
     refine ⟨s,u,e,?_⟩
     rw [e] at hy
     rcases List.mem_append.1 hy with h1 | h1
     ·exact .inl h1
     ·rcases List.mem_cons.1 h1 with rfl | h1
      ·exact absurd rfl hne
      ·exact .inr h1
    refine ⟨hitem,Nat.eq_of_beq_eq_true hb2,hnd l [] rfl,fun i hi=>coverB_true hb3 i hi,?_,fun s x u e hE=>(hB s x u e).2.1 hE,?_,?_,?_,fun s x u e y hy hE p hd=>(hB s x u e).2.2.2.2.2.1 y hy hE p hd,fun s x u e hE y hy hE' p hd hr=>(hB s x u e).2.2.2.2.2.2.1 hE y hy hE' p hd hr,?_,?_,?_,?_⟩
    ·intro s x u e o ho d hd hb
     obtain ⟨o',ho',h1⟩:=(hB s x u e).1
     rw [ho] at ho'; cases ho'
     exact h1 d hd hb
    ·intro x hx y hy hne p hd
     obtain ⟨s,u,e,h1 | h1⟩:=hpos x hx y hy hne
     ·obtain ⟨s1,s2,rfl⟩:=List.append_of_mem h1
      exact fun hd'=>((hB s1 y (s2 ++ x :: u) (by rw [e]; simp)).2.2.1 x (by simp)).1 p hd' hd
     ·exact ((hB s x u e).2.2.1 y h1).1 p hd
    ·intro x hx hE p hd
     obtain ⟨s,u,e⟩:=List.append_of_mem hx
     exact (hB s x u e).2.2.2.1 hE p hd
    ·intro x hx y hy hne hE p hd hr
     obtain ⟨s,u,e,h1 | h1⟩:=hpos x hx y hy hne
     ·exact (hB s x u e).2.2.2.2.1 y h1 hE p hd hr
     ·exact absurd hr ((hB s x u e).2.2.2.2.2.1 y h1 hE p hd)
    ·intro i ab rc x hx j hj
     obtain ⟨s,u,e⟩:=List.append_of_mem hx
     obtain ⟨j',hj'⟩:=hmk s _ u e
     obtain ⟨x',-,e1,h1⟩:=mkIt_spec hj'
     rcases h1 with h1 | ⟨_,p,h1,-⟩ | ⟨p,op,h1,-⟩
     ·cases h1; exact hM _ _ (mem_abOf hj)
     ·cases h1
     ·cases h1
    ·intro s i ab rc x u e j bs p y hy hh
     obtain ⟨j',hj'⟩:=hmk s _ u e
     obtain ⟨x',-,e1,h1⟩:=mkIt_spec hj'
     rcases h1 with h1 | ⟨_,p,h1,-⟩ | ⟨p,op,h1,-⟩
     ·cases h1
      obtain ⟨_,_,_,_,hq⟩:=hitem _ (show It.n j bs p y ∈ l by rw [e]; exact List.mem_append.2 (.inl hy))
      cases hm:MB ms i j with
      | true=>exact .inl (hM _ _ hm)
      | false =>
       refine .inr ⟨rcOf_mem hy hh hq hm,?_⟩
       have h8:=(hB s _ u e).2.2.2.2.2.2.2 rfl _ hy
       cases bs with
       | nil=>rfl
       | cons b bs=>have h8:MB ms i j=true:=h8; rw [hm] at h8; cases h8
     ·cases h1
     ·cases h1
    ·intro i bs p x hx j hj
     obtain ⟨s,u,e⟩:=List.append_of_mem hx
     obtain ⟨j',hj'⟩:=hmk s _ u e
     obtain ⟨x',-,e1,h1⟩:=mkIt_spec hj'
     rcases h1 with h1 | ⟨op,p,h1,-⟩ | ⟨p,op,h1,-⟩
     ·cases h1
     ·cases h1; exact hM _ _ (mem_abN hj)
     ·cases h1
    ·intro s i ab rc x u e j b bs p y hy
     exact hM _ _ ((hB s _ u e).2.2.2.2.2.2.2 rfl _ hy:MB ms i j=true)
   ·cases h
end Go.Proofs.YtphfjjopeghhnaaGreat.X
