/- An executor for closed calls, 12c: maps by structs of integers. -/
import Derived.Test.YtidggaoacldgkaaGreatDoorXLB
import Derived.Laws.StructEq
namespace Go.Proofs.YtidggaoacldgkaaGreatDoor.X
open Go.RowKit
theorem kiK_spec:∀ {vs:List AV} {c:List Int→Prop},kiK vs c→∃ s:List Int,vs=s.map (AV.int .i64)∧(∀ x ∈ s,inI x=true)∧c s
 | [],c,hk=>⟨[],rfl,fun _ h=>(by cases h),hk⟩
 | v :: vs,c,hk=>by
  replace hk:(match (generalizing:=false) v with
   | .int .i64 m=>Bool.rec (motive:=fun _=>Prop) False (kiK vs fun l=>c (m :: l)) (inI m)
   | _=>False):=hk
  split at hk
  ·rename_i m
   cases hb:inI m with
   | false=>rw [hb] at hk; exact hk.elim
   | true =>
    rw [hb] at hk
    obtain ⟨s,h1,h2,h3⟩:=kiK_spec (c:=fun l=>c (m :: l)) hk
    refine ⟨m :: s,by rw [h1]; rfl,fun x hx=>?_,h3⟩
    rcases List.mem_cons.1 hx with rfl | hx
    ·exact hb
    ·exact h2 x hx
  ·exact hk.elim
theorem kiK_imp:∀ {vs:List AV} {c c':List Int→Prop},(∀ s,c s→c' s)→kiK vs c→kiK vs c'
 | [],_,_,hc,hk=>hc [] hk
 | v :: vs,c,c',hc,hk=>by
  replace hk:(match (generalizing:=false) v with
   | .int .i64 m=>Bool.rec (motive:=fun _=>Prop) False (kiK vs fun l=>c (m :: l)) (inI m)
   | _=>False):=hk
  show (match (generalizing:=false) v with
   | .int .i64 m=>Bool.rec (motive:=fun _=>Prop) False (kiK vs fun l=>c' (m :: l)) (inI m)
   | _=>False)
  split at hk
  ·rename_i m
   cases hb:inI m with
   | false=>rw [hb] at hk; exact hk.elim
   | true =>
    rw [hb] at hk
    exact kiK_imp (c:=fun l=>c (m :: l)) (fun s hs=>hc (m :: s) hs) hk
  ·exact hk.elim
theorem recB_imp {b:Bool} {p q:Prop} (h:p→q) (hb:Bool.rec (motive:=fun _=>Prop) False p b):Bool.rec (motive:=fun _=>Prop) False q b:=by
 cases b with
 | false=>exact hb
 | true=>exact h hb
theorem eqI_iff {a b:Int}:eqI a b=true↔a=b:=by
 cases a <;> cases b <;> simp [eqI] <;> omega
theorem eqIs_iff:∀ {a b:List Int},eqIs a b=true↔a=b
 | [],[]=>by simp [eqIs]
 | [],_ :: _=>by simp [eqIs]
 | _ :: _,[]=>by simp [eqIs]
 | x :: a,y :: b=>by simp [eqIs,eqI_iff,eqIs_iff]
def lookI (s:List Int):List (List Int × AV)→Option AV
 | []=>none
 | e :: l=>bif eqIs s e.1 then some e.2 else lookI s l
def putI (s:List Int) (v:AV):List (List Int × AV)→List (List Int × AV)
 | []=>[(s,v)]
 | e :: l=>bif eqIs s e.1 then (s,v) :: l else e :: putI s v l
theorem keyI_inj {a b:List Int} (h:keyI a=keyI b):a=b:=by
 simp only [keyI,Value.agg.injEq] at h
 have h:=congrArg Array.toList h
 simp only [] at h
 exact (List.map_inj_right (fun x y e=>by cases e; rfl)).1 h
theorem lookI_none {s:List Int}:∀ {es:List (List Int × AV)},(∀ y ∈ es,y.1≠s)→lookI s es=none
 | [],_=>rfl
 | e :: l,h=>by
  have:eqIs s e.1=false:=by
   cases hb:eqIs s e.1 with
   | false=>rfl
   | true=>exact absurd (eqIs_iff.1 hb).symm (h e (List.mem_cons_self ..))
  rw [lookI,this]
  exact lookI_none fun y hy=>h y (List.mem_cons_of_mem _ hy)
theorem lookI_some {s:List Int} {v:AV}:∀ {es:List (List Int × AV)},(es.map Prod.fst).Nodup→(s,v) ∈ es→lookI s es=some v
 | e :: l,hn,h=>by
  simp only [List.map_cons,List.nodup_cons] at hn
  rw [lookI]
  rcases List.mem_cons.1 h with h1 | h1
  ·subst h1
   rw [eqIs_iff.2 rfl]; rfl
  ·have:eqIs s e.1=false:=by
    cases hb:eqIs s e.1 with
    | false=>rfl
    | true=>exact absurd (List.mem_map.2 ⟨(s,v),h1,eqIs_iff.1 hb⟩) hn.1
   rw [this]
   exact lookI_some hn.2 h1
theorem putI_none {s:List Int} {v:AV}:∀ {es:List (List Int × AV)},(∀ y ∈ es,y.1≠s)→putI s v es=es ++ [(s,v)]
 | [],_=>rfl
 | e :: l,h=>by
  have:eqIs s e.1=false:=by
   cases hb:eqIs s e.1 with
   | false=>rfl
   | true=>exact absurd (eqIs_iff.1 hb).symm (h e (List.mem_cons_self ..))
  rw [putI,this,cond_false,putI_none fun y hy=>h y (List.mem_cons_of_mem _ hy)]
  rfl
theorem putI_some {s:List Int} {v:AV}:∀ {es:List (List Int × AV)} {j:Nat} {u:AV},(es.map Prod.fst).Nodup→es[j]?=some (s,u)→putI s v es=es.set j (s,v)
 | [],j,u,_,h=>by simp at h
 | e :: l,0,u,hn,h=>by
  simp only [List.getElem?_cons_zero,Option.some.injEq] at h
  subst h
  rw [putI,eqIs_iff.2 rfl]; rfl
 | e :: l,j+1,u,hn,h=>by
  simp only [List.map_cons,List.nodup_cons] at hn
  simp only [List.getElem?_cons_succ] at h
  have:eqIs s e.1=false:=by
   cases hb:eqIs s e.1 with
   | false=>rfl
   | true=>exact absurd (List.mem_map.2 ⟨(s,u),List.mem_of_getElem? h,eqIs_iff.1 hb⟩) hn.1
  rw [putI,this,cond_false,putI_some hn.2 h]
  rfl
theorem lkI_iff {s:List Int} {ix:T (List Int × AV)} {c:Option AV→Prop}:lkI s ix c↔lkI0 s c (ix.find (encI s)):=by
 unfold lkI
 rw [forceN_iff,forceP_iff,T.lookK_iff]
 exact Iff.rfl
theorem upI_iff {s:List Int} {v:AV} {ix:T (List Int × AV)} {c:T (List Int × AV)→Prop}:upI s v ix c↔upI0 s (c (ix.set (s,v) (encI s))) (ix.find (encI s)):=by
 unfold upI
 rw [forceN_iff,forceP_iff,T.lookK_iff]
 show upI0 s (T.setK (s,v) ix (encI s) c) _↔_
 rw [T.setK_iff]
 exact Iff.rfl
theorem Ix.look {es:List (List Int × AV)} {ix:T (List Int × AV)} (I:Ix es ix) (hn:(es.map Prod.fst).Nodup) {s:List Int} {c:Option AV→Prop} (h:lkI s ix c):c (lookI s es):=by
 have h:=lkI_iff.1 h
 cases hf:ix.find (encI s) with
 | none =>
  rw [hf] at h
  rw [lookI_none (s:=s) fun y hy e=>?_]
  ·exact h
  ·have:=I.to y hy
   rw [e,hf] at this; cases this
 | some y =>
  rw [hf] at h
  cases he:eqIs s y.1 with
  | false =>
   simp only [lkI0,he] at h
  | true =>
   simp only [lkI0,he] at h
   have h1:=eqIs_iff.1 he
   have h2:=(I.fro _ _ hf).1
   obtain ⟨y1,y2⟩:=y
   have h1:s=y1:=h1
   subst h1
   rw [lookI_some hn h2]
   exact h
theorem putI_in {s:List Int} {v:AV}:∀ {es:List (List Int × AV)} {y:List Int × AV},(es.map Prod.fst).Nodup→(y ∈ putI s v es↔y=(s,v)∨(y ∈ es∧y.1≠s))
 | [],y,_=>by simp [putI]
 | e :: l,y,hn=>by
  simp only [List.map_cons,List.nodup_cons] at hn
  rw [putI]
  cases hb:eqIs s e.1 with
  | true =>
   have h1:=eqIs_iff.1 hb
   simp only [cond_true,List.mem_cons]
   constructor
   ·rintro (h | h)
    ·exact .inl h
    ·refine .inr ⟨.inr h,fun e1=>hn.1 ?_⟩
     rw [← h1,← e1]
     exact List.mem_map.2 ⟨y,h,rfl⟩
   ·rintro (h | ⟨h | h,h2⟩)
    ·exact .inl h
    ·exact absurd (by rw [h,h1]) h2
    ·exact .inr h
  | false =>
   have h1:e.1≠s:=fun q=>by rw [eqIs_iff.2 q.symm] at hb; cases hb
   simp only [cond_false,List.mem_cons,putI_in hn.2]
   constructor
   ·rintro (h | h | ⟨h,h2⟩)
    ·exact .inr ⟨.inl h,by rw [h]; exact h1⟩
    ·exact .inl h
    ·exact .inr ⟨.inr h,h2⟩
   ·rintro (h | ⟨h | h,h2⟩)
    ·exact .inr (.inl h)
    ·exact .inl h
    ·exact .inr (.inr ⟨h,h2⟩)
theorem Ix.put {es:List (List Int × AV)} {ix:T (List Int × AV)} (I:Ix es ix) (hn:(es.map Prod.fst).Nodup) {s:List Int} {v:AV} {c:T (List Int × AV)→Prop} (h:upI s v ix c):c (ix.set (s,v) (encI s))∧Ix (putI s v es) (ix.set (s,v) (encI s)):=by
 have h:=upI_iff.1 h
 have key:c (ix.set (s,v) (encI s))∧∀ y,ix.find (encI s)=some y→y.1=s:=by
  cases hf:ix.find (encI s) with
  | none=>rw [hf] at h; exact ⟨h,fun y e=>by cases e⟩
  | some y =>
   rw [hf] at h
   cases he:eqIs s y.1 with
   | false=>simp only [upI0,he] at h
   | true =>
    simp only [upI0,he] at h
    exact ⟨h,fun y' e=>by cases e; exact (eqIs_iff.1 he).symm⟩
 refine ⟨key.1,fun y hy=>?_,fun k y hy=>?_⟩
 ·rcases (putI_in hn).1 hy with rfl | ⟨h1,h2⟩
  ·exact T.find_set ..
  ·have h3:=I.to y h1
   rw [T.find_set_ne]
   ·exact h3
   ·intro e
    rw [e] at h3
    exact h2 (key.2 y h3)
 ·by_cases hk:k=encI s
  ·subst hk
   rw [T.find_set] at hy
   cases hy
   exact ⟨(putI_in hn).2 (.inl rfl),rfl⟩
  ·rw [T.find_set_ne _ _ _ _ hk] at hy
   obtain ⟨h1,h2⟩:=I.fro k y hy
   exact ⟨(putI_in hn).2 (.inr ⟨h1,fun e=>hk (by rw [h2,e])⟩),h2⟩
section
variable {P:Program} {w0:World} {r:Rho} {h:T AO} {nx:Pt} {w:World} {tm:S} {a:Act} {o:Oper} {K:AV→T AO→Pt→Prop}
theorem conc_key (r:Rho) (s:List Int):conc r (.agg (s.map (AV.int .i64)))=keyI s:=by
 simp only [conc,concL_map,List.map_map,keyI]
 congr 2
theorem lk_tail (H:WR P w0 r h nx w) {t:TypeId} {x k:Operand} {ok:Bool} {z:Value} {zv:AV} (hl:Lone zv z) (hop:o.op=.lookup t x k ok) {q:Option AV} (hR:lkR zv ok q fun v=>K v h nx) (hq:∀ y,q=some y→okV r.has y)
  (hE:(Instr.lookup t (a.eval x) (a.eval k) ok).run P w=.ok (if ok then .tuple #[conc r (q.getD zv),.bool q.isSome] else conc r (q.getD zv)) w):Yields P w0 r h w (execOp a.eval o) K:=by
 simp only [execOp,hop]
 cases q with
 | none =>
  cases ok with
  | true=>exact Yields.pureV (v:=.tup [zv,.bool false]) H hR (by rw [hE]; simp [conc,concL]) (by simp only [okV,okL]; exact ⟨hl.2 _,trivial,trivial⟩)
  | false=>exact Yields.pureV (v:=zv) H hR (by rw [hE]; simp) (hl.2 _)
 | some y =>
  cases ok with
  | true=>exact Yields.pureV (v:=.tup [y,.bool true]) H hR (by rw [hE]; simp [conc,concL]) (by simp only [okV,okL]; exact ⟨hq y rfl,trivial,trivial⟩)
  | false=>exact Yields.pureV (v:=y) H hR (by rw [hE]; simp) (hq y rfl)
theorem run_lookA {t key elem:TypeId} {n:Nat} {j:TypeInfo} {z:Value} {zv:AV} {ok:Bool} {s:List Int} {mv:Value} {es:List (List Int × AV)} {L:List MapEntry} (hu:P.underlying t=some (.map key elem)) (hS:SK P key n) (hj:P.info? elem=some j) (hz:j.zero=some z) (hl:Lone zv z) (hs:s.length=n) (hsi:∀ x ∈ s,inI x=true) (M:MapI r n es L)
  (hg:(mv=.map none∧L=[])∨∃ b c,mv=.map (some b)∧w.heap[b]?=some (.map L.toArray c)) :
  (Instr.lookup t mv (keyI s) ok).run P w=.ok (if ok then .tuple #[conc r ((lookI s es).getD zv),.bool (lookI s es).isSome] else conc r ((lookI s es).getD zv)) w:=by
 obtain ⟨KY,hS⟩:=hS
 obtain ⟨lx,hlx⟩:=hS s hs hsi
 have hL:∀ e ∈ L,∃ y ∈ es,e.key=keyI y.1∧e.val=conc r y.2:=fun e he=>by
  have:(e.key,e.val) ∈ L.map (fun e=>(e.key,e.val)):=List.mem_map.2 ⟨e,he,rfl⟩
  rw [M.ent] at this
  obtain ⟨y,hy,e1⟩:=List.mem_map.1 this
  simp only [Prod.mk.injEq] at e1
  exact ⟨y,hy,e1.1.symm,e1.2.symm⟩
 have hf:=KY.find w hlx L fun e he=>by
  obtain ⟨y,hy,e1,-⟩:=hL e he
  rw [e1]; exact hS y.1 (M.ints y hy).1 (M.ints y hy).2
 have hfd:((Instr.findKey key (keyI s) L).run P w=.ok none w∧lookI s es=none)∨∃ j v,(Instr.findKey key (keyI s) L).run P w=.ok (some (j,conc r v)) w∧lookI s es=some v:=by
  rcases hf with ⟨h1,h2⟩ | ⟨jj,e,h1,h2,h3⟩
  ·refine .inl ⟨h1,lookI_none fun y hy e=>?_⟩
   have:(keyI y.1,conc r y.2) ∈ es.map (fun y=>(keyI y.1,conc r y.2)):=List.mem_map.2 ⟨y,hy,rfl⟩
   rw [← M.ent] at this
   obtain ⟨e',he',e1⟩:=List.mem_map.1 this
   simp only [Prod.mk.injEq] at e1
   exact h2 e' he' (by rw [e1.1,e])
  ·obtain ⟨y,hy,e1,e2⟩:=hL e (List.mem_of_getElem? h2)
   have:y.1=s:=keyI_inj (e1.symm.trans h3)
   refine .inr ⟨jj,y.2,by rw [h1,e2],lookI_some M.nodup ?_⟩
   rw [← this]; exact hy
 have fin:∀ (em:Bool),Sem.run P (do
   Instr.checkKey em 10000 key (keyI s)
   let (v,b) ← match ← Instr.findKey key (keyI s) L with
    | some (_,v)=>pure (v,true)
    | none=>pure (← zeroValue elem,false)
   pure (if ok then .tuple #[v,.bool b] else v)) w=.ok (if ok then .tuple #[conc r ((lookI s es).getD zv),.bool (lookI s es).isSome] else conc r ((lookI s es).getD zv)) w:=fun em=>by
  rw [run_ok_bind (KY.check w em hlx)]
  rcases hfd with ⟨h1,h2⟩ | ⟨jj,v,h1,h2⟩
  ·rw [run_ok_bind h1,h2]
   simp only []
   rw [run_ok_bind (run_zeroValue hj hz),run_ok_bind (run_pure P _ w)]
   simp [hl.1]
  ·rw [run_ok_bind h1,h2]
   simp only []
   rw [run_ok_bind (run_pure P _ w)]
   simp
 unfold Instr.lookup
 rw [run_ok_bind (run_underlying hu)]
 rcases hg with ⟨rfl,rfl⟩ | ⟨b,c,rfl,hb⟩
 ·simp only []
  rw [run_ok_bind (run_pure P _ w)]
  exact fin _
 ·simp only []
  show Sem.run P (getObj b >>= _) w=_
  rw [run_getObj hb (by simp)]
  simp only []
  rw [run_ok_bind (run_pure P _ w)]
  exact fin _
theorem MapI.nil {r:Rho} {n:Nat}:MapI r n [] []:=⟨rfl,.nil,fun _ h=>(by cases h)⟩
theorem s_lkA (H:WR P w0 r h nx w) (ht:TR r tm a.tmps) {t key elem:TypeId} {n:Nat} {j:TypeInfo} {z:Value} {zv:AV} {ok:Bool} {x k:Operand} {x' k':AX} (hu:P.underlying t=some (.map key elem)) (hS:SK P key n) (hj:P.info? elem=some j) (hz:j.zero=some z) (hl:Lone zv z) (hx:Cx x x') (hi:Cx k k') (hop:o.op=.lookup t x k ok) (hk:stepV (.lkA n zv ok x' k') tm h nx K):Yields P w0 r h w (execOp a.eval o) K:=by
 simp only [stepV,oLkA] at hk
 obtain ⟨kv,h1,g2,g3⟩:=evK_spec hi ht hk
 split at h1
 ·rename_i vs
  obtain ⟨s,rfl,hsi,h1⟩:=kiK_spec h1
  rw [conc_key] at g2
  cases hb:Nat.beq s.length n with
  | false=>rw [hb] at h1; exact h1.elim
  | true =>
   rw [hb] at h1
   have hs:s.length=n:=Nat.eq_of_beq_eq_true hb
   obtain ⟨v,h1,h2,h3⟩:=evK_spec hx ht h1
   split at h1
   ·refine lk_tail H hl hop (q:=none) h1 (fun y e=>by cases e) ?_
    rw [g2,h2]
    exact run_lookA hu hS hj hz hl hs hsi (es:=[]) (L:=[]) (r:=r) MapI.nil (.inl ⟨by simp [conc],rfl⟩)
   ·rename_i m
    obtain ⟨b,hb,h1⟩:=(T.getK_iff _ _ _).1 h1
    obtain ⟨-,-,ho,hb'⟩:=H.has m _ hb
    split at h1
    ·split at h1
     ·obtain ⟨es',c',hb',M,-⟩:=hb'
      have he:es'=[]:=by
       have:=M.perm.length_eq
       simp at this
       exact List.eq_nil_of_length_eq_zero this.symm
      subst he
      refine lk_tail H hl hop (q:=none) h1 (fun y e=>by cases e) ?_
      rw [g2,h2]
      exact run_lookA hu hS hj hz hl hs hsi (es:=[]) (L:=[]) (r:=r) MapI.nil (.inr ⟨_,c',by simp [conc],hb'⟩)
     ·exact h1.elim
    ·rename_i n' ix
     obtain ⟨es,L,c,hb',M,I⟩:=hb'
     have hoe:∀ y ∈ es,okV r.has y.2:=fun y hy=>ho _ y (I.to y hy)
     cases hn:Nat.beq n n' with
     | false=>rw [hn] at h1; exact h1.elim
     | true =>
      rw [hn] at h1
      have:=Nat.eq_of_beq_eq_true hn
      subst this
      have h1:=I.look M.nodup h1
      refine lk_tail H hl hop h1 (fun y e=>?_) ?_
      ·have:∀ {es:List (List Int × AV)},lookI s es=some y→∃ e ∈ es,e.2=y:=by
        intro es
        induction es with
        | nil=>intro h; cases h
        | cons e l ih =>
         intro h
         rw [lookI] at h
         cases hb:eqIs s e.1 with
         | true=>rw [hb] at h; simp only [cond_true,Option.some.injEq] at h; exact ⟨e,List.mem_cons_self ..,h⟩
         | false =>
          rw [hb] at h
          obtain ⟨e',he',q⟩:=ih h
          exact ⟨e',List.mem_cons_of_mem _ he',q⟩
       obtain ⟨e',he',q⟩:=this e
       rw [← q]; exact hoe e' he'
      ·rw [g2,h2]
       exact run_lookA hu hS hj hz hl hs hsi M (.inr ⟨_,c,by simp [conc],hb'⟩)
    ·exact h1.elim
   ·exact h1.elim
 ·exact h1.elim
theorem MapI.put {n:Nat} {es:List (List Int × AV)} {L:List MapEntry} (M:MapI r n es L) {key:TypeId} (hS:SK P key n) {s:List Int} (hs:s.length=n) (hsi:∀ x ∈ s,inI x=true) (v:AV) (c:Nat) :
  ((Instr.findKey key (keyI s) L).run P w=.ok none w∧MapI r n (putI s v es) (L ++ [(⟨keyI s,conc r v,c⟩:MapEntry)])) ∨
  ∃ j u,(Instr.findKey key (keyI s) L).run P w=.ok (some (j,u)) w∧L[j]?.map (·.key)=some (keyI s)∧MapI r n (putI s v es) (L.modify j fun e=>{ e with key:=keyI s,val:=conc r v }):=by
 obtain ⟨KY,hS⟩:=hS
 obtain ⟨lx,hlx⟩:=hS s hs hsi
 have hlen:L.length=es.length:=by have:=congrArg List.length M.ent; simpa using this
 have hget:∀ (i:Nat) e,L[i]?=some e→∃ y,es[i]?=some y∧e.key=keyI y.1∧e.val=conc r y.2:=fun i e he=>by
  have h1:(L.map (fun e=>(e.key,e.val)))[i]?=some (e.key,e.val):=by rw [List.getElem?_map,he]; rfl
  rw [M.ent,List.getElem?_map] at h1
  cases hy:es[i]? with
  | none=>rw [hy] at h1; cases h1
  | some y =>
   rw [hy] at h1
   simp only [Option.map_some,Option.some.injEq,Prod.mk.injEq] at h1
   exact ⟨y,rfl,h1.1.symm,h1.2.symm⟩
 have hf:=KY.find w hlx L fun e he=>by
  obtain ⟨i,hi⟩:=List.getElem?_of_mem he
  obtain ⟨y,hy,e1,-⟩:=hget i e hi
  have hy:=List.mem_of_getElem? hy
  rw [e1]; exact hS y.1 (M.ints y hy).1 (M.ints y hy).2
 rcases hf with ⟨h1,h2⟩ | ⟨jj,e,h1,h2,h3⟩
 ·have hne:∀ y ∈ es,y.1≠s:=fun y hy e=>by
   have:(keyI y.1,conc r y.2) ∈ es.map (fun y=>(keyI y.1,conc r y.2)):=List.mem_map.2 ⟨y,hy,rfl⟩
   rw [← M.ent] at this
   obtain ⟨e',he',e1⟩:=List.mem_map.1 this
   simp only [Prod.mk.injEq] at e1
   exact h2 e' he' (by rw [e1.1,e])
  refine .inl ⟨h1,?_⟩
  rw [putI_none hne]
  refine ⟨by simp [M.ent],?_,fun y hy=>?_⟩
  ·rw [List.map_append,List.nodup_append]
   refine ⟨M.nodup,by simp,fun x hx y hy e=>?_⟩
   simp at hy
   obtain ⟨y',hy',q⟩:=List.mem_map.1 hx
   exact hne y' hy' (q.trans (e.trans hy))
  ·rcases List.mem_append.1 hy with hy | hy
   ·exact M.ints y hy
   ·rw [List.mem_singleton.1 hy]; exact ⟨hs,hsi⟩
 ·obtain ⟨y,hy,e1,e2⟩:=hget jj e h2
  have hys:y.1=s:=keyI_inj (e1.symm.trans h3)
  have hy':es[jj]?=some (s,y.2):=by rw [hy,← hys]
  refine .inr ⟨jj,e.val,h1,by rw [h2]; simp [h3],?_⟩
  rw [putI_some M.nodup hy']
  have hjl:jj<es.length:=(List.getElem?_eq_some_iff.1 hy).1
  refine ⟨?_,?_,fun y1 hy1=>?_⟩
  ·apply List.ext_getElem?
   intro i
   rw [List.getElem?_map,List.getElem?_map,List.getElem?_modify,List.getElem?_set]
   by_cases hi:jj=i
   ·subst hi
    simp [h2,hjl]
   ·rw [if_neg hi]
    have:=congrArg (fun l=>l[i]?) M.ent
    simp only [List.getElem?_map] at this
    simpa [hi] using this
  ·have:(es.set jj (s,v)).map Prod.fst=es.map Prod.fst:=by
    apply List.ext_getElem?
    intro i
    rw [List.getElem?_map,List.getElem?_map,List.getElem?_set]
    by_cases hi:jj=i
    ·subst hi
     rw [if_pos rfl,if_pos hjl,hy']
     rfl
    ·rw [if_neg hi]
   rw [this]; exact M.nodup
  ·rcases List.mem_or_eq_of_mem_set hy1 with h4 | h4
   ·exact M.ints y1 h4
   ·rw [h4]; exact ⟨hs,hsi⟩
theorem putI_mem {s:List Int} {v:AV}:∀ {es:List (List Int × AV)} {y},y ∈ putI s v es→y ∈ es∨y.2=v
 | [],y,h=>by
  simp [putI] at h
  exact .inr (by rw [h])
 | e :: l,y,h=>by
  rw [putI] at h
  cases hb:eqIs s e.1 with
  | true =>
   rw [hb] at h
   rcases List.mem_cons.1 h with h | h
   ·exact .inr (by rw [h])
   ·exact .inl (List.mem_cons_of_mem _ h)
  | false =>
   rw [hb] at h
   rcases List.mem_cons.1 h with h | h
   ·exact .inl (by rw [h]; exact List.mem_cons_self ..)
   ·exact (putI_mem h).imp (List.mem_cons_of_mem _) id
theorem upA_core (H:WR P w0 r h nx w) {t key elem:TypeId} {n:Nat} (hu:P.underlying t=some (.map key elem)) (hS:SK P key n) {s:List Int} (hs:s.length=n) (hsi:∀ x ∈ s,inI x=true) {vv:AV} (e3:okV r.has vv) {m:Pt} {b:AO} (hb:h.find m=some b) {es:List (List Int × AV)} {ix:T (List Int × AV)} {L:List MapEntry} {c:Nat} (hb':w.heap[r.blk m]?=some (.map L.toArray c)) (M:MapI r n es L) (ho:∀ y ∈ es,okV r.has y.2) (I:Ix (putI s vv es) ix) {x k v:Operand} (hop:o.op=.mapUpdate t x k v) (h2:a.eval x=conc r (.map m)) (g2:a.eval k=keyI s) (e2:a.eval v=conc r vv) (hk:K (.tup []) (h.set (.mapK n ix) m) nx) :
  Yields P w0 r h w (execOp a.eval o) K:=by
 obtain ⟨lx,hlx⟩:=hS.2 s hs hsi
 have ho':okO r.has (.mapK n ix):=fun k y hy=>by
  rcases putI_mem (I.fro k y hy).1 with h1 | h1
  ·exact ho y h1
  ·rw [h1]; exact e3
 simp only [execOp,hop]
 rcases M.put (w:=w) hS hs hsi vv c with ⟨f1,f2⟩ | ⟨jj,u,f1,f2,f3⟩
 ·obtain ⟨W,E⟩:=H.write hb (.mapK n ix) (.map (L ++ [(⟨keyI s,conc r vv,c⟩:MapEntry)]).toArray (c+1)) ho' ⟨_,_,_,rfl,f2,I⟩
  refine ⟨r,_,nx,_,.tup [],.skip,hk,run_skip ?_,.inr ⟨rfl,by simp [conc,concL,undef]⟩,W,E,by simp [okV,okL]⟩
  unfold Instr.mapUpdate
  rw [g2,h2,e2,run_ok_bind (run_underlying hu)]
  simp only [conc]
  show Sem.run P (getObj (r.blk m) >>= _) w=_
  rw [run_getObj hb' (by simp)]
  simp only []
  rw [run_ok_bind (hS.1.check w _ hlx),run_ok_bind f1]
  simp only []
  rw [run_setMap hb']
  simp
 ·obtain ⟨W,E⟩:=H.write hb (.mapK n ix) (.map (L.modify jj fun e=>{ e with key:=keyI s,val:=conc r vv }).toArray c) ho' ⟨_,_,_,rfl,f3,I⟩
  refine ⟨r,_,nx,_,.tup [],.skip,hk,run_skip ?_,.inr ⟨rfl,by simp [conc,concL,undef]⟩,W,E,by simp [okV,okL]⟩
  unfold Instr.mapUpdate
  rw [g2,h2,e2,run_ok_bind (run_underlying hu)]
  simp only [conc]
  show Sem.run P (getObj (r.blk m) >>= _) w=_
  rw [run_getObj hb' (by simp)]
  simp only []
  rw [run_ok_bind (hS.1.check w _ hlx),run_ok_bind f1]
  simp only []
  have hkk:((L.toArray[jj]?.map (·.key)).getD (keyI s))=keyI s:=by
   rw [List.getElem?_toArray,f2]; rfl
  rw [hkk,run_ok_bind (hS.1.stays w hlx),run_setMap hb']
  simp
theorem s_upA (H:WR P w0 r h nx w) (ht:TR r tm a.tmps) {t key elem:TypeId} {n:Nat} {x k v:Operand} {x' k' v':AX} (hu:P.underlying t=some (.map key elem)) (hS:SK P key n) (hx:Cx x x') (hi:Cx k k') (hv:Cx v v') (hop:o.op=.mapUpdate t x k v) (hk:stepV (.upA n x' k' v') tm h nx K):Yields P w0 r h w (execOp a.eval o) K:=by
 simp only [stepV,oUpA] at hk
 obtain ⟨kv,h1,g2,g3⟩:=evK_spec hi ht hk
 split at h1
 ·rename_i vs
  obtain ⟨s,rfl,hsi,h1⟩:=kiK_spec h1
  rw [conc_key] at g2
  cases hb:Nat.beq s.length n with
  | false=>rw [hb] at h1; exact h1.elim
  | true =>
   rw [hb] at h1
   have hs:s.length=n:=Nat.eq_of_beq_eq_true hb
   obtain ⟨xv,h1,h2,h3⟩:=evK_spec hx ht h1
   split at h1
   ·rename_i m
    obtain ⟨vv,h1,e2,e3⟩:=evK_spec hv ht h1
    obtain ⟨b,hb,h1⟩:=(T.getK_iff _ _ _).1 h1
    obtain ⟨-,-,ho,hb'⟩:=H.has m _ hb
    split at h1
    ·split at h1
     ·obtain ⟨es',c',hb',M,-⟩:=hb'
      have he:es'=[]:=by
       have:=M.perm.length_eq
       simp at this
       exact List.eq_nil_of_length_eq_zero this.symm
      subst he
      obtain ⟨h1,I⟩:=Ix.nil.put .nil h1
      rw [T.setK_iff] at h1
      exact upA_core H hu hS hs hsi e3 hb (es:=[]) (L:=[]) hb' MapI.nil (fun _ h=>(by cases h)) I hop h2 g2 e2 h1
     ·exact h1.elim
    ·rename_i n' ix
     obtain ⟨es,L,c,hb',M,I⟩:=hb'
     have hoe:∀ y ∈ es,okV r.has y.2:=fun y hy=>ho _ y (I.to y hy)
     cases hn:Nat.beq n n' with
     | false=>rw [hn] at h1; exact h1.elim
     | true =>
      rw [hn] at h1
      have:=Nat.eq_of_beq_eq_true hn
      subst this
      obtain ⟨h1,I⟩:=I.put M.nodup h1
      rw [T.setK_iff] at h1
      exact upA_core H hu hS hs hsi e3 hb hb' M hoe I hop h2 g2 e2 h1
    ·exact h1.elim
   ·exact h1.elim
 ·exact h1.elim
theorem eqFields_ints {d n:Nat} {xs ys:List Int} (hx:xs.length=n) (hy:ys.length=n):∀ (fs:List Field) (k:Nat),fs.map (·.offset)=(List.range n).drop k→(∀ f ∈ fs,f.name≠"_"∧P.underlying f.type=some (.int .i64)) →
  (Op.eqFields (d+1) (concL r (xs.map (AV.int .i64))).toArray (concL r (ys.map (AV.int .i64))).toArray fs).run P w=.ok (decide (xs.drop k=ys.drop k)) w
 | [],k,hk,_=>by
  have h1:n≤k:=by
   have:=congrArg List.length hk
   simp at this; omega
  rw [List.drop_eq_nil_of_le (by omega),List.drop_eq_nil_of_le (by omega)]
  rfl
 | f :: fs,k,hk,hf=>by
  have h1:k<n:=by
   have:=congrArg List.length hk
   simp at this; omega
  rw [List.drop_eq_getElem_cons (by simpa using h1)] at hk
  simp only [List.map_cons,List.cons.injEq,List.getElem_range] at hk
  obtain ⟨ho,hk⟩:=hk
  obtain ⟨f1,f2⟩:=hf f (List.mem_cons_self ..)
  have hx':k<xs.length:=by omega
  have hy':k<ys.length:=by omega
  have px:(part f.type (concL r (xs.map (AV.int .i64))).toArray f.offset).run P w=.ok (conc r (.int .i64 xs[k])) w:=run_part1 f2 rfl (by rw [ho]; simp [hx'])
  have py:(part f.type (concL r (ys.map (AV.int .i64))).toArray f.offset).run P w=.ok (conc r (.int .i64 ys[k])) w:=run_part1 f2 rfl (by rw [ho]; simp [hy'])
  unfold Op.eqFields
  rw [if_pos f1,run_ok_bind px,run_ok_bind py]
  simp only [conc]
  rw [run_ok_bind (run_equalIn_int w d f.type .i64 .i64 _ _ f2)]
  have key:(xs.drop k=ys.drop k)↔(xs[k]=ys[k]∧xs.drop (k+1)=ys.drop (k+1)):=by
   rw [List.drop_eq_getElem_cons hx',List.drop_eq_getElem_cons hy',List.cons.injEq]
  by_cases e:xs[k]=ys[k]
  ·have e':(xs[k] == ys[k])=true:=by simpa using e
   rw [e']
   simp only [Bool.not_true,Bool.false_eq_true,if_false]
   rw [eqFields_ints hx hy fs (k+1) hk (fun g hg=>hf g (List.mem_cons_of_mem _ hg))]
   have:decide (xs.drop k=ys.drop k)=decide (xs.drop (k+1)=ys.drop (k+1)):=by
    rw [decide_eq_decide,key]; exact ⟨fun h=>h.2,fun h=>⟨e,h⟩⟩
   rw [this]
  ·have e':(xs[k] == ys[k])=false:=by simpa using e
   rw [e']
   simp only [Bool.not_false,if_true]
   have:decide (xs.drop k=ys.drop k)=false:=by
    rw [decide_eq_false_iff_not,key]; exact fun h=>e h.1
   rw [this]; rfl
theorem s_eqA (H:WR P w0 r h nx w) (ht:TR r tm a.tmps) {op:BinOp} {t u:TypeId} {n:Nat} {neg:Bool} {x y:Operand} {x' y':AX} (hE:EA P t n) (hop':op=.eql∧neg=false∨op=.neq∧neg=true) (hx:Cx x x') (hy:Cx y y') (hop:o.op=.binOp op t x y u) (hk:stepV (.eqA n neg x' y') tm h nx K):Yields P w0 r h w (execOp a.eval o) K:=by
 simp only [stepV,oEqA] at hk
 obtain ⟨v,h1,h2,h3⟩:=evK_spec hx ht hk
 obtain ⟨v',h1,h4,h5⟩:=evK_spec hy ht h1
 split at h1
 ·rename_i vs us
  obtain ⟨s,rfl,s2,h1⟩:=kiK_spec h1
  obtain ⟨s',rfl,s4,h1⟩:=kiK_spec h1
  obtain ⟨hn,h1⟩:=brec h1
  simp only [Bool.and_eq_true] at hn
  have n1:=Nat.eq_of_beq_eq_true hn.1
  have n2:=Nat.eq_of_beq_eq_true hn.2
  rw [forceB_iff] at h1
  obtain ⟨fs,hu,hst,hgd,hof,hfs⟩:=hE
  have hfo:P.fieldsOf t=fs:=by simp [Program.fieldsOf,hu]
  have heq:(Op.equalIn 10000 t (.agg (concL r (s.map (AV.int .i64))).toArray) (.agg (concL r (s'.map (AV.int .i64))).toArray)).run P w=.ok (decide (s=s')) w:=by
   rw [show (10000:Nat)=9999+1 from rfl,run_equalIn_struct w 9999 t _ _ (by rw [hfo]; exact hu) hst,hfo]
   have:=eqFields_ints (P:=P) (w:=w) (r:=r) (d:=9998) n1 n2 fs.toList 0 (by rw [hof]; rfl) hfs
   simpa using this
  have hb:eqIs s s'=decide (s=s'):=by
   cases e:eqIs s s' with
   | true=>rw [eqIs_iff.1 e]; simp
   | false =>
    have:s≠s':=fun q=>by rw [eqIs_iff.2 q] at e; cases e
    simp [this]
  simp only [execOp,hop]
  refine Yields.pureV H h1 ?_ (by simp [okV])
  rw [h2,h4]
  simp only [conc]
  rw [run_ok_bind (run_eqGuard_agg w op t x y _ _ hgd)]
  rcases hop' with ⟨rfl,rfl⟩ | ⟨rfl,rfl⟩
  ·rw [run_eql_struct,heq,hb]
   cases decide (s=s') <;> rfl
  ·rw [run_neq_struct,heq,hb]
   cases decide (s=s') <;> rfl
 ·exact h1.elim
theorem amongN_mem:∀ {ts:List Nat} {t:Nat},amongN ts t=true→t ∈ ts
 | a :: l,t,h=>by
  simp only [amongN,Bool.or_eq_true] at h
  rcases h with h | h
  ·rw [Nat.eq_of_beq_eq_true h]; exact List.mem_cons_self ..
  ·exact List.mem_cons_of_mem _ (amongN_mem h)
theorem s_ta (H:WR P w0 r h nx w) (ht:TR r tm a.tmps) {x:Operand} {xT t:TypeId} {ts:List Nat} {x':AX} (hts:∀ s ∈ ts,∀ (v:Value) (w:World),(Instr.typeAssert (.iface s v) xT t true).run P w=.ok (.tuple #[.iface s v,.bool true]) w) (hx:Cx x x') (hop:o.op=.typeAssert x xT t true) (hk:stepV (.ta ts x') tm h nx K):Yields P w0 r h w (execOp a.eval o) K:=by
 simp only [stepV,oTa] at hk
 obtain ⟨v,h1,h2,h3⟩:=evK_spec hx ht hk
 simp only [execOp,hop]
 split at h1
 ·obtain ⟨hb,h1⟩:=brec h1
  refine Yields.pureV H h1 ?_ (by simpa [okV,okL] using h3)
  rw [h2]
  simp only [conc,concL]
  exact hts _ (amongN_mem hb) _ w
 ·exact h1.elim
end
end Go.Proofs.YtidggaoacldgkaaGreatDoor.X
