/- An executor for closed calls, 12b: parts of arrays; maps by strings. -/
import Derived.Test.YtidggaoacldgkaaGreatDoorXL
import Derived.Laws.RangeString
namespace Go.Proofs.YtidggaoacldgkaaGreatDoor.X
open Go.RowKit
section
variable {P:Program} {w0:World} {r:Rho} {h:T AO} {nx:Pt} {w:World} {tm:S} {a:Act} {o:Oper} {K:AV→T AO→Pt→Prop}
theorem s_ix1 (H:WR P w0 r h nx w) (ht:TR r tm a.tmps) {t elem:TypeId} {l:Nat} {d:TypeDesc} {j:TypeInfo} {x i:Operand} {x' i':AX} (hu:P.underlying t=some (.array l elem)) (hd:P.underlying elem=some d) (ha:aggD d=false) (hj:P.info? elem=some j) (h1j:j.size=1) (hx:Cx x x') (hi:Cx i i') (hop:o.op=.index t x i) (hk:stepV (.ix1 l x' i') tm h nx K):Yields P w0 r h w (execOp a.eval o) K:=by
 simp only [stepV,oIx1] at hk
 obtain ⟨v,h1,h2,h3⟩:=evK_spec hx ht hk
 split at h1
 ·rename_i vs
  obtain ⟨u,h1,h4,h5⟩:=evK_spec hi ht h1
  obtain ⟨kd,m,rfl,hm,h1⟩:=atK_spec h1
  split at h1
  ·rename_i y hy
   simp only [okV] at h3
   simp only [execOp,hop]
   refine Yields.pureV H h1 ?_ (h3.get hy)
   unfold Instr.index
   rw [h4,h2]
   simp only [conc,asIntOf]
   rw [run_ok_bind (run_pure P _ w),run_ok_bind (run_underlying hu)]
   simp only []
   rw [if_pos (by constructor <;> simp; omega),run_ok_bind (run_sizeOf hj),h1j]
   refine run_part1 hd ha ?_
   simpa using hy
  ·exact h1.elim
 ·exact h1.elim
theorem bytes_eqN {s s':List Nat} (hs:∀ x ∈ s,x<256) (hs':∀ x ∈ s',x<256):(bytesOf s == bytesOf s')=eqN s s':=by
 have e:(bytesOf s == bytesOf s')=((bytesOf s).data == (bytesOf s').data):=rfl
 rw [eqN_spec hs hs',e,Bool.eq_iff_iff,beq_iff_eq,beq_iff_eq]
 constructor
 ·intro e
  have:=congrArg Array.toList e
  simpa [bytesOf] using this
 ·intro e
  unfold bytesOf
  rw [e]
def keyOk (es:List (AV × AV × Nat)):Prop:=∀ e ∈ es,∀ s,e.1=.str s→∀ x ∈ s,x<256
theorem lkE_spec {s:List Nat} (hs:∀ x ∈ s,x<256):∀ {es:List (AV × AV × Nat)} {c:Option AV→Prop} (i:Nat),keyOk es→lkE s es c →
  ∃ q:Option (Nat × AV),c (q.map Prod.snd)∧Instr.findNow .string (.string (bytesOf s)) (es.map (concE r)) i=some (q.map fun q=>(q.1,conc r q.2))∧∀ y,q=some y→∃ e ∈ es,e.2.1=y.2
 | [],c,i,_,hk=>⟨none,hk,rfl,fun y e=>by cases e⟩
 | e :: es,c,i,ho,hk=>by
  have hk:(match e.1 with
   | .str s'=>Bool.rec (motive:=fun _=>Prop) (lkE s es c) (c (some e.2.1)) (eqN s s')
   | _=>False):=hk
  split at hk
  ·rename_i s' hs'
   have hsm:Instr.sameNow .string (.string (bytesOf s)) (concE r e).key=some (eqN s s'):=by
    simp only [concE,hs',conc,Instr.sameNow,bytes_eqN hs (ho e (List.mem_cons_self ..) s' hs')]
   cases hb:eqN s s' with
   | true =>
    rw [hb] at hk hsm
    refine ⟨some (i,e.2.1),hk,?_,fun y hy=>⟨e,List.mem_cons_self ..,by cases hy; rfl⟩⟩
    rw [List.map_cons,Instr.findNow,hsm]; rfl
   | false =>
    rw [hb] at hk hsm
    obtain ⟨q,h1,h2,h3⟩:=lkE_spec hs (i+1) (fun e he=>ho e (List.mem_cons_of_mem _ he)) hk
    refine ⟨q,h1,?_,fun y hy=>?_⟩
    ·rw [List.map_cons,Instr.findNow,hsm]; exact h2
    ·obtain ⟨e',he,h4⟩:=h3 y hy
     exact ⟨e',List.mem_cons_of_mem _ he,h4⟩
  ·exact hk.elim
theorem run_checkKey {b:Bool} {key:TypeId} {s:ByteArray} (hk:P.underlying key=some .string):(Instr.checkKey b 10000 key (.string s)).run P w=.ok () w:=by
 have:(10000:Nat)=9999+1:=rfl
 rw [this,Instr.checkKey,run_ok_bind (run_underlying hk)]
 rfl
theorem run_findKey {key:TypeId} {k:Value} {es:List MapEntry} {q:Option (Nat × Value)} (hk:P.underlying key=some .string) (hf:Instr.findNow .string k es 0=some q):(Instr.findKey key k es).run P w=.ok q w:=by
 rw [Instr.findKey,run_ok_bind (run_underlying hk),hf]; rfl
theorem eqN_eqL:∀ {a b:List Nat},eqN a b=true→a=b
 | [],[],_=>rfl
 | [],_ :: _,h=>by cases h
 | _ :: _,[],h=>by cases h
 | x :: a,y :: b,h=>by
  simp only [eqN,Bool.and_eq_true] at h
  rw [Nat.eq_of_beq_eq_true h.1,eqN_eqL h.2]
theorem eqN_self:∀ a:List Nat,eqN a a=true
 | []=>rfl
 | x :: a=>by simp [eqN,eqN_self a]
def look (s:List Nat):List (AV × AV × Nat)→Option AV
 | []=>none
 | e :: l=>match e.1 with
  | .str s'=>bif eqN s s' then some e.2.1 else look s l
  | _=>none
theorem lkE_iff {s:List Nat} {c:Option AV→Prop}:∀ {es:List (AV × AV × Nat)},(∀ e ∈ es,∃ s,e.1=.str s)→(lkE s es c↔c (look s es))
 | [],_=>Iff.rfl
 | e :: l,h=>by
  obtain ⟨s',hs'⟩:=h e (List.mem_cons_self ..)
  have ih:=lkE_iff (s:=s) (c:=c) (es:=l) fun e he=>h e (List.mem_cons_of_mem _ he)
  show (match e.1 with
   | .str s'=>Bool.rec (motive:=fun _=>Prop) (lkE s l c) (c (some e.2.1)) (eqN s s')
   | _=>False)↔_
  simp only [look,hs']
  cases eqN s s' with
  | true=>exact Iff.rfl
  | false=>exact ih
theorem look_mem {s:List Nat} {v:AV}:∀ {es:List (AV × AV × Nat)},(∀ e ∈ es,∃ s,e.1=.str s)→(es.map Prod.fst).Nodup→(look s es=some v↔(.str s,v) ∈ es.map KV)
 | [],_,_=>by simp [look]
 | e :: l,h,hn=>by
  obtain ⟨s',hs'⟩:=h e (List.mem_cons_self ..)
  simp only [List.map_cons,List.nodup_cons] at hn
  have ih:=look_mem (s:=s) (v:=v) (es:=l) (fun e he=>h e (List.mem_cons_of_mem _ he)) hn.2
  simp only [look,hs',List.map_cons,List.mem_cons]
  cases hb:eqN s s' with
  | true =>
   have hss:=eqN_eqL hb
   subst hss
   simp only [cond_true,Option.some.injEq]
   constructor
   ·rintro rfl; exact .inl (by simp [KV,hs'])
   ·rintro (h1 | h1)
    ·simp only [KV,Prod.mk.injEq] at h1; exact h1.2.symm
    ·obtain ⟨e',he',h2⟩:=List.mem_map.1 h1
     simp only [KV,Prod.mk.injEq] at h2
     exact absurd (List.mem_map.2 ⟨e',he',by rw [h2.1,hs']⟩) hn.1
  | false =>
   simp only [cond_false,ih]
   constructor
   ·exact .inr
   ·rintro (h1 | h1)
    ·simp only [KV,Prod.mk.injEq,hs',AV.str.injEq] at h1
     rw [h1.1,eqN_self] at hb; cases hb
    ·exact h1
theorem MapS.keys {es es':List (AV × AV × Nat)} (M:MapS es es'):(es'.map Prod.fst).Nodup∧∀ e ∈ es',∃ s,e.1=.str s:=by
 refine ⟨?_,fun e he=>?_⟩
 ·have h1:(es.map KV).map Prod.fst=es.map Prod.fst:=by simp [KV,Function.comp_def]
  have h2:(es'.map KV).map Prod.fst=es'.map Prod.fst:=by simp [KV,Function.comp_def]
  rw [← h2]
  refine (M.perm.map Prod.fst).nodup ?_
  rw [h1]; exact M.nodup
 ·obtain ⟨e',he',h1,-⟩:=M.mem he
  obtain ⟨s,hs⟩:=M.str e' he'
  exact ⟨s,by rw [← h1]; exact hs⟩
theorem MapS.look {es es':List (AV × AV × Nat)} (M:MapS es es') (s:List Nat):look s es'=look s es:=by
 obtain ⟨k1,k2⟩:=M.keys
 apply Option.ext
 intro v
 rw [look_mem k2 k1,look_mem M.str M.nodup,M.perm.mem_iff]
def upd (s:List Nat) (v:AV):List (AV × AV × Nat)→Option (List (AV × AV × Nat))
 | []=>none
 | e :: l=>match e.1 with
  | .str s'=>bif eqN s s' then some ((.str s,v,e.2.2) :: l) else match upd s v l with
   | some r=>some (e :: r)
   | none=>none
  | _=>none
theorem upE_iff {s:List Nat} {v:AV}:∀ {es:List (AV × AV × Nat)} {c:Option (List (AV × AV × Nat))→Prop},(∀ e ∈ es,∃ s,e.1=.str s)→(upE s v es c↔c (upd s v es))
 | [],_,_=>Iff.rfl
 | e :: l,c,h=>by
  obtain ⟨s',hs'⟩:=h e (List.mem_cons_self ..)
  have ih:=upE_iff (s:=s) (v:=v) (es:=l) (c:=fun r=>match r with
    | some r=>c (some (e :: r))
    | none=>c none) fun e he=>h e (List.mem_cons_of_mem _ he)
  show (match e.1 with
   | .str s'=>Bool.rec (motive:=fun _=>Prop) (upE s v l fun r=>match r with
    | some r=>c (some (e :: r))
    | none=>c none) (c (some ((.str s,v,e.2.2) :: l))) (eqN s s')
   | _=>False)↔_
  simp only [upd,hs']
  cases eqN s s' with
  | true=>exact Iff.rfl
  | false =>
   refine ih.trans ?_
   simp only [cond_false]
   cases upd s v l <;> exact Iff.rfl
theorem upd_none {s:List Nat} {v:AV}:∀ {es:List (AV × AV × Nat)},(∀ e ∈ es,∃ s,e.1=.str s)→(upd s v es=none↔look s es=none)
 | [],_=>by simp [upd,look]
 | e :: l,h=>by
  obtain ⟨s',hs'⟩:=h e (List.mem_cons_self ..)
  have ih:=upd_none (s:=s) (v:=v) (es:=l) fun e he=>h e (List.mem_cons_of_mem _ he)
  simp only [upd,look,hs']
  cases eqN s s' with
  | true=>simp
  | false =>
   simp only [cond_false]
   rw [← ih]
   cases upd s v l <;> simp
def subS (s:List Nat) (v:AV) (x:AV × AV):AV × AV:=match x.1 with
 | .str s'=>bif eqN s s' then (.str s,v) else x
 | _=>x
theorem upd_births {s:List Nat} {v:AV}:∀ {es es1:List (AV × AV × Nat)},upd s v es=some es1→es1.map (·.2.2)=es.map (·.2.2)
 | [],es1,h=>by simp [upd] at h
 | e :: l,es1,h=>by
  simp only [upd] at h
  split at h
  ·rename_i s' hs'
   cases hb:eqN s s' with
   | true =>
    rw [hb] at h
    simp only [cond_true,Option.some.injEq] at h
    subst h
    simp
   | false =>
    rw [hb] at h
    simp only [cond_false] at h
    split at h
    ·rename_i r hr
     simp only [Option.some.injEq] at h
     subst h
     simp [upd_births hr]
    ·cases h
  ·cases h
theorem upd_some {s:List Nat} {v:AV}:∀ {es es1:List (AV × AV × Nat)},(∀ e ∈ es,∃ s,e.1=.str s)→(es.map Prod.fst).Nodup→upd s v es=some es1→es1.map KV=(es.map KV).map (subS s v)∧es1.map Prod.fst=es.map Prod.fst
 | [],es1,_,_,h=>by simp [upd] at h
 | e :: l,es1,h,hn,hu=>by
  obtain ⟨s',hs'⟩:=h e (List.mem_cons_self ..)
  simp only [List.map_cons,List.nodup_cons] at hn
  simp only [upd,hs'] at hu
  cases hb:eqN s s' with
  | true =>
   rw [hb] at hu
   simp only [cond_true,Option.some.injEq] at hu
   have hss:=eqN_eqL hb
   subst hss
   subst hu
   refine ⟨?_,by simp [hs']⟩
   simp only [List.map_cons,KV,subS,hs',eqN_self,cond_true,List.cons.injEq,true_and]
   have:∀ x ∈ l.map KV,subS s v x=x:=fun x hx=>by
    obtain ⟨e',he',rfl⟩:=List.mem_map.1 hx
    obtain ⟨s1,hs1⟩:=h e' (List.mem_cons_of_mem _ he')
    simp only [subS,KV,hs1]
    cases hb':eqN s s1 with
    | false=>rfl
    | true=>exact absurd (List.mem_map.2 ⟨e',he',by rw [hs1,hs',eqN_eqL hb']⟩) hn.1
   have h2:=List.map_congr_left this
   simp only [List.map_id'] at h2
   exact h2.symm
  | false =>
   rw [hb] at hu
   simp only [cond_false] at hu
   split at hu
   ·rename_i r hr
    simp only [Option.some.injEq] at hu
    subst hu
    obtain ⟨g1,g2⟩:=upd_some (fun e he=>h e (List.mem_cons_of_mem _ he)) hn.2 hr
    refine ⟨?_,by simp [g2]⟩
    simp only [List.map_cons,g1,List.cons.injEq,and_true]
    simp only [subS,KV,hs',hb,cond_false]
   ·cases hu
theorem s_lk (H:WR P w0 r h nx w) (ht:TR r tm a.tmps) {t key elem:TypeId} {j:TypeInfo} {z:Value} {zv:AV} {ok:Bool} {x k:Operand} {x' k':AX} (hu:P.underlying t=some (.map key elem)) (hkey:P.underlying key=some .string) (hj:P.info? elem=some j) (hz:j.zero=some z) (hl:Lone zv z) (hx:Cx x x') (hi:Cx k k') (hop:o.op=.lookup t x k ok) (hk:stepV (.lk zv ok x' k') tm h nx K):Yields P w0 r h w (execOp a.eval o) K:=by
 simp only [stepV,oLk] at hk
 obtain ⟨kv,h1,g2,g3⟩:=evK_spec hi ht hk
 split at h1
 ·rename_i s
  simp only [okV] at g3
  obtain ⟨v,h1,h2,h3⟩:=evK_spec hx ht h1
  have tail:∀ {q:Option (Nat × AV)} (M:Sem Value),(lkR zv ok (q.map Prod.snd) fun v=>K v h nx)→(∀ y,q=some y→okV r.has y.2)→M.run P w=(.ok (if ok then .tuple #[conc r ((q.map Prod.snd).getD zv),.bool q.isSome] else conc r ((q.map Prod.snd).getD zv)) w)→o.op=.lookup t x k ok→Instr.lookup t (a.eval x) (a.eval k) ok=M→Yields P w0 r h w (execOp a.eval o) K:=by
   intro q M hR hq hM _ hE
   simp only [execOp,hop]
   cases q with
   | none =>
    cases ok with
    | true=>exact Yields.pureV (v:=.tup [zv,.bool false]) H hR (by rw [hE,hM]; simp [conc,concL]) (by simp only [okV,okL]; exact ⟨hl.2 _,trivial,trivial⟩)
    | false=>exact Yields.pureV (v:=zv) H hR (by rw [hE,hM]; simp) (hl.2 _)
   | some y =>
    cases ok with
    | true=>exact Yields.pureV (v:=.tup [y.2,.bool true]) H hR (by rw [hE,hM]; simp [conc,concL]) (by simp only [okV,okL]; exact ⟨hq y rfl,trivial,trivial⟩)
    | false=>exact Yields.pureV (v:=y.2) H hR (by rw [hE,hM]; simp) (hq y rfl)
  split at h1
  ·refine tail (q:=none) _ h1 (fun y e=>by cases e) ?_ hop rfl
   unfold Instr.lookup
   rw [g2,h2,run_ok_bind (run_underlying hu)]
   simp only [conc]
   rw [run_ok_bind (run_pure P _ w),run_ok_bind (run_checkKey hkey),run_ok_bind (run_findKey hkey (q:=none) rfl)]
   simp only []
   rw [run_ok_bind (run_zeroValue hj hz),run_ok_bind (run_pure P _ w)]
   simp [hl.1]
  ·rename_i m
   obtain ⟨b,hb,h1⟩:=(T.getK_iff _ _ _).1 h1
   split at h1
   ·rename_i es clock
    obtain ⟨-,-,ho,hb'⟩:=H.has m _ hb
    have ho:∀ e ∈ es,okV r.has e.1∧okV r.has e.2.1:=ho
    obtain ⟨es',c',hb',M,-⟩:=hb'
    have ho:∀ e ∈ es',okV r.has e.1∧okV r.has e.2.1:=fun e he=>by
     obtain ⟨e',he',q1,q2⟩:=M.mem he
     rw [← q1,← q2]; exact ho e' he'
    have h1:=(lkE_iff M.str).1 h1
    rw [← M.look s] at h1
    have h1:=(lkE_iff (c:=fun v=>lkR zv ok v fun v=>K v h nx) M.keys.2).2 h1
    obtain ⟨q,c1,c2,c3⟩:=lkE_spec (r:=r) g3 0 (fun e he s' hs'=>by have:=(ho e he).1; rw [hs'] at this; simpa only [okV] using this) h1
    refine tail (q:=q) _ c1 (fun y hy=>?_) ?_ hop rfl
    ·obtain ⟨e,he,e2⟩:=c3 y hy
     rw [← e2]; exact (ho e he).2
    ·unfold Instr.lookup
     rw [g2,h2,run_ok_bind (run_underlying hu)]
     simp only [conc]
     show Sem.run P (getObj (r.blk m) >>= _) w=_
     rw [run_getObj hb' (by simp)]
     simp only []
     rw [run_ok_bind (run_pure P _ w),run_ok_bind (run_checkKey hkey),run_ok_bind (run_findKey hkey c2)]
     cases q with
     | none =>
      simp only [Option.map_none]
      rw [run_ok_bind (run_zeroValue hj hz),run_ok_bind (run_pure P _ w)]
      simp [hl.1]
     | some y =>
      simp only [Option.map_some]
      rw [run_ok_bind (run_pure P _ w)]
      simp
   ·exact h1.elim
  ·exact h1.elim
 ·exact h1.elim
theorem upE_spec {s:List Nat} {v:AV} (hs:∀ x ∈ s,x<256):∀ {es:List (AV × AV × Nat)} {c:Option (List (AV × AV × Nat))→Prop} (i:Nat),keyOk es→upE s v es c →
  (c none∧Instr.findNow .string (.string (bytesOf s)) (es.map (concE r)) i=some none) ∨
  ∃ es' n u,c (some es')∧Instr.findNow .string (.string (bytesOf s)) (es.map (concE r)) i=some (some (i+n,u))∧n<es.length∧((es.map (concE r))[n]?.map (·.key))=some (.string (bytesOf s)) ∧
   es'.map (concE r)=(es.map (concE r)).modify n (fun e=>{ e with key:=.string (bytesOf s),val:=conc r v })∧∀ e ∈ es',e ∈ es∨e.1=.str s∧e.2.1=v
 | [],c,i,_,hk=>.inl ⟨hk,rfl⟩
 | e :: es,c,i,ho,hk=>by
  have hk:(match e.1 with
   | .str s'=>Bool.rec (motive:=fun _=>Prop) (upE s v es fun r=>match r with
    | some r=>c (some (e :: r))
    | none=>c none) (c (some ((.str s,v,e.2.2) :: es))) (eqN s s')
   | _=>False):=hk
  split at hk
  ·rename_i s' hs'
   have hbe:=bytes_eqN hs (ho e (List.mem_cons_self ..) s' hs')
   have hsm:Instr.sameNow .string (.string (bytesOf s)) (concE r e).key=some (eqN s s'):=by
    simp only [concE,hs',conc,Instr.sameNow,hbe]
   cases hb:eqN s s' with
   | true =>
    rw [hb] at hk hsm
    have hss:bytesOf s=bytesOf s':=by
     rw [eqN_spec hs (ho e (List.mem_cons_self ..) s' hs'),beq_iff_eq] at hb
     unfold bytesOf; rw [hb]
    refine .inr ⟨_,0,conc r e.2.1,hk,?_,by simp,?_,?_,fun y hy=>?_⟩
    ·rw [List.map_cons,Instr.findNow,hsm]; rfl
    ·simp [concE,hs',conc,hss]
    ·simp [concE,conc]
    ·rcases List.mem_cons.1 hy with rfl | hy
     ·exact .inr ⟨rfl,rfl⟩
     ·exact .inl (List.mem_cons_of_mem _ hy)
   | false =>
    rw [hb] at hk hsm
    rcases upE_spec hs (i+1) (fun e he=>ho e (List.mem_cons_of_mem _ he)) hk with ⟨h1,h2⟩ | ⟨es',n,u,h1,h2,h3,h4,h5,h6⟩
    ·refine .inl ⟨h1,?_⟩
     rw [List.map_cons,Instr.findNow,hsm]; exact h2
    ·refine .inr ⟨e :: es',n+1,u,h1,?_,by simp; omega,?_,?_,fun y hy=>?_⟩
     ·rw [List.map_cons,Instr.findNow,hsm,show i+(n+1)=i+1+n by omega]; exact h2
     ·simpa using h4
     ·simp [h5]
     ·rcases List.mem_cons.1 hy with rfl | hy
      ·exact .inl (List.mem_cons_self ..)
      ·exact (h6 y hy).imp (List.mem_cons_of_mem _) id
  ·exact hk.elim
theorem run_setMap {b:Nat} {es:Array MapEntry} {n:Nat} {x:Obj} (hb:w.heap[b]?=some (.map es n)):(setObj b x).run P w=.ok () { w with heap:=w.heap.setIfInBounds b x }:=by
 unfold setObj
 simp only [Sem.run,hb]
theorem run_stays {s:ByteArray}:(Instr.keyThatStays (.string s) (.string s)).run P w=.ok (.string s) w:=by
 unfold Instr.keyThatStays
 have:Instr.sameBits 10000 (.string s) (.string s)=true:=by
  have:(10000:Nat)=9999+1:=rfl
  rw [this,Instr.sameBits]
  show (s.data == s.data)=true
  simp
 rw [if_pos this]; rfl
theorem s_up (H:WR P w0 r h nx w) (ht:TR r tm a.tmps) {t key elem:TypeId} {x k v:Operand} {x' k' v':AX} (hu:P.underlying t=some (.map key elem)) (hkey:P.underlying key=some .string) (hx:Cx x x') (hi:Cx k k') (hv:Cx v v') (hop:o.op=.mapUpdate t x k v∨o.op=.insert t x k v) (hk:stepV (.up x' k' v') tm h nx K):Yields P w0 r h w (execOp a.eval o) K:=by
 simp only [stepV,oUp] at hk
 have hex:execOp a.eval o=(do Instr.mapUpdate t (a.eval x) (a.eval k) (a.eval v); pure Next.skip:Sem Next):=by rcases hop with hop | hop <;> simp only [execOp,hop]
 obtain ⟨kv,h1,g2,g3⟩:=evK_spec hi ht hk
 split at h1
 ·rename_i s
  have g3':=g3
  simp only [okV] at g3
  obtain ⟨xv,h1,h2,h3⟩:=evK_spec hx ht h1
  split at h1
  ·rename_i m
   obtain ⟨vv,h1,e2,e3⟩:=evK_spec hv ht h1
   obtain ⟨b,hb,h1⟩:=(T.getK_iff _ _ _).1 h1
   split at h1
   ·rename_i es clock
    obtain ⟨-,-,ho,hb'⟩:=H.has m _ hb
    have ho:∀ e ∈ es,okV r.has e.1∧okV r.has e.2.1:=ho
    obtain ⟨es',c',hb',M,Bi⟩:=hb'
    have ho':∀ e ∈ es',okV r.has e.1∧okV r.has e.2.1:=fun e he=>by
     obtain ⟨e',he',q1,q2⟩:=M.mem he
     rw [← q1,← q2]; exact ho e' he'
    have hko:keyOk es':=fun e he s' hs'=>by have:=(ho' e he).1; rw [hs'] at this; simpa only [okV] using this
    rw [hex]
    rw [upE_iff M.str] at h1
    cases hu1:upd s vv es with
    | none =>
     rw [hu1] at h1
     have hl:=(upd_none M.str).1 hu1
     have hu2:upd s vv es'=none:=(upd_none M.keys.2).2 ((M.look s).trans hl)
     rcases upE_spec (r:=r) g3 0 hko ((upE_iff M.keys.2 (c:=fun r=>r=none)).2 hu2) with ⟨-,c2⟩ | ⟨es1,n,u,c1,-⟩
     ·simp only [forceL_iff,forceN_iff,T.setK_iff] at h1
      have hnm:AV.str s ∉ es.map Prod.fst:=fun hm=>by
       obtain ⟨e,he,q⟩:=List.mem_map.1 hm
       have:=(look_mem M.str M.nodup (s:=s) (v:=e.2.1)).2 (List.mem_map.2 ⟨e,he,by simp [KV,q]⟩)
       rw [hl] at this; cases this
      obtain ⟨W,E⟩:=H.write hb (.map (es ++ [(AV.str s,vv,clock)]) (clock+1)) (.map ((es' ++ [(AV.str s,vv,c')]).map (concE r)).toArray (c'+1)) (fun e he=>by
       rcases List.mem_append.1 he with he | he
       ·exact ho e he
       ·rw [List.mem_singleton.1 he]; exact ⟨g3',e3⟩) ⟨_,_,rfl,⟨by rw [List.map_append,List.map_append]; exact M.perm.append_right _,by
        rw [List.map_append,List.nodup_append]
        exact ⟨M.nodup,by simp,fun x hx y hy e=>hnm (by simp at hy; rw [← hy,← e]; exact hx)⟩,fun e he=>by
        rcases List.mem_append.1 he with he | he
        ·exact M.str e he
        ·rw [List.mem_singleton.1 he]; exact ⟨s,rfl⟩⟩,by
        rw [List.map_append,List.nodup_append]
        refine ⟨Bi.1,by simp,fun x hx y hy e=>?_⟩
        obtain ⟨e1,he1,q⟩:=List.mem_map.1 hx
        have:=Bi.2 e1 he1
        simp at hy
        omega,fun e he=>by
        rcases List.mem_append.1 he with he | he
        ·exact Nat.lt_succ_of_lt (Bi.2 e he)
        ·rw [List.mem_singleton.1 he]; exact Nat.lt_succ_self _⟩
      refine ⟨r,_,nx,_,.tup [],.skip,h1,run_skip ?_,.inr ⟨rfl,by simp [conc,concL,undef]⟩,W,E,by simp [okV,okL]⟩
      unfold Instr.mapUpdate
      rw [g2,h2,e2,run_ok_bind (run_underlying hu)]
      simp only [conc]
      show Sem.run P (getObj (r.blk m) >>= _) w=_
      rw [run_getObj hb' (by simp)]
      simp only []
      rw [run_ok_bind (run_checkKey hkey),run_ok_bind (run_findKey hkey c2)]
      simp only []
      rw [run_setMap hb']
      simp [concE,conc]
     ·cases c1
    | some es1 =>
     rw [hu1] at h1
     obtain ⟨q1,q2⟩:=upd_some M.str M.nodup hu1
     have hl:upd s vv es'≠none:=fun e=>by
      have:=(upd_none (v:=vv) M.str).2 ((M.look s).symm.trans ((upd_none M.keys.2).1 e))
      rw [hu1] at this; cases this
     obtain ⟨es2,hu2⟩:∃ es2,upd s vv es'=some es2:=by
      cases hh:upd s vv es' with
      | none=>exact absurd hh hl
      | some x=>exact ⟨x,rfl⟩
     obtain ⟨q3,q4⟩:=upd_some M.keys.2 M.keys.1 hu2
     rcases upE_spec (r:=r) g3 0 hko ((upE_iff M.keys.2 (c:=fun r=>r=some es2)).2 hu2) with ⟨c1,-⟩ | ⟨es3,n,u,c1,c2,c3,c4,c5,c6⟩
     ·cases c1
     cases c1
     simp only [T.setK_iff] at h1
     have M':MapS es1 es2:=⟨by rw [q1,q3]; exact M.perm.map _,by rw [q2]; exact M.nodup,fun e he=>by
      have:e.1 ∈ es.map Prod.fst:=by rw [← q2]; exact List.mem_map.2 ⟨e,he,rfl⟩
      obtain ⟨e',he',q⟩:=List.mem_map.1 this
      obtain ⟨s1,hs1⟩:=M.str e' he'
      exact ⟨s1,by rw [← q]; exact hs1⟩⟩
     obtain ⟨W,E⟩:=H.write hb (.map es1 clock) (.map (es2.map (concE r)).toArray c') (fun e he=>by
      have:KV e ∈ es2.map KV:=M'.perm.mem_iff.1 (List.mem_map.2 ⟨e,he,rfl⟩)
      obtain ⟨e',he',q⟩:=List.mem_map.1 this
      simp only [KV,Prod.mk.injEq] at q
      rw [← q.1,← q.2]
      rcases c6 e' he' with he | ⟨w1,w2⟩
      ·exact ho' e' he
      ·rw [w1,w2]; exact ⟨g3',e3⟩) ⟨_,_,rfl,M',by rw [upd_births hu2]; exact Bi.1,fun e he=>by
      have:e.2.2 ∈ es'.map (·.2.2):=by rw [← upd_births hu2]; exact List.mem_map.2 ⟨e,he,rfl⟩
      obtain ⟨e',he',q⟩:=List.mem_map.1 this
      rw [← q]; exact Bi.2 e' he'⟩
     refine ⟨r,_,nx,_,.tup [],.skip,h1,run_skip ?_,.inr ⟨rfl,by simp [conc,concL,undef]⟩,W,E,by simp [okV,okL]⟩
     unfold Instr.mapUpdate
     rw [g2,h2,e2,run_ok_bind (run_underlying hu)]
     simp only [conc]
     show Sem.run P (getObj (r.blk m) >>= _) w=_
     rw [run_getObj hb' (by simp)]
     simp only []
     rw [run_ok_bind (run_checkKey hkey),run_ok_bind (run_findKey hkey c2)]
     simp only [Nat.zero_add]
     have hkk:(((es'.map (concE r)).toArray[n]?.map (·.key)).getD (.string (bytesOf s)))=.string (bytesOf s):=by
      rw [List.getElem?_toArray,c4]; rfl
     rw [hkk,run_ok_bind run_stays,run_setMap hb']
     rw [c5]
     simp
   ·exact h1.elim
  ·exact h1.elim
 ·exact h1.elim
theorem s_cvB (H:WR P w0 r h nx w) (ht:TR r tm a.tmps) {src dst e:TypeId} {d:TypeDesc} {j:TypeInfo} {x:Operand} {x':AX} (hs:P.underlying src=some d) (hd:P.underlying dst=some (.slice e)) (he:P.underlying e=some (.int .u8)) (hj:P.info? e=some j) (h1j:j.size=1) (hx:Cx x x') (hop:o.op=.convert src dst x) (hk:stepV (.cvB e x') tm h nx K):Yields P w0 r h w (execOp a.eval o) K:=by
 simp only [stepV,oCvB] at hk
 obtain ⟨v,h1,h2,h3⟩:=evK_spec hx ht hk
 split at h1
 ·rename_i s
  simp only [okV] at h3
  rw [forceL_iff,T.setK_iff,succK_iff,forceN_iff] at h1
  let ex:=w.tape w.drawn (.appendCap (bytesOf s).size 0 e) % (2 ^ 63 - (bytesOf s).size)
  have hle:=Rho.le_more H.fresh w.heap.size ex
  have hu8:((bytesOf s).data.map fun b=>Value.int .u8 b.toNat).toList=concL r (s.map fun b=>AV.int .u8 (.ofNat b)):=by
   simp only [concL_map,List.map_map,bytesOf]
   simp only [List.map_toArray,List.map_map]
   refine List.map_congr_left fun b hb=>?_
   simp only [Function.comp,conc,UInt8.toNat_ofNat']
   rw [Nat.mod_eq_of_lt (by have:=h3 b hb; simpa using this)]
   rfl
  let c:=concL r (s.map fun b=>AV.int .u8 (.ofNat b)) ++ List.replicate ex (Value.int .u8 0)
  have hok:okL r.has (s.map fun b=>AV.int .u8 (.ofNat b)):=okL_u8 s
  obtain ⟨g1,g2⟩:=(H.drew (w.drawn+1)).alloc (.frz (s.map fun b=>AV.int .u8 (.ofNat b)) e) ex (.cells c.toArray e (c.length,c.length+1)) (okL.mono hle.has hok)
   ⟨List.replicate ex (Value.int .u8 0),(c.length,c.length+1),by rw [concL_le hle hok],by
    show _=(r.more nx w.heap.size ex).ext nx*_
    rw [r.more_ext,sizeT_of hj,h1j]; simp,fun i hi hz=>by
    have h1:c.length=(s.map fun b=>AV.int .u8 (.ofNat b)).length+(List.replicate ex (Value.int .u8 0)).length:=by simp only [c]; rw [List.length_append,concL_length]
    have h2:c.length≤i:=hz.1
    omega⟩
  simp only [execOp,hop]
  refine ⟨_,_,_,_,.sl nx 0 s.length s.length true,_,h1,run_value ?_,.inl rfl,g1,(Ev.drew _).trans g2,Or.inl rfl⟩
  unfold convert
  rw [run_ok_bind (run_underlying hs),run_ok_bind (run_underlying hd),h2]
  simp only [conc]
  show Sem.run P (underlying e >>= _) w=_
  rw [run_ok_bind (run_underlying he)]
  simp only []
  unfold Conv.stringToBytes
  show Sem.run P (Sem.choose (.appendCap (bytesOf s).size 0 e) fun n=>_) w=_
  rw [show ∀ (k:Nat→Sem Value),Sem.run P (Sem.choose (.appendCap (bytesOf s).size 0 e) k) w=(k ((bytesOf s).size+ex)).run P { w with drawn:=w.drawn+1 } from fun _=>rfl]
  have hc:(bytesOf s).data.map (fun b=>Value.int .u8 b.toNat) ++ Array.replicate ex (Value.int .u8 0)=c.toArray:=by
   apply Array.ext'
   rw [Array.toList_append,hu8]
   simp [c]
  show Sem.run P (newRow e ((bytesOf s).data.map (fun b=>Value.int .u8 b.toNat) ++ Array.replicate ((bytesOf s).size+ex - (bytesOf s).size) (Value.int .u8 0)) >>= fun a=>_) _=_
  rw [Nat.add_sub_cancel_left,hc,run_ok_bind (show (newRow e c.toArray).run P { w with drawn:=w.drawn+1 }=.ok ⟨w.heap.size,0,none⟩ { w with drawn:=w.drawn+1,heap:=w.heap.push (.cells c.toArray e (0,0)) } from rfl)]
  have hm:(markStringish ⟨w.heap.size,0,none⟩).run P { w with drawn:=w.drawn+1,heap:=w.heap.push (.cells c.toArray e (0,0)) }=.ok () { w with drawn:=w.drawn+1,heap:=w.heap.push (.cells c.toArray e (c.length,c.length+1)) }:=by
   unfold markStringish
   have S:∀ {α:Type} (w:World) (x:Nat) (f:Option (TypeId × Nat)→Sem α),(shape x >>= f).run P w=(f (w.shape? x)).run P w:=fun _ _ _=>rfl
   rw [S]
   simp only [World.shape?,Array.getElem?_push_size]
   show Result.ok () (World.freeze _ _ 1)=_
   congr 1
   unfold World.freeze
   rw [if_neg (by decide)]
   congr 1
   apply Array.ext_getElem?
   intro i
   rw [Array.getElem?_modify]
   by_cases hi:w.heap.size=i
   ·subst hi; simp
   ·rw [if_neg hi]
    rw [Array.getElem?_push,Array.getElem?_push,if_neg (fun e=>hi e.symm),if_neg (fun e=>hi e.symm)]
  rw [run_ok_bind hm]
  simp only [run_pure,bytes_size,r.more_blk,r.more_ext,if_true]
 ·exact h1.elim
theorem bsK_spec:∀ {l:List AV} {c:List Nat→Prop},bsK l c→∃ ns,c ns∧l=ns.map (fun b=>AV.int .u8 (.ofNat b))∧∀ b ∈ ns,b<256
 | [],c,hk=>⟨[],hk,rfl,fun b hb=>by cases hb⟩
 | v :: l,c,hk0=>by
  have hk:(match (generalizing:=false) v with
   | .int .u8 (.ofNat b)=>Bool.rec (motive:=fun _=>Prop) False (bsK l fun s=>c (b :: s)) (Nat.blt b 256)
   | _=>False):=hk0
  clear hk0
  split at hk
  ·rename_i b
   obtain ⟨hb,hk⟩:=brec hk
   obtain ⟨ns,h1,h2,h3⟩:=bsK_spec hk
   refine ⟨b :: ns,h1,by rw [h2]; rfl,fun x hx=>?_⟩
   rcases List.mem_cons.1 hx with rfl | hx
   ·simpa using hb
   ·exact h3 x hx
  ·exact hk.elim
theorem run_forIn {f:Value→ByteArray→Sem (ForInStep ByteArray)} (hf:∀ (b:Nat) (s:ByteArray),f (.int .u8 (Int.ofNat b)) s=pure (.yield (s.push (UInt8.ofNat b)))):∀ (ns:List Nat) (acc:ByteArray),(forIn (ns.map fun b=>Value.int .u8 (Int.ofNat b)) acc f).run P w=.ok ⟨acc.data ++ (ns.map UInt8.ofNat).toArray⟩ w
 | [],acc=>by
  simp
 | b :: ns,acc=>by
  rw [List.map_cons,List.forIn_cons,hf,run_ok_bind (run_pure P _ w)]
  simp only []
  rw [run_forIn hf ns]
  congr 1
  apply ByteArray.ext
  simp [ByteArray.push]
theorem s_cvT (H:WR P w0 r h nx w) (ht:TR r tm a.tmps) {src dst e:TypeId} {x:Operand} {x':AX} (hs:P.underlying src=some (.slice e)) (he:P.underlying e=some (.int .u8)) (hd:P.underlying dst=some .string) (hx:Cx x x') (hop:o.op=.convert src dst x) (hk:stepV (.cvT x') tm h nx K):Yields P w0 r h w (execOp a.eval o) K:=by
 simp only [stepV,oCvT] at hk
 obtain ⟨v,h1,h2,h3⟩:=evK_spec hx ht hk
 simp only [execOp,hop]
 split at h1
 ·refine Yields.pureV H h1 ?_ (by simp [okV])
  unfold convert
  rw [run_ok_bind (run_underlying hs),run_ok_bind (run_underlying hd),h2]
  simp only [conc]
  rw [run_ok_bind (run_underlying he)]
  rfl
 ·rename_i k q l c op
  obtain ⟨b,hb,h1⟩:=(T.getK_iff _ _ _).1 h1
  split at h1
  ·rename_i vs e1
   obtain ⟨hle,h1⟩:=brec h1
   have hle:=Nat.le_of_ble_eq_true hle
   obtain ⟨ns,g1,g2,g3⟩:=bsK_spec h1
   refine Yields.pureV H g1 ?_ (by simp only [okV]; exact g3)
   unfold convert
   rw [run_ok_bind (run_underlying hs),run_ok_bind (run_underlying hd),h2]
   simp only [conc]
   rw [run_ok_bind (run_underlying he)]
   simp only [Conv.bytesToString]
   rw [run_ok_bind (H.loadCells hb q l hle),g2]
   have hl:concL r (ns.map fun b=>AV.int .u8 (.ofNat b))=ns.map fun b=>Value.int .u8 (Int.ofNat b):=by
    simp only [concL_map,List.map_map]
    refine List.map_congr_left fun b _=>?_
    simp only [Function.comp,conc]
   rw [hl,List.forIn_toArray,run_ok_bind (run_forIn (fun b s=>rfl) ns ByteArray.empty)]
   simp only [run_pure]
   congr 2
   apply ByteArray.ext
   simp [bytesOf]
  ·rename_i vs e1
   obtain ⟨hle,h1⟩:=brec h1
   have hle:=Nat.le_of_ble_eq_true hle
   obtain ⟨ns,g1,g2,g3⟩:=bsK_spec h1
   refine Yields.pureV H g1 ?_ (by simp only [okV]; exact g3)
   unfold convert
   rw [run_ok_bind (run_underlying hs),run_ok_bind (run_underlying hd),h2]
   simp only [conc]
   rw [run_ok_bind (run_underlying he)]
   simp only [Conv.bytesToString]
   rw [run_ok_bind (H.loadCellsF hb q l hle),g2]
   have hl:concL r (ns.map fun b=>AV.int .u8 (.ofNat b))=ns.map fun b=>Value.int .u8 (Int.ofNat b):=by
    simp only [concL_map,List.map_map]
    refine List.map_congr_left fun b _=>?_
    simp only [Function.comp,conc]
   rw [hl,List.forIn_toArray,run_ok_bind (run_forIn (fun b s=>rfl) ns ByteArray.empty)]
   simp only [run_pure]
   congr 2
   apply ByteArray.ext
   simp [bytesOf]
  ·exact h1.elim
 ·exact h1.elim
theorem s_clr (H:WR P w0 r h nx w) (ht:TR r tm a.tmps) {t e:TypeId} {j:TypeInfo} {z:Value} {v:AV} {x:Operand} {x':AX} (hu:P.underlying t=some (.slice e)) (hj:P.info? e=some j) (hz:j.zero=some z) (hv:Lone v z) (h0:0<(cellsA v).length) (hx:Cx x x') (hop:o.op=.call ⟨.builtin .clear,#[x],#[t]⟩) (hk:stepV (.clr (cellsA v) x') tm h nx K):Yields P w0 r h w (execOp a.eval o) K:=by
 simp only [stepV,oClr] at hk
 obtain ⟨y,h1,h2,h3⟩:=evK_spec hx ht hk
 have run:∀ {w':World},(Builtin.clear_ #[t] o.type #[a.eval x]).run P w=.ok (.tuple #[]) w'→(execOp a.eval o).run P w=.ok (.value (.tuple #[])) w':=fun hr=>by
  refine run_builtin hop ?_
  rw [map_one]
  simp only [builtin]
  exact run_value hr
 have nothing:(Builtin.clear_ #[t] o.type #[a.eval x]).run P w=.ok (.tuple #[]) w→K (.tup []) h nx→Yields P w0 r h w (execOp a.eval o) K:=fun hr hK =>
  Yields.pure (v:=.tup []) H hK (by rw [run hr]; simp [conc,concL]) (by simp [okV,okL])
 split at h1
 ·refine nothing ?_ h1
  rw [h2]
  show Sem.run P (underlying t >>= _) w=_
  rw [run_ok_bind (run_underlying hu)]
  simp only [conc]; rfl
 ·refine nothing ?_ h1
  rw [h2]
  show Sem.run P (underlying t >>= _) w=_
  rw [run_ok_bind (run_underlying hu)]
  simp only [conc]; rfl
 ·rename_i k q l c op
  split at h1
  ·refine nothing ?_ h1
   rw [h2]
   show Sem.run P (underlying t >>= _) w=_
   rw [run_ok_bind (run_underlying hu)]
   simp only [conc]; rfl
  ·rename_i l
   obtain ⟨b,hb,h1⟩:=(T.getK_iff _ _ _).1 h1
   split at h1
   ·rename_i vs e1
    obtain ⟨hc,h1⟩:=brec h1
    simp only [Bool.and_eq_true,Nat.ble_eq] at hc
    rw [forceL_iff,T.setK_iff] at h1
    obtain ⟨w',g1,g2,g3⟩:=H.storeCells hb q (zerosL (cellsA v) (l+1)) (flatB_spec hc.2) (okL_zeros (okL_cells (hv.2 _)) _) hc.1
    refine ⟨r,_,nx,w',.tup [],_,h1,run (w':=w') ?_,.inl (by simp [conc,concL]),g2,g3,by simp [okV,okL]⟩
    rw [h2]
    show Sem.run P (underlying t >>= _) w=_
    rw [run_ok_bind (run_underlying hu)]
    simp only [conc]
    show Sem.run P (zeroValue e >>= _) w=_
    rw [run_ok_bind (run_zeroValue hj hz)]
    have hzs:z.cells.size=(cellsA v).length:=by rw [← hv.1 r,conc_cells]; simp [concL_length]
    have hzr:(Builtin.zeroCells z.cells (l+1)).toList=concL r (zerosL (cellsA v) (l+1)):=by
     unfold Builtin.zeroCells
     rw [hzs]
     have:=congrArg Array.toList (zeros_real (r:=r) hv h0 (l+1))
     rw [hzs] at this
     exact this.symm
    show Sem.run P (storeCells ⟨r.blk k,q,none⟩ (Builtin.zeroCells z.cells (l+1)).toList >>= _) w=_
    rw [hzr,run_ok_bind g1]
    rfl
   ·exact h1.elim
 ·exact h1.elim
theorem s_lenC (H:WR P w0 r h nx w) (ht:TR r tm a.tmps) {t:TypeId} {d:ChanDir} {e:TypeId} {x:Operand} {x':AX} (hu:P.underlying t=some (.chan d e)) (hx:Cx x x') (hop:o.op=.call ⟨.builtin .len,#[x],#[t]⟩) (hk:stepV (.lenC x') tm h nx K):Yields P w0 r h w (execOp a.eval o) K:=by
 simp only [stepV,oLenC] at hk
 obtain ⟨v,h1,h2,h3⟩:=evK_spec hx ht hk
 split at h1
 ·refine len_key H hop h2 _ ?_ h1
  show Sem.run P (do match ← underlying t,conc r AV.nilc with | _,_=>_) w=_
  rw [run_ok_bind (run_underlying hu)]
  simp only [conc]; rfl
 ·rename_i m
  obtain ⟨b,hb,h1⟩:=(T.getK_iff _ _ _).1 h1
  split at h1
  ·rename_i cap buf
   rw [forceN_iff] at h1
   refine len_key H hop h2 _ ?_ h1
   show Sem.run P (do match ← underlying t,conc r (AV.chan m) with | _,_=>_) w=_
   rw [run_ok_bind (run_underlying hu)]
   simp only [conc]
   show Sem.run P (getObj (r.blk m) >>= _) w=_
   obtain ⟨sent,rcvd,hb'⟩:=(H.has m _ hb).2.2.2
   rw [run_getObj hb' (by simp)]
   simp [concL_length,go_sem]
  ·exact h1.elim
 ·exact h1.elim
theorem s_mkC (H:WR P w0 r h nx w) (ht:TR r tm a.tmps) {t:TypeId} {d:ChanDir} {e:TypeId} {j:TypeInfo} {x:Operand} {x':AX} (hu:P.underlying t=some (.chan d e)) (hj:P.info? e=some j) (hjb:j.bytes≤1048576) (hx:Cx x x') (hop:o.op=.makeChan t x) (hk:stepV (.mkC x') tm h nx K):Yields P w0 r h w (execOp a.eval o) K:=by
 simp only [stepV,oMkC] at hk
 obtain ⟨v,h1,h2,h3⟩:=evK_spec hx ht hk
 split at h1
 ·rename_i kd n
  obtain ⟨hn,h1⟩:=brec h1
  have hn:=Nat.le_of_ble_eq_true hn
  obtain ⟨g1,g2⟩:=H.alloc (.chan n []) 0 (.chan n #[] false 0 0 false) (by simp [okO,okL]) ⟨0,0,by simp [concL]⟩
  refine ⟨_,_,_,_,.chan nx,_,setK_forceP h1,?_,.inl rfl,g1,g2,by simp only [okV]; exact Or.inl rfl⟩
  simp only [execOp,hop,h2]
  refine run_value ?_
  unfold Instr.makeChan
  have hi:(asInt (conc r (.int kd (Int.ofNat n)))).run P w=.ok (Int.ofNat n) w:=by simp only [conc]; rfl
  rw [run_ok_bind hi,run_ok_bind (run_underlying hu)]
  simp only []
  rw [run_ok_bind (run_typeInfo hj),if_neg]
  ·show Result.ok (Value.chan (some w.heap.size)) _=_
   simp only [conc,r.more_blk]
   rfl
  ·have h4:((j.bytes:Int)*(n:Int))≤1048576*100000:=by
    have:=Nat.mul_le_mul hjb hn
    have h5:((j.bytes*n:Nat):Int)≤((1048576*100000:Nat):Int):=Int.ofNat_le.2 this
    rw [Int.natCast_mul] at h5
    exact h5
   have h6:IntKind.i64.max=9223372036854775807:=by decide
   have h7:(Int.ofNat n:Int)=(n:Int):=rfl
   rw [h7]
   rintro (h5 | h5 | h5)
   ·omega
   ·rw [h6] at h5; omega
   ·have:(2 ^ 48 - 112:Int)=281474976710544:=by decide
    rw [this] at h5; omega
 ·exact h1.elim
theorem s_rng (H:WR P w0 r h nx w) (ht:TR r tm a.tmps) {t:TypeId} {x:Operand} {x':AX} (hu:P.underlying t=some .string) (hx:Cx x x') (hop:o.op=.range t x) (hk:stepV (.rng x') tm h nx K):Yields P w0 r h w (execOp a.eval o) K:=by
 simp only [stepV,oRng] at hk
 obtain ⟨v,h1,h2,h3⟩:=evK_spec hx ht hk
 split at h1
 ·rename_i s
  obtain ⟨g1,g2⟩:=H.alloc (.iter s s 0) 0 (.stringIter (bytesOf s) 0) ⟨rfl,by simpa [okV] using h3⟩ rfl
  refine ⟨_,_,_,_,.ptr nx 0,_,setK_forceP h1,?_,.inl rfl,g1,g2,by simp only [okV]; exact Or.inl rfl⟩
  simp only [execOp,hop,h2]
  refine run_value ?_
  simp only [conc,r.more_blk]
  rw [run_range_string w t (bytesOf s) hu]
  rfl
 ·exact h1.elim
theorem bytes_at {s:List Nat} {pos c:Nat} {rest:List Nat} (h:c :: rest=s.drop pos) (hc:c<256):∃ hp:pos<(bytesOf s).size,((bytesOf s)[pos]'hp).toNat=c:=by
 have hp:pos<s.length:=by
  rcases Nat.lt_or_ge pos s.length with h1 | h1
  ·exact h1
  ·rw [List.drop_eq_nil_of_le h1] at h; cases h
 have hp':pos<(bytesOf s).size:=by rw [bytes_size]; exact hp
 refine ⟨hp',?_⟩
 have h1:s[pos]=c:=by
  have:=List.drop_eq_getElem_cons hp
  rw [← h] at this
  exact (List.cons.inj this).1.symm
 show ((bytesOf s).data[pos]).toNat=c
 simp only [bytesOf,List.getElem_toArray,List.getElem_map,h1]
 rw [UInt8.toNat_ofNat']; omega
theorem s_nxt (H:WR P w0 r h nx w) (ht:TR r tm a.tmps) {x:Operand} {x':AX} (hx:Cx x x') (hop:o.op=.next x true) (hk:stepV (.nxt x') tm h nx K):Yields P w0 r h w (execOp a.eval o) K:=by
 simp only [stepV,oNxt] at hk
 obtain ⟨v,h1,h2,h3⟩:=evK_spec hx ht hk
 split at h1
 ·rename_i k q
  obtain ⟨hq,h1⟩:=brec h1
  obtain rfl:=Nat.eq_of_beq_eq_true hq
  obtain ⟨b,hb,h1⟩:=(T.getK_iff _ _ _).1 h1
  split at h1
  ·rename_i s rest pos
   obtain ⟨b1,b2,b3,b4⟩:=H.has k _ hb
   have hbk:w.heap[r.blk k]?=some (.stringIter (bytesOf s) pos):=b4
   clear b4
   obtain ⟨b5,b6⟩:rest=s.drop pos∧∀ b ∈ s,b<256:=b3
   have hget:∀ {α:Type} (f:Obj→Sem α),Sem.run P (getObj (r.blk k) >>= f) w=Sem.run P (f (.stringIter (bytesOf s) pos)) w:=fun f=>run_getObj hbk (by simp)
   have he:(execOp a.eval o)=(do pure (Next.value (← Instr.next (.pointer (some ⟨r.blk k,0,none⟩)) true o.type)):Sem Next):=by
    simp only [execOp,hop,h2,conc]
   split at h1
   ·refine Yields.pure H h1 ?_ (by simp [okV,okL])
    rw [he]
    refine run_value ?_
    unfold Instr.next
    show Sem.run P (getObj (r.blk k) >>= _) w=_
    rw [hget]
    have:¬ pos<(bytesOf s).size:=by
     rw [bytes_size]
     intro hlt
     have:=congrArg List.length b5
     simp at this; omega
    simp only [this,if_false]
    simp [conc,concL]
   ·rename_i c rest'
    obtain ⟨hc,h1⟩:=brec h1
    have hc:c<128:=Nat.le_of_ble_eq_true hc
    rw [forceN_iff,T.setK_iff] at h1
    obtain ⟨hp,hpc⟩:=bytes_at b5 (by omega)
    have hdec:=decode_ascii (bytesOf s) pos hp (by omega)
    have hdrop:rest'=s.drop (pos+1):=by
     have h9:=congrArg List.tail b5
     rw [List.tail_drop] at h9
     exact h9
    obtain ⟨W,E⟩:=H.write hb (.iter s rest' (pos+1)) (.stringIter (bytesOf s) (pos+1)) ⟨hdrop,b6⟩ rfl
    refine ⟨r,_,nx,_,_,_,h1,?_,.inl rfl,W,E,by simp [okV,okL]⟩
    rw [he]
    refine run_value ?_
    unfold Instr.next
    show Sem.run P (getObj (r.blk k) >>= _) w=_
    rw [hget]
    simp only [hp,if_true,hdec]
    have hset:(setObj (r.blk k) (.stringIter (bytesOf s) (pos+1))).run P w=.ok () { w with heap:=w.heap.setIfInBounds (r.blk k) (.stringIter (bytesOf s) (pos+1)) }:=by
     simp only [setObj,Sem.run,hbk]
    rw [run_ok_bind hset]
    simp [conc,concL,goInt,hpc]
  ·exact h1.elim
 ·exact h1.elim
end
end Go.Proofs.YtidggaoacldgkaaGreatDoor.X
