/- An executor for closed calls, 18: what an operation looks at; operations that only look. -/
import Derived.Test.YtcakhpfonailhaaGreatDoorXP
namespace Go.Proofs.YtcakhpfonailhaaGreatDoor.X
open Go.RowKit
def valX (tm:S):AX→Option AV
 | .t p=>tm.find p
 | .c v=>some v
theorem evK_iff {tm:S} {x:AX} {c:AV→Prop}:evK tm x c↔∃ v,valX tm x=some v∧c v:=by
 cases x with
 | t p=>exact S.getK_iff c tm p
 | c v=>exact ⟨fun h=>⟨v,rfl,h⟩,fun ⟨u,h1,h2⟩=>by cases h1; exact h2⟩
theorem evK_congr {tm tm':S} {x:AX} {c:AV→Prop} (h:valX tm' x=valX tm x) (hk:evK tm x c):evK tm' x c:=by
 rw [evK_iff] at hk ⊢; rw [h]; exact hk
theorem evK_imp {tm:S} {x:AX} {c c':AV→Prop} (h:∀ v,c v→c' v) (hk:evK tm x c):evK tm x c':=by
 rw [evK_iff] at hk ⊢
 obtain ⟨v,h1,h2⟩:=hk
 exact ⟨v,h1,h v h2⟩
theorem evsK_imp {tm tm':S}:∀ {xs:List AX} {c c':List AV→Prop},(∀ x ∈ xs,valX tm' x=valX tm x)→(∀ v,c v→c' v)→evsK tm xs c→evsK tm' xs c'
 | [],_,_,_,h,hk=>h _ hk
 | x :: xs,c,c',hx,h,hk=>by
  have hk:evK tm x fun v=>evsK tm xs fun vs=>c (v :: vs):=hk
  show evK tm' x fun v=>evsK tm' xs fun vs=>c' (v :: vs)
  exact evK_congr (hx x (List.mem_cons_self ..)) (evK_imp (fun v hv=>evsK_imp (fun y hy=>hx y (List.mem_cons_of_mem _ hy)) (fun vs=>h _) hv) hk)
theorem fillK_imp {tm tm':S}:∀ {ps:List (Nat × Nat × AX)} {z:List AV} {c:List AV→Prop},(∀ q ∈ ps,valX tm' q.2.2=valX tm q.2.2)→fillK tm ps z c→fillK tm' ps z c
 | [],_,_,_,hk=>hk
 | q :: ps,z,c,hx,hk=>by
  have hk:evK tm q.2.2 fun v=>forceB (Nat.beq (cellsA v).length q.2.1&&Nat.ble (q.1+q.2.1) z.length) fun b =>
   Bool.rec (motive:=fun _=>Prop) False (fillK tm ps (putL z q.1 (cellsA v)) c) b:=hk
  show evK tm' q.2.2 fun v=>forceB (Nat.beq (cellsA v).length q.2.1&&Nat.ble (q.1+q.2.1) z.length) fun b =>
   Bool.rec (motive:=fun _=>Prop) False (fillK tm' ps (putL z q.1 (cellsA v)) c) b
  refine evK_congr (hx q (List.mem_cons_self ..)) (evK_imp (fun v hv=>?_) hk)
  rw [forceB_iff] at hv ⊢
  cases hb:(Nat.beq (cellsA v).length q.2.1&&Nat.ble (q.1+q.2.1) z.length) with
  | false=>rw [hb] at hv; exact hv
  | true=>rw [hb] at hv; exact fillK_imp (fun y hy=>hx y (List.mem_cons_of_mem _ hy)) hv
theorem bdK_imp {tm tm':S} {x:Option AX} {d n:Nat} {c c':Nat→Prop} (hx:∀ y ∈ x.toList,valX tm' y=valX tm y) (h:∀ v,c v→c' v) (hk:bdK tm x d n c):bdK tm' x d n c':=by
 cases x with
 | none=>exact h _ hk
 | some x =>
  refine evK_congr (hx x (by simp)) (evK_imp (fun v hv=>?_) hk)
  split at hv
  ·obtain ⟨h1,h2⟩:=brec hv
   rw [h1]; exact h _ h2
  ·exact hv.elim
theorem stepV_congr {tm tm':S} {op:AOp} {h:T AO} {nx:Pt} {K:AV→T AO→Pt→Prop} (H:∀ x ∈ opX op,valX tm' x=valX tm x) (hk:stepV op tm h nx K):stepV op tm' h nx K:=by
 cases op with
 | mv x=>exact evK_congr (H x (by simp [opX])) hk
 | pick c x y =>
  refine evK_congr (H c (by simp [opX])) (evK_imp (fun v hv=>?_) hk)
  split at hv
  ·exact evK_congr (H x (by simp [opX])) hv
  ·exact evK_congr (H y (by simp [opX])) hv
  ·exact hv.elim
 | new vs e=>exact hk
 | box e x=>exact evK_congr (H x (by simp [opX])) hk
 | build z ps=>exact fillK_imp (fun q hq=>H _ (List.mem_map.2 ⟨q,hq,rfl⟩)) hk
 | buildS e n z ps=>exact fillK_imp (fun q hq=>H _ (List.mem_map.2 ⟨q,hq,rfl⟩)) hk
 | ld1 x=>exact evK_congr (H x (by simp [opX])) hk
 | ldN n x=>exact evK_congr (H x (by simp [opX])) hk
 | st n x y =>
  refine evK_congr (H x (by simp [opX])) (evK_imp (fun v hv=>?_) hk)
  split at hv
  ·exact evK_congr (H y (by simp [opX])) hv
  ·exact hv.elim
 | nchk x=>exact evK_congr (H x (by simp [opX])) hk
 | fa d x=>exact evK_congr (H x (by simp [opX])) hk
 | fld n d x=>exact evK_congr (H x (by simp [opX])) hk
 | fld1 d x=>exact evK_congr (H x (by simp [opX])) hk
 | ia n x i =>
  refine evK_congr (H x (by simp [opX])) (evK_imp (fun v hv=>?_) hk)
  split at hv
  ·exact evK_congr (H i (by simp [opX])) hv
  ·exact hv.elim
 | iaA l n x i =>
  refine evK_congr (H x (by simp [opX])) (evK_imp (fun v hv=>?_) hk)
  split at hv
  ·exact evK_congr (H i (by simp [opX])) hv
  ·exact hv.elim
 | ext x i=>exact evK_congr (H x (by simp [opX])) hk
 | mkf f x y=>exact evsK_imp (fun z hz=>H z (by simp [opX,hz])) (fun vs hv=>evsK_imp (fun z hz=>H z (by simp [opX,hz])) (fun _ h=>h) hv) hk
 | mki t x=>exact evK_congr (H x (by simp [opX])) hk
 | ar op x y=>exact evK_congr (H x (by simp [opX])) (evK_imp (fun v hv=>evK_congr (H y (by simp [opX])) hv) hk)
 | eq ek neg x y=>exact evK_congr (H x (by simp [opX])) (evK_imp (fun v hv=>evK_congr (H y (by simp [opX])) hv) hk)
 | un op x=>exact evK_congr (H x (by simp [opX])) hk
 | cvI k x=>exact evK_congr (H x (by simp [opX])) hk
 | cvS x=>exact evK_congr (H x (by simp [opX])) hk
 | lenS x=>exact evK_congr (H x (by simp [opX])) hk
 | len x=>exact evK_congr (H x (by simp [opX])) hk
 | lenM x=>exact evK_congr (H x (by simp [opX])) hk
 | lenC x=>exact evK_congr (H x (by simp [opX])) hk
 | mkC x=>exact evK_congr (H x (by simp [opX])) hk
 | cvB e x=>exact evK_congr (H x (by simp [opX])) hk
 | cvT x=>exact evK_congr (H x (by simp [opX])) hk
 | clr z x=>exact evK_congr (H x (by simp [opX])) hk
 | ix1 l x i =>
  refine evK_congr (H x (by simp [opX])) (evK_imp (fun v hv=>?_) hk)
  split at hv
  ·exact evK_congr (H i (by simp [opX])) hv
  ·exact hv.elim
 | lk z ok x k =>
  refine evK_congr (H k (by simp [opX])) (evK_imp (fun v hv=>?_) hk)
  split at hv
  ·exact evK_congr (H x (by simp [opX])) hv
  ·exact hv.elim
 | up x k v =>
  refine evK_congr (H k (by simp [opX])) (evK_imp (fun u hu=>?_) hk)
  split at hu
  ·refine evK_congr (H x (by simp [opX])) (evK_imp (fun y hy=>?_) hu)
   split at hy
   ·exact evK_congr (H v (by simp [opX])) hy
   ·exact hy.elim
  ·exact hu.elim
 | lkA n z ok x k =>
  refine evK_congr (H k (by simp [opX])) (evK_imp (fun v hv=>?_) hk)
  split at hv
  ·exact kiK_imp (fun s hs=>recB_imp (fun hs=>evK_congr (H x (by simp [opX])) hs) hs) hv
  ·exact hv.elim
 | upA n x k v =>
  refine evK_congr (H k (by simp [opX])) (evK_imp (fun u hu=>?_) hk)
  split at hu
  ·refine kiK_imp (fun s hs=>recB_imp (fun hs=>?_) hs) hu
   refine evK_congr (H x (by simp [opX])) (evK_imp (fun y hy=>?_) hs)
   split at hy
   ·exact evK_congr (H v (by simp [opX])) hy
   ·exact hy.elim
  ·exact hu.elim
 | ixS x i =>
  refine evK_congr (H x (by simp [opX])) (evK_imp (fun v hv=>?_) hk)
  split at hv
  ·exact evK_congr (H i (by simp [opX])) hv
  ·exact hv.elim
 | mkS e n z l c=>exact evK_congr (H l (by simp [opX])) (evK_imp (fun v hv=>evK_congr (H c (by simp [opX])) hv) hk)
 | sl n x lo hi mx =>
  have A:∀ y ∈ lo.toList,valX tm' y=valX tm y:=fun y hy=>H y (by simp only [opX,List.mem_cons,List.mem_append]; exact .inr (.inl (.inl hy)))
  have B:∀ y ∈ hi.toList,valX tm' y=valX tm y:=fun y hy=>H y (by simp only [opX,List.mem_cons,List.mem_append]; exact .inr (.inl (.inr hy)))
  have C:∀ y ∈ mx.toList,valX tm' y=valX tm y:=fun y hy=>H y (by simp only [opX,List.mem_cons,List.mem_append]; exact .inr (.inr hy))
  refine evK_congr (H x (by simp [opX])) (evK_imp (fun v hv=>?_) hk)
  split at hv
  ·exact bdK_imp C (fun _ hv=>bdK_imp B (fun _ hv=>bdK_imp A (fun _ hv=>hv) hv) hv) hv
  ·split at hv
   ·exact bdK_imp B (fun _ hv=>bdK_imp A (fun _ hv=>hv) hv) hv
   ·exact hv.elim
  ·split at hv
   ·exact bdK_imp B (fun _ hv=>bdK_imp A (fun _ hv=>hv) hv) hv
   ·exact bdK_imp C (fun _ hv=>bdK_imp B (fun _ hv=>bdK_imp A (fun _ hv=>hv) hv) hv) hv
  ·exact hv.elim
 | slS x lo hi =>
  have A:∀ y ∈ lo.toList,valX tm' y=valX tm y:=fun y hy=>H y (by simp only [opX,List.mem_cons,List.mem_append]; exact .inr (.inl hy))
  have B:∀ y ∈ hi.toList,valX tm' y=valX tm y:=fun y hy=>H y (by simp only [opX,List.mem_cons,List.mem_append]; exact .inr (.inr hy))
  refine evK_congr (H x (by simp [opX])) (evK_imp (fun v hv=>?_) hk)
  split at hv
  ·exact bdK_imp B (fun _ hv=>bdK_imp A (fun _ hv=>hv) hv) hv
  ·exact hv.elim
 | app e n x y=>exact evK_congr (H x (by simp [opX])) (evK_imp (fun v hv=>evK_congr (H y (by simp [opX])) hv) hk)
 | mm mx xs=>exact evsK_imp (fun z hz=>H z (by simp [opX,hz])) (fun _ h=>h) hk
 | mkM=>exact hk
 | rng x=>exact evK_congr (H x (List.mem_singleton.2 rfl)) hk
 | eqA n neg x y=>exact evK_congr (H x (by simp [opX])) (evK_imp (fun v hv=>evK_congr (H y (by simp [opX])) hv) hk)
 | nxt x=>exact evK_congr (H x (List.mem_singleton.2 rfl)) hk
end Go.Proofs.YtcakhpfonailhaaGreatDoor.X

/- An executor for closed calls, 19: an operation that only looks gives one value, and the same one in every greater memory. -/
namespace Go.Proofs.YtcakhpfonailhaaGreatDoor.X
open Go.RowKit
def Fn (F:(AV→Prop)→Prop):Prop:=∃ o:Option AV,∀ C,F C↔∃ v,o=some v∧C v
theorem fn_const (v:AV):Fn fun C=>C v:=⟨some v,fun C=>⟨fun h=>⟨v,rfl,h⟩,fun ⟨u,h1,h2⟩=>by cases h1; exact h2⟩⟩
theorem fn_false:Fn fun _=>False:=⟨none,fun C=>⟨fun h=>h.elim,fun ⟨_,h,_⟩=>by cases h⟩⟩
theorem fn_congr {F G:(AV→Prop)→Prop} (h:∀ C,F C↔G C) (g:Fn G):Fn F:=by
  obtain ⟨o,ho⟩:=g
  exact ⟨o,fun C=>(h C).trans (ho C)⟩
theorem fn_ev {tm:S} {x:AX} {F:AV→(AV→Prop)→Prop} (h:∀ v,Fn (F v)):Fn fun C=>evK tm x fun v=>F v C:=by
  cases hv:valX tm x with
  | none=>exact ⟨none,fun C=>by show evK tm x _↔_; rw [evK_iff,hv]; exact ⟨fun ⟨v,h,_⟩=>(by cases h),fun ⟨v,h,_⟩=>(by cases h)⟩⟩
  | some v =>
    obtain ⟨o,ho⟩:=h v
    refine ⟨o,fun C=>?_⟩
    show evK tm x _↔_
    rw [evK_iff,hv,← ho C]
    exact ⟨fun ⟨u,h1,h2⟩=>by cases h1; exact h2,fun h2=>⟨v,rfl,h2⟩⟩
theorem fn_evs {tm:S}:∀ {xs:List AX} {F:List AV→(AV→Prop)→Prop},(∀ vs,Fn (F vs))→Fn fun C=>evsK tm xs fun vs=>F vs C
  | [],_,h=>h []
  | x :: _,_,h=>fn_ev (tm:=tm) (x:=x) fun v=>fn_evs fun vs=>h (v :: vs)
theorem fn_fill {tm:S}:∀ {ps:List (Nat × Nat × AX)} {z:List AV} {F:List AV→(AV→Prop)→Prop},(∀ vs,Fn (F vs))→Fn fun C=>fillK tm ps z fun vs=>F vs C
  | [],z,_,h=>h z
  | q :: ps,z,F,h=>by
    show Fn fun C=>evK tm q.2.2 fun v=>forceB (Nat.beq (cellsA v).length q.2.1&&Nat.ble (q.1+q.2.1) z.length) fun b =>
      Bool.rec (motive:=fun _=>Prop) False (fillK tm ps (putL z q.1 (cellsA v)) fun vs=>F vs C) b
    refine fn_ev fun v=>fn_congr (fun C=>forceB_iff _ _) ?_
    cases (Nat.beq (cellsA v).length q.2.1&&Nat.ble (q.1+q.2.1) z.length) with
    | false=>exact fn_false
    | true=>exact fn_fill h
theorem fn_b {b:Bool} {F G:(AV→Prop)→Prop} (hf:Fn F) (hg:Fn G):Fn fun C=>Bool.rec (motive:=fun _=>Prop) (F C) (G C) b:=by
  cases b with
  | false=>exact hf
  | true=>exact hg
theorem fn_n {n:Nat} {F:Nat→(AV→Prop)→Prop} (h:Fn (F n)):Fn fun C=>forceN n fun n=>F n C:=fn_congr (fun C=>forceN_iff n fun n=>F n C) h
theorem fn_i {n:Int} {F:Int→(AV→Prop)→Prop} (h:Fn (F n)):Fn fun C=>forceI n fun n=>F n C:=fn_congr (fun C=>forceI_iff n fun n=>F n C) h
theorem fn_bo {n:Bool} {F:Bool→(AV→Prop)→Prop} (h:Fn (F n)):Fn fun C=>forceB n fun n=>F n C:=fn_congr (fun C=>forceB_iff n fun n=>F n C) h
theorem fn_l {α:Type} {n:List α} {F:List α→(AV→Prop)→Prop} (h:Fn (F n)):Fn fun C=>forceL n fun n=>F n C:=fn_congr (fun C=>forceL_iff n fun n=>F n C) h
theorem fn_get {h:T AO} {k:Pt} {F:AO→(AV→Prop)→Prop} (hf:∀ o,Fn (F o)):Fn fun C=>h.getK k fun o=>F o C:=by
  cases hv:h.find k with
  | none=>exact ⟨none,fun C=>by show h.getK k _↔_; rw [T.getK_iff,hv]; exact ⟨fun ⟨v,h,_⟩=>(by cases h),fun ⟨v,h,_⟩=>(by cases h)⟩⟩
  | some v =>
    obtain ⟨o,ho⟩:=hf v
    refine ⟨o,fun C=>?_⟩
    show h.getK k _↔_
    rw [T.getK_iff,hv,← ho C]
    exact ⟨fun ⟨u,h1,h2⟩=>by cases h1; exact h2,fun h2=>⟨v,rfl,h2⟩⟩
theorem fn_wrap {k:IntKind} {n:Int}:Fn fun C=>wrapK k n C:=by
  unfold wrapK
  split
  · exact fn_b (fn_i (fn_const _)) (fn_n (fn_const _))
  · exact fn_i (fn_const _)
theorem fn_sem {s:Sem Value}:Fn fun C=>semV s C:=by
  unfold semV
  split
  · exact fn_i (fn_const _)
  · exact fn_bo (fn_const _)
  · exact fn_false
theorem fn_arI {op:BinOp} {k k':IntKind} {a b:Int}:Fn fun C=>arI op k k' a b C:=by
  unfold arI
  cases op <;> first | exact fn_b fn_false fn_wrap | exact fn_b fn_false (fn_bo (fn_const _)) | exact fn_b fn_false fn_sem | exact fn_sem
theorem fn_arS {op:BinOp} {a b:List Nat}:Fn fun C=>arS op a b C:=by
  unfold arS
  cases op <;> first | exact fn_false | exact fn_bo (fn_const _) | exact fn_b fn_false (fn_l (fn_const _))
theorem fn_bs:∀ {l:List AV} {F:List Nat→AV},Fn fun C=>bsK l fun s=>C (F s)
  | [],F=>fn_const (F [])
  | v :: l,F=>by
    show Fn fun C=>match v with
      | .int .u8 (.ofNat b)=>Bool.rec (motive:=fun _=>Prop) False (bsK l fun s=>C (F (b :: s))) (Nat.blt b 256)
      | _=>False
    split
    · rename_i b
      exact fn_b fn_false (fn_bs (F:=fun s=>F (b :: s)))
    · exact fn_false
theorem fn_lkR {z:AV} {ok:Bool} {v:Option AV}:Fn fun C=>lkR z ok v C:=by
  cases v with
  | none=>exact fn_b (fn_const _) (fn_const _)
  | some v=>exact fn_b (fn_const _) (fn_const _)
theorem fn_lk {z:AV} {ok:Bool} {s:List Nat}:∀ {es:List (AV × AV × Nat)},Fn fun C=>lkE s es fun v=>lkR z ok v C
  | []=>fn_lkR (z:=z) (ok:=ok) (v:=none)
  | e :: es=>by
    show Fn fun C=>match e.1 with
      | .str s'=>Bool.rec (motive:=fun _=>Prop) (lkE s es fun v=>lkR z ok v C) (lkR z ok (some e.2.1) C) (eqN s s')
      | _=>False
    split
    · exact fn_b fn_lk fn_lkR
    · exact fn_false
theorem fn_lkI {z:AV} {ok:Bool} {s:List Int} {es:List (List Int × AV)}:Fn fun C=>lkI s es fun v=>lkR z ok v C :=
  fn_congr (fun C=>lkI_iff (c:=fun v=>lkR z ok v C)) fn_lkR
theorem fn_ki:∀ {vs:List AV} {F:List Int→(AV→Prop)→Prop},(∀ s,Fn (F s))→Fn fun C=>kiK vs fun s=>F s C
  | [],_,h=>h []
  | v :: vs,F,h=>by
    show Fn fun C=>match (generalizing:=false) v with
      | .int .i64 m=>Bool.rec (motive:=fun _=>Prop) False (kiK vs fun l=>F (m :: l) C) (inI m)
      | _=>False
    split
    · rename_i m
      exact fn_b fn_false (fn_ki (F:=fun s=>F (m :: s)) fun s=>h (m :: s))
    · exact fn_false
theorem fn_at {i:AV} {n:Nat} {F:Nat→(AV→Prop)→Prop} (h:∀ j,Fn (F j)):Fn fun C=>atK i n fun j=>F j C:=by
  unfold atK
  split
  · exact fn_b fn_false (h _)
  · exact fn_false
theorem fn_bd {tm:S} {x:Option AX} {d n:Nat} {F:Nat→(AV→Prop)→Prop} (h:∀ j,Fn (F j)):Fn fun C=>bdK tm x d n fun j=>F j C:=by
  cases x with
  | none=>exact h d
  | some x =>
    refine fn_ev fun v=>?_
    split
    · exact fn_b fn_false (h _)
    · exact fn_false
theorem fn_mm {mx:Bool} {k:IntKind}:∀ {l:List AV} {n:Int},Fn fun C=>mmK mx k l n C
  | [],n=>fn_const _
  | v :: l,n=>by
    cases v with
    | int k' m =>
      simp only [mmK]
      exact fn_bo (fn_b fn_mm fn_mm)
    | _=>exact fn_false
theorem fn_eqK {ek:EK} {h:T AO} {a b:AV} {F:Bool→(AV→Prop)→Prop} (hf:∀ x,Fn (F x)):Fn fun C=>eqK ek h a b fun x=>F x C:=by
  unfold eqK
  split
  all_goals first
    | exact hf _
    | exact fn_false
    | exact fn_bo (hf _)
    | (refine fn_get fun o=>?_
       split
       · refine fn_get fun o=>?_
         split
         · exact fn_bo (hf _)
         · exact fn_false
       · exact fn_false)
theorem step_fn {op:AOp} (hq:quietB op=true) (tm:S) (h:T AO) (nx:Pt):Fn fun C=>stepV op tm h nx fun v _ _=>C v:=by
  cases op with
  | mv x=>exact fn_ev fun v=>fn_const v
  | pick c x y =>
    refine fn_ev fun v=>?_
    split
    · exact fn_ev fun v=>fn_const v
    · exact fn_ev fun v=>fn_const v
    · exact fn_false
  | build z ps=>exact fn_fill fun vs=>fn_l (fn_const _)
  | ld1 x =>
    refine fn_ev fun v=>?_
    split
    · refine fn_get fun o=>?_
      split
      · split
        · exact fn_const _
        · exact fn_false
      · exact fn_false
    · exact fn_false
  | ldN n x =>
    refine fn_ev fun v=>?_
    split
    · refine fn_get fun o=>?_
      split
      · exact fn_b fn_false (fn_l (fn_const _))
      · exact fn_false
    · exact fn_false
  | nchk x =>
    refine fn_ev fun v=>?_
    split
    all_goals first | exact fn_false | exact fn_const _
  | fa d x =>
    refine fn_ev fun v=>?_
    split
    · exact fn_n (fn_const _)
    · exact fn_false
  | fld n d x =>
    refine fn_ev fun v=>?_
    split
    · exact fn_l (fn_const _)
    · exact fn_false
  | fld1 d x =>
    refine fn_ev fun v=>?_
    split
    · split
      · exact fn_const _
      · exact fn_false
    · exact fn_false
  | ia n x i =>
    refine fn_ev fun v=>?_
    split
    · exact fn_ev fun i=>fn_at fun j=>fn_n (fn_const _)
    · exact fn_false
  | iaA l n x i =>
    refine fn_ev fun v=>?_
    split
    · exact fn_ev fun i=>fn_at fun j=>fn_n (fn_const _)
    · exact fn_false
  | ext x i =>
    refine fn_ev fun v=>?_
    split
    · split
      · exact fn_const _
      · exact fn_false
    · exact fn_false
  | mkf f x y=>exact fn_evs fun a=>fn_evs fun b=>fn_const _
  | mki t x=>exact fn_ev fun v=>fn_const _
  | ar op x y =>
    refine fn_ev fun a=>fn_ev fun b=>?_
    split
    · exact fn_arI
    · exact fn_arS
    · exact fn_false
  | eq ek neg x y=>exact fn_ev fun a=>fn_ev fun b=>fn_eqK fun x=>fn_bo (fn_const _)
  | eqA n neg x y =>
    refine fn_ev fun a=>fn_ev fun b=>?_
    split
    · rename_i vs us
      exact fn_ki (F:=fun s C=>kiK us fun s'=>Bool.rec (motive:=fun _=>Prop) False (forceB (neg != eqIs s s') fun z=>C (.bool z)) (Nat.beq s.length n&&Nat.beq s'.length n)) fun s=>fn_ki (F:=fun s' C=>Bool.rec (motive:=fun _=>Prop) False (forceB (neg != eqIs s s') fun z=>C (.bool z)) (Nat.beq s.length n&&Nat.beq s'.length n)) fun s'=>fn_b fn_false (fn_bo (fn_const _))
    · exact fn_false
  | un op x =>
    refine fn_ev fun a=>?_
    split
    · exact fn_bo (fn_const _)
    · exact fn_wrap
    · exact fn_sem
    · exact fn_false
  | cvI k x =>
    refine fn_ev fun a=>?_
    split
    · exact fn_wrap
    · exact fn_false
  | cvS x =>
    refine fn_ev fun a=>?_
    split
    · exact fn_const _
    · exact fn_false
  | lenS x =>
    refine fn_ev fun a=>?_
    split
    · exact fn_n (fn_const _)
    · exact fn_false
  | len x =>
    refine fn_ev fun a=>?_
    split
    all_goals first | exact fn_const _ | exact fn_false
  | lenM x =>
    refine fn_ev fun a=>?_
    split
    · exact fn_const _
    · refine fn_get fun o=>?_
      split
      · exact fn_n (fn_const _)
      · exact fn_false
    · exact fn_false
  | lenC x =>
    refine fn_ev fun a=>?_
    split
    · exact fn_const _
    · refine fn_get fun o=>?_
      split
      · exact fn_n (fn_const _)
      · exact fn_false
    · exact fn_false
  | mkC x=>cases hq
  | cvB e x=>cases hq
  | clr z x=>cases hq
  | cvT x =>
    refine fn_ev fun a=>?_
    split
    · exact fn_const _
    · refine fn_get fun o=>?_
      split
      · exact fn_b fn_false fn_bs
      · exact fn_b fn_false fn_bs
      · exact fn_false
    · exact fn_false
  | ix1 l x i =>
    refine fn_ev fun a=>?_
    split
    · refine fn_ev fun i=>fn_at fun j=>?_
      split
      · exact fn_const _
      · exact fn_false
    · exact fn_false
  | lk z ok x k =>
    refine fn_ev fun a=>?_
    split
    · refine fn_ev fun b=>?_
      split
      · exact fn_lkR
      · refine fn_get fun o=>?_
        split
        · exact fn_lk
        · exact fn_false
      · exact fn_false
    · exact fn_false
  | up x k v=>cases hq
  | lkA n z ok x k =>
    refine fn_ev fun a=>?_
    split
    · refine fn_ki fun s=>fn_b fn_false (fn_ev fun b=>?_)
      split
      · exact fn_lkR
      · refine fn_get fun o=>?_
        split
        · split
          · exact fn_lkR
          · exact fn_false
        · exact fn_b fn_false fn_lkI
        · exact fn_false
      · exact fn_false
    · exact fn_false
  | upA n x k v=>cases hq
  | ixS x i =>
    refine fn_ev fun a=>?_
    split
    · refine fn_ev fun i=>fn_at fun j=>?_
      split
      · exact fn_n (fn_const _)
      · exact fn_false
    · exact fn_false
  | sl n x lo hi mx =>
    refine fn_ev fun a=>?_
    split
    · exact fn_bd fun _=>fn_bd fun _=>fn_bd fun _=>fn_const _
    · split
      · exact fn_bd fun _=>fn_bd fun _=>fn_const _
      · exact fn_false
    · split
      · exact fn_bd fun q=>fn_bd fun p=>fn_b (fn_b fn_false (fn_n (fn_n (fn_n (fn_const _))))) (fn_b (fn_n (fn_const _)) (fn_b fn_false (fn_n (fn_const _))))
      · exact fn_bd fun m=>fn_bd fun q=>fn_bd fun p=>fn_b (fn_n (fn_n (fn_n (fn_const _)))) (fn_n (fn_const _))
    · exact fn_false
  | slS x lo hi =>
    refine fn_ev fun a=>?_
    split
    · exact fn_bd fun q=>fn_bd fun p=>fn_l (fn_const _)
    · exact fn_false
  | mm mx xs =>
    refine fn_evs fun vs=>?_
    split
    · exact fn_mm
    · exact fn_false
  | new vs e=>cases hq
  | box e x=>cases hq
  | buildS e n z ps=>cases hq
  | st n x y=>cases hq
  | mkS e n z l c=>cases hq
  | app e n x y=>cases hq
  | mkM=>cases hq
  | rng x=>cases hq
  | nxt x=>cases hq
theorem step_heap {op:AOp} (hq:quietB op=true) {tm:S} {h h2:T AO} {nx nx2:Pt} {C:AV→Prop} (hh:∀ k o,h.find k=some o→h2.find k=some o) (hk:stepV op tm h nx fun v _ _=>C v):stepV op tm h2 nx2 fun v _ _=>C v:=by
  have G:∀ {k:Pt} {c c':AO→Prop},(∀ o,c o→c' o)→h.getK k c→h2.getK k c':=fun hc hg=>by
    obtain ⟨o,h1,h3⟩:=(T.getK_iff _ _ _).1 hg
    exact (T.getK_iff _ _ _).2 ⟨o,hh _ _ h1,hc o h3⟩
  cases op with
  | ld1 x =>
    refine evK_imp (fun v hv=>?_) hk
    split at hv
    · exact G (fun o ho=>ho) hv
    · exact hv.elim
  | ldN n x =>
    refine evK_imp (fun v hv=>?_) hk
    split at hv
    · exact G (fun o ho=>ho) hv
    · exact hv.elim
  | lk z ok x k =>
    refine evK_imp (fun v hv=>?_) hk
    split at hv
    · refine evK_imp (fun u hu=>?_) hv
      split at hu
      · exact hu
      · exact G (fun o ho=>ho) hu
      · exact hu.elim
    · exact hv.elim
  | up x k v=>cases hq
  | lkA n z ok x k =>
    refine evK_imp (fun v hv=>?_) hk
    split at hv
    · refine kiK_imp (fun s hs=>recB_imp (fun hs=>?_) hs) hv
      refine evK_imp (fun u hu=>?_) hs
      split at hu
      · exact hu
      · exact G (fun o ho=>ho) hu
      · exact hu.elim
    · exact hv.elim
  | upA n x k v=>cases hq
  | cvB e x=>cases hq
  | clr z x=>cases hq
  | cvT x =>
    refine evK_imp (fun v hv=>?_) hk
    split at hv
    · exact hv
    · exact G (fun o ho=>ho) hv
    · exact hv.elim
  | lenM x =>
    refine evK_imp (fun v hv=>?_) hk
    split at hv
    · exact hv
    · exact G (fun o ho=>ho) hv
    · exact hv.elim
  | lenC x =>
    refine evK_imp (fun v hv=>?_) hk
    split at hv
    · exact hv
    · exact G (fun o ho=>ho) hv
    · exact hv.elim
  | mkC x=>cases hq
  | eq ek neg x y =>
    refine evK_imp (fun a ha=>evK_imp (fun b hb=>?_) ha) hk
    unfold eqK at hb ⊢
    split at hb
    all_goals first
      | exact hb
      | (refine G (fun o ho=>?_) hb
         split at ho
         · exact G (fun o ho=>ho) ho
         · exact ho.elim)
  | new vs e=>cases hq
  | box e x=>cases hq
  | buildS e n z ps=>cases hq
  | st n x y=>cases hq
  | mkS e n z l c=>cases hq
  | app e n x y=>cases hq
  | mkM=>cases hq
  | rng x=>cases hq
  | nxt x=>cases hq
  | _=>exact hk
end Go.Proofs.YtcakhpfonailhaaGreatDoor.X

/- An executor for closed calls, 20: what a region that draws its order is made of: operations that look, that make a block, that act. -/
namespace Go.Proofs.YtcakhpfonailhaaGreatDoor.X
open Go.RowKit
section
variable {P:Program} {w0:World} {r:Rho} {tm:S} {a:Act} {o:Oper}
def Floats (P:Program) (r:Rho) (n:Pt) (w:World) (s:Sem Next) (c:AV→AO→Prop):Prop :=
 ∃ v ob obj x d,c v ob∧s.run P w=.ok (.value (conc (r.more n w.heap.size x) v)) { w with drawn:=d,heap:=w.heap.push obj }∧BR P (r.more n w.heap.size x) n ob (some obj)∧okO (r.more n w.heap.size x).has ob∧okV (r.more n w.heap.size x).has v
theorem Floats.row {n:Pt} (hn:¬ r.has n) {w:World} {vs:List AV} {e:TypeId} {s:Sem Next} {c:AV→AO→Prop} {v:AV} (hv:okL r.has vs) (hc:c v (.cells vs e)) (hok:okV (r.more n w.heap.size 0).has v)
  (hs:∀ x w',(newRow e (concL r vs).toArray).run P w=.ok x w'→∃ y,s.run P w=.ok (.value y) w'∧(x=⟨w.heap.size,0,none⟩→y=conc (r.more n w.heap.size 0) v)):Floats P r n w s c:=by
 have hle:=Rho.le_more hn w.heap.size 0
 obtain ⟨y,h1,h2⟩:=hs ⟨w.heap.size,0,none⟩ { w with heap:=w.heap.push (.cells (concL r vs).toArray e (0,0)) } rfl
 refine ⟨v,.cells vs e,.cells (concL r vs).toArray e (0,0),0,w.drawn,hc,by rw [h1,h2 rfl],⟨[],?_,?_⟩,okL.mono hle.has hv,hok⟩
 ·rw [concL_le hle hv]; simp
 ·rw [r.more_ext]; simp
theorem float_sound (ht:TR r tm a.tmps) {op:Op} {op':AOp} {n:Pt} {w:World} {c:AV→AO→Prop} (hn:¬ r.has n) (hop:o.op=op) (hc:Co P op op') (hk:floatK op' tm n c):Floats P r n w (execOp a.eval o) c:=by
 have hptr:okV (r.more n w.heap.size 0).has (.ptr n 0):=by simp only [okV]; exact Or.inl rfl
 have hsl:∀ k l,okV (r.more n w.heap.size 0).has (.sl n 0 k l false):=fun k l=>by simp only [okV]; exact Or.inl rfl
 have ep:∀ x:Addr,x=⟨w.heap.size,0,none⟩→Value.pointer (some x)=conc (r.more n w.heap.size 0) (.ptr n 0):=fun x hx=>by simp only [conc,r.more_blk,hx]
 have es:∀ (x:Addr) (k l:Nat),x=⟨w.heap.size,0,none⟩→Value.slice (some x) k l=conc (r.more n w.heap.size 0) (.sl n 0 k l false):=fun x k l hx=>by simp [conc,r.more_blk,hx]
 cases hc with
 | new hi hz hv =>
  refine Floats.row hn (okL_cells (hv.2 _)) hk hptr fun x w' hx=>⟨_,?_,ep x⟩
  simp only [execOp,hop]
  refine run_value ?_
  unfold Instr.alloc
  rw [run_ok_bind (run_zeroValue hi hz)]
  simp only []
  rename_i e i z v
  have:(newVar e z).run P w=.ok x w':=by rw [newVar,← hv.1 r,conc_cells]; exact hx
  rw [run_ok_bind this]; rfl
 | box hx =>
  obtain ⟨v,h1,h2,h3⟩:=evK_spec hx ht hk
  refine Floats.row hn (okL_cells h3) h1 hptr fun x w' hx=>⟨_,?_,ep x⟩
  simp only [execOp,hop,h2]
  refine run_value ?_
  rename_i e _ _ _
  have:(newVar e (conc r v)).run P w=.ok x w':=by rw [newVar,conc_cells]; exact hx
  unfold Instr.box
  rw [run_ok_bind this]; rfl
 | buildS hu hj hz hm h0 hok hzs hv hps =>
  obtain ⟨vs,h1,h2,h3⟩:=fillK_spec ht hps (hok _) hk
  rw [forceL_iff] at h1
  refine Floats.row hn h2 h1 (hsl _ _) fun x w' hx=>⟨_,?_,es x _ _⟩
  simp only [execOp,hop]
  refine run_value ?_
  unfold Instr.buildSlice
  rw [run_ok_bind (run_underlying hu)]
  simp only []
  rw [run_ok_bind (run_sizeOf hj),if_neg (by omega)]
  rw [if_neg (by omega),run_ok_bind (run_zeroValue hj hz),run_ok_bind (run_pure P _ w)]
  rw [← hzs r,toList_parts,h3]
  simp only []
  rw [run_ok_bind hx]; rfl
 | buildE hu hj =>
  have h1:c (.sl n 0 0 0 false) (.cells [] _):=hk
  refine Floats.row hn (vs:=[]) (by simp [okL]) h1 (hsl _ _) fun x w' hx=>⟨_,?_,es x _ _⟩
  simp only [execOp,hop]
  refine run_value ?_
  unfold Instr.buildSlice
  rw [run_ok_bind (run_underlying hu)]
  simp only []
  rw [run_ok_bind (run_sizeOf hj),if_neg (by omega)]
  rw [if_pos (by omega),run_ok_bind (run_pure P _ w)]
  simp only [Nat.zero_mul]
  simp only [concL] at hx
  rename_i t e j
  have:(newRow e #[]).run P w=.ok x w':=hx
  rw [show (Array.map (fun x:Nat × Operand=>(x.fst,a.eval x.snd)) #[]).toList=[] by simp,show ∀ f:Nat→Value,(Array.range 0).map f=#[] from fun f=>by rw [show (Array.range 0)=#[] from rfl]; exact Array.map_empty]
  simp only [Instr.fill]
  rw [run_ok_bind this]; rfl
 | cvB hs hd he hj h1j hx =>
  rename_i src dst e d j x x'
  obtain ⟨v,g1,h2,h3⟩:=evK_spec hx ht hk
  split at g1
  ·rename_i s
   simp only [okV] at h3
   rw [forceL_iff,forceN_iff] at g1
   let ex:=w.tape w.drawn (.appendCap (bytesOf s).size 0 e) % (2 ^ 63 - (bytesOf s).size)
   have hle:=Rho.le_more hn w.heap.size ex
   have hu8:((bytesOf s).data.map fun b=>Value.int .u8 b.toNat).toList=concL r (s.map fun b=>AV.int .u8 (.ofNat b)):=by
    simp only [concL_map,List.map_map,bytesOf]
    simp only [List.map_toArray,List.map_map]
    refine List.map_congr_left fun b hb=>?_
    simp only [Function.comp,conc,UInt8.toNat_ofNat']
    rw [Nat.mod_eq_of_lt (by have:=h3 b hb; simpa using this)]
    rfl
   let c:=concL r (s.map fun b=>AV.int .u8 (.ofNat b)) ++ List.replicate ex (Value.int .u8 0)
   have hok:okL r.has (s.map fun b=>AV.int .u8 (.ofNat b)):=okL_u8 s
   refine ⟨.sl n 0 s.length s.length true,.frz (s.map fun b=>AV.int .u8 (.ofNat b)) e,.cells c.toArray e (c.length,c.length+1),ex,w.drawn+1,g1,?_,⟨List.replicate ex (Value.int .u8 0),(c.length,c.length+1),by rw [concL_le hle hok],by
    rw [r.more_ext,sizeT_of hj,h1j]; simp,fun i hi hz=>by
    have h1:c.length=(s.map fun b=>AV.int .u8 (.ofNat b)).length+(List.replicate ex (Value.int .u8 0)).length:=by simp only [c]; rw [List.length_append,concL_length]
    have h2:c.length≤i:=hz.1
    omega⟩,okL.mono hle.has hok,by simp only [okV]; exact Or.inl rfl⟩
   simp only [execOp,hop]
   refine run_value ?_
   unfold convert
   rw [run_ok_bind (run_underlying hs),run_ok_bind (run_underlying hd),h2]
   simp only [conc]
   show Sem.run P (underlying e >>= _) w=_
   rw [run_ok_bind (run_underlying he)]
   simp only []
   unfold Conv.stringToBytes
   show Sem.run P (Sem.choose (.appendCap (bytesOf s).size 0 e) fun n=>_) w=_
   rw [show ∀ (k:Nat→Sem Value),Sem.run P (Sem.choose (.appendCap (bytesOf s).size 0 e) k) w=(k ((bytesOf s).size+ex)).run P { w with drawn:=w.drawn+1 } from fun _=>rfl]
   have hc:(bytesOf s).data.map (fun b=>Value.int .u8 b.toNat) ++ Array.replicate ex (Value.int .u8 0)=c.toArray:=by
    apply Array.ext'
    rw [Array.toList_append,hu8]
    simp [c]
   show Sem.run P (newRow e ((bytesOf s).data.map (fun b=>Value.int .u8 b.toNat) ++ Array.replicate ((bytesOf s).size+ex - (bytesOf s).size) (Value.int .u8 0)) >>= fun a=>_) _=_
   rw [Nat.add_sub_cancel_left,hc,run_ok_bind (show (newRow e c.toArray).run P { w with drawn:=w.drawn+1 }=.ok ⟨w.heap.size,0,none⟩ { w with drawn:=w.drawn+1,heap:=w.heap.push (.cells c.toArray e (0,0)) } from rfl)]
   have hm:(markStringish ⟨w.heap.size,0,none⟩).run P { w with drawn:=w.drawn+1,heap:=w.heap.push (.cells c.toArray e (0,0)) }=.ok () { w with drawn:=w.drawn+1,heap:=w.heap.push (.cells c.toArray e (c.length,c.length+1)) }:=by
    unfold markStringish
    have S:∀ {α:Type} (w:World) (x:Nat) (f:Option (TypeId × Nat)→Sem α),(shape x >>= f).run P w=(f (w.shape? x)).run P w:=fun _ _ _=>rfl
    rw [S]
    simp only [World.shape?,Array.getElem?_push_size]
    show Result.ok () (World.freeze _ _ 1)=_
    congr 1
    unfold World.freeze
    rw [if_neg (by decide)]
    congr 1
    apply Array.ext_getElem?
    intro i
    rw [Array.getElem?_modify]
    by_cases hi:w.heap.size=i
    ·subst hi; simp
    ·rw [if_neg hi]
     rw [Array.getElem?_push,Array.getElem?_push,if_neg (fun e=>hi e.symm),if_neg (fun e=>hi e.symm)]
   rw [run_ok_bind hm]
   simp only [run_pure,bytes_size,r.more_blk,r.more_ext,if_true]
  ·exact g1.elim
 | mkM =>
  have hle:=Rho.le_more hn w.heap.size 0
  refine ⟨.map n,.map [] 0,.map #[] 0,0,w.drawn,hk,?_,⟨[],0,rfl,.nil,.nil⟩,by simp [okO],by simp only [okV]; exact Or.inl rfl⟩
  simp only [execOp,hop]
  refine run_value ?_
  simp only [conc,r.more_blk]; rfl
 | _=>exact hk.elim
end
section
variable {P:Program} {w0:World} {m:Nat} {r:Rho} {h:T AO} {nx:Pt} {w:World} {tm:S} {a:Act}
theorem eK_sound {ro:Option Nat} {ch:CH} (hch:CHq P w0 ch) (hE:EnvOk P w0 ch.loops r) {ops:Array Oper} {o:Oper} {i:Nat} {x:AOper} {c:AV→T AO→Pt→Prop} {Q:Exit→Act→World→Prop} {next:Act→World→Prop}
  (hi:ops[i]?=some o) (hc:compOper P m ops o=some x) (H:WR P w0 r h nx w) (ht:TR r tm a.tmps) (hk:eK x ch tm h nx c)
  (hn:∀ v h' nx' r' w',c v h' nx'→WR P w0 r' h' nx' w'→Ev r h w r' h' w'→okV r'.has v→next (a.put o.dst (conc r' v)) w'):wpOpIn (Wr ro) 0 P ops Q i next a w:=by
 unfold compOper at hc
 split at hc
 ·rename_i k d g hck hcd hcg
  cases hc
  simp only [wpOpIn,hi]
  cases g with
  | none =>
   rw [if_pos (wanted_none hcg)]
   exact (eK0_sound hch.call hE hck H ht hk hn (fun _ _ _ _ _ hh=>(hch.calm _ _ _ _ hh).elim))
  | some pb =>
   obtain ⟨p,b⟩:=pb
   have hk:wantK p b tm (eK0 k ch tm h nx c) (c (.tup []) h nx):=hk
   rcases wantK_spec hcg ht hk with ⟨hw,hk⟩ | ⟨hw,hk⟩
   ·rw [if_pos hw]
    exact (eK0_sound hch.call hE hck H ht hk hn (fun _ _ _ _ _ hh=>(hch.calm _ _ _ _ hh).elim))
   ·rw [if_neg (by rw [hw]; simp)]
    have:=hn (.tup []) h nx r w hk H (.refl r h w) (by simp [okV,okL])
    rw [conc_undef] at this
    exact ⟨fun _ _=>trivial,this⟩
 ·cases hc
end
end Go.Proofs.YtcakhpfonailhaaGreatDoor.X

/- An executor for closed calls, 21: a region that draws its order, as a script: operations that look and those that make blocks come as early as they can, those that act in their one order. -/
namespace Go.Proofs.YtcakhpfonailhaaGreatDoor.X
open Go.RowKit
theorem valX_of {tm tm':S} {x:AX} (h:∀ p ∈ axP x,tm'.find p=tm.find p):valX tm' x=valX tm x:=by
 cases x with
 | t p=>exact h p (by simp [axP])
 | c v=>rfl
theorem wantK_congr {g:Sl} {b:Bool} {tm tm':S} {y n y' n':Prop} (hg:tm'.find g=tm.find g) (hy:y→y') (hn:n→n') (hk:wantK g b tm y n):wantK g b tm' y' n':=by
 unfold wantK at hk ⊢
 rw [S.getK_iff] at hk ⊢
 obtain ⟨v,h1,h2⟩:=hk
 refine ⟨v,by rw [hg]; exact h1,?_⟩
 split at h2
 ·rename_i c
  cases hb:(c == b) with
  | false=>rw [hb] at h2; exact hn h2
  | true=>rw [hb] at h2; exact hy h2
 ·exact hn h2
theorem rd_op {x:AOper} {o:AOp} (ho:x.op=.v o) {tm tm':S} (h:∀ p ∈ rdX x,tm'.find p=tm.find p):∀ y ∈ opX o,valX tm' y=valX tm y:=fun y hy=>valX_of fun p hp=>h p (by
 unfold rdX
 rw [ho]
 exact List.mem_append.2 (.inr (List.mem_flatMap.2 ⟨y,hy,hp⟩)))
theorem rd_guard {x:AOper} {g:Sl} {b:Bool} (hg:x.guard=some (g,b)) {tm tm':S} (h:∀ p ∈ rdX x,tm'.find p=tm.find p):tm'.find g=tm.find g:=h g (by
 unfold rdX
 rw [hg]
 exact List.mem_append.2 (.inl (by simp)))
theorem nK_congr {x:AOper} {tm tm':S} {h:T AO} {nx:Pt} {c:AV→Prop} (hr:∀ p ∈ rdX x,tm'.find p=tm.find p) (hk:nK x tm h nx c):nK x tm' h nx c:=by
 unfold nK at hk ⊢
 split
 ·rename_i o ho
  simp only [ho] at hk
  split
  ·rename_i hg
   simp only [hg] at hk
   exact stepV_congr (rd_op ho hr) hk
  ·rename_i g b hg
   simp only [hg] at hk
   exact wantK_congr (rd_guard hg hr) (stepV_congr (rd_op ho hr)) id hk
 ·rename_i hne
  split at hk
  ·rename_i o ho; exact absurd ho (hne o)
  ·exact hk
theorem nK_heap {x:AOper} (hq:quietX x=true) {tm:S} {h h2:T AO} {nx nx2:Pt} {c:AV→Prop} (hh:∀ k o,h.find k=some o→h2.find k=some o) (hk:nK x tm h nx c):nK x tm h2 nx2 c:=by
 unfold nK at hk ⊢
 unfold quietX at hq
 split
 ·rename_i o ho
  simp only [ho] at hk hq
  split
  ·rename_i hg
   simp only [hg] at hk
   exact step_heap hq hh hk
  ·rename_i g b hg
   simp only [hg] at hk
   exact wantK_congr rfl (step_heap hq hh) id hk
 ·rename_i hne
  split at hk
  ·rename_i o ho; exact absurd ho (hne o)
  ·exact hk
theorem fn_want {v:AV} {b:Bool} {F G:(AV→Prop)→Prop} (hf:Fn F) (hg:Fn G):Fn fun C=>match v with | .bool b'=>Bool.rec (motive:=fun _=>Prop) (F C) (G C) (b' == b) | _=>F C:=by
 cases v with
 | bool b'=>exact fn_b hf hg
 | _=>exact hf
theorem nK_fn {x:AOper} (hq:quietX x=true) (tm:S) (h:T AO) (nx:Pt):Fn (nK x tm h nx):=by
 unfold quietX at hq
 cases ho:x.op with
 | v o =>
  simp only [ho] at hq
  cases hg:x.guard with
  | none=>exact fn_congr (fun C=>by unfold nK; simp only [ho,hg]) (step_fn hq tm h nx)
  | some gb =>
   obtain ⟨g,b⟩:=gb
   refine fn_congr (G:=fun C=>wantK g b tm (stepV o tm h nx fun v _ _=>C v) (C (.tup []))) (fun C=>by unfold nK; simp only [ho,hg]) ?_
   unfold wantK
   cases hv:tm.find g with
   | none=>exact ⟨none,fun C=>by show tm.getK g _↔_; rw [S.getK_iff,hv]; exact ⟨fun ⟨v,h,_⟩=>(by cases h),fun ⟨v,h,_⟩=>(by cases h)⟩⟩
   | some v =>
    refine fn_congr (fun C=>?_) (fn_want (v:=v) (b:=b) (fn_const (.tup [])) (step_fn hq tm h nx))
    show tm.getK g _↔_
    rw [S.getK_iff,hv]
    exact ⟨fun ⟨u,h1,h2⟩=>by cases h1; exact h2,fun h2=>⟨v,rfl,h2⟩⟩
 | call f xs=>simp [ho] at hq
 | callv y xs=>simp [ho] at hq
 | snd y v=>simp [ho] at hq
 | sel y z=>simp [ho] at hq
 | pan y=>simp [ho] at hq
theorem nK_val {x:AOper} (hq:quietX x=true) {tm:S} {h:T AO} {nx:Pt} {c:AV→Prop} (hk:nK x tm h nx c):∃ v,c v∧nK x tm h nx fun v'=>v'=v:=by
 obtain ⟨o,ho⟩:=nK_fn hq tm h nx
 obtain ⟨v,h1,h2⟩:=(ho c).1 hk
 exact ⟨v,h2,(ho _).2 ⟨v,h1,rfl⟩⟩
theorem nK_imp {x:AOper} (hq:quietX x=true) {tm:S} {h:T AO} {nx:Pt} {c c':AV→Prop} (hc:∀ v,c v→c' v) (hk:nK x tm h nx c):nK x tm h nx c':=by
 obtain ⟨o,ho⟩:=nK_fn hq tm h nx
 obtain ⟨v,h1,h2⟩:=(ho c).1 hk
 exact (ho _).2 ⟨v,h1,hc v h2⟩
theorem quiet_same {o:AOp} (hq:quietB o=true) {tm:S} {h:T AO} {nx:Pt} {K:AV→T AO→Pt→Prop} (hk:stepV o tm h nx fun v _ _=>K v h nx):stepV o tm h nx K:=by
 cases o with
 | new vs e=>cases hq
 | box e x=>cases hq
 | buildS e n z ps=>cases hq
 | st n x y=>cases hq
 | mkS e n z l c=>cases hq
 | app e n x y=>cases hq
 | up x k v=>cases hq
 | upA n x k v=>cases hq
 | cvB e x=>cases hq
 | clr z x=>cases hq
 | mkC x=>cases hq
 | mkM=>cases hq
 | rng x=>cases hq
 | nxt x=>cases hq
 | _=>exact hk
theorem nK_eK {x:AOper} (hq:quietX x=true) {ch:CH} {tm:S} {h:T AO} {nx:Pt} {c:AV→Prop} (hk:nK x tm h nx c):eK x ch tm h nx fun v h' nx'=>c v∧h'=h∧nx'=nx:=by
 have hk:=nK_imp hq (c':=fun v=>c v∧h=h∧nx=nx) (fun v hv=>⟨hv,rfl,rfl⟩) hk
 unfold nK at hk
 unfold quietX at hq
 unfold eK
 split at hk
 ·rename_i o ho
  simp only [ho] at hq
  split at hk
  ·rename_i hg
   simp only [ho,eK0]
   exact quiet_same hq hk
  ·rename_i g b hg
   simp only [ho,eK0]
   exact wantK_congr rfl (quiet_same hq) (fun h=>⟨h.1,trivial,trivial⟩) hk
 ·exact hk.elim
theorem floatK_congr {op:AOp} {tm tm':S} {n:Pt} {c:AV→AO→Prop} (hr:∀ x ∈ opX op,valX tm' x=valX tm x) (hk:floatK op tm n c):floatK op tm' n c:=by
 cases op with
 | box e x=>exact evK_congr (hr _ (by simp [opX])) hk
 | cvB e x=>exact evK_congr (hr _ (by simp [opX])) hk
 | buildS e k z ps=>exact fillK_imp (fun q hq=>hr _ (by simp only [opX]; exact List.mem_map.2 ⟨q,hq,rfl⟩)) hk
 | _=>exact hk
theorem fillK_val {tm:S}:∀ {ps:List (Nat × Nat × AX)} {z:List AV} {c:List AV→Prop},fillK tm ps z c→∃ vs,c vs∧∀ c',c' vs→fillK tm ps z c'
 | [],z,c,hk=>⟨z,hk,fun _ h=>h⟩
 | q :: ps,z,c,hk=>by
  have hk:evK tm q.2.2 fun v=>forceB (Nat.beq (cellsA v).length q.2.1&&Nat.ble (q.1+q.2.1) z.length) fun b =>
   Bool.rec (motive:=fun _=>Prop) False (fillK tm ps (putL z q.1 (cellsA v)) c) b:=hk
  rw [evK_iff] at hk
  obtain ⟨v,h1,h2⟩:=hk
  rw [forceB_iff] at h2
  obtain ⟨hb,h2⟩:=brec h2
  obtain ⟨vs,g1,g2⟩:=fillK_val h2
  refine ⟨vs,g1,fun c' hc'=>?_⟩
  show evK tm q.2.2 fun v=>forceB (Nat.beq (cellsA v).length q.2.1&&Nat.ble (q.1+q.2.1) z.length) fun b =>
   Bool.rec (motive:=fun _=>Prop) False (fillK tm ps (putL z q.1 (cellsA v)) c') b
  rw [evK_iff]
  refine ⟨v,h1,?_⟩
  rw [forceB_iff,hb]
  exact g2 c' hc'
theorem floatK_val {op:AOp} {tm:S} {n:Pt} {c:AV→AO→Prop} (hk:floatK op tm n c):∃ v ob,c v ob∧floatK op tm n fun v' ob'=>v'=v∧ob'=ob:=by
 unfold floatK at hk ⊢
 split at hk
 ·exact ⟨_,_,hk,rfl,rfl⟩
 ·rw [evK_iff] at hk
  obtain ⟨v,h1,h2⟩:=hk
  exact ⟨_,_,h2,by rw [evK_iff]; exact ⟨v,h1,rfl,rfl⟩⟩
 ·obtain ⟨vs,g1,g2⟩:=fillK_val hk
  rw [forceL_iff] at g1
  exact ⟨_,_,g1,g2 _ ((forceL_iff _ _).2 ⟨rfl,rfl⟩)⟩
 ·exact ⟨_,_,hk,rfl,rfl⟩
 ·rw [evK_iff] at hk
  obtain ⟨v,h1,h2⟩:=hk
  split at h2
  ·rename_i s
   rw [forceL_iff,forceN_iff] at h2
   refine ⟨_,_,h2,?_⟩
   rw [evK_iff]
   refine ⟨_,h1,?_⟩
   show forceL _ _
   rw [forceL_iff,forceN_iff]
   exact ⟨rfl,rfl⟩
  ·exact h2.elim
 ·exact hk.elim
theorem eK_congr {x:AOper} {ch:CH} {tm tm':S} {h:T AO} {nx:Pt} {c:AV→T AO→Pt→Prop} (hf:ch.pan tm=ch.pan tm') (hr:∀ p ∈ rdX x,tm'.find p=tm.find p) (hk:eK x ch tm h nx c):eK x ch tm' h nx c:=by
 have hv:∀ y ∈ kX x.op,valX tm' y=valX tm y:=fun y hy=>valX_of fun p hp=>hr p (by
  unfold rdX
  exact List.mem_append.2 (.inr (List.mem_flatMap.2 ⟨y,hy,hp⟩)))
 have key:eK0 x.op ch tm h nx c→eK0 x.op ch tm' h nx c:=fun hk=>by
  unfold eK0 at hk ⊢
  split
  ·rename_i o ho
   simp only [ho] at hk
   exact stepV_congr (fun y hy=>hv y (by rw [ho]; exact hy)) hk
  ·rename_i f xs ho
   simp only [ho] at hk
   have hgo:ch.go tm=ch.go tm':=by unfold CH.go; rw [hf]
   rw [hgo] at hk
   exact evsK_imp (fun y hy=>hv y (by rw [ho]; exact hy)) (fun _ h=>h) hk
  ·rename_i y xs ho
   simp only [ho] at hk
   have hgo:cvK ch tm=cvK ch tm':=by unfold cvK CH.go; rw [hf]
   rw [hgo] at hk
   exact evK_congr (hv y (by rw [ho]; simp [kX])) (evK_imp (fun v hv'=>evsK_imp (fun z hz=>hv z (by rw [ho]; simp [kX,hz])) (fun _ h=>h) hv') hk)
  ·rename_i y v ho
   simp only [ho] at hk
  ·rename_i y z ho
   simp only [ho] at hk
  ·rename_i y ho
   simp only [ho] at hk
   have hgo:panK ch y tm h nx→evK tm y fun v=>match v with
     | .iface t u=>ch.pan tm' (.iface t u) h nx
     | _=>False:=fun hk=>by
    rw [← hf]; exact hk
   exact evK_congr (hv y (by rw [ho]; simp [kX])) (hgo hk)
 unfold eK at hk ⊢
 split
 ·rename_i hg
  simp only [hg] at hk
  exact key hk
 ·rename_i g b hg
  simp only [hg] at hk
  exact wantK_congr (rd_guard hg hr) key id hk
theorem eqN_eq:∀ {a b:List Nat},eqN a b=true→a=b
 | [],[],_=>rfl
 | [],_ :: _,h=>by cases h
 | _ :: _,[],h=>by cases h
 | x :: a,y :: b,h=>by
  simp only [eqN,Bool.and_eq_true] at h
  rw [Nat.eq_of_beq_eq_true h.1,eqN_eq h.2]
mutual
theorem eqV_eq:∀ {a b:AV},eqV a b=true→a=b
 | .bool a,b,h=>by cases b <;> simp [eqV] at h <;> rw [h]
 | .int k a,b,h=>by
  cases b <;> simp [eqV] at h
  obtain ⟨rfl,h⟩:=h
  rw [eqI_spec] at h
  rw [eq_of_beq h]
 | .str a,b,h=>by cases b <;> simp [eqV] at h; rw [eqN_eq h]
 | .nilp,b,h=>by cases b <;> simp [eqV] at h; rfl
 | .ptr k o,b,h=>by
  cases b <;> simp [eqV] at h
  rw [eqP_spec h.1,h.2]
 | .nils,b,h=>by cases b <;> simp [eqV] at h; rfl
 | .sl k o l c op,b,h=>by
  cases b <;> simp [eqV] at h
  obtain ⟨⟨⟨⟨h1,h2⟩,h3⟩,h4⟩,h5⟩:=h
  rw [eqP_spec h1,h2,h3,h4,h5]
 | .slz k o p,b,h=>by cases b <;> simp [eqV] at h
 | .nilm,b,h=>by cases b <;> simp [eqV] at h; rfl
 | .map k,b,h=>by cases b <;> simp [eqV] at h; rw [eqP_spec h]
 | .fn f x y,b,h=>by
  cases b <;> try (simp [eqV] at h; done)
  rename_i g x' y'
  cases f <;> cases g <;> simp [eqV] at h
  obtain ⟨⟨rfl,h1⟩,h2⟩:=h
  rw [eqVs_eq h1,eqVs_eq h2]
 | .yld k,b,h=>by cases b <;> simp [eqV] at h; rw [eqP_spec h]
 | .chan k,b,h=>by cases b <;> simp [eqV] at h; rw [eqP_spec h]
 | .nilc,b,h=>by cases b <;> simp [eqV] at h; rfl
 | .nilf,b,h=>by cases b <;> simp [eqV] at h; rfl
 | .iface t v,b,h=>by
  cases b <;> simp [eqV] at h
  obtain ⟨rfl,h⟩:=h
  rw [eqV_eq h]
 | .nili,b,h=>by cases b <;> simp [eqV] at h; rfl
 | .agg x,b,h=>by cases b <;> simp [eqV] at h; rw [eqVs_eq h]
 | .tup x,b,h=>by cases b <;> simp [eqV] at h; rw [eqVs_eq h]
theorem eqVs_eq:∀ {a b:List AV},eqVs a b=true→a=b
 | [],[],_=>rfl
 | [],_ :: _,h=>by simp [eqVs] at h
 | _ :: _,[],h=>by simp [eqVs] at h
 | x :: a,y :: b,h=>by
  simp only [eqVs,Bool.and_eq_true] at h
  rw [eqV_eq h.1,eqVs_eq h.2]
end
end Go.Proofs.YtcakhpfonailhaaGreatDoor.X
