/- An executor for closed calls, 18: what an operation looks at; operations that only look. -/
import Derived.Test.YtidggaoacldgkaaGreatDoorXP
namespace Go.Proofs.YtidggaoacldgkaaGreatDoor.X
open Go.RowKit
def valX (tm:S):AX→Option AV
 | .t p=>tm.find p
 | .c v=>some v
theorem evK_iff {tm:S} {x:AX} {c:AV→Prop}:evK tm x c↔∃ v,valX tm x=some v∧c v:=by
 cases x with
 | t p=>exact S.getK_iff c tm p
 | c v=>exact ⟨fun h=>⟨v,rfl,h⟩,fun ⟨u,h1,h2⟩=>by cases h1; exact h2⟩
theorem evK_congr {tm tm':S} {x:AX} {c:AV→Prop} (h:valX tm' x=valX tm x) (hk:evK tm x c):evK tm' x c:=by
 rw [evK_iff] at hk ⊢; rw [h]; exact hk
theorem evK_imp {tm:S} {x:AX} {c c':AV→Prop} (h:∀ v,c v→c' v) (hk:evK tm x c):evK tm x c':=by
 rw [evK_iff] at hk ⊢
 obtain ⟨v,h1,h2⟩:=hk
 exact ⟨v,h1,h v h2⟩
theorem evsK_imp {tm tm':S}:∀ {xs:List AX} {c c':List AV→Prop},(∀ x ∈ xs,valX tm' x=valX tm x)→(∀ v,c v→c' v)→evsK tm xs c→evsK tm' xs c'
 | [],_,_,_,h,hk=>h _ hk
 | x :: xs,c,c',hx,h,hk=>by
  have hk:evK tm x fun v=>evsK tm xs fun vs=>c (v :: vs):=hk
  show evK tm' x fun v=>evsK tm' xs fun vs=>c' (v :: vs)
  exact evK_congr (hx x (List.mem_cons_self ..)) (evK_imp (fun v hv=>evsK_imp (fun y hy=>hx y (List.mem_cons_of_mem _ hy)) (fun vs=>h _) hv) hk)
theorem fillK_imp {tm tm':S}:∀ {ps:List (Nat × Nat × AX)} {z:List AV} {c:List AV→Prop},(∀ q ∈ ps,valX tm' q.2.2=valX tm q.2.2)→fillK tm ps z c→fillK tm' ps z c
 | [],_,_,_,hk=>hk
 | q :: ps,z,c,hx,hk=>by
  have hk:evK tm q.2.2 fun v=>forceB (Nat.beq (cellsA v).length q.2.1&&Nat.ble (q.1+q.2.1) z.length) fun b =>
   Bool.rec (motive:=fun _=>Prop) False (fillK tm ps (putL z q.1 (cellsA v)) c) b:=hk
  show evK tm' q.2.2 fun v=>forceB (Nat.beq (cellsA v).length q.2.1&&Nat.ble (q.1+q.2.1) z.length) fun b =>
   Bool.rec (motive:=fun _=>Prop) False (fillK tm' ps (putL z q.1 (cellsA v)) c) b
  refine evK_congr (hx q (List.mem_cons_self ..)) (evK_imp (fun v hv=>?_) hk)
  rw [forceB_iff] at hv ⊢
  cases hb:(Nat.beq (cellsA v).length q.2.1&&Nat.ble (q.1+q.2.1) z.length) with
  | false=>rw [hb] at hv; exact hv
  | true=>rw [hb] at hv; exact fillK_imp (fun y hy=>hx y (List.mem_cons_of_mem _ hy)) hv
theorem bdK_imp {tm tm':S} {x:Option AX} {d n:Nat} {c c':Nat→Prop} (hx:∀ y ∈ x.toList,valX tm' y=valX tm y) (h:∀ v,c v→c' v) (hk:bdK tm x d n c):bdK tm' x d n c':=by
 cases x with
 | none=>exact h _ hk
 | some x =>
  refine evK_congr (hx x (by simp)) (evK_imp (fun v hv=>?_) hk)
  split at hv
  ·obtain ⟨h1,h2⟩:=brec hv
   rw [h1]; exact h _ h2
  ·exact hv.elim
theorem stepV_congr {tm tm':S} {op:AOp} {h:T AO} {nx:Pt} {K:AV→T AO→Pt→Prop} (H:∀ x ∈ opX op,valX tm' x=valX tm x) (hk:stepV op tm h nx K):stepV op tm' h nx K:=by
 cases op with
 | mv x=>exact evK_congr (H x (by simp [opX])) hk
 | pick c x y =>
  refine evK_congr (H c (by simp [opX])) (evK_imp (fun v hv=>?_) hk)
  split at hv
  ·exact evK_congr (H x (by simp [opX])) hv
  ·exact evK_congr (H y (by simp [opX])) hv
  ·exact hv.elim
 | new vs e=>exact hk
 | box e x=>exact evK_congr (H x (by simp [opX])) hk
 | build z ps=>exact fillK_imp (fun q hq=>H _ (List.mem_map.2 ⟨q,hq,rfl⟩)) hk
 | buildS e n z ps=>exact fillK_imp (fun q hq=>H _ (List.mem_map.2 ⟨q,hq,rfl⟩)) hk
 | ld1 x=>exact evK_congr (H x (by simp [opX])) hk
 | ldN n x=>exact evK_congr (H x (by simp [opX])) hk
 | st n x y =>
  refine evK_congr (H x (by simp [opX])) (evK_imp (fun v hv=>?_) hk)
  split at hv
  ·exact evK_congr (H y (by simp [opX])) hv
  ·exact hv.elim
 | nchk x=>exact evK_congr (H x (by simp [opX])) hk
 | fa d x=>exact evK_congr (H x (by simp [opX])) hk
 | fld n d x=>exact evK_congr (H x (by simp [opX])) hk
 | fld1 d x=>exact evK_congr (H x (by simp [opX])) hk
 | ia n x i =>
  refine evK_congr (H x (by simp [opX])) (evK_imp (fun v hv=>?_) hk)
  split at hv
  ·exact evK_congr (H i (by simp [opX])) hv
  ·exact hv.elim
 | iaA l n x i =>
  refine evK_congr (H x (by simp [opX])) (evK_imp (fun v hv=>?_) hk)
  split at hv
  ·exact evK_congr (H i (by simp [opX])) hv
  ·exact hv.elim
 | ext x i=>exact evK_congr (H x (by simp [opX])) hk
 | mkf f x y=>exact evsK_imp (fun z hz=>H z (by simp [opX,hz])) (fun vs hv=>evsK_imp (fun z hz=>H z (by simp [opX,hz])) (fun _ h=>h) hv) hk
 | mki t x=>exact evK_congr (H x (by simp [opX])) hk
 | ar op x y=>exact evK_congr (H x (by simp [opX])) (evK_imp (fun v hv=>evK_congr (H y (by simp [opX])) hv) hk)
 | eq ek neg x y=>exact evK_congr (H x (by simp [opX])) (evK_imp (fun v hv=>evK_congr (H y (by simp [opX])) hv) hk)
 | un op x=>exact evK_congr (H x (by simp [opX])) hk
 | cvI k x=>exact evK_congr (H x (by simp [opX])) hk
 | cvS x=>exact evK_congr (H x (by simp [opX])) hk
 | lenS x=>exact evK_congr (H x (by simp [opX])) hk
 | len x=>exact evK_congr (H x (by simp [opX])) hk
 | lenM x=>exact evK_congr (H x (by simp [opX])) hk
 | lenC x=>exact evK_congr (H x (by simp [opX])) hk
 | mkC x=>exact evK_congr (H x (by simp [opX])) hk
 | cvB e x=>exact evK_congr (H x (by simp [opX])) hk
 | cvT x=>exact evK_congr (H x (by simp [opX])) hk
 | clr z x=>exact evK_congr (H x (by simp [opX])) hk
 | ix1 l x i =>
  refine evK_congr (H x (by simp [opX])) (evK_imp (fun v hv=>?_) hk)
  split at hv
  ·exact evK_congr (H i (by simp [opX])) hv
  ·exact hv.elim
 | lk z ok x k =>
  refine evK_congr (H k (by simp [opX])) (evK_imp (fun v hv=>?_) hk)
  split at hv
  ·exact evK_congr (H x (by simp [opX])) hv
  ·exact hv.elim
 | up x k v =>
  refine evK_congr (H k (by simp [opX])) (evK_imp (fun u hu=>?_) hk)
  split at hu
  ·refine evK_congr (H x (by simp [opX])) (evK_imp (fun y hy=>?_) hu)
   split at hy
   ·exact evK_congr (H v (by simp [opX])) hy
   ·exact hy.elim
  ·exact hu.elim
 | lkA n z ok x k =>
  refine evK_congr (H k (by simp [opX])) (evK_imp (fun v hv=>?_) hk)
  split at hv
  ·exact kiK_imp (fun s hs=>recB_imp (fun hs=>evK_congr (H x (by simp [opX])) hs) hs) hv
  ·exact hv.elim
 | upA n x k v =>
  refine evK_congr (H k (by simp [opX])) (evK_imp (fun u hu=>?_) hk)
  split at hu
  ·refine kiK_imp (fun s hs=>recB_imp (fun hs=>?_) hs) hu
   refine evK_congr (H x (by simp [opX])) (evK_imp (fun y hy=>?_) hs)
   split at hy
   ·exact evK_congr (H v (by simp [opX])) hy
   ·exact hy.elim
  ·exact hu.elim
 | ixS x i =>
  refine evK_congr (H x (by simp [opX])) (evK_imp (fun v hv=>?_) hk)
  split at hv
  ·exact evK_congr (H i (by simp [opX])) hv
  ·exact hv.elim
 | mkS e n z l c=>exact evK_congr (H l (by simp [opX])) (evK_imp (fun v hv=>evK_congr (H c (by simp [opX])) hv) hk)
 | sl n x lo hi mx =>
  have A:∀ y ∈ lo.toList,valX tm' y=valX tm y:=fun y hy=>H y (by simp only [opX,List.mem_cons,List.mem_append]; exact .inr (.inl (.inl hy)))
  have B:∀ y ∈ hi.toList,valX tm' y=valX tm y:=fun y hy=>H y (by simp only [opX,List.mem_cons,List.mem_append]; exact .inr (.inl (.inr hy)))
  have C:∀ y ∈ mx.toList,valX tm' y=valX tm y:=fun y hy=>H y (by simp only [opX,List.mem_cons,List.mem_append]; exact .inr (.inr hy))
  refine evK_congr (H x (by simp [opX])) (evK_imp (fun v hv=>?_) hk)
  split at hv
  ·exact bdK_imp C (fun _ hv=>bdK_imp B (fun _ hv=>bdK_imp A (fun _ hv=>hv) hv) hv) hv
  ·split at hv
   ·exact bdK_imp B (fun _ hv=>bdK_imp A (fun _ hv=>hv) hv) hv
   ·exact hv.elim
  ·split at hv
   ·exact bdK_imp B (fun _ hv=>bdK_imp A (fun _ hv=>hv) hv) hv
   ·exact bdK_imp C (fun _ hv=>bdK_imp B (fun _ hv=>bdK_imp A (fun _ hv=>hv) hv) hv) hv
  ·exact hv.elim
 | slS x lo hi =>
  have A:∀ y ∈ lo.toList,valX tm' y=valX tm y:=fun y hy=>H y (by simp only [opX,List.mem_cons,List.mem_append]; exact .inr (.inl hy))
  have B:∀ y ∈ hi.toList,valX tm' y=valX tm y:=fun y hy=>H y (by simp only [opX,List.mem_cons,List.mem_append]; exact .inr (.inr hy))
  refine evK_congr (H x (by simp [opX])) (evK_imp (fun v hv=>?_) hk)
  split at hv
  ·exact bdK_imp B (fun _ hv=>bdK_imp A (fun _ hv=>hv) hv) hv
  ·exact hv.elim
 | app e n x y=>exact evK_congr (H x (by simp [opX])) (evK_imp (fun v hv=>evK_congr (H y (by simp [opX])) hv) hk)
 | mm mx xs=>exact evsK_imp (fun z hz=>H z (by simp [opX,hz])) (fun _ h=>h) hk
 | mkM=>exact hk
 | rng x=>exact evK_congr (H x (List.mem_singleton.2 rfl)) hk
 | eqA n neg x y=>exact evK_congr (H x (by simp [opX])) (evK_imp (fun v hv=>evK_congr (H y (by simp [opX])) hv) hk)
 | nxt x=>exact evK_congr (H x (List.mem_singleton.2 rfl)) hk
 | ta ts x=>exact evK_congr (H x (by simp [opX])) hk
end Go.Proofs.YtidggaoacldgkaaGreatDoor.X

/- An executor for closed calls, 19: an operation that only looks gives one value, and the same one in every greater memory. -/
namespace Go.Proofs.YtidggaoacldgkaaGreatDoor.X
open Go.RowKit
def Fn (F:(AV→Prop)→Prop):Prop:=∃ o:Option AV,∀ C,F C↔∃ v,o=some v∧C v
theorem fn_const (v:AV):Fn fun C=>C v:=⟨some v,fun C=>⟨fun h=>⟨v,rfl,h⟩,fun ⟨u,h1,h2⟩=>by cases h1; exact h2⟩⟩
theorem fn_false:Fn fun _=>False:=⟨none,fun C=>⟨fun h=>h.elim,fun ⟨_,h,_⟩=>by cases h⟩⟩
theorem fn_congr {F G:(AV→Prop)→Prop} (h:∀ C,F C↔G C) (g:Fn G):Fn F:=by
  obtain ⟨o,ho⟩:=g
  exact ⟨o,fun C=>(h C).trans (ho C)⟩
theorem fn_ev {tm:S} {x:AX} {F:AV→(AV→Prop)→Prop} (h:∀ v,Fn (F v)):Fn fun C=>evK tm x fun v=>F v C:=by
  cases hv:valX tm x with
  | none=>exact ⟨none,fun C=>by show evK tm x _↔_; rw [evK_iff,hv]; exact ⟨fun ⟨v,h,_⟩=>(by cases h),fun ⟨v,h,_⟩=>(by cases h)⟩⟩
  | some v =>
    obtain ⟨o,ho⟩:=h v
    refine ⟨o,fun C=>?_⟩
    show evK tm x _↔_
    rw [evK_iff,hv,← ho C]
    exact ⟨fun ⟨u,h1,h2⟩=>by cases h1; exact h2,fun h2=>⟨v,rfl,h2⟩⟩
theorem fn_evs {tm:S}:∀ {xs:List AX} {F:List AV→(AV→Prop)→Prop},(∀ vs,Fn (F vs))→Fn fun C=>evsK tm xs fun vs=>F vs C
  | [],_,h=>h []
  | x :: _,_,h=>fn_ev (tm:=tm) (x:=x) fun v=>fn_evs fun vs=>h (v :: vs)
theorem fn_fill {tm:S}:∀ {ps:List (Nat × Nat × AX)} {z:List AV} {F:List AV→(AV→Prop)→Prop},(∀ vs,Fn (F vs))→Fn fun C=>fillK tm ps z fun vs=>F vs C
  | [],z,_,h=>h z
  | q :: ps,z,F,h=>by
    show Fn fun C=>evK tm q.2.2 fun v=>forceB (Nat.beq (cellsA v).length q.2.1&&Nat.ble (q.1+q.2.1) z.length) fun b =>
      Bool.rec (motive:=fun _=>Prop) False (fillK tm ps (putL z q.1 (cellsA v)) fun vs=>F vs C) b
    refine fn_ev fun v=>fn_congr (fun C=>forceB_iff _ _) ?_
    cases (Nat.beq (cellsA v).length q.2.1&&Nat.ble (q.1+q.2.1) z.length) with
    | false=>exact fn_false
    | true=>exact fn_fill h
theorem fn_b {b:Bool} {F G:(AV→Prop)→Prop} (hf:Fn F) (hg:Fn G):Fn fun C=>Bool.rec (motive:=fun _=>Prop) (F C) (G C) b:=by
  cases b with
  | false=>exact hf
  | true=>exact hg
theorem fn_n {n:Nat} {F:Nat→(AV→Prop)→Prop} (h:Fn (F n)):Fn fun C=>forceN n fun n=>F n C:=fn_congr (fun C=>forceN_iff n fun n=>F n C) h
theorem fn_i {n:Int} {F:Int→(AV→Prop)→Prop} (h:Fn (F n)):Fn fun C=>forceI n fun n=>F n C:=fn_congr (fun C=>forceI_iff n fun n=>F n C) h
theorem fn_bo {n:Bool} {F:Bool→(AV→Prop)→Prop} (h:Fn (F n)):Fn fun C=>forceB n fun n=>F n C:=fn_congr (fun C=>forceB_iff n fun n=>F n C) h
theorem fn_l {α:Type} {n:List α} {F:List α→(AV→Prop)→Prop} (h:Fn (F n)):Fn fun C=>forceL n fun n=>F n C:=fn_congr (fun C=>forceL_iff n fun n=>F n C) h
theorem fn_get {h:T AO} {k:Pt} {F:AO→(AV→Prop)→Prop} (hf:∀ o,Fn (F o)):Fn fun C=>h.getK k fun o=>F o C:=by
  cases hv:h.find k with
  | none=>exact ⟨none,fun C=>by show h.getK k _↔_; rw [T.getK_iff,hv]; exact ⟨fun ⟨v,h,_⟩=>(by cases h),fun ⟨v,h,_⟩=>(by cases h)⟩⟩
  | some v =>
    obtain ⟨o,ho⟩:=hf v
    refine ⟨o,fun C=>?_⟩
    show h.getK k _↔_
    rw [T.getK_iff,hv,← ho C]
    exact ⟨fun ⟨u,h1,h2⟩=>by cases h1; exact h2,fun h2=>⟨v,rfl,h2⟩⟩
theorem fn_wrap {k:IntKind} {n:Int}:Fn fun C=>wrapK k n C:=by
  unfold wrapK
  split
  · exact fn_b (fn_i (fn_const _)) (fn_n (fn_const _))
  · exact fn_i (fn_const _)
theorem fn_sem {s:Sem Value}:Fn fun C=>semV s C:=by
  unfold semV
  split
  · exact fn_i (fn_const _)
  · exact fn_bo (fn_const _)
  · exact fn_false
theorem fn_arI {op:BinOp} {k k':IntKind} {a b:Int}:Fn fun C=>arI op k k' a b C:=by
  unfold arI
  cases op <;> first | exact fn_b fn_false fn_wrap | exact fn_b fn_false (fn_bo (fn_const _)) | exact fn_b fn_false fn_sem | exact fn_sem
theorem fn_arS {op:BinOp} {a b:List Nat}:Fn fun C=>arS op a b C:=by
  unfold arS
  cases op <;> first | exact fn_false | exact fn_bo (fn_const _) | exact fn_b fn_false (fn_l (fn_const _))
theorem fn_bs:∀ {l:List AV} {F:List Nat→AV},Fn fun C=>bsK l fun s=>C (F s)
  | [],F=>fn_const (F [])
  | v :: l,F=>by
    show Fn fun C=>match v with
      | .int .u8 (.ofNat b)=>Bool.rec (motive:=fun _=>Prop) False (bsK l fun s=>C (F (b :: s))) (Nat.blt b 256)
      | _=>False
    split
    · rename_i b
      exact fn_b fn_false (fn_bs (F:=fun s=>F (b :: s)))
    · exact fn_false
theorem fn_lkR {z:AV} {ok:Bool} {v:Option AV}:Fn fun C=>lkR z ok v C:=by
  cases v with
  | none=>exact fn_b (fn_const _) (fn_const _)
  | some v=>exact fn_b (fn_const _) (fn_const _)
theorem fn_lk {z:AV} {ok:Bool} {s:List Nat}:∀ {es:List (AV × AV × Nat)},Fn fun C=>lkE s es fun v=>lkR z ok v C
  | []=>fn_lkR (z:=z) (ok:=ok) (v:=none)
  | e :: es=>by
    show Fn fun C=>match e.1 with
      | .str s'=>Bool.rec (motive:=fun _=>Prop) (lkE s es fun v=>lkR z ok v C) (lkR z ok (some e.2.1) C) (eqN s s')
      | _=>False
    split
    · exact fn_b fn_lk fn_lkR
    · exact fn_false
theorem fn_lkI {z:AV} {ok:Bool} {s:List Int} {es:T (List Int × AV)}:Fn fun C=>lkI s es fun v=>lkR z ok v C:=by
  refine fn_congr (fun C=>lkI_iff (c:=fun v=>lkR z ok v C)) ?_
  cases es.find (encI s) with
  | none =>
    show Fn fun C=>lkR z ok none C
    exact fn_lkR
  | some y =>
    show Fn fun C=>Bool.rec (motive:=fun _=>Prop) False (lkR z ok (some y.2) C) (eqIs s y.1)
    exact fn_b fn_false fn_lkR
theorem fn_ki:∀ {vs:List AV} {F:List Int→(AV→Prop)→Prop},(∀ s,Fn (F s))→Fn fun C=>kiK vs fun s=>F s C
  | [],_,h=>h []
  | v :: vs,F,h=>by
    show Fn fun C=>match (generalizing:=false) v with
      | .int .i64 m=>Bool.rec (motive:=fun _=>Prop) False (kiK vs fun l=>F (m :: l) C) (inI m)
      | _=>False
    split
    · rename_i m
      exact fn_b fn_false (fn_ki (F:=fun s=>F (m :: s)) fun s=>h (m :: s))
    · exact fn_false
theorem fn_at {i:AV} {n:Nat} {F:Nat→(AV→Prop)→Prop} (h:∀ j,Fn (F j)):Fn fun C=>atK i n fun j=>F j C:=by
  unfold atK
  split
  · exact fn_b fn_false (h _)
  · exact fn_false
theorem fn_bd {tm:S} {x:Option AX} {d n:Nat} {F:Nat→(AV→Prop)→Prop} (h:∀ j,Fn (F j)):Fn fun C=>bdK tm x d n fun j=>F j C:=by
  cases x with
  | none=>exact h d
  | some x =>
    refine fn_ev fun v=>?_
    split
    · exact fn_b fn_false (h _)
    · exact fn_false
theorem fn_mm {mx:Bool} {k:IntKind}:∀ {l:List AV} {n:Int},Fn fun C=>mmK mx k l n C
  | [],n=>fn_const _
  | v :: l,n=>by
    cases v with
    | int k' m =>
      simp only [mmK]
      exact fn_bo (fn_b fn_mm fn_mm)
    | _=>exact fn_false
theorem fn_eqK {ek:EK} {h:T AO} {a b:AV} {F:Bool→(AV→Prop)→Prop} (hf:∀ x,Fn (F x)):Fn fun C=>eqK ek h a b fun x=>F x C:=by
  unfold eqK
  split
  all_goals first
    | exact hf _
    | exact fn_false
    | exact fn_bo (hf _)
    | (refine fn_get fun o=>?_
       split
       · refine fn_get fun o=>?_
         split
         · exact fn_bo (hf _)
         · exact fn_false
       · exact fn_false)
theorem step_fn {op:AOp} (hq:quietB op=true) (tm:S) (h:T AO) (nx:Pt):Fn fun C=>stepV op tm h nx fun v _ _=>C v:=by
  cases op with
  | mv x=>exact fn_ev fun v=>fn_const v
  | pick c x y =>
    refine fn_ev fun v=>?_
    split
    · exact fn_ev fun v=>fn_const v
    · exact fn_ev fun v=>fn_const v
    · exact fn_false
  | build z ps=>exact fn_fill fun vs=>fn_l (fn_const _)
  | ld1 x =>
    refine fn_ev fun v=>?_
    split
    · refine fn_get fun o=>?_
      split
      · split
        · exact fn_const _
        · exact fn_false
      · split
        · exact fn_const _
        · exact fn_false
      · exact fn_false
    · exact fn_false
  | ldN n x =>
    refine fn_ev fun v=>?_
    split
    · refine fn_get fun o=>?_
      split
      · exact fn_b fn_false (fn_l (fn_const _))
      · exact fn_false
    · exact fn_false
  | nchk x =>
    refine fn_ev fun v=>?_
    split
    all_goals first | exact fn_false | exact fn_const _
  | fa d x =>
    refine fn_ev fun v=>?_
    split
    · exact fn_n (fn_const _)
    · exact fn_false
  | fld n d x =>
    refine fn_ev fun v=>?_
    split
    · exact fn_l (fn_const _)
    · exact fn_false
  | fld1 d x =>
    refine fn_ev fun v=>?_
    split
    · split
      · exact fn_const _
      · exact fn_false
    · exact fn_false
  | ia n x i =>
    refine fn_ev fun v=>?_
    split
    · exact fn_ev fun i=>fn_at fun j=>fn_n (fn_const _)
    · exact fn_false
  | iaA l n x i =>
    refine fn_ev fun v=>?_
    split
    · exact fn_ev fun i=>fn_at fun j=>fn_n (fn_const _)
    · exact fn_false
  | ext x i =>
    refine fn_ev fun v=>?_
    split
    · split
      · exact fn_const _
      · exact fn_false
    · exact fn_false
  | mkf f x y=>exact fn_evs fun a=>fn_evs fun b=>fn_const _
  | mki t x=>exact fn_ev fun v=>fn_const _
  | ar op x y =>
    refine fn_ev fun a=>fn_ev fun b=>?_
    split
    · exact fn_arI
    · exact fn_arS
    · exact fn_false
  | eq ek neg x y=>exact fn_ev fun a=>fn_ev fun b=>fn_eqK fun x=>fn_bo (fn_const _)
  | ta ts x =>
    refine fn_ev fun a=>?_
    split
    · exact fn_b fn_false (fn_const _)
    · exact fn_false
  | eqA n neg x y =>
    refine fn_ev fun a=>fn_ev fun b=>?_
    split
    · rename_i vs us
      exact fn_ki (F:=fun s C=>kiK us fun s'=>Bool.rec (motive:=fun _=>Prop) False (forceB (neg != eqIs s s') fun z=>C (.bool z)) (Nat.beq s.length n&&Nat.beq s'.length n)) fun s=>fn_ki (F:=fun s' C=>Bool.rec (motive:=fun _=>Prop) False (forceB (neg != eqIs s s') fun z=>C (.bool z)) (Nat.beq s.length n&&Nat.beq s'.length n)) fun s'=>fn_b fn_false (fn_bo (fn_const _))
    · exact fn_false
  | un op x =>
    refine fn_ev fun a=>?_
    split
    · exact fn_bo (fn_const _)
    · exact fn_wrap
    · exact fn_sem
    · exact fn_false
  | cvI k x =>
    refine fn_ev fun a=>?_
    split
    · exact fn_wrap
    · exact fn_false
  | cvS x =>
    refine fn_ev fun a=>?_
    split
    · exact fn_const _
    · exact fn_b fn_false (fn_const _)
    · exact fn_false
  | lenS x =>
    refine fn_ev fun a=>?_
    split
    · exact fn_n (fn_const _)
    · exact fn_false
  | len x =>
    refine fn_ev fun a=>?_
    split
    all_goals first | exact fn_const _ | exact fn_false
  | lenM x =>
    refine fn_ev fun a=>?_
    split
    · exact fn_const _
    · refine fn_get fun o=>?_
      split
      · exact fn_n (fn_const _)
      · exact fn_false
    · exact fn_false
  | lenC x =>
    refine fn_ev fun a=>?_
    split
    · exact fn_const _
    · refine fn_get fun o=>?_
      split
      · exact fn_n (fn_const _)
      · exact fn_false
    · exact fn_false
  | mkC x=>cases hq
  | cvB e x=>cases hq
  | clr z x=>cases hq
  | cvT x =>
    refine fn_ev fun a=>?_
    split
    · exact fn_const _
    · refine fn_get fun o=>?_
      split
      · exact fn_b fn_false fn_bs
      · exact fn_b fn_false fn_bs
      · exact fn_false
    · exact fn_false
  | ix1 l x i =>
    refine fn_ev fun a=>?_
    split
    · refine fn_ev fun i=>fn_at fun j=>?_
      split
      · exact fn_const _
      · exact fn_false
    · exact fn_false
  | lk z ok x k =>
    refine fn_ev fun a=>?_
    split
    · refine fn_ev fun b=>?_
      split
      · exact fn_lkR
      · refine fn_get fun o=>?_
        split
        · exact fn_lk
        · exact fn_false
      · exact fn_false
    · exact fn_false
  | up x k v=>cases hq
  | lkA n z ok x k =>
    refine fn_ev fun a=>?_
    split
    · refine fn_ki fun s=>fn_b fn_false (fn_ev fun b=>?_)
      split
      · exact fn_lkR
      · refine fn_get fun o=>?_
        split
        · split
          · exact fn_lkR
          · exact fn_false
        · exact fn_b fn_false fn_lkI
        · exact fn_false
      · exact fn_false
    · exact fn_false
  | upA n x k v=>cases hq
  | ixS x i =>
    refine fn_ev fun a=>?_
    split
    · refine fn_ev fun i=>fn_at fun j=>?_
      split
      · exact fn_n (fn_const _)
      · exact fn_false
    · exact fn_false
  | sl n x lo hi mx =>
    refine fn_ev fun a=>?_
    split
    · exact fn_bd fun _=>fn_bd fun _=>fn_bd fun _=>fn_const _
    · split
      · exact fn_bd fun _=>fn_bd fun _=>fn_const _
      · exact fn_false
    · split
      · exact fn_bd fun q=>fn_bd fun p=>fn_b (fn_b fn_false (fn_n (fn_n (fn_n (fn_const _))))) (fn_b (fn_n (fn_const _)) (fn_b fn_false (fn_n (fn_const _))))
      · exact fn_bd fun m=>fn_bd fun q=>fn_bd fun p=>fn_b (fn_n (fn_n (fn_n (fn_const _)))) (fn_n (fn_const _))
    · exact fn_false
  | slS x lo hi =>
    refine fn_ev fun a=>?_
    split
    · exact fn_bd fun q=>fn_bd fun p=>fn_l (fn_const _)
    · exact fn_false
  | mm mx xs =>
    refine fn_evs fun vs=>?_
    split
    · exact fn_mm
    · exact fn_false
  | new vs e=>cases hq
  | box e x=>cases hq
  | buildS e n z ps=>cases hq
  | st n x y=>cases hq
  | mkS e n z l c=>cases hq
  | app e n x y=>cases hq
  | mkM=>cases hq
  | rng x=>cases hq
  | nxt x=>cases hq
theorem step_heap {op:AOp} (hq:quietB op=true) {tm:S} {h h2:T AO} {nx nx2:Pt} {C:AV→Prop} (hh:∀ k o,h.find k=some o→h2.find k=some o) (hk:stepV op tm h nx fun v _ _=>C v):stepV op tm h2 nx2 fun v _ _=>C v:=by
  have G:∀ {k:Pt} {c c':AO→Prop},(∀ o,c o→c' o)→h.getK k c→h2.getK k c':=fun hc hg=>by
    obtain ⟨o,h1,h3⟩:=(T.getK_iff _ _ _).1 hg
    exact (T.getK_iff _ _ _).2 ⟨o,hh _ _ h1,hc o h3⟩
  cases op with
  | ld1 x =>
    refine evK_imp (fun v hv=>?_) hk
    split at hv
    · exact G (fun o ho=>ho) hv
    · exact hv.elim
  | ldN n x =>
    refine evK_imp (fun v hv=>?_) hk
    split at hv
    · exact G (fun o ho=>ho) hv
    · exact hv.elim
  | lk z ok x k =>
    refine evK_imp (fun v hv=>?_) hk
    split at hv
    · refine evK_imp (fun u hu=>?_) hv
      split at hu
      · exact hu
      · exact G (fun o ho=>ho) hu
      · exact hu.elim
    · exact hv.elim
  | up x k v=>cases hq
  | lkA n z ok x k =>
    refine evK_imp (fun v hv=>?_) hk
    split at hv
    · refine kiK_imp (fun s hs=>recB_imp (fun hs=>?_) hs) hv
      refine evK_imp (fun u hu=>?_) hs
      split at hu
      · exact hu
      · exact G (fun o ho=>ho) hu
      · exact hu.elim
    · exact hv.elim
  | upA n x k v=>cases hq
  | cvB e x=>cases hq
  | clr z x=>cases hq
  | cvT x =>
    refine evK_imp (fun v hv=>?_) hk
    split at hv
    · exact hv
    · exact G (fun o ho=>ho) hv
    · exact hv.elim
  | lenM x =>
    refine evK_imp (fun v hv=>?_) hk
    split at hv
    · exact hv
    · exact G (fun o ho=>ho) hv
    · exact hv.elim
  | lenC x =>
    refine evK_imp (fun v hv=>?_) hk
    split at hv
    · exact hv
    · exact G (fun o ho=>ho) hv
    · exact hv.elim
  | mkC x=>cases hq
  | eq ek neg x y =>
    refine evK_imp (fun a ha=>evK_imp (fun b hb=>?_) ha) hk
    unfold eqK at hb ⊢
    split at hb
    all_goals first
      | exact hb
      | (refine G (fun o ho=>?_) hb
         split at ho
         · exact G (fun o ho=>ho) ho
         · exact ho.elim)
  | new vs e=>cases hq
  | box e x=>cases hq
  | buildS e n z ps=>cases hq
  | st n x y=>cases hq
  | mkS e n z l c=>cases hq
  | app e n x y=>cases hq
  | mkM=>cases hq
  | rng x=>cases hq
  | nxt x=>cases hq
  | _=>exact hk
end Go.Proofs.YtidggaoacldgkaaGreatDoor.X
