/- An executor for closed calls, 18: what an operation looks at; operations that only look. -/
import Derived.Test.YtpajcdofelmaaaaGreatDoorXP
namespace Go.Proofs.YtpajcdofelmaaaaGreatDoor.X
open Go.RowKit
def valX (tm:S):AX→Option AV
 | .t p=>tm.find p
 | .c v=>some v
theorem evK_iff {tm:S} {x:AX} {c:AV→Prop}:evK tm x c↔∃ v,valX tm x=some v∧c v:=by
 cases x with
 | t p=>exact S.getK_iff c tm p
 | c v=>exact ⟨fun h=>⟨v,rfl,h⟩,fun ⟨u,h1,h2⟩=>by cases h1; exact h2⟩
theorem evK_congr {tm tm':S} {x:AX} {c:AV→Prop} (h:valX tm' x=valX tm x) (hk:evK tm x c):evK tm' x c:=by
 rw [evK_iff] at hk ⊢; rw [h]; exact hk
theorem evK_imp {tm:S} {x:AX} {c c':AV→Prop} (h:∀ v,c v→c' v) (hk:evK tm x c):evK tm x c':=by
 rw [evK_iff] at hk ⊢
 obtain ⟨v,h1,h2⟩:=hk
 exact ⟨v,h1,h v h2⟩
theorem evsK_imp {tm tm':S}:∀ {xs:List AX} {c c':List AV→Prop},(∀ x ∈ xs,valX tm' x=valX tm x)→(∀ v,c v→c' v)→evsK tm xs c→evsK tm' xs c'
 | [],_,_,_,h,hk=>h _ hk
 | x :: xs,c,c',hx,h,hk=>by
  have hk:evK tm x fun v=>evsK tm xs fun vs=>c (v :: vs):=hk
  show evK tm' x fun v=>evsK tm' xs fun vs=>c' (v :: vs)
  exact evK_congr (hx x (List.mem_cons_self ..)) (evK_imp (fun v hv=>evsK_imp (fun y hy=>hx y (List.mem_cons_of_mem _ hy)) (fun vs=>h _) hv) hk)
theorem fillK_imp {tm tm':S}:∀ {ps:List (Nat × Nat × AX)} {z:List AV} {c:List AV→Prop},(∀ q ∈ ps,valX tm' q.2.2=valX tm q.2.2)→fillK tm ps z c→fillK tm' ps z c
 | [],_,_,_,hk=>hk
 | q :: ps,z,c,hx,hk=>by
  have hk:evK tm q.2.2 fun v=>forceB (Nat.beq (cellsA v).length q.2.1&&Nat.ble (q.1+q.2.1) z.length) fun b =>
   Bool.rec (motive:=fun _=>Prop) False (fillK tm ps (putL z q.1 (cellsA v)) c) b:=hk
  show evK tm' q.2.2 fun v=>forceB (Nat.beq (cellsA v).length q.2.1&&Nat.ble (q.1+q.2.1) z.length) fun b =>
   Bool.rec (motive:=fun _=>Prop) False (fillK tm' ps (putL z q.1 (cellsA v)) c) b
  refine evK_congr (hx q (List.mem_cons_self ..)) (evK_imp (fun v hv=>?_) hk)
  rw [forceB_iff] at hv ⊢
  cases hb:(Nat.beq (cellsA v).length q.2.1&&Nat.ble (q.1+q.2.1) z.length) with
  | false=>rw [hb] at hv; exact hv
  | true=>rw [hb] at hv; exact fillK_imp (fun y hy=>hx y (List.mem_cons_of_mem _ hy)) hv
theorem bdK_imp {tm tm':S} {x:Option AX} {d n:Nat} {c c':Nat→Prop} (hx:∀ y ∈ x.toList,valX tm' y=valX tm y) (h:∀ v,c v→c' v) (hk:bdK tm x d n c):bdK tm' x d n c':=by
 cases x with
 | none=>exact h _ hk
 | some x =>
  refine evK_congr (hx x (by simp)) (evK_imp (fun v hv=>?_) hk)
  split at hv
  ·obtain ⟨h1,h2⟩:=brec hv
   rw [h1]; exact h _ h2
  ·exact hv.elim
theorem stepV_congr {tm tm':S} {op:AOp} {h:T AO} {nx:Pt} {K:AV→T AO→Pt→Prop} (H:∀ x ∈ opX op,valX tm' x=valX tm x) (hk:stepV op tm h nx K):stepV op tm' h nx K:=by
 cases op with
 | mv x=>exact evK_congr (H x (by simp [opX])) hk
 | pick c x y =>
  refine evK_congr (H c (by simp [opX])) (evK_imp (fun v hv=>?_) hk)
  split at hv
  ·exact evK_congr (H x (by simp [opX])) hv
  ·exact evK_congr (H y (by simp [opX])) hv
  ·exact hv.elim
 | new vs e=>exact hk
 | box e x=>exact evK_congr (H x (by simp [opX])) hk
 | build z ps=>exact fillK_imp (fun q hq=>H _ (List.mem_map.2 ⟨q,hq,rfl⟩)) hk
 | buildS e n z ps=>exact fillK_imp (fun q hq=>H _ (List.mem_map.2 ⟨q,hq,rfl⟩)) hk
 | ld1 x=>exact evK_congr (H x (by simp [opX])) hk
 | ldN n x=>exact evK_congr (H x (by simp [opX])) hk
 | st n x y =>
  refine evK_congr (H x (by simp [opX])) (evK_imp (fun v hv=>?_) hk)
  split at hv
  ·exact evK_congr (H y (by simp [opX])) hv
  ·exact hv.elim
 | nchk x=>exact evK_congr (H x (by simp [opX])) hk
 | fa d x=>exact evK_congr (H x (by simp [opX])) hk
 | fld n d x=>exact evK_congr (H x (by simp [opX])) hk
 | fld1 d x=>exact evK_congr (H x (by simp [opX])) hk
 | ia n x i =>
  refine evK_congr (H x (by simp [opX])) (evK_imp (fun v hv=>?_) hk)
  split at hv
  ·exact evK_congr (H i (by simp [opX])) hv
  ·exact hv.elim
 | iaA l n x i =>
  refine evK_congr (H x (by simp [opX])) (evK_imp (fun v hv=>?_) hk)
  split at hv
  ·exact evK_congr (H i (by simp [opX])) hv
  ·exact hv.elim
 | ext x i=>exact evK_congr (H x (by simp [opX])) hk
 | mkf f x y=>exact evsK_imp (fun z hz=>H z (by simp [opX,hz])) (fun vs hv=>evsK_imp (fun z hz=>H z (by simp [opX,hz])) (fun _ h=>h) hv) hk
 | mki t x=>exact evK_congr (H x (by simp [opX])) hk
 | ar op x y=>exact evK_congr (H x (by simp [opX])) (evK_imp (fun v hv=>evK_congr (H y (by simp [opX])) hv) hk)
 | eq ek neg x y=>exact evK_congr (H x (by simp [opX])) (evK_imp (fun v hv=>evK_congr (H y (by simp [opX])) hv) hk)
 | un op x=>exact evK_congr (H x (by simp [opX])) hk
 | cvI k x=>exact evK_congr (H x (by simp [opX])) hk
 | cvS x=>exact evK_congr (H x (by simp [opX])) hk
 | lenS x=>exact evK_congr (H x (by simp [opX])) hk
 | len x=>exact evK_congr (H x (by simp [opX])) hk
 | lenM x=>exact evK_congr (H x (by simp [opX])) hk
 | lenC x=>exact evK_congr (H x (by simp [opX])) hk
 | mkC x=>exact evK_congr (H x (by simp [opX])) hk
 | cvB e x=>exact evK_congr (H x (by simp [opX])) hk
 | cvT x=>exact evK_congr (H x (by simp [opX])) hk
 | clr z x=>exact evK_congr (H x (by simp [opX])) hk
 | ix1 l x i =>
  refine evK_congr (H x (by simp [opX])) (evK_imp (fun v hv=>?_) hk)
  split at hv
  ·exact evK_congr (H i (by simp [opX])) hv
  ·exact hv.elim
 | lk z ok x k =>
  refine evK_congr (H k (by simp [opX])) (evK_imp (fun v hv=>?_) hk)
  split at hv
  ·exact evK_congr (H x (by simp [opX])) hv
  ·exact hv.elim
 | up x k v =>
  refine evK_congr (H k (by simp [opX])) (evK_imp (fun u hu=>?_) hk)
  split at hu
  ·refine evK_congr (H x (by simp [opX])) (evK_imp (fun y hy=>?_) hu)
   split at hy
   ·exact evK_congr (H v (by simp [opX])) hy
   ·exact hy.elim
  ·exact hu.elim
 | lkA n z ok x k =>
  refine evK_congr (H k (by simp [opX])) (evK_imp (fun v hv=>?_) hk)
  split at hv
  ·exact kiK_imp (fun s hs=>recB_imp (fun hs=>evK_congr (H x (by simp [opX])) hs) hs) hv
  ·exact hv.elim
 | upA n x k v =>
  refine evK_congr (H k (by simp [opX])) (evK_imp (fun u hu=>?_) hk)
  split at hu
  ·refine kiK_imp (fun s hs=>recB_imp (fun hs=>?_) hs) hu
   refine evK_congr (H x (by simp [opX])) (evK_imp (fun y hy=>?_) hs)
   split at hy
   ·exact evK_congr (H v (by simp [opX])) hy
   ·exact hy.elim
  ·exact hu.elim
 | ixS x i =>
  refine evK_congr (H x (by simp [opX])) (evK_imp (fun v hv=>?_) hk)
  split at hv
  ·exact evK_congr (H i (by simp [opX])) hv
  ·exact hv.elim
 | mkS e n z l c=>exact evK_congr (H l (by simp [opX])) (evK_imp (fun v hv=>evK_congr (H c (by simp [opX])) hv) hk)
 | sl n x lo hi mx =>
  have A:∀ y ∈ lo.toList,valX tm' y=valX tm y:=fun y hy=>H y (by simp only [opX,List.mem_cons,List.mem_append]; exact .inr (.inl (.inl hy)))
  have B:∀ y ∈ hi.toList,valX tm' y=valX tm y:=fun y hy=>H y (by simp only [opX,List.mem_cons,List.mem_append]; exact .inr (.inl (.inr hy)))
  have C:∀ y ∈ mx.toList,valX tm' y=valX tm y:=fun y hy=>H y (by simp only [opX,List.mem_cons,List.mem_append]; exact .inr (.inr hy))
  refine evK_congr (H x (by simp [opX])) (evK_imp (fun v hv=>?_) hk)
  split at hv
  ·exact bdK_imp C (fun _ hv=>bdK_imp B (fun _ hv=>bdK_imp A (fun _ hv=>hv) hv) hv) hv
  ·split at hv
   ·exact bdK_imp B (fun _ hv=>bdK_imp A (fun _ hv=>hv) hv) hv
   ·exact hv.elim
  ·split at hv
   ·exact bdK_imp B (fun _ hv=>bdK_imp A (fun _ hv=>hv) hv) hv
   ·exact bdK_imp C (fun _ hv=>bdK_imp B (fun _ hv=>bdK_imp A (fun _ hv=>hv) hv) hv) hv
  ·exact hv.elim
 | slS x lo hi =>
  have A:∀ y ∈ lo.toList,valX tm' y=valX tm y:=fun y hy=>H y (by simp only [opX,List.mem_cons,List.mem_append]; exact .inr (.inl hy))
  have B:∀ y ∈ hi.toList,valX tm' y=valX tm y:=fun y hy=>H y (by simp only [opX,List.mem_cons,List.mem_append]; exact .inr (.inr hy))
  refine evK_congr (H x (by simp [opX])) (evK_imp (fun v hv=>?_) hk)
  split at hv
  ·exact bdK_imp B (fun _ hv=>bdK_imp A (fun _ hv=>hv) hv) hv
  ·exact hv.elim
 | app e n x y=>exact evK_congr (H x (by simp [opX])) (evK_imp (fun v hv=>evK_congr (H y (by simp [opX])) hv) hk)
 | mm mx xs=>exact evsK_imp (fun z hz=>H z (by simp [opX,hz])) (fun _ h=>h) hk
 | mkM=>exact hk
 | rng x=>exact evK_congr (H x (List.mem_singleton.2 rfl)) hk
 | eqA n neg x y=>exact evK_congr (H x (by simp [opX])) (evK_imp (fun v hv=>evK_congr (H y (by simp [opX])) hv) hk)
 | nxt x=>exact evK_congr (H x (List.mem_singleton.2 rfl)) hk
 | ta ts x=>exact evK_congr (H x (by simp [opX])) hk
end Go.Proofs.YtpajcdofelmaaaaGreatDoor.X
