/- An executor for closed calls, 21: a region that draws its order, as a script: operations that look and those that make blocks come as early as they can, those that act in their one order. -/
import Derived.Test.YtphfjjopeghhnaaGreatXT
namespace Go.Proofs.YtphfjjopeghhnaaGreat.X
open Go.RowKit
theorem valX_of {tm tm':S} {x:AX} (h:∀ p ∈ axP x,tm'.find p=tm.find p):valX tm' x=valX tm x:=by
 cases x with
 | t p=>exact h p (by simp [axP])
 | c v=>rfl
theorem wantK_congr {g:Sl} {b:Bool} {tm tm':S} {y n y' n':Prop} (hg:tm'.find g=tm.find g) (hy:y→y') (hn:n→n') (hk:wantK g b tm y n):wantK g b tm' y' n':=by
 unfold wantK at hk ⊢
 rw [S.getK_iff] at hk ⊢
 obtain ⟨v,h1,h2⟩:=hk
 refine ⟨v,by rw [hg]; exact h1,?_⟩
 split at h2
 ·rename_i c
  cases hb:(c == b) with
  | false=>rw [hb] at h2; exact hn h2
  | true=>rw [hb] at h2; exact hy h2
 ·exact hn h2
theorem rd_op {x:AOper} {o:AOp} (ho:x.op=.v o) {tm tm':S} (h:∀ p ∈ rdX x,tm'.find p=tm.find p):∀ y ∈ opX o,valX tm' y=valX tm y:=fun y hy=>valX_of fun p hp=>h p (by
 unfold rdX
 rw [ho]
 exact List.mem_append.2 (.inr (List.mem_flatMap.2 ⟨y,hy,hp⟩)))
theorem rd_guard {x:AOper} {g:Sl} {b:Bool} (hg:x.guard=some (g,b)) {tm tm':S} (h:∀ p ∈ rdX x,tm'.find p=tm.find p):tm'.find g=tm.find g:=h g (by
 unfold rdX
 rw [hg]
 exact List.mem_append.2 (.inl (by simp)))
theorem nK_congr {x:AOper} {tm tm':S} {h:T AO} {nx:Pt} {c:AV→Prop} (hr:∀ p ∈ rdX x,tm'.find p=tm.find p) (hk:nK x tm h nx c):nK x tm' h nx c:=by
 unfold nK at hk ⊢
 split
 ·rename_i o ho
  simp only [ho] at hk
  split
  ·rename_i hg
   simp only [hg] at hk
   exact stepV_congr (rd_op ho hr) hk
  ·rename_i g b hg
   simp only [hg] at hk
   exact wantK_congr (rd_guard hg hr) (stepV_congr (rd_op ho hr)) id hk
 ·rename_i hne
  split at hk
  ·rename_i o ho; exact absurd ho (hne o)
  ·exact hk
theorem nK_heap {x:AOper} (hq:quietX x=true) {tm:S} {h h2:T AO} {nx nx2:Pt} {c:AV→Prop} (hh:∀ k o,h.find k=some o→h2.find k=some o) (hk:nK x tm h nx c):nK x tm h2 nx2 c:=by
 unfold nK at hk ⊢
 unfold quietX at hq
 split
 ·rename_i o ho
  simp only [ho] at hk hq
  split
  ·rename_i hg
   simp only [hg] at hk
   exact step_heap hq hh hk
  ·rename_i g b hg
   simp only [hg] at hk
   exact wantK_congr rfl (step_heap hq hh) id hk
 ·rename_i hne
  split at hk
  ·rename_i o ho; exact absurd ho (hne o)
  ·exact hk
theorem fn_want {v:AV} {b:Bool} {F G:(AV→Prop)→Prop} (hf:Fn F) (hg:Fn G):Fn fun C=>match v with | .bool b'=>Bool.rec (motive:=fun _=>Prop) (F C) (G C) (b' == b) | _=>F C:=by
 cases v with
 | bool b'=>exact fn_b hf hg
 | _=>exact hf
theorem nK_fn {x:AOper} (hq:quietX x=true) (tm:S) (h:T AO) (nx:Pt):Fn (nK x tm h nx):=by
 unfold quietX at hq
 cases ho:x.op with
 | v o =>
  simp only [ho] at hq
  cases hg:x.guard with
  | none=>exact fn_congr (fun C=>by unfold nK; simp only [ho,hg]) (step_fn hq tm h nx)
  | some gb =>
   obtain ⟨g,b⟩:=gb
   refine fn_congr (G:=fun C=>wantK g b tm (stepV o tm h nx fun v _ _=>C v) (C (.tup []))) (fun C=>by unfold nK; simp only [ho,hg]) ?_
   unfold wantK
   cases hv:tm.find g with
   | none=>exact ⟨none,fun C=>by show tm.getK g _↔_; rw [S.getK_iff,hv]; exact ⟨fun ⟨v,h,_⟩=>(by cases h),fun ⟨v,h,_⟩=>(by cases h)⟩⟩
   | some v =>
    refine fn_congr (fun C=>?_) (fn_want (v:=v) (b:=b) (fn_const (.tup [])) (step_fn hq tm h nx))
    show tm.getK g _↔_
    rw [S.getK_iff,hv]
    exact ⟨fun ⟨u,h1,h2⟩=>by cases h1; exact h2,fun h2=>⟨v,rfl,h2⟩⟩
 | call f xs=>simp [ho] at hq
 | callv y xs=>simp [ho] at hq
 | snd y v=>simp [ho] at hq
 | sel y z=>simp [ho] at hq
 | sls y v=>simp [ho] at hq
 | pan y=>simp [ho] at hq
theorem nK_val {x:AOper} (hq:quietX x=true) {tm:S} {h:T AO} {nx:Pt} {c:AV→Prop} (hk:nK x tm h nx c):∃ v,c v∧nK x tm h nx fun v'=>v'=v:=by
 obtain ⟨o,ho⟩:=nK_fn hq tm h nx
 obtain ⟨v,h1,h2⟩:=(ho c).1 hk
 exact ⟨v,h2,(ho _).2 ⟨v,h1,rfl⟩⟩
theorem nK_imp {x:AOper} (hq:quietX x=true) {tm:S} {h:T AO} {nx:Pt} {c c':AV→Prop} (hc:∀ v,c v→c' v) (hk:nK x tm h nx c):nK x tm h nx c':=by
 obtain ⟨o,ho⟩:=nK_fn hq tm h nx
 obtain ⟨v,h1,h2⟩:=(ho c).1 hk
 exact (ho _).2 ⟨v,h1,hc v h2⟩
theorem quiet_same {o:AOp} (hq:quietB o=true) {tm:S} {h:T AO} {nx:Pt} {K:AV→T AO→Pt→Prop} (hk:stepV o tm h nx fun v _ _=>K v h nx):stepV o tm h nx K:=by
 cases o with
 | new vs e=>cases hq
 | box e x=>cases hq
 | buildS e n z ps=>cases hq
 | st n x y=>cases hq
 | mkS e n z l c=>cases hq
 | app e n x y=>cases hq
 | up x k v=>cases hq
 | upA n x k v=>cases hq
 | cvB e x=>cases hq
 | clr z x=>cases hq
 | mkC x=>cases hq
 | mkM=>cases hq
 | rng x=>cases hq
 | nxt x=>cases hq
 | _=>exact hk
theorem nK_eK {x:AOper} (hq:quietX x=true) {ch:CH} {tm:S} {h:T AO} {nx:Pt} {c:AV→Prop} (hk:nK x tm h nx c):eK x ch tm h nx fun v h' nx'=>c v∧h'=h∧nx'=nx:=by
 have hk:=nK_imp hq (c':=fun v=>c v∧h=h∧nx=nx) (fun v hv=>⟨hv,rfl,rfl⟩) hk
 unfold nK at hk
 unfold quietX at hq
 unfold eK
 split at hk
 ·rename_i o ho
  simp only [ho] at hq
  split at hk
  ·rename_i hg
   simp only [ho,eK0]
   exact quiet_same hq hk
  ·rename_i g b hg
   simp only [ho,eK0]
   exact wantK_congr rfl (quiet_same hq) (fun h=>⟨h.1,trivial,trivial⟩) hk
 ·exact hk.elim
theorem floatK_congr {op:AOp} {tm tm':S} {n:Pt} {c:AV→AO→Prop} (hr:∀ x ∈ opX op,valX tm' x=valX tm x) (hk:floatK op tm n c):floatK op tm' n c:=by
 cases op with
 | box e x=>exact evK_congr (hr _ (by simp [opX])) hk
 | cvB e x=>exact evK_congr (hr _ (by simp [opX])) hk
 | buildS e k z ps=>exact fillK_imp (fun q hq=>hr _ (by simp only [opX]; exact List.mem_map.2 ⟨q,hq,rfl⟩)) hk
 | mkS e k z l m=>exact evK_congr (hr _ (by simp [opX])) (evK_imp (fun v hv=>evK_congr (hr _ (by simp [opX])) hv) hk)
 | _=>exact hk
theorem fillK_val {tm:S}:∀ {ps:List (Nat × Nat × AX)} {z:List AV} {c:List AV→Prop},fillK tm ps z c→∃ vs,c vs∧∀ c',c' vs→fillK tm ps z c'
 | [],z,c,hk=>⟨z,hk,fun _ h=>h⟩
 | q :: ps,z,c,hk=>by
  have hk:evK tm q.2.2 fun v=>forceB (Nat.beq (cellsA v).length q.2.1&&Nat.ble (q.1+q.2.1) z.length) fun b =>
   Bool.rec (motive:=fun _=>Prop) False (fillK tm ps (putL z q.1 (cellsA v)) c) b:=hk
  rw [evK_iff] at hk
  obtain ⟨v,h1,h2⟩:=hk
  rw [forceB_iff] at h2
  obtain ⟨hb,h2⟩:=brec h2
  obtain ⟨vs,g1,g2⟩:=fillK_val h2
  refine ⟨vs,g1,fun c' hc'=>?_⟩
  show evK tm q.2.2 fun v=>forceB (Nat.beq (cellsA v).length q.2.1&&Nat.ble (q.1+q.2.1) z.length) fun b =>
   Bool.rec (motive:=fun _=>Prop) False (fillK tm ps (putL z q.1 (cellsA v)) c') b
  rw [evK_iff]
  refine ⟨v,h1,?_⟩
  rw [forceB_iff,hb]
  exact g2 c' hc'
theorem floatK_val {op:AOp} {tm:S} {n:Pt} {c:AV→AO→Prop} (hk:floatK op tm n c):∃ v ob,c v ob∧floatK op tm n fun v' ob'=>v'=v∧ob'=ob:=by
 unfold floatK at hk ⊢
 split at hk
 ·exact ⟨_,_,hk,rfl,rfl⟩
 ·rw [evK_iff] at hk
  obtain ⟨v,h1,h2⟩:=hk
  exact ⟨_,_,h2,by rw [evK_iff]; exact ⟨v,h1,rfl,rfl⟩⟩
 ·obtain ⟨vs,g1,g2⟩:=fillK_val hk
  rw [forceL_iff] at g1
  exact ⟨_,_,g1,g2 _ ((forceL_iff _ _).2 ⟨rfl,rfl⟩)⟩
 ·exact ⟨_,_,hk,rfl,rfl⟩
 ·rw [evK_iff] at hk
  obtain ⟨v,h1,h2⟩:=hk
  split at h2
  ·rename_i s
   rw [forceL_iff,forceN_iff] at h2
   refine ⟨_,_,h2,?_⟩
   rw [evK_iff]
   refine ⟨_,h1,?_⟩
   show forceL _ _
   rw [forceL_iff,forceN_iff]
   exact ⟨rfl,rfl⟩
  ·exact h2.elim
 ·rw [evK_iff] at hk
  obtain ⟨l,h1,h2⟩:=hk
  rw [evK_iff] at h2
  obtain ⟨m,h3,h4⟩:=h2
  split at h4
  ·rename_i k1 l1 k2 m1
   obtain ⟨hb,h4⟩:=brec h4
   rw [forceL_iff] at h4
   refine ⟨_,_,h4,?_⟩
   rw [evK_iff]
   refine ⟨_,h1,?_⟩
   rw [evK_iff]
   refine ⟨_,h3,?_⟩
   show Bool.rec (motive:=fun _=>Prop) False (forceL _ _) (Nat.ble l1 m1&&_)
   rw [hb]
   exact (forceL_iff _ _).2 ⟨rfl,rfl⟩
  ·exact h4.elim
 ·exact hk.elim
theorem eK_congr {x:AOper} {ch:CH} {tm tm':S} {h:T AO} {nx:Pt} {c:AV→T AO→Pt→Prop} (hf:ch.pan tm=ch.pan tm') (hr:∀ p ∈ rdX x,tm'.find p=tm.find p) (hk:eK x ch tm h nx c):eK x ch tm' h nx c:=by
 have hv:∀ y ∈ kX x.op,valX tm' y=valX tm y:=fun y hy=>valX_of fun p hp=>hr p (by
  unfold rdX
  exact List.mem_append.2 (.inr (List.mem_flatMap.2 ⟨y,hy,hp⟩)))
 have key:eK0 x.op ch tm h nx c→eK0 x.op ch tm' h nx c:=fun hk=>by
  unfold eK0 at hk ⊢
  split
  ·rename_i o ho
   simp only [ho] at hk
   exact stepV_congr (fun y hy=>hv y (by rw [ho]; exact hy)) hk
  ·rename_i f xs ho
   simp only [ho] at hk
   have hgo:ch.go tm=ch.go tm':=by unfold CH.go; rw [hf]
   rw [hgo] at hk
   exact evsK_imp (fun y hy=>hv y (by rw [ho]; exact hy)) (fun _ h=>h) hk
  ·rename_i y xs ho
   simp only [ho] at hk
   have hgo:cvK ch tm=cvK ch tm':=by unfold cvK CH.go; rw [hf]
   rw [hgo] at hk
   exact evK_congr (hv y (by rw [ho]; simp [kX])) (evK_imp (fun v hv'=>evsK_imp (fun z hz=>hv z (by rw [ho]; simp [kX,hz])) (fun _ h=>h) hv') hk)
  ·rename_i y v ho
   simp only [ho] at hk
  ·rename_i y z ho
   simp only [ho] at hk
  ·rename_i y v ho
   simp only [ho] at hk
  ·rename_i y ho
   simp only [ho] at hk
   have hgo:panK ch y tm h nx→evK tm y fun v=>match v with
     | .iface t u=>ch.pan tm' (.iface t u) h nx
     | _=>False:=fun hk=>by
    rw [← hf]; exact hk
   exact evK_congr (hv y (by rw [ho]; simp [kX])) (hgo hk)
 unfold eK at hk ⊢
 split
 ·rename_i hg
  simp only [hg] at hk
  exact key hk
 ·rename_i g b hg
  simp only [hg] at hk
  exact wantK_congr (rd_guard hg hr) key id hk
theorem eqN_eq:∀ {a b:List Nat},eqN a b=true→a=b
 | [],[],_=>rfl
 | [],_ :: _,h=>by cases h
 | _ :: _,[],h=>by cases h
 | x :: a,y :: b,h=>by
  simp only [eqN,Bool.and_eq_true] at h
  rw [Nat.eq_of_beq_eq_true h.1,eqN_eq h.2]
mutual
theorem eqV_eq:∀ {a b:AV},eqV a b=true→a=b
 | .bool a,b,h=>by cases b <;> simp [eqV] at h <;> rw [h]
 | .int k a,b,h=>by
  cases b <;> simp [eqV] at h
  obtain ⟨rfl,h⟩:=h
  rw [eqI_spec] at h
  rw [eq_of_beq h]
 | .str a,b,h=>by cases b <;> simp [eqV] at h; rw [eqN_eq h]
 | .nilp,b,h=>by cases b <;> simp [eqV] at h; rfl
 | .ptr k o,b,h=>by
  cases b <;> simp [eqV] at h
  rw [eqP_spec h.1,h.2]
 | .nils,b,h=>by cases b <;> simp [eqV] at h; rfl
 | .sl k o l c op,b,h=>by
  cases b <;> simp [eqV] at h
  obtain ⟨⟨⟨⟨h1,h2⟩,h3⟩,h4⟩,h5⟩:=h
  rw [eqP_spec h1,h2,h3,h4,h5]
 | .slz k o p,b,h=>by cases b <;> simp [eqV] at h
 | .nilm,b,h=>by cases b <;> simp [eqV] at h; rfl
 | .map k,b,h=>by cases b <;> simp [eqV] at h; rw [eqP_spec h]
 | .fn f x y,b,h=>by
  cases b <;> try (simp [eqV] at h; done)
  rename_i g x' y'
  cases f <;> cases g <;> simp [eqV] at h
  obtain ⟨⟨rfl,h1⟩,h2⟩:=h
  rw [eqVs_eq h1,eqVs_eq h2]
 | .yld k,b,h=>by cases b <;> simp [eqV] at h; rw [eqP_spec h]
 | .chan k,b,h=>by cases b <;> simp [eqV] at h; rw [eqP_spec h]
 | .nilc,b,h=>by cases b <;> simp [eqV] at h; rfl
 | .nilf,b,h=>by cases b <;> simp [eqV] at h; rfl
 | .iface t v,b,h=>by
  cases b <;> simp [eqV] at h
  obtain ⟨rfl,h⟩:=h
  rw [eqV_eq h]
 | .nili,b,h=>by cases b <;> simp [eqV] at h; rfl
 | .agg x,b,h=>by cases b <;> simp [eqV] at h; rw [eqVs_eq h]
 | .tup x,b,h=>by cases b <;> simp [eqV] at h; rw [eqVs_eq h]
theorem eqVs_eq:∀ {a b:List AV},eqVs a b=true→a=b
 | [],[],_=>rfl
 | [],_ :: _,h=>by simp [eqVs] at h
 | _ :: _,[],h=>by simp [eqVs] at h
 | x :: a,y :: b,h=>by
  simp only [eqVs,Bool.and_eq_true] at h
  rw [eqV_eq h.1,eqVs_eq h.2]
end
end Go.Proofs.YtphfjjopeghhnaaGreat.X
