/- An executor for closed calls, 7: the operations of slots, literals, functions and numbers are right. -/
import Derived.Test.YtphfjjopeghhnaaGreatXF
namespace Go.Proofs.YtphfjjopeghhnaaGreat.X
open Go.RowKit
section
variable {P:Program} {w0:World} {r:Rho} {h:T AO} {nx:Pt} {w:World} {K:AV→T AO→Pt→Prop} {tm:S} {a:Act} {o:Oper}
theorem s_mv (H:WR P w0 r h nx w) (ht:TR r tm a.tmps) {x:Operand} {x':AX} (hx:Cx x x') (hop:o.op=.move x∨o.op=.assign x) (hk:stepV (.mv x') tm h nx K):Yields P w0 r h w (execOp a.eval o) K:=by
 simp only [stepV,oMv] at hk
 obtain ⟨v,h1,h2,h3⟩:=evK_spec hx ht hk
 refine Yields.pure H h1 ?_ h3
 rcases hop with hop | hop <;> simp only [execOp,hop,h2] <;> rfl
theorem s_pick (H:WR P w0 r h nx w) (ht:TR r tm a.tmps) {c x y:Operand} {c' x' y':AX} (hc:Cx c c') (hx:Cx x x') (hy:Cx y y') (hop:o.op=.pick c x y) (hk:stepV (.pick c' x' y') tm h nx K):Yields P w0 r h w (execOp a.eval o) K:=by
 simp only [stepV,oPick] at hk
 obtain ⟨v,h1,h2,h3⟩:=evK_spec hc ht hk
 split at h1
 ·obtain ⟨u,g1,g2,g3⟩:=evK_spec hx ht h1
  refine Yields.pure H g1 ?_ g3
  simp only [execOp,hop,h2,conc,g2]; rfl
 ·obtain ⟨u,g1,g2,g3⟩:=evK_spec hy ht h1
  refine Yields.pure H g1 ?_ g3
  simp only [execOp,hop,h2,conc,g2]; rfl
 ·exact h1.elim
theorem s_new (H:WR P w0 r h nx w) {e:TypeId} {i:TypeInfo} {z:Value} {v:AV} (hi:P.info? e=some i) (hz:i.zero=some z) (hv:Lone v z) (hop:o.op=.alloc e) (hk:stepV (.new (cellsA v) e) tm h nx K):Yields P w0 r h w (execOp a.eval o) K:=by
 simp only [stepV,oNew] at hk
 refine Yields.ptr H (okL_cells (hv.2 _)) (setK_forceP hk) fun x w' hx=>?_
 simp only [execOp,hop]
 refine run_value ?_
 unfold Instr.alloc
 rw [run_ok_bind (run_zeroValue hi hz)]
 simp only []
 have:(newVar e z).run P w=.ok x w':=by rw [newVar,← hv.1 r,conc_cells]; exact hx
 rw [run_ok_bind this]; rfl
theorem s_box (H:WR P w0 r h nx w) (ht:TR r tm a.tmps) {e:TypeId} {x:Operand} {x':AX} (hx:Cx x x') (hop:o.op=.box e x) (hk:stepV (.box e x') tm h nx K):Yields P w0 r h w (execOp a.eval o) K:=by
 simp only [stepV,oBox] at hk
 obtain ⟨v,h1,h2,h3⟩:=evK_spec hx ht hk
 refine Yields.ptr H (okL_cells h3) (setK_forceP h1) fun x w' hx=>?_
 simp only [execOp,hop,h2]
 refine run_value ?_
 have:(newVar e (conc r v)).run P w=.ok x w':=by rw [newVar,conc_cells]; exact hx
 unfold Instr.box
 rw [run_ok_bind this]; rfl
theorem toList_parts (ps:Array (Nat × Operand)):(ps.map fun (i,x)=>(i,a.eval x)).toList=ps.toList.map fun p=>(p.1,a.eval p.2):=by
 simp
theorem s_build (H:WR P w0 r h nx w) (ht:TR r tm a.tmps) {t:TypeId} {i:TypeInfo} {z:Value} {v:AV} {fields:Array Field} {places:Array (Nat × Nat)} {ps:Array (Nat × Operand)} {qs:List (Nat × Nat × AX)}
  (hi:P.info? t=some i) (hz:i.zero=some z) (hv:Lone v z) (hu:P.underlying t=some (.struct fields))
  (hpl:∀ w,(fields.mapM (fun f=>do pure (f.offset,← sizeOf f.type)):Sem (Array (Nat × Nat))).run P w=.ok places w) (hps:Cps (places[·]?) ps.toList qs) (hop:o.op=.build t ps) (hk:stepV (.build (cellsA v) qs) tm h nx K):Yields P w0 r h w (execOp a.eval o) K:=by
 simp only [stepV,oBuild] at hk
 obtain ⟨vs,h1,h2,h3⟩:=fillK_spec ht hps (okL_cells (hv.2 _)) hk
 rw [forceL_iff] at h1
 simp only [execOp,hop]
 refine Yields.pureV H h1 ?_ (by simp only [okV]; exact h2)
 unfold Instr.build
 rw [run_ok_bind (run_zeroValue hi hz),run_ok_bind (run_underlying hu)]
 simp only []
 rw [run_ok_bind (hpl w),toList_parts,← hv.1 r,conc_cells,h3]
 simp only [conc]; rfl
theorem s_buildA (H:WR P w0 r h nx w) (ht:TR r tm a.tmps) {t:TypeId} {i:TypeInfo} {z:Value} {v:AV} {n:Nat} {elem:TypeId} {j:TypeInfo} {ps:Array (Nat × Operand)} {qs:List (Nat × Nat × AX)}
  (hi:P.info? t=some i) (hz:i.zero=some z) (hv:Lone v z) (hu:P.underlying t=some (.array n elem)) (hj:P.info? elem=some j)
  (hps:Cps (fun i=>some (i*j.size,j.size)) ps.toList qs) (hop:o.op=.build t ps) (hk:stepV (.build (cellsA v) qs) tm h nx K):Yields P w0 r h w (execOp a.eval o) K:=by
 simp only [stepV,oBuild] at hk
 obtain ⟨vs,h1,h2,h3⟩:=fillK_spec ht hps (okL_cells (hv.2 _)) hk
 rw [forceL_iff] at h1
 simp only [execOp,hop]
 refine Yields.pureV H h1 ?_ (by simp only [okV]; exact h2)
 unfold Instr.build
 rw [run_ok_bind (run_zeroValue hi hz),run_ok_bind (run_underlying hu)]
 simp only []
 rw [run_ok_bind (run_sizeOf hj),toList_parts,← hv.1 r,conc_cells,h3]
 simp only [conc]; rfl
theorem Yields.slice (H:WR P w0 r h nx w) {vs:List AV} {e:TypeId} {n m:Nat} {s:Sem Next} (hv:okL r.has vs) (hK:K (.sl nx 0 n m false) (h.set (.cells vs e) nx) nx.succ)
  (hs:∀ x w',(newRow e (concL r vs).toArray).run P w=.ok x w'→s.run P w=.ok (.value (.slice (some x) n m)) w'):Yields P w0 r h w s K:=by
 obtain ⟨w',h1,h2,h3⟩:=H.newRow vs e hv
 refine ⟨_,_,_,w',.sl nx 0 n m false,_,hK,hs _ _ h1,.inl (by simp [conc]),h2,h3,?_⟩
 exact Or.inl rfl
theorem s_buildS (H:WR P w0 r h nx w) (ht:TR r tm a.tmps) {t:TypeId} {n:Nat} {elem:TypeId} {j:TypeInfo} {z:Value} {zs:List AV} {ps:Array (Nat × Operand)} {qs:List (Nat × Nat × AX)}
  (hu:P.underlying t=some (.slice elem)) (hj:P.info? elem=some j) (hz:j.zero=some z) (hn:n*j.size≤2 ^ 24) (h0:0<n*j.size) (hok:∀ n,okL n zs)
  (hzs:∀ r,(concL r zs).toArray=(Array.range (n*j.size)).map (z.cells[· % z.cells.size]!))
  (hps:Cps (fun i=>some (i*j.size,j.size)) ps.toList qs) (hop:o.op=.buildSlice t n ps) (hk:stepV (.buildS elem n zs qs) tm h nx K):Yields P w0 r h w (execOp a.eval o) K:=by
 simp only [stepV,oBuildS] at hk
 obtain ⟨vs,h1,h2,h3⟩:=fillK_spec ht hps (hok _) hk
 rw [forceL_iff] at h1
 refine Yields.slice H h2 (setK_forceP h1) fun x w' hx=>?_
 simp only [execOp,hop]
 refine run_value ?_
 unfold Instr.buildSlice
 rw [run_ok_bind (run_underlying hu)]
 simp only []
 rw [run_ok_bind (run_sizeOf hj),if_neg (by omega)]
 rw [if_neg (by omega),run_ok_bind (run_zeroValue hj hz),run_ok_bind (run_pure P _ w)]
 rw [← hzs r,toList_parts,h3]
 simp only []
 rw [run_ok_bind hx]; rfl
theorem s_buildE (H:WR P w0 r h nx w) {t:TypeId} {elem:TypeId} {j:TypeInfo} (hu:P.underlying t=some (.slice elem)) (hj:P.info? elem=some j) (hop:o.op=.buildSlice t 0 #[]) (hk:stepV (.buildS elem 0 [] []) tm h nx K):Yields P w0 r h w (execOp a.eval o) K:=by
 simp only [stepV,oBuildS] at hk
 have h1:h.setK (.cells [] elem) nx fun h'=>succK nx fun n'=>K (.sl nx 0 0 0 false) h' n':=hk
 refine Yields.slice (vs:=[]) H (by simp [okL]) (setK_forceP h1) fun x w' hx=>?_
 simp only [execOp,hop]
 refine run_value ?_
 unfold Instr.buildSlice
 rw [run_ok_bind (run_underlying hu)]
 simp only []
 rw [run_ok_bind (run_sizeOf hj),if_neg (by omega)]
 rw [if_pos (by omega),run_ok_bind (run_pure P _ w)]
 simp only [Nat.zero_mul]
 simp only [concL] at hx
 have:(newRow elem #[]).run P w=.ok x w':=hx
 rw [show (Array.map (fun x:Nat × Operand=>(x.fst,a.eval x.snd)) #[]).toList=[] by simp,show ∀ f:Nat→Value,(Array.range 0).map f=#[] from fun f=>by rw [show (Array.range 0)=#[] from rfl]; exact Array.map_empty]
 simp only [Instr.fill]
 rw [run_ok_bind this]; rfl
theorem s_nchk (H:WR P w0 r h nx w) (ht:TR r tm a.tmps) {x:Operand} {x':AX} (hx:Cx x x') (hop:o.op=.nilCheck x) (hk:stepV (.nchk x') tm h nx K):Yields P w0 r h w (execOp a.eval o) K:=by
 simp only [stepV,oNchk] at hk
 obtain ⟨v,h1,h2,h3⟩:=evK_spec hx ht hk
 have key:K v h nx∧(execOp a.eval o).run P w=.ok (.value (conc r v)) w:=by
  simp only [execOp,hop,h2]
  cases v with
  | nilp=>exact h1.elim
  | nili=>exact h1.elim
  | nilf=>exact h1.elim
  | fn f x y =>
   cases f <;> first | exact ⟨h1,by simp only [conc]; rfl⟩ | exact h1.elim
  | _=>exact ⟨h1,by simp only [conc]; rfl⟩
 exact Yields.pure H key.1 key.2 h3
theorem s_ext (H:WR P w0 r h nx w) (ht:TR r tm a.tmps) {x:Operand} {x':AX} {i:Nat} (hx:Cx x x') (hop:o.op=.extract x i) (hk:stepV (.ext x' i) tm h nx K):Yields P w0 r h w (execOp a.eval o) K:=by
 simp only [stepV,oExt] at hk
 obtain ⟨v,h1,h2,h3⟩:=evK_spec hx ht hk
 split at h1
 ·rename_i vs
  split at h1
  ·rename_i u hu
   simp only [okV] at h3
   simp only [execOp,hop]
   refine Yields.pureV H h1 ?_ (h3.get hu)
   rw [h2]
   simp [conc,Instr.extract,concL_get,hu]
  ·exact h1.elim
 ·exact h1.elim
theorem s_mkf (H:WR P w0 r h nx w) (ht:TR r tm a.tmps) {f:FuncId} {x y:Array Operand} {x' y':List AX} (hx:Cxs x.toList x') (hy:Cxs y.toList y') (hop:o.op=.makeFunc (.func f) x y) (hk:stepV (.mkf f x' y') tm h nx K):Yields P w0 r h w (execOp a.eval o) K:=by
 simp only [stepV,oMkf] at hk
 obtain ⟨vs,h1,h2,h3⟩:=evsK_spec ht hx hk
 obtain ⟨us,h4,h5,h6⟩:=evsK_spec ht hy h1
 simp only [execOp,hop]
 refine Yields.pureV H h4 ?_ (by simp only [okV]; exact ⟨h3,h6⟩)
 have e1:x.map a.eval=(concL r vs).toArray:=by rw [← h2]; apply Array.ext'; simp
 have e2:y.map a.eval=(concL r us).toArray:=by rw [← h5]; apply Array.ext'; simp
 simp only [Instr.makeFunc,conc,e1,e2]; rfl
theorem s_mki (H:WR P w0 r h nx w) (ht:TR r tm a.tmps) {t:TypeId} {d:TypeDesc} {x:Operand} {x':AX} (hu:P.underlying t=some d) (hd:∀ m,d≠.interface m) (hx:Cx x x') (hop:o.op=.makeInterface t x) (hk:stepV (.mki t x') tm h nx K):Yields P w0 r h w (execOp a.eval o) K:=by
 simp only [stepV,oMki] at hk
 obtain ⟨v,h1,h2,h3⟩:=evK_spec hx ht hk
 simp only [execOp,hop]
 refine Yields.pureV H h1 ?_ (by simp only [okV]; exact h3)
 unfold Instr.makeInterface
 rw [run_ok_bind (run_underlying hu),h2]
 cases d <;> first | exact absurd rfl (hd _) | (simp only [conc]; rfl)
end
end Go.Proofs.YtphfjjopeghhnaaGreat.X
