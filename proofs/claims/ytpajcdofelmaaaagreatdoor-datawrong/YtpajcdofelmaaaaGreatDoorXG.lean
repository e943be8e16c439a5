/- An executor for closed calls, 6: the operations of slots, blocks and parts are right. -/
import Derived.Test.YtpajcdofelmaaaaGreatDoorXE
namespace Go.Proofs.YtpajcdofelmaaaaGreatDoor.X
open Go.RowKit
section
variable {P:Program} {w0:World} {r:Rho} {h:T AO} {nx:Pt} {w:World} {K:AV→T AO→Pt→Prop} {tm:S} {a:Act} {o:Oper}
theorem brec {b:Bool} {p:Prop} (h:Bool.rec (motive:=fun _=>Prop) False p b):b=true∧p:=by
 cases b with
 | false=>exact h.elim
 | true=>exact ⟨rfl,h⟩
theorem run_sureAddr (b i:Nat):(Instr.sureAddr (.pointer (some ⟨b,i,none⟩))).run P w=.ok ⟨b,i,none⟩ w:=rfl
theorem s_ld1 (H:WR P w0 r h nx w) (ht:TR r tm a.tmps) {t:TypeId} {d:TypeDesc} {x:Operand} {x':AX} (hu:P.underlying t=some d) (hd:aggD d=false) (hx:Cx x x') (hop:o.op=.load t x) (hk:stepV (.ld1 x') tm h nx K):Yields P w0 r h w (execOp a.eval o) K:=by
 simp only [stepV,oLd1] at hk
 obtain ⟨v,h1,h2,h3⟩:=evK_spec hx ht hk
 split at h1
 ·rename_i k i
  obtain ⟨b,hb,h1⟩:=(T.getK_iff _ _ _).1 h1
  split at h1
  ·rename_i vs e
   split at h1
   ·rename_i u hu'
    simp only [execOp,hop]
    refine Yields.pureV H h1 ?_ (((H.has k _ hb).2.2.1:okL r.has vs).get hu')
    rw [h2]
    simp only [conc,Instr.loadAt]
    rw [run_ok_bind (run_sureAddr _ _),loadVar,run_ok_bind (run_isAgg hu),hd]
    simp only [Bool.false_eq_true,if_false]
    exact H.loadOne hb hu'
   ·exact h1.elim
  ·rename_i vs e
   split at h1
   ·rename_i u hu'
    simp only [execOp,hop]
    refine Yields.pureV H h1 ?_ (((H.has k _ hb).2.2.1:okL r.has vs).get hu')
    rw [h2]
    simp only [conc,Instr.loadAt]
    rw [run_ok_bind (run_sureAddr _ _),loadVar,run_ok_bind (run_isAgg hu),hd]
    simp only [Bool.false_eq_true,if_false]
    obtain ⟨-,-,-,rest,z,hbb,-⟩:=H.has k _ hb
    refine run_load ?_
    rw [cell_of hbb]
    have hlt:i<vs.length:=(List.getElem?_eq_some_iff.1 hu').1
    rw [List.getElem?_append_left (by rw [concL_length]; exact hlt),concL_get,hu']; rfl
   ·exact h1.elim
  ·exact h1.elim
 ·exact h1.elim
theorem s_ldN (H:WR P w0 r h nx w) (ht:TR r tm a.tmps) {t:TypeId} {d:TypeDesc} {i:TypeInfo} {x:Operand} {x':AX} (hu:P.underlying t=some d) (hd:aggD d=true) (hi:P.info? t=some i) (hx:Cx x x') (hop:o.op=.load t x) (hk:stepV (.ldN i.size x') tm h nx K):Yields P w0 r h w (execOp a.eval o) K:=by
 simp only [stepV,oLdN] at hk
 obtain ⟨v,h1,h2,h3⟩:=evK_spec hx ht hk
 split at h1
 ·rename_i k q
  obtain ⟨b,hb,h1⟩:=(T.getK_iff _ _ _).1 h1
  split at h1
  ·rename_i vs e
   obtain ⟨hle,h1⟩:=brec h1
   rw [forceL_iff] at h1
   simp only [execOp,hop]
   refine Yields.pureV H h1 ?_ ?_
   ·rw [h2]
    simp only [conc,Instr.loadAt]
    rw [run_ok_bind (run_sureAddr _ _),loadVar,run_ok_bind (run_isAgg hu),hd]
    simp only [if_true]
    rw [run_ok_bind (run_sizeOf hi),run_ok_bind (H.loadCells hb _ _ (Nat.le_of_ble_eq_true hle))]
    rfl
   ·simp only [okV]
    exact okL_take (okL_drop ((H.has k _ hb).2.2.1:okL r.has vs) _) _
  ·exact h1.elim
 ·exact h1.elim
theorem s_st (H:WR P w0 r h nx w) (ht:TR r tm a.tmps) {t:TypeId} {i:TypeInfo} {x y:Operand} {x' y':AX} (hi:P.info? t=some i) (hx:Cx x x') (hy:Cx y y') (hop:o.op=.store t x y) (hk:stepV (.st i.size x' y') tm h nx K):Yields P w0 r h w (execOp a.eval o) K:=by
 simp only [stepV,oSt] at hk
 obtain ⟨v,h1,h2,h3⟩:=evK_spec hx ht hk
 split at h1
 ·rename_i k q
  obtain ⟨u,h1,h4,h5⟩:=evK_spec hy ht h1
  obtain ⟨b,hb,h1⟩:=(T.getK_iff _ _ _).1 h1
  split at h1
  ·rename_i vs e
   obtain ⟨hle,h1⟩:=brec h1
   rw [forceL_iff,T.setK_iff] at h1
   simp only [Bool.and_eq_true] at hle
   obtain ⟨⟨hl1,hl2⟩,hl3⟩:=hle
   have hl1:=Nat.eq_of_beq_eq_true hl1
   obtain ⟨w',e1,e2,e3⟩:=H.storeCells hb q (cellsA u) (flatB_spec hl3) (okL_cells h5) (by have:=Nat.le_of_ble_eq_true hl2; omega)
   simp only [execOp,hop]
   refine ⟨r,_,nx,w',.tup [],.skip,h1,run_skip ?_,.inr ⟨rfl,by simp [conc,concL,undef]⟩,e2,e3,by simp [okV,okL]⟩
   rw [h2,h4]
   simp only [conc,Instr.storeAt]
   rw [run_ok_bind (run_sureAddr _ _),storeVar,run_ok_bind (run_sizeOf hi),conc_cells]
   rw [if_neg (by simp [concL_length,hl1])]
   exact e1
  ·exact h1.elim
 ·exact h1.elim
theorem s_fa (H:WR P w0 r h nx w) (ht:TR r tm a.tmps) {s:TypeId} {fields:Array Field} {i:Nat} {f:Field} {j:TypeInfo} {x:Operand} {x':AX} (hu:P.underlying s=some (.struct fields)) (hf:fields[i]?=some f) (hj:P.info? f.type=some j) (hz:j.size≠0) (hx:Cx x x') (hop:o.op=.fieldAddr s x i) (hk:stepV (.fa f.offset x') tm h nx K):Yields P w0 r h w (execOp a.eval o) K:=by
 simp only [stepV,oFa] at hk
 obtain ⟨v,h1,h2,h3⟩:=evK_spec hx ht hk
 split at h1
 ·rename_i k q
  rw [forceN_iff] at h1
  simp only [execOp,hop]
  refine Yields.pureV H h1 ?_ (by simp only [okV] at h3 ⊢; exact h3)
  rw [h2]
  simp only [conc,Instr.fieldAt]
  rw [run_ok_bind (run_underlying hu)]
  simp only [hf]
  rw [run_ok_bind (run_sureAddr _ _),fieldPlace]
  rw [run_bind,run_ok_bind (run_sizeOf hj),if_neg hz]
  simp only [run_pure,add_none]
 ·exact h1.elim
theorem run_part1 {t:TypeId} {d:TypeDesc} {cs:List AV} {q:Nat} {v:AV} (hu:P.underlying t=some d) (hd:aggD d=false) (hv:cs[q]?=some v):(part t (concL r cs).toArray q).run P w=.ok (conc r v) w:=by
 unfold part
 rw [run_ok_bind (run_isAgg hu),hd]
 simp [concL_get,hv]
theorem run_partN {t:TypeId} {d:TypeDesc} {i:TypeInfo} {cs:List AV} {q:Nat} (hu:P.underlying t=some d) (hd:aggD d=true) (hi:P.info? t=some i):(part t (concL r cs).toArray q).run P w=.ok (conc r (.agg ((cs.drop q).take i.size))) w:=by
 unfold part
 rw [run_ok_bind (run_isAgg hu),hd]
 simp only [if_true]
 rw [run_ok_bind (run_sizeOf hi)]
 simp only [run_pure,conc]
 congr 2
 simp [concL_map,List.map_take,List.map_drop,List.extract_eq_take_drop]
theorem s_fld (H:WR P w0 r h nx w) (ht:TR r tm a.tmps) {s:TypeId} {fields:Array Field} {i:Nat} {f:Field} {d:TypeDesc} {j:TypeInfo} {x:Operand} {x':AX} (hu:P.underlying s=some (.struct fields)) (hf:fields[i]?=some f) (hd:P.underlying f.type=some d) (ha:aggD d=true) (hj:P.info? f.type=some j) (hx:Cx x x') (hop:o.op=.field s x i) (hk:stepV (.fld j.size f.offset x') tm h nx K):Yields P w0 r h w (execOp a.eval o) K:=by
 simp only [stepV,oFld] at hk
 obtain ⟨v,h1,h2,h3⟩:=evK_spec hx ht hk
 split at h1
 ·rename_i vs
  rw [forceL_iff] at h1
  simp only [okV] at h3
  simp only [execOp,hop]
  refine Yields.pureV H h1 ?_ (by simp only [okV]; exact okL_take (okL_drop h3 _) _)
  rw [h2]
  simp only [conc,Instr.field]
  rw [run_ok_bind (run_underlying hu)]
  simp only [hf]
  exact run_partN hd ha hj
 ·exact h1.elim
theorem s_fld1 (H:WR P w0 r h nx w) (ht:TR r tm a.tmps) {s:TypeId} {fields:Array Field} {i:Nat} {f:Field} {d:TypeDesc} {x:Operand} {x':AX} (hu:P.underlying s=some (.struct fields)) (hf:fields[i]?=some f) (hd:P.underlying f.type=some d) (ha:aggD d=false) (hx:Cx x x') (hop:o.op=.field s x i) (hk:stepV (.fld1 f.offset x') tm h nx K):Yields P w0 r h w (execOp a.eval o) K:=by
 simp only [stepV,oFld1] at hk
 obtain ⟨v,h1,h2,h3⟩:=evK_spec hx ht hk
 split at h1
 ·rename_i vs
  split at h1
  ·rename_i u hu'
   simp only [okV] at h3
   simp only [execOp,hop]
   refine Yields.pureV H h1 ?_ (h3.get hu')
   rw [h2]
   simp only [conc,Instr.field]
   rw [run_ok_bind (run_underlying hu)]
   simp only [hf]
   exact run_part1 hd ha hu'
  ·exact h1.elim
 ·exact h1.elim
theorem s_ia (H:WR P w0 r h nx w) (ht:TR r tm a.tmps) {t elem:TypeId} {j:TypeInfo} {x i:Operand} {x' i':AX} (hu:P.underlying t=some (.slice elem)) (hj:P.info? elem=some j) (hx:Cx x x') (hi:Cx i i') (hop:o.op=.indexAddr t x i) (hk:stepV (.ia j.size x' i') tm h nx K):Yields P w0 r h w (execOp a.eval o) K:=by
 simp only [stepV,oIa] at hk
 obtain ⟨v,h1,h2,h3⟩:=evK_spec hx ht hk
 split at h1
 ·rename_i k q l c op
  obtain ⟨u,h1,h4,h5⟩:=evK_spec hi ht h1
  obtain ⟨kd,m,rfl,hm,h1⟩:=atK_spec h1
  rw [forceN_iff] at h1
  simp only [execOp,hop]
  refine Yields.pureV H h1 ?_ (by simp only [okV] at h3 ⊢; exact h3)
  rw [h2,h4]
  simp only [conc,Instr.indexAt,asIntOf]
  rw [run_ok_bind (run_pure P _ w),run_ok_bind (run_underlying hu)]
  simp only []
  rw [run_ok_bind (run_pure P _ w),run_ok_bind (run_underlying hu)]
  simp only []
  rw [if_pos (by constructor <;> simp <;> omega),run_ok_bind (run_sizeOf hj)]
  simp [add_none]
 ·exact h1.elim
theorem s_iaA (H:WR P w0 r h nx w) (ht:TR r tm a.tmps) {t elem:TypeId} {len:Nat} {j:TypeInfo} {x i:Operand} {x' i':AX} (hu:P.underlying t=some (.array len elem)) (hj:P.info? elem=some j) (hx:Cx x x') (hi:Cx i i') (hop:o.op=.indexAddr t x i) (hk:stepV (.iaA len j.size x' i') tm h nx K):Yields P w0 r h w (execOp a.eval o) K:=by
 simp only [stepV,oIaA] at hk
 obtain ⟨v,h1,h2,h3⟩:=evK_spec hx ht hk
 split at h1
 ·rename_i k q
  obtain ⟨u,h1,h4,h5⟩:=evK_spec hi ht h1
  obtain ⟨kd,m,rfl,hm,h1⟩:=atK_spec h1
  rw [forceN_iff] at h1
  simp only [execOp,hop]
  refine Yields.pureV H h1 ?_ (by simp only [okV] at h3 ⊢; exact h3)
  rw [h2,h4]
  simp only [conc,Instr.indexAt,asIntOf]
  rw [run_ok_bind (run_pure P _ w),run_ok_bind (run_underlying hu)]
  simp only []
  rw [run_ok_bind (run_sureAddr _ _),run_ok_bind (run_pure P _ w),run_ok_bind (run_underlying hu)]
  simp only []
  rw [if_pos (by constructor <;> simp <;> omega),run_ok_bind (run_sizeOf hj)]
  simp [add_none]
 ·exact h1.elim
end
end Go.Proofs.YtpajcdofelmaaaaGreatDoor.X

/- An executor for closed calls, 7: the operations of slots, literals, functions and numbers are right. -/
namespace Go.Proofs.YtpajcdofelmaaaaGreatDoor.X
open Go.RowKit
section
variable {P:Program} {w0:World} {r:Rho} {h:T AO} {nx:Pt} {w:World} {K:AV→T AO→Pt→Prop} {tm:S} {a:Act} {o:Oper}
theorem s_mv (H:WR P w0 r h nx w) (ht:TR r tm a.tmps) {x:Operand} {x':AX} (hx:Cx x x') (hop:o.op=.move x∨o.op=.assign x) (hk:stepV (.mv x') tm h nx K):Yields P w0 r h w (execOp a.eval o) K:=by
 simp only [stepV,oMv] at hk
 obtain ⟨v,h1,h2,h3⟩:=evK_spec hx ht hk
 refine Yields.pure H h1 ?_ h3
 rcases hop with hop | hop <;> simp only [execOp,hop,h2] <;> rfl
theorem s_pick (H:WR P w0 r h nx w) (ht:TR r tm a.tmps) {c x y:Operand} {c' x' y':AX} (hc:Cx c c') (hx:Cx x x') (hy:Cx y y') (hop:o.op=.pick c x y) (hk:stepV (.pick c' x' y') tm h nx K):Yields P w0 r h w (execOp a.eval o) K:=by
 simp only [stepV,oPick] at hk
 obtain ⟨v,h1,h2,h3⟩:=evK_spec hc ht hk
 split at h1
 ·obtain ⟨u,g1,g2,g3⟩:=evK_spec hx ht h1
  refine Yields.pure H g1 ?_ g3
  simp only [execOp,hop,h2,conc,g2]; rfl
 ·obtain ⟨u,g1,g2,g3⟩:=evK_spec hy ht h1
  refine Yields.pure H g1 ?_ g3
  simp only [execOp,hop,h2,conc,g2]; rfl
 ·exact h1.elim
theorem s_new (H:WR P w0 r h nx w) {e:TypeId} {i:TypeInfo} {z:Value} {v:AV} (hi:P.info? e=some i) (hz:i.zero=some z) (hv:Lone v z) (hop:o.op=.alloc e) (hk:stepV (.new (cellsA v) e) tm h nx K):Yields P w0 r h w (execOp a.eval o) K:=by
 simp only [stepV,oNew] at hk
 refine Yields.ptr H (okL_cells (hv.2 _)) (setK_forceP hk) fun x w' hx=>?_
 simp only [execOp,hop]
 refine run_value ?_
 unfold Instr.alloc
 rw [run_ok_bind (run_zeroValue hi hz)]
 simp only []
 have:(newVar e z).run P w=.ok x w':=by rw [newVar,← hv.1 r,conc_cells]; exact hx
 rw [run_ok_bind this]; rfl
theorem s_box (H:WR P w0 r h nx w) (ht:TR r tm a.tmps) {e:TypeId} {x:Operand} {x':AX} (hx:Cx x x') (hop:o.op=.box e x) (hk:stepV (.box e x') tm h nx K):Yields P w0 r h w (execOp a.eval o) K:=by
 simp only [stepV,oBox] at hk
 obtain ⟨v,h1,h2,h3⟩:=evK_spec hx ht hk
 refine Yields.ptr H (okL_cells h3) (setK_forceP h1) fun x w' hx=>?_
 simp only [execOp,hop,h2]
 refine run_value ?_
 have:(newVar e (conc r v)).run P w=.ok x w':=by rw [newVar,conc_cells]; exact hx
 unfold Instr.box
 rw [run_ok_bind this]; rfl
theorem toList_parts (ps:Array (Nat × Operand)):(ps.map fun (i,x)=>(i,a.eval x)).toList=ps.toList.map fun p=>(p.1,a.eval p.2):=by
 simp
theorem s_build (H:WR P w0 r h nx w) (ht:TR r tm a.tmps) {t:TypeId} {i:TypeInfo} {z:Value} {v:AV} {fields:Array Field} {places:Array (Nat × Nat)} {ps:Array (Nat × Operand)} {qs:List (Nat × Nat × AX)}
  (hi:P.info? t=some i) (hz:i.zero=some z) (hv:Lone v z) (hu:P.underlying t=some (.struct fields))
  (hpl:∀ w,(fields.mapM (fun f=>do pure (f.offset,← sizeOf f.type)):Sem (Array (Nat × Nat))).run P w=.ok places w) (hps:Cps (places[·]?) ps.toList qs) (hop:o.op=.build t ps) (hk:stepV (.build (cellsA v) qs) tm h nx K):Yields P w0 r h w (execOp a.eval o) K:=by
 simp only [stepV,oBuild] at hk
 obtain ⟨vs,h1,h2,h3⟩:=fillK_spec ht hps (okL_cells (hv.2 _)) hk
 rw [forceL_iff] at h1
 simp only [execOp,hop]
 refine Yields.pureV H h1 ?_ (by simp only [okV]; exact h2)
 unfold Instr.build
 rw [run_ok_bind (run_zeroValue hi hz),run_ok_bind (run_underlying hu)]
 simp only []
 rw [run_ok_bind (hpl w),toList_parts,← hv.1 r,conc_cells,h3]
 simp only [conc]; rfl
theorem s_buildA (H:WR P w0 r h nx w) (ht:TR r tm a.tmps) {t:TypeId} {i:TypeInfo} {z:Value} {v:AV} {n:Nat} {elem:TypeId} {j:TypeInfo} {ps:Array (Nat × Operand)} {qs:List (Nat × Nat × AX)}
  (hi:P.info? t=some i) (hz:i.zero=some z) (hv:Lone v z) (hu:P.underlying t=some (.array n elem)) (hj:P.info? elem=some j)
  (hps:Cps (fun i=>some (i*j.size,j.size)) ps.toList qs) (hop:o.op=.build t ps) (hk:stepV (.build (cellsA v) qs) tm h nx K):Yields P w0 r h w (execOp a.eval o) K:=by
 simp only [stepV,oBuild] at hk
 obtain ⟨vs,h1,h2,h3⟩:=fillK_spec ht hps (okL_cells (hv.2 _)) hk
 rw [forceL_iff] at h1
 simp only [execOp,hop]
 refine Yields.pureV H h1 ?_ (by simp only [okV]; exact h2)
 unfold Instr.build
 rw [run_ok_bind (run_zeroValue hi hz),run_ok_bind (run_underlying hu)]
 simp only []
 rw [run_ok_bind (run_sizeOf hj),toList_parts,← hv.1 r,conc_cells,h3]
 simp only [conc]; rfl
theorem Yields.slice (H:WR P w0 r h nx w) {vs:List AV} {e:TypeId} {n m:Nat} {s:Sem Next} (hv:okL r.has vs) (hK:K (.sl nx 0 n m false) (h.set (.cells vs e) nx) nx.succ)
  (hs:∀ x w',(newRow e (concL r vs).toArray).run P w=.ok x w'→s.run P w=.ok (.value (.slice (some x) n m)) w'):Yields P w0 r h w s K:=by
 obtain ⟨w',h1,h2,h3⟩:=H.newRow vs e hv
 refine ⟨_,_,_,w',.sl nx 0 n m false,_,hK,hs _ _ h1,.inl (by simp [conc]),h2,h3,?_⟩
 exact Or.inl rfl
theorem s_buildS (H:WR P w0 r h nx w) (ht:TR r tm a.tmps) {t:TypeId} {n:Nat} {elem:TypeId} {j:TypeInfo} {z:Value} {zs:List AV} {ps:Array (Nat × Operand)} {qs:List (Nat × Nat × AX)}
  (hu:P.underlying t=some (.slice elem)) (hj:P.info? elem=some j) (hz:j.zero=some z) (hn:n*j.size≤2 ^ 24) (h0:0<n*j.size) (hok:∀ n,okL n zs)
  (hzs:∀ r,(concL r zs).toArray=(Array.range (n*j.size)).map (z.cells[· % z.cells.size]!))
  (hps:Cps (fun i=>some (i*j.size,j.size)) ps.toList qs) (hop:o.op=.buildSlice t n ps) (hk:stepV (.buildS elem n zs qs) tm h nx K):Yields P w0 r h w (execOp a.eval o) K:=by
 simp only [stepV,oBuildS] at hk
 obtain ⟨vs,h1,h2,h3⟩:=fillK_spec ht hps (hok _) hk
 rw [forceL_iff] at h1
 refine Yields.slice H h2 (setK_forceP h1) fun x w' hx=>?_
 simp only [execOp,hop]
 refine run_value ?_
 unfold Instr.buildSlice
 rw [run_ok_bind (run_underlying hu)]
 simp only []
 rw [run_ok_bind (run_sizeOf hj),if_neg (by omega)]
 rw [if_neg (by omega),run_ok_bind (run_zeroValue hj hz),run_ok_bind (run_pure P _ w)]
 rw [← hzs r,toList_parts,h3]
 simp only []
 rw [run_ok_bind hx]; rfl
theorem s_buildE (H:WR P w0 r h nx w) {t:TypeId} {elem:TypeId} {j:TypeInfo} (hu:P.underlying t=some (.slice elem)) (hj:P.info? elem=some j) (hop:o.op=.buildSlice t 0 #[]) (hk:stepV (.buildS elem 0 [] []) tm h nx K):Yields P w0 r h w (execOp a.eval o) K:=by
 simp only [stepV,oBuildS] at hk
 have h1:h.setK (.cells [] elem) nx fun h'=>succK nx fun n'=>K (.sl nx 0 0 0 false) h' n':=hk
 refine Yields.slice (vs:=[]) H (by simp [okL]) (setK_forceP h1) fun x w' hx=>?_
 simp only [execOp,hop]
 refine run_value ?_
 unfold Instr.buildSlice
 rw [run_ok_bind (run_underlying hu)]
 simp only []
 rw [run_ok_bind (run_sizeOf hj),if_neg (by omega)]
 rw [if_pos (by omega),run_ok_bind (run_pure P _ w)]
 simp only [Nat.zero_mul]
 simp only [concL] at hx
 have:(newRow elem #[]).run P w=.ok x w':=hx
 rw [show (Array.map (fun x:Nat × Operand=>(x.fst,a.eval x.snd)) #[]).toList=[] by simp,show ∀ f:Nat→Value,(Array.range 0).map f=#[] from fun f=>by rw [show (Array.range 0)=#[] from rfl]; exact Array.map_empty]
 simp only [Instr.fill]
 rw [run_ok_bind this]; rfl
theorem s_nchk (H:WR P w0 r h nx w) (ht:TR r tm a.tmps) {x:Operand} {x':AX} (hx:Cx x x') (hop:o.op=.nilCheck x) (hk:stepV (.nchk x') tm h nx K):Yields P w0 r h w (execOp a.eval o) K:=by
 simp only [stepV,oNchk] at hk
 obtain ⟨v,h1,h2,h3⟩:=evK_spec hx ht hk
 have key:K v h nx∧(execOp a.eval o).run P w=.ok (.value (conc r v)) w:=by
  simp only [execOp,hop,h2]
  cases v with
  | nilp=>exact h1.elim
  | nili=>exact h1.elim
  | nilf=>exact h1.elim
  | fn f x y =>
   cases f <;> first | exact ⟨h1,by simp only [conc]; rfl⟩ | exact h1.elim
  | _=>exact ⟨h1,by simp only [conc]; rfl⟩
 exact Yields.pure H key.1 key.2 h3
theorem s_ext (H:WR P w0 r h nx w) (ht:TR r tm a.tmps) {x:Operand} {x':AX} {i:Nat} (hx:Cx x x') (hop:o.op=.extract x i) (hk:stepV (.ext x' i) tm h nx K):Yields P w0 r h w (execOp a.eval o) K:=by
 simp only [stepV,oExt] at hk
 obtain ⟨v,h1,h2,h3⟩:=evK_spec hx ht hk
 split at h1
 ·rename_i vs
  split at h1
  ·rename_i u hu
   simp only [okV] at h3
   simp only [execOp,hop]
   refine Yields.pureV H h1 ?_ (h3.get hu)
   rw [h2]
   simp [conc,Instr.extract,concL_get,hu]
  ·exact h1.elim
 ·exact h1.elim
theorem s_mkf (H:WR P w0 r h nx w) (ht:TR r tm a.tmps) {f:FuncId} {x y:Array Operand} {x' y':List AX} (hx:Cxs x.toList x') (hy:Cxs y.toList y') (hop:o.op=.makeFunc (.func f) x y) (hk:stepV (.mkf f x' y') tm h nx K):Yields P w0 r h w (execOp a.eval o) K:=by
 simp only [stepV,oMkf] at hk
 obtain ⟨vs,h1,h2,h3⟩:=evsK_spec ht hx hk
 obtain ⟨us,h4,h5,h6⟩:=evsK_spec ht hy h1
 simp only [execOp,hop]
 refine Yields.pureV H h4 ?_ (by simp only [okV]; exact ⟨h3,h6⟩)
 have e1:x.map a.eval=(concL r vs).toArray:=by rw [← h2]; apply Array.ext'; simp
 have e2:y.map a.eval=(concL r us).toArray:=by rw [← h5]; apply Array.ext'; simp
 simp only [Instr.makeFunc,conc,e1,e2]; rfl
theorem s_mki (H:WR P w0 r h nx w) (ht:TR r tm a.tmps) {t:TypeId} {d:TypeDesc} {x:Operand} {x':AX} (hu:P.underlying t=some d) (hd:∀ m,d≠.interface m) (hx:Cx x x') (hop:o.op=.makeInterface t x) (hk:stepV (.mki t x') tm h nx K):Yields P w0 r h w (execOp a.eval o) K:=by
 simp only [stepV,oMki] at hk
 obtain ⟨v,h1,h2,h3⟩:=evK_spec hx ht hk
 simp only [execOp,hop]
 refine Yields.pureV H h1 ?_ (by simp only [okV]; exact h3)
 unfold Instr.makeInterface
 rw [run_ok_bind (run_underlying hu),h2]
 cases d <;> first | exact absurd rfl (hd _) | (simp only [conc]; rfl)
end
end Go.Proofs.YtpajcdofelmaaaaGreatDoor.X
