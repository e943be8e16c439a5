/- An executor for closed calls, 6: the operations of slots, blocks and parts are right. -/
import Derived.Test.YtphfjjopeghhnaaGreatXE
namespace Go.Proofs.YtphfjjopeghhnaaGreat.X
open Go.RowKit
section
variable {P:Program} {w0:World} {r:Rho} {h:T AO} {nx:Pt} {w:World} {K:AV→T AO→Pt→Prop} {tm:S} {a:Act} {o:Oper}
theorem brec {b:Bool} {p:Prop} (h:Bool.rec (motive:=fun _=>Prop) False p b):b=true∧p:=by
 cases b with
 | false=>exact h.elim
 | true=>exact ⟨rfl,h⟩
theorem run_sureAddr (b i:Nat):(Instr.sureAddr (.pointer (some ⟨b,i,none⟩))).run P w=.ok ⟨b,i,none⟩ w:=rfl
theorem s_ld1 (H:WR P w0 r h nx w) (ht:TR r tm a.tmps) {t:TypeId} {d:TypeDesc} {x:Operand} {x':AX} (hu:P.underlying t=some d) (hd:aggD d=false) (hx:Cx x x') (hop:o.op=.load t x) (hk:stepV (.ld1 x') tm h nx K):Yields P w0 r h w (execOp a.eval o) K:=by
 simp only [stepV,oLd1] at hk
 obtain ⟨v,h1,h2,h3⟩:=evK_spec hx ht hk
 split at h1
 ·rename_i k i
  obtain ⟨b,hb,h1⟩:=(T.getK_iff _ _ _).1 h1
  split at h1
  ·rename_i vs e
   split at h1
   ·rename_i u hu'
    simp only [execOp,hop]
    refine Yields.pureV H h1 ?_ (((H.has k _ hb).2.2.1:okL r.has vs).get hu')
    rw [h2]
    simp only [conc,Instr.loadAt]
    rw [run_ok_bind (run_sureAddr _ _),loadVar,run_ok_bind (run_isAgg hu),hd]
    simp only [Bool.false_eq_true,if_false]
    exact H.loadOne hb hu'
   ·exact h1.elim
  ·rename_i vs e
   split at h1
   ·rename_i u hu'
    simp only [execOp,hop]
    refine Yields.pureV H h1 ?_ (((H.has k _ hb).2.2.1:okL r.has vs).get hu')
    rw [h2]
    simp only [conc,Instr.loadAt]
    rw [run_ok_bind (run_sureAddr _ _),loadVar,run_ok_bind (run_isAgg hu),hd]
    simp only [Bool.false_eq_true,if_false]
    obtain ⟨-,-,-,rest,z,hbb,-⟩:=H.has k _ hb
    refine run_load ?_
    rw [cell_of hbb]
    have hlt:i<vs.length:=(List.getElem?_eq_some_iff.1 hu').1
    rw [List.getElem?_append_left (by rw [concL_length]; exact hlt),concL_get,hu']; rfl
   ·exact h1.elim
  ·exact h1.elim
 ·exact h1.elim
theorem s_ldN (H:WR P w0 r h nx w) (ht:TR r tm a.tmps) {t:TypeId} {d:TypeDesc} {i:TypeInfo} {x:Operand} {x':AX} (hu:P.underlying t=some d) (hd:aggD d=true) (hi:P.info? t=some i) (hx:Cx x x') (hop:o.op=.load t x) (hk:stepV (.ldN i.size x') tm h nx K):Yields P w0 r h w (execOp a.eval o) K:=by
 simp only [stepV,oLdN] at hk
 obtain ⟨v,h1,h2,h3⟩:=evK_spec hx ht hk
 split at h1
 ·rename_i k q
  obtain ⟨b,hb,h1⟩:=(T.getK_iff _ _ _).1 h1
  split at h1
  ·rename_i vs e
   obtain ⟨hle,h1⟩:=brec h1
   rw [forceL_iff] at h1
   simp only [execOp,hop]
   refine Yields.pureV H h1 ?_ ?_
   ·rw [h2]
    simp only [conc,Instr.loadAt]
    rw [run_ok_bind (run_sureAddr _ _),loadVar,run_ok_bind (run_isAgg hu),hd]
    simp only [if_true]
    rw [run_ok_bind (run_sizeOf hi),run_ok_bind (H.loadCells hb _ _ (Nat.le_of_ble_eq_true hle))]
    rfl
   ·simp only [okV]
    exact okL_take (okL_drop ((H.has k _ hb).2.2.1:okL r.has vs) _) _
  ·exact h1.elim
 ·exact h1.elim
theorem s_st (H:WR P w0 r h nx w) (ht:TR r tm a.tmps) {t:TypeId} {i:TypeInfo} {x y:Operand} {x' y':AX} (hi:P.info? t=some i) (hx:Cx x x') (hy:Cx y y') (hop:o.op=.store t x y) (hk:stepV (.st i.size x' y') tm h nx K):Yields P w0 r h w (execOp a.eval o) K:=by
 simp only [stepV,oSt] at hk
 obtain ⟨v,h1,h2,h3⟩:=evK_spec hx ht hk
 split at h1
 ·rename_i k q
  obtain ⟨u,h1,h4,h5⟩:=evK_spec hy ht h1
  obtain ⟨b,hb,h1⟩:=(T.getK_iff _ _ _).1 h1
  split at h1
  ·rename_i vs e
   obtain ⟨hle,h1⟩:=brec h1
   rw [forceL_iff,T.setK_iff] at h1
   simp only [Bool.and_eq_true] at hle
   obtain ⟨⟨hl1,hl2⟩,hl3⟩:=hle
   have hl1:=Nat.eq_of_beq_eq_true hl1
   obtain ⟨w',e1,e2,e3⟩:=H.storeCells hb q (cellsA u) (flatB_spec hl3) (okL_cells h5) (by have:=Nat.le_of_ble_eq_true hl2; omega)
   simp only [execOp,hop]
   refine ⟨r,_,nx,w',.tup [],.skip,h1,run_skip ?_,.inr ⟨rfl,by simp [conc,concL,undef]⟩,e2,e3,by simp [okV,okL]⟩
   rw [h2,h4]
   simp only [conc,Instr.storeAt]
   rw [run_ok_bind (run_sureAddr _ _),storeVar,run_ok_bind (run_sizeOf hi),conc_cells]
   rw [if_neg (by simp [concL_length,hl1])]
   exact e1
  ·exact h1.elim
 ·exact h1.elim
theorem s_fa (H:WR P w0 r h nx w) (ht:TR r tm a.tmps) {s:TypeId} {fields:Array Field} {i:Nat} {f:Field} {j:TypeInfo} {x:Operand} {x':AX} (hu:P.underlying s=some (.struct fields)) (hf:fields[i]?=some f) (hj:P.info? f.type=some j) (hz:j.size≠0) (hx:Cx x x') (hop:o.op=.fieldAddr s x i) (hk:stepV (.fa f.offset x') tm h nx K):Yields P w0 r h w (execOp a.eval o) K:=by
 simp only [stepV,oFa] at hk
 obtain ⟨v,h1,h2,h3⟩:=evK_spec hx ht hk
 split at h1
 ·rename_i k q
  rw [forceN_iff] at h1
  simp only [execOp,hop]
  refine Yields.pureV H h1 ?_ (by simp only [okV] at h3 ⊢; exact h3)
  rw [h2]
  simp only [conc,Instr.fieldAt]
  rw [run_ok_bind (run_underlying hu)]
  simp only [hf]
  rw [run_ok_bind (run_sureAddr _ _),fieldPlace]
  rw [run_bind,run_ok_bind (run_sizeOf hj),if_neg hz]
  simp only [run_pure,add_none]
 ·exact h1.elim
theorem run_part1 {t:TypeId} {d:TypeDesc} {cs:List AV} {q:Nat} {v:AV} (hu:P.underlying t=some d) (hd:aggD d=false) (hv:cs[q]?=some v):(part t (concL r cs).toArray q).run P w=.ok (conc r v) w:=by
 unfold part
 rw [run_ok_bind (run_isAgg hu),hd]
 simp [concL_get,hv]
theorem run_partN {t:TypeId} {d:TypeDesc} {i:TypeInfo} {cs:List AV} {q:Nat} (hu:P.underlying t=some d) (hd:aggD d=true) (hi:P.info? t=some i):(part t (concL r cs).toArray q).run P w=.ok (conc r (.agg ((cs.drop q).take i.size))) w:=by
 unfold part
 rw [run_ok_bind (run_isAgg hu),hd]
 simp only [if_true]
 rw [run_ok_bind (run_sizeOf hi)]
 simp only [run_pure,conc]
 congr 2
 simp [concL_map,List.map_take,List.map_drop,List.extract_eq_take_drop]
theorem s_fld (H:WR P w0 r h nx w) (ht:TR r tm a.tmps) {s:TypeId} {fields:Array Field} {i:Nat} {f:Field} {d:TypeDesc} {j:TypeInfo} {x:Operand} {x':AX} (hu:P.underlying s=some (.struct fields)) (hf:fields[i]?=some f) (hd:P.underlying f.type=some d) (ha:aggD d=true) (hj:P.info? f.type=some j) (hx:Cx x x') (hop:o.op=.field s x i) (hk:stepV (.fld j.size f.offset x') tm h nx K):Yields P w0 r h w (execOp a.eval o) K:=by
 simp only [stepV,oFld] at hk
 obtain ⟨v,h1,h2,h3⟩:=evK_spec hx ht hk
 split at h1
 ·rename_i vs
  rw [forceL_iff] at h1
  simp only [okV] at h3
  simp only [execOp,hop]
  refine Yields.pureV H h1 ?_ (by simp only [okV]; exact okL_take (okL_drop h3 _) _)
  rw [h2]
  simp only [conc,Instr.field]
  rw [run_ok_bind (run_underlying hu)]
  simp only [hf]
  exact run_partN hd ha hj
 ·exact h1.elim
theorem s_fld1 (H:WR P w0 r h nx w) (ht:TR r tm a.tmps) {s:TypeId} {fields:Array Field} {i:Nat} {f:Field} {d:TypeDesc} {x:Operand} {x':AX} (hu:P.underlying s=some (.struct fields)) (hf:fields[i]?=some f) (hd:P.underlying f.type=some d) (ha:aggD d=false) (hx:Cx x x') (hop:o.op=.field s x i) (hk:stepV (.fld1 f.offset x') tm h nx K):Yields P w0 r h w (execOp a.eval o) K:=by
 simp only [stepV,oFld1] at hk
 obtain ⟨v,h1,h2,h3⟩:=evK_spec hx ht hk
 split at h1
 ·rename_i vs
  split at h1
  ·rename_i u hu'
   simp only [okV] at h3
   simp only [execOp,hop]
   refine Yields.pureV H h1 ?_ (h3.get hu')
   rw [h2]
   simp only [conc,Instr.field]
   rw [run_ok_bind (run_underlying hu)]
   simp only [hf]
   exact run_part1 hd ha hu'
  ·exact h1.elim
 ·exact h1.elim
theorem s_ia (H:WR P w0 r h nx w) (ht:TR r tm a.tmps) {t elem:TypeId} {j:TypeInfo} {x i:Operand} {x' i':AX} (hu:P.underlying t=some (.slice elem)) (hj:P.info? elem=some j) (hx:Cx x x') (hi:Cx i i') (hop:o.op=.indexAddr t x i) (hk:stepV (.ia j.size x' i') tm h nx K):Yields P w0 r h w (execOp a.eval o) K:=by
 simp only [stepV,oIa] at hk
 obtain ⟨v,h1,h2,h3⟩:=evK_spec hx ht hk
 split at h1
 ·rename_i k q l c op
  obtain ⟨u,h1,h4,h5⟩:=evK_spec hi ht h1
  obtain ⟨kd,m,rfl,hm,h1⟩:=atK_spec h1
  rw [forceN_iff] at h1
  simp only [execOp,hop]
  refine Yields.pureV H h1 ?_ (by simp only [okV] at h3 ⊢; exact h3)
  rw [h2,h4]
  simp only [conc,Instr.indexAt,asIntOf]
  rw [run_ok_bind (run_pure P _ w),run_ok_bind (run_underlying hu)]
  simp only []
  rw [run_ok_bind (run_pure P _ w),run_ok_bind (run_underlying hu)]
  simp only []
  rw [if_pos (by constructor <;> simp <;> omega),run_ok_bind (run_sizeOf hj)]
  simp [add_none]
 ·exact h1.elim
theorem s_iaA (H:WR P w0 r h nx w) (ht:TR r tm a.tmps) {t elem:TypeId} {len:Nat} {j:TypeInfo} {x i:Operand} {x' i':AX} (hu:P.underlying t=some (.array len elem)) (hj:P.info? elem=some j) (hx:Cx x x') (hi:Cx i i') (hop:o.op=.indexAddr t x i) (hk:stepV (.iaA len j.size x' i') tm h nx K):Yields P w0 r h w (execOp a.eval o) K:=by
 simp only [stepV,oIaA] at hk
 obtain ⟨v,h1,h2,h3⟩:=evK_spec hx ht hk
 split at h1
 ·rename_i k q
  obtain ⟨u,h1,h4,h5⟩:=evK_spec hi ht h1
  obtain ⟨kd,m,rfl,hm,h1⟩:=atK_spec h1
  rw [forceN_iff] at h1
  simp only [execOp,hop]
  refine Yields.pureV H h1 ?_ (by simp only [okV] at h3 ⊢; exact h3)
  rw [h2,h4]
  simp only [conc,Instr.indexAt,asIntOf]
  rw [run_ok_bind (run_pure P _ w),run_ok_bind (run_underlying hu)]
  simp only []
  rw [run_ok_bind (run_sureAddr _ _),run_ok_bind (run_pure P _ w),run_ok_bind (run_underlying hu)]
  simp only []
  rw [if_pos (by constructor <;> simp <;> omega),run_ok_bind (run_sizeOf hj)]
  simp [add_none]
 ·exact h1.elim
end
end Go.Proofs.YtphfjjopeghhnaaGreat.X
