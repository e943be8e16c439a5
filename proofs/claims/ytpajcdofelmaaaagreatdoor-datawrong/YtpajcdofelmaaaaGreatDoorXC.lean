/- An executor for closed calls, 3: what loads, stores and the making of blocks come to in a world that a trie tells. -/
import Derived.Test.YtpajcdofelmaaaaGreatDoorXB
namespace Go.Proofs.YtpajcdofelmaaaaGreatDoor.X
open Go.RowKit
theorem add_none (b o n:Nat):(⟨b,o,none⟩:Addr).add n=⟨b,o+n,none⟩:=by
 unfold Addr.add
 split
 ·next h=>subst h; rfl
 ·rfl
theorem run_bind {α β:Type} (P:Program) (s:Sem α) (f:α→Sem β) (w:World) :
  (s >>= f).run P w=match s.run P w with
   | .ok a w'=>(f a).run P w'
   | .halt h w'=>.halt h w':=by
 show (s.bind f).run P w=_
 induction s generalizing w with
 | pure a=>rfl
 | load m a k ih =>
  simp only [Sem.bind,Sem.run]
  cases w.cell? a with
  | some v=>exact ih v w
  | none =>
   simp only []
   cases w.farLoad P a (m == .atomic) with
   | ok r=>exact ih r.1 w
   | error h=>rfl
 | store m a v k ih =>
  cases v <;> simp only [Sem.bind,Sem.run] <;> (
   cases w.cell? a with
   | some v =>
    simp only []
    split
    ·rfl
    ·exact ih _
   | none =>
    simp only []
    split
    ·exact ih _
    ·rfl)
 | new o k ih=>exact ih _ _
 | shape r k ih=>exact ih _ _
 | freeze a n k ih=>exact ih _
 | frozen a k ih=>exact ih _ _
 | getObj r k ih =>
  simp only [Sem.bind,Sem.run]
  split
  ·rfl
  ·exact ih _ _
  ·rfl
 | setObj r o k ih =>
  simp only [Sem.bind,Sem.run]
  split
  ·rfl
  ·exact ih _
  ·rfl
 | choose q k ih =>
  simp only [Sem.bind,Sem.run]
  split
  ·exact ih _ _
  ·exact ih _ _
 | sys c k ih=>exact ih _ _
 | program k ih=>exact ih _ _
 | mark m k ih=>exact ih _
 | halt h=>rfl
theorem run_pure {α:Type} (P:Program) (a:α) (w:World):(pure a:Sem α).run P w=.ok a w:=rfl
theorem run_ok_bind {α β:Type} {P:Program} {s:Sem α} {f:α→Sem β} {w w':World} {a:α} (h:s.run P w=.ok a w'):(s >>= f).run P w=(f a).run P w':=by
 rw [run_bind,h]
theorem WR.block {P:Program} {w0:World} {r:Rho} {h:T AO} {nx:Pt} {w:World} (H:WR P w0 r h nx w) {k:Pt} {vs:List AV} {e:TypeId} (hk:h.find k=some (.cells vs e)) :
  ∃ rest:List Value,w.heap[r.blk k]?=some (.cells (concL r vs ++ rest).toArray e (0,0))∧rest.length=r.ext k*sizeT P e:=(H.has k _ hk).2.2.2
theorem cell_of {w:World} {b:Nat} {c:List Value} {e:TypeId} {z:Nat × Nat} (hb:w.heap[b]?=some (.cells c.toArray e z)) (i:Nat):w.cell? ⟨b,i,none⟩=c[i]?:=by
 simp [World.cell?,hb]
theorem run_load {P:Program} {w:World} {a:Addr} {v:Value} (h:w.cell? a=some v):(load a).run P w=.ok v w:=by
 simp [load,Sem.run,h]
theorem run_loadCellsFrom {P:Program} {w:World} {b:Nat} {c:List Value} {e:TypeId} {z:Nat × Nat} (hb:w.heap[b]?=some (.cells c.toArray e z)) (o:Nat) :
  ∀ (n i:Nat) (acc:Array Value),o+i+n≤c.length→(loadCellsFrom ⟨b,o,none⟩ i n acc).run P w=.ok (acc ++ ((c.drop (o+i)).take n).toArray) w
 | 0,i,acc,_=>by simp [loadCellsFrom]
 | n+1,i,acc,h=>by
  have hlt:o+i<c.length:=by omega
  have hc:w.cell? ((⟨b,o,none⟩:Addr).add i)=some c[o+i]:=by
   rw [add_none,cell_of hb]; simp [hlt]
  rw [loadCellsFrom,run_ok_bind (run_load hc),run_loadCellsFrom hb o n (i+1) _ (by omega)]
  congr 1
  rw [List.drop_eq_getElem_cons hlt]
  simp [List.take_succ_cons,Nat.add_assoc]
theorem run_loadCells {P:Program} {w:World} {b:Nat} {c:List Value} {e:TypeId} {z:Nat × Nat} (hb:w.heap[b]?=some (.cells c.toArray e z)) (o n:Nat) (h:o+n≤c.length) :
  (loadCells ⟨b,o,none⟩ n).run P w=.ok ((c.drop o).take n).toArray w:=by
 rw [loadCells,run_loadCellsFrom hb o n 0 #[] (by omega)]; simp
def flat:AV→Prop
 | .agg _=>False
 | .tup _=>False
 | _=>True
def flatL:List AV→Prop
 | []=>True
 | v :: vs=>flat v∧flatL vs
theorem run_store {P:Program} {w:World} {b i:Nat} {c:List Value} {e:TypeId} {r:Rho} {v:AV} (hv:flat v) (hb:w.heap[b]?=some (.cells c.toArray e (0,0))) (hi:i<c.length) :
  (store ⟨b,i,none⟩ (conc r v)).run P w=.ok () { w with heap:=w.heap.setIfInBounds b (.cells (c.set i (conc r v)).toArray e (0,0)) }:=by
 have hc:w.cell? ⟨b,i,none⟩=some c[i]:=by rw [cell_of hb]; simp [hi]
 have hf:w.frozen? ⟨b,i,none⟩=false:=by simp [World.frozen?,hb]
 have hs:w.setCell ⟨b,i,none⟩ (conc r v)={ w with heap:=w.heap.setIfInBounds b (.cells (c.set i (conc r v)).toArray e (0,0)) }:=by
  have hlt:b<w.heap.size:=(Array.getElem?_eq_some_iff.1 hb).1
  have hg:w.heap[b]=.cells c.toArray e (0,0):=(Array.getElem?_eq_some_iff.1 hb).2
  unfold World.setCell
  congr 1
  apply Array.ext_getElem?
  intro j
  rw [Array.getElem?_modify]
  by_cases hj:j=b
  ·subst hj; simp only [if_true,Array.getElem?_eq_getElem hlt,hg,Array.getElem?_setIfInBounds_self_of_lt hlt]; simp
  ·rw [Array.getElem?_setIfInBounds_ne (fun h=>hj h.symm)]; simp [show ¬ b=j from fun h=>hj h.symm]
 cases v <;> first
  | exact (show False from hv).elim
  | (simp only [conc] at hs ⊢; simp only [store,Sem.run,hc,hf,hs,Bool.false_eq_true,if_false])
def putL {α:Type}:List α→Nat→List α→List α
 | l,_,[]=>l
 | l,o,x :: xs=>putL (l.set o x) (o+1) xs
theorem putL_length {α:Type}:∀ (xs l:List α) (o:Nat),(putL l o xs).length=l.length
 | [],_,_=>rfl
 | _ :: xs,l,o=>by rw [putL,putL_length xs]; simp
theorem run_storeCells {P:Program} {b:Nat} {e:TypeId} {r:Rho} (o:Nat) :
  ∀ (xs:List AV) (w:World) (c:List Value) (i:Nat),flatL xs→w.heap[b]?=some (.cells c.toArray e (0,0))→o+i+xs.length≤c.length →
   (storeCells ⟨b,o,none⟩ (concL r xs) i).run P w=.ok () { w with heap:=w.heap.setIfInBounds b (.cells (putL c (o+i) (concL r xs)).toArray e (0,0)) }
 | [],w,c,i,_,hb,_=>by
  have hlt:b<w.heap.size:=(Array.getElem?_eq_some_iff.1 hb).1
  have hg:w.heap[b]=.cells c.toArray e (0,0):=(Array.getElem?_eq_some_iff.1 hb).2
  simp only [concL,storeCells,run_pure,putL]
  congr 1
  rw [← hg]
  simp [Array.setIfInBounds,hlt]
 | x :: xs,w,c,i,hf,hb,hl=>by
  have hlt:b<w.heap.size:=(Array.getElem?_eq_some_iff.1 hb).1
  simp only [List.length_cons] at hl
  simp only [concL,storeCells]
  rw [add_none,run_ok_bind (run_store hf.1 hb (by omega))]
  rw [run_storeCells (e:=e) o xs _ (c.set (o+i) (conc r x)) (i+1) hf.2 (by simp [hlt]) (by simp; omega)]
  congr 1
  simp [putL,Nat.add_assoc]
theorem run_storeZ {z:Nat × Nat} {P:Program} {w:World} {b i:Nat} {c:List Value} {e:TypeId} {r:Rho} {v:AV} (hv:flat v) (hb:w.heap[b]?=some (.cells c.toArray e z)) (hi:i<c.length) (hz:¬ (z.1≤i∧i<z.2)) :
  (store ⟨b,i,none⟩ (conc r v)).run P w=.ok () { w with heap:=w.heap.setIfInBounds b (.cells (c.set i (conc r v)).toArray e z) }:=by
 have hc:w.cell? ⟨b,i,none⟩=some c[i]:=by rw [cell_of hb]; simp [hi]
 have hf:w.frozen? ⟨b,i,none⟩=false:=by simp only [World.frozen?,hb]; simpa using hz
 have hs:w.setCell ⟨b,i,none⟩ (conc r v)={ w with heap:=w.heap.setIfInBounds b (.cells (c.set i (conc r v)).toArray e z) }:=by
  have hlt:b<w.heap.size:=(Array.getElem?_eq_some_iff.1 hb).1
  have hg:w.heap[b]=.cells c.toArray e z:=(Array.getElem?_eq_some_iff.1 hb).2
  unfold World.setCell
  congr 1
  apply Array.ext_getElem?
  intro j
  rw [Array.getElem?_modify]
  by_cases hj:j=b
  ·subst hj; simp only [if_true,Array.getElem?_eq_getElem hlt,hg,Array.getElem?_setIfInBounds_self_of_lt hlt]; simp
  ·rw [Array.getElem?_setIfInBounds_ne (fun h=>hj h.symm)]; simp [show ¬ b=j from fun h=>hj h.symm]
 cases v <;> first
  | exact (show False from hv).elim
  | (simp only [conc] at hs ⊢; simp only [store,Sem.run,hc,hf,hs,Bool.false_eq_true,if_false])
theorem run_storeCellsZ {z:Nat × Nat} {P:Program} {b:Nat} {e:TypeId} {r:Rho} (o:Nat) :
  ∀ (xs:List AV) (w:World) (c:List Value) (i:Nat),flatL xs→w.heap[b]?=some (.cells c.toArray e z)→o+i+xs.length≤c.length→NoF z c.length →
   (storeCells ⟨b,o,none⟩ (concL r xs) i).run P w=.ok () { w with heap:=w.heap.setIfInBounds b (.cells (putL c (o+i) (concL r xs)).toArray e z) }
 | [],w,c,i,_,hb,_,_=>by
  have hlt:b<w.heap.size:=(Array.getElem?_eq_some_iff.1 hb).1
  have hg:w.heap[b]=.cells c.toArray e z:=(Array.getElem?_eq_some_iff.1 hb).2
  simp only [concL,storeCells,run_pure,putL]
  congr 1
  rw [← hg]
  simp [Array.setIfInBounds,hlt]
 | x :: xs,w,c,i,hf,hb,hl,hz=>by
  have hlt:b<w.heap.size:=(Array.getElem?_eq_some_iff.1 hb).1
  simp only [List.length_cons] at hl
  simp only [concL,storeCells]
  rw [add_none,run_ok_bind (run_storeZ hf.1 hb (by omega) (hz _ (by omega)))]
  rw [run_storeCellsZ (z:=z) (e:=e) o xs _ (c.set (o+i) (conc r x)) (i+1) hf.2 (by simp [hlt]) (by simp; omega) (by rw [List.length_set]; exact hz)]
  congr 1
  simp [putL,Nat.add_assoc]
theorem concL_set (r:Rho):∀ (l:List AV) (o:Nat) (x:AV),concL r (l.set o x)=(concL r l).set o (conc r x):=by
 intro l o x; simp only [concL_map,List.map_set]
theorem concL_put (r:Rho):∀ (xs l:List AV) (o:Nat),concL r (putL l o xs)=putL (concL r l) o (concL r xs)
 | [],_,_=>by simp only [putL,concL]
 | x :: xs,l,o=>by simp only [putL,concL]; rw [concL_put r xs,concL_set]
theorem putL_append {α:Type}:∀ (xs a b:List α) (o:Nat),o+xs.length≤a.length→putL (a ++ b) o xs=putL a o xs ++ b
 | [],_,_,_,_=>rfl
 | x :: xs,a,b,o,h=>by
  simp only [List.length_cons] at h
  simp only [putL]
  rw [List.set_append_left _ _ (by omega),putL_append xs _ b (o+1) (by simp; omega)]
theorem okL_set {n:Pt→Prop} {l:List AV} {i:Nat} {x:AV} (h:okL n l) (hx:okV n x):okL n (l.set i x):=by
 rw [okL_iff] at h ⊢
 intro v hv
 rcases List.mem_or_eq_of_mem_set hv with h1 | h1
 ·exact h v h1
 ·exact h1 ▸ hx
theorem okL_put {n:Pt→Prop}:∀ {xs l:List AV} {o:Nat},okL n l→okL n xs→okL n (putL l o xs)
 | [],_,_,h,_=>h
 | x :: xs,l,o,h,g=>by rw [putL]; exact okL_put (okL_set h g.1) g.2
theorem okL_drop {n:Pt→Prop} {l:List AV} (h:okL n l) (i:Nat):okL n (l.drop i):=by
 rw [okL_iff] at h ⊢; exact fun v hv=>h v (List.mem_of_mem_drop hv)
theorem okL_take {n:Pt→Prop} {l:List AV} (h:okL n l) (i:Nat):okL n (l.take i):=by
 rw [okL_iff] at h ⊢; exact fun v hv=>h v (List.mem_of_mem_take hv)
theorem WR.loadCells {P:Program} {w0:World} {r:Rho} {h:T AO} {nx:Pt} {w:World} (H:WR P w0 r h nx w) {k:Pt} {vs:List AV} {e:TypeId} (hk:h.find k=some (.cells vs e)) (o n:Nat) (hl:o+n≤vs.length) :
  (Go.loadCells ⟨r.blk k,o,none⟩ n).run P w=.ok (concL r ((vs.drop o).take n)).toArray w:=by
 obtain ⟨rest,hb,-⟩:=H.block hk
 rw [run_loadCells hb o n (by simp [concL_length]; omega)]
 congr 2
 rw [List.drop_append_of_le_length (by rw [concL_length]; omega),List.take_append_of_le_length (by simp [concL_length]; omega)]
 simp only [concL_map,List.map_take,List.map_drop]
theorem WR.loadCellsF {P:Program} {w0:World} {r:Rho} {h:T AO} {nx:Pt} {w:World} (H:WR P w0 r h nx w) {k:Pt} {vs:List AV} {e:TypeId} (hk:h.find k=some (.frz vs e)) (o n:Nat) (hl:o+n≤vs.length) :
  (Go.loadCells ⟨r.blk k,o,none⟩ n).run P w=.ok (concL r ((vs.drop o).take n)).toArray w:=by
 obtain ⟨rest,z,hb,-⟩:=(H.has k _ hk).2.2.2
 rw [run_loadCells hb o n (by simp [concL_length]; omega)]
 congr 2
 rw [List.drop_append_of_le_length (by rw [concL_length]; omega),List.take_append_of_le_length (by simp [concL_length]; omega)]
 simp only [concL_map,List.map_take,List.map_drop]
theorem WR.loadOne {P:Program} {w0:World} {r:Rho} {h:T AO} {nx:Pt} {w:World} (H:WR P w0 r h nx w) {k:Pt} {vs:List AV} {e:TypeId} (hk:h.find k=some (.cells vs e)) {o:Nat} {v:AV} (hv:vs[o]?=some v) :
  (Go.load ⟨r.blk k,o,none⟩).run P w=.ok (conc r v) w:=by
 obtain ⟨rest,hb,-⟩:=H.block hk
 refine run_load ?_
 rw [cell_of hb]
 have hlt:o<vs.length:=(List.getElem?_eq_some_iff.1 hv).1
 rw [List.getElem?_append_left (by rw [concL_length]; exact hlt),concL_get,hv]; rfl
theorem WR.storeCells {P:Program} {w0:World} {r:Rho} {h:T AO} {nx:Pt} {w:World} (H:WR P w0 r h nx w) {k:Pt} {vs:List AV} {e:TypeId} (hk:h.find k=some (.cells vs e)) (o:Nat) (xs:List AV) (hf:flatL xs) (hx:okL r.has xs) (hl:o+xs.length≤vs.length) :
  ∃ w',(Go.storeCells ⟨r.blk k,o,none⟩ (concL r xs)).run P w=.ok () w'∧WR P w0 r (h.set (.cells (putL vs o xs) e) k) nx w'∧Ev r h w r (h.set (.cells (putL vs o xs) e) k) w':=by
 obtain ⟨rest,hb,hr⟩:=H.block hk
 refine ⟨_,run_storeCells o xs w _ 0 hf hb (by simp [concL_length]; omega),?_⟩
 refine H.write hk _ _ (okL_put (H.has k _ hk).2.2.1 hx) ⟨rest,?_,hr⟩
 rw [concL_put,Nat.add_zero,putL_append _ _ _ _ (by simp [concL_length]; omega)]
theorem run_new {α:Type} {P:Program} (o:Obj) (f:Nat→Sem α) (w:World):(newObj o >>= f).run P w=(f w.heap.size).run P { w with heap:=w.heap.push o }:=rfl
theorem WR.newRow {P:Program} {w0:World} {r:Rho} {h:T AO} {nx:Pt} {w:World} (H:WR P w0 r h nx w) (vs:List AV) (e:TypeId) (hv:okL r.has vs) :
  ∃ w',(Go.newRow e (concL r vs).toArray).run P w=.ok ⟨(r.more nx w.heap.size 0).blk nx,0,none⟩ w'∧WR P w0 (r.more nx w.heap.size 0) (h.set (.cells vs e) nx) nx.succ w'∧Ev r h w (r.more nx w.heap.size 0) (h.set (.cells vs e) nx) w':=by
 have hle:=Rho.le_more H.fresh w.heap.size 0
 have hok:okO (r.more nx w.heap.size 0).has (.cells vs e):=okL.mono hle.has hv
 refine ⟨_,?_,H.alloc (.cells vs e) 0 (.cells (concL r vs).toArray e (0,0)) hok ⟨[],?_,?_⟩⟩
 ·rw [r.more_blk]; rfl
 ·rw [concL_le hle hv]; simp
 ·rw [r.more_ext]; simp
end Go.Proofs.YtpajcdofelmaaaaGreatDoor.X
