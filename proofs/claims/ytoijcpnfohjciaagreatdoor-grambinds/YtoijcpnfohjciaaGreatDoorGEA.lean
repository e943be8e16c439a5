/- errors.As where the target is a struct of two integers (package gram's refusal), of an error that is one. -/
import Derived.Test.YtoijcpnfohjciaaGreatDoorProg
import Derived.Test.YtoijcpnfohjciaaGreatDoorXGW
import Derived.Test.YtoijcpnfohjciaaGreatDoorXC
import Derived.WalkKit
import Derived.LaidEql
import Derived.Stop.Asserts
import Derived.RowKitTokens
import Derived.LoopN
import Derived.Deep.LoopGhost
import Derived.Laws.Rows
import Derived.Laws.Tables
import Derived.Below
namespace Go.Proofs.YtoijcpnfohjciaaGreatDoor
open Go.RowKit Go.Extern.Stop Go.Stop Go.Extern
def hv:Value:=.iface 162 (.agg #[.pointer (some ⟨12,96,none⟩)])
def tv (a:Nat):Value:=.agg #[.pointer (some ⟨12,99,none⟩),.pointer (some ⟨a,0,none⟩),.int .u64 150]
def hT (t:Nat):Value:=.iface 162 (.agg #[.pointer (some ⟨12,t,none⟩)])
theorem as_valueOfP (t:Addr) (w:World):(ReflectliteValue.unpack (.iface 99 (.pointer (some t)))).run Tryz.prog w
  = .ok (.agg #[.pointer (some ⟨12,99,none⟩),.pointer (some ⟨w.heap.size,0,none⟩),.int .u64 150]) (w.alloc (.cells #[.pointer (some t)] 99)):=by kernel_rfl
theorem as_typeP (a:Addr) (w:World):(ReflectliteValue.methodAny (ReflectliteValue.valueError "reflectlite.Value.Type" 0) (fun t _ _ _=>ReflectliteType.toType t) #[.agg #[.pointer (some ⟨12,99,none⟩),.pointer (some a),.int .u64 150]]).run Tryz.prog w
  = .ok (.iface 162 (.agg #[.pointer (some ⟨12,99,none⟩)])) w:=by kernel_rfl
theorem as_mKind (h:Value) (w:World):(Go.method 372 162 (.agg #[h]) "Kind").run Tryz.prog w=.ok (209,h) w:=by kernel_rfl
theorem as_kindP (w:World):((ReflectliteType.abiMethod fun t=>(fun a:Nat=>Value.int IntKind.u8 (a:Int)) <$> Rtype.kind t) #[.pointer (some ⟨12,99,none⟩)]).run Tryz.prog w=.ok (.int .u8 22) w:=by kernel_rfl
theorem as_kindR (w:World):((ReflectliteType.abiMethod fun t=>(fun a:Nat=>Value.int IntKind.u8 (a:Int)) <$> Rtype.kind t) #[.pointer (some ⟨12,71,none⟩)]).run Tryz.prog w=.ok (.int .u8 25) w:=by kernel_rfl
theorem as_rlm (z:Sem Value) (f:TypeId→Addr→Nat→Nat→Sem Value) (v:Value) :
  ReflectliteValue.method z f #[v]=(do match ← ReflectliteValue.parts v with | none=>z | some (t,a,fl)=>f t a fl (fl % 32)):=rfl
theorem as_partsP (a:Addr) (w:World):(ReflectliteValue.parts (.agg #[.pointer (some ⟨12,99,none⟩),.pointer (some a),.int .u64 150])).run Tryz.prog w=.ok (some (99,a,150)) w:=by kernel_rfl
theorem as_isNil (a p:Addr) (W:World) (ha:W.cell? a=some (.pointer (some p))) :
  (ReflectliteValue.method (ReflectliteValue.valueError "reflectlite.Value.IsNil" 0) ReflectliteValue.isNil #[.agg #[.pointer (some ⟨12,99,none⟩),.pointer (some a),.int .u64 150]]).run Tryz.prog W=.ok (.bool false) W:=by
 rw [as_rlm]
 simp only [Sem.run_bind,as_partsP,Result.andThen]
 simp [ReflectliteValue.isNil,loadVar,isAgg,underlying,Tryz.underlying99,ha,Result.andThen]
theorem as_mElem (h:Value) (w:World):(Go.method 372 162 (.agg #[h]) "Elem").run Tryz.prog w=.ok (219,.agg #[h]) w:=by kernel_rfl
theorem as_mImpl (h:Value) (w:World):(Go.method 372 162 (.agg #[h]) "Implements").run Tryz.prog w=.ok (220,.agg #[h]) w:=by kernel_rfl
theorem as_mAssign (h:Value) (w:World):(Go.method 372 162 (.agg #[h]) "AssignableTo").run Tryz.prog w=.ok (217,.agg #[h]) w:=by kernel_rfl
theorem as_elemP (w:World):(ReflectliteType.method ReflectliteType.elem #[.agg #[.pointer (some ⟨12,99,none⟩)]]).run Tryz.prog w=.ok (.iface 162 (.agg #[.pointer (some ⟨12,71,none⟩)])) w:=by kernel_rfl
theorem as_implR (w:World):(ReflectliteType.relation "Implements" ReflectliteType.implements_ #[.agg #[.pointer (some ⟨12,71,none⟩)],.iface 162 (.agg #[.pointer (some ⟨12,96,none⟩)])]).run Tryz.prog w=.ok (.bool true) w:=by kernel_rfl
theorem as_typeOfR (v:Value) (w:World):(ReflectliteType.typeOf #[.iface 71 v]).run Tryz.prog w=.ok (.iface 162 (.agg #[.pointer (some ⟨12,71,none⟩)])) w:=by kernel_rfl
theorem as_assignR (w:World):(ReflectliteType.relation "AssignableTo" ReflectliteType.assignableTo #[.agg #[.pointer (some ⟨12,71,none⟩)],.iface 162 (.agg #[.pointer (some ⟨12,71,none⟩)])]).run Tryz.prog w=.ok (.bool true) w:=by kernel_rfl
theorem as_valueOfR (p e:Int) (w:World):(ReflectliteValue.unpack (.iface 71 (.agg #[.int .i64 p,.int .i64 e]))).run Tryz.prog w
  = .ok (.agg #[.pointer (some ⟨12,71,none⟩),.pointer (some ⟨w.heap.size,0,none⟩),.int .u64 153]) (w.alloc (.cells #[.int .i64 p,.int .i64 e] 71)):=by kernel_rfl
theorem as_elemOfP (w:World):(Rtype.elem? 99).run Tryz.prog w=.ok (some 71) w:=by kernel_rfl
theorem as_mkR (p:Addr) (w:World):(ReflectliteValue.mk 71 p ReflectliteValue.flagAddr).run Tryz.prog w=.ok (.agg #[.pointer (some ⟨12,71,none⟩),.pointer (some p),.int .u64 409]) w:=by kernel_rfl
theorem as_elemV (a p:Addr) (W:World) (ha:W.cell? a=some (.pointer (some p))) :
  (ReflectliteValue.method (ReflectliteValue.valueError "reflectlite.Value.Elem" 0) ReflectliteValue.elem #[.agg #[.pointer (some ⟨12,99,none⟩),.pointer (some a),.int .u64 150]]).run Tryz.prog W
   = .ok (.agg #[.pointer (some ⟨12,71,none⟩),.pointer (some p),.int .u64 409]) W:=by
 rw [as_rlm]
 simp only [Sem.run_bind,as_partsP,Result.andThen]
 simp [ReflectliteValue.elem,loadVar,isAgg,underlying,Tryz.underlying99,ha,Result.andThen,as_elemOfP,as_mkR]
theorem as_rls (v x:Value):ReflectliteValue.set #[v,x]=(do
  let (some (dst,a,fl),some (src,b,_)):=(← ReflectliteValue.parts v,← ReflectliteValue.parts x)
   | unsupported (.noEntry "extern/(internal/reflectlite.Value).Set.zeroValue")
  if fl / ReflectliteValue.flagAddr % 2 == 0 then unsupported (.noEntry "extern/(internal/reflectlite.Value).Set.unaddressable")
  let val ← loadVar src b
  if ← Rtype.directlyAssignable dst src then storeVar dst a val
  else if ← Rtype.implements dst src then
   if (← Rtype.kind src) == 20 then
    match val with
    | .nilIface=>unsupported (.noEntry "extern/reflectlite: a nil value of one interface type handed on as a value of another")
    | _=>storeVar dst a val
   else storeVar dst a (.iface src val)
  else panicString ("reflectlite.Set: value of type " ++ (← Rtype.spelt src) ++ " is not assignable to type " ++ (← Rtype.spelt dst))
  pure (.tuple #[])):=rfl
theorem as_partsA (a:Addr) (w:World):(ReflectliteValue.parts (.agg #[.pointer (some ⟨12,71,none⟩),.pointer (some a),.int .u64 409])).run Tryz.prog w=.ok (some (71,a,409)) w:=by kernel_rfl
theorem as_partsR (a:Addr) (w:World):(ReflectliteValue.parts (.agg #[.pointer (some ⟨12,71,none⟩),.pointer (some a),.int .u64 153])).run Tryz.prog w=.ok (some (71,a,153)) w:=by kernel_rfl
theorem as_directR (w:World):(Rtype.directlyAssignable 71 71).run Tryz.prog w=.ok true w:=by kernel_rfl
theorem as_sizeR (w:World):(sizeOf 71).run Tryz.prog w=.ok 2 w:=by kernel_rfl
def asPut (W:World) (t:Nat) (p e:Int) (rest:List Value) (ty:TypeId):World:={ W with heap:=W.heap.setIfInBounds t (.cells (.int .i64 p :: .int .i64 e :: rest).toArray ty (0,0)) }
def rho0:X.Rho:=⟨fun _=>False,fun _=>False,fun _=>0,fun _=>0,fun _=>{ state:=.ready,pending:=none,fn:=0,tmps:=#[],params:=#[],assign:=.skip,body:=.skip,defers:=0 }⟩
theorem as_store (t:Nat) (p e o1 o2:Int) (rest:List Value) (ty:TypeId) (W:World) (ht:W.heap[t]?=some (.cells (.int .i64 o1 :: .int .i64 o2 :: rest).toArray ty (0,0))) :
  (storeVar 71 ⟨t,0,none⟩ (.agg #[.int .i64 p,.int .i64 e])).run Tryz.prog W=.ok () (asPut W t p e rest ty):=by
 have hlt:t<W.heap.size:=(Array.getElem?_eq_some_iff.1 ht).1
 have h:=@X.run_store Tryz.prog W t 0 (.int .i64 o1 :: .int .i64 o2 :: rest) ty rho0 (.int .i64 p) trivial ht (by simp)
 simp only [X.conc,List.set_cons_zero] at h
 have h2:=@X.run_store Tryz.prog { W with heap:=W.heap.setIfInBounds t (.cells (.int .i64 p :: .int .i64 o2 :: rest).toArray ty (0,0)) } t 1 (.int .i64 p :: .int .i64 o2 :: rest) ty rho0 (.int .i64 e) trivial (Array.getElem?_setIfInBounds_self_of_lt hlt) (by simp)
 simp only [X.conc,List.set_cons_zero,List.set_cons_succ,Array.setIfInBounds_setIfInBounds] at h2
 unfold storeVar
 rw [X.run_ok_bind (as_sizeR W)]
 show Sem.run Tryz.prog (storeCells ⟨t,0,none⟩ [.int .i64 p,.int .i64 e]) W=_
 simp only [storeCells,X.add_none]
 rw [X.run_ok_bind h,X.run_ok_bind h2]
 rfl
theorem as_set (t b:Nat) (p e o1 o2:Int) (rest:List Value) (z:Nat × Nat) (ty:TypeId) (W:World) (hb:W.heap[b]?=some (.cells #[.int .i64 p,.int .i64 e] 71 z)) (ht:W.heap[t]?=some (.cells (.int .i64 o1 :: .int .i64 o2 :: rest).toArray ty (0,0))) :
  (ReflectliteValue.set #[.agg #[.pointer (some ⟨12,71,none⟩),.pointer (some ⟨t,0,none⟩),.int .u64 409],.agg #[.pointer (some ⟨12,71,none⟩),.pointer (some ⟨b,0,none⟩),.int .u64 153]]).run Tryz.prog W
   = .ok (.tuple #[]) (asPut W t p e rest ty):=by
 rw [as_rls]
 simp only [Sem.run_bind,as_partsA,as_partsR,Result.andThen]
 have h1:=run_loadVar_row (P:=Tryz.prog) W b 71 71 #[.int .i64 p,.int .i64 e] z _ hb Tryz.underlying71 rfl (by kernel_rfl)
 have h2:=as_store t p e o1 o2 rest ty W ht
 simp [ReflectliteValue.flagAddr,h1,as_directR,h2]
theorem below_alloc {B:Nat} {w0 w:World} {o:Obj} (hB:B≤w0.heap.size) (h:Below B w0 w):Below B w0 (w.alloc o) :=
 ⟨h.os,h.tape,h.output,by show _≤(w.heap.push o).size; rw [Array.size_push]; exact Nat.le_succ_of_le h.size,fun k hk=>by
  show (w.heap.push o)[k]?=_
  have:=h.size
  rw [Array.getElem?_push,if_neg (by omega)]; exact h.block k hk⟩
set_option maxRecDepth 100000 in
set_option maxHeartbeats 4000000 in
theorem as_walk (p e o1 o2:Int) (tb a:Nat) (x:Value) (w:World) (rest:List Value) (ty:TypeId) (za:Nat × Nat) (ha:w.heap[a]?=some (.cells #[.pointer (some ⟨tb,0,none⟩)] 99 za)) (ht:w.heap[tb]?=some (.cells (.int .i64 o1 :: .int .i64 o2 :: rest).toArray ty (0,0))) :
  Calls Tryz.prog 86 #[.iface 71 (.agg #[.int .i64 p,.int .i64 e]),x,.agg #[.pointer (some ⟨12,99,none⟩),.pointer (some ⟨a,0,none⟩),.int .u64 150],.iface 162 (.agg #[.pointer (some ⟨12,71,none⟩)])] w
   fun r w'=>r=.returned (.bool true)∧∃ W2,Below w.heap.size w W2∧w'=asPut W2 tb p e rest ty:=by
 have h118:=@run_callFunc_extern Tryz.prog 83 _ (fun args=>ReflectliteValue.unpack (args.getD 0 (.tuple #[]))) Tryz.func83 (by kernel_rfl) (by kernel_rfl) (by kernel_rfl) (by kernel_rfl)
 have h165:=@run_callFunc_extern Tryz.prog 120 _ ReflectliteType.typeOf Tryz.func120 (by kernel_rfl) (by kernel_rfl) (by kernel_rfl) (by kernel_rfl)
 have h447:=@run_callFunc_extern Tryz.prog 217 _ (ReflectliteType.relation "AssignableTo" ReflectliteType.assignableTo) Tryz.func217 (by kernel_rfl) (by kernel_rfl) (by kernel_rfl) (by kernel_rfl)
 have h166:=@run_callFunc_extern Tryz.prog 121 _ (ReflectliteValue.method (ReflectliteValue.valueError "reflectlite.Value.Elem" 0) ReflectliteValue.elem) Tryz.func121 (by kernel_rfl) (by kernel_rfl) (by kernel_rfl) (by kernel_rfl)
 have h167:=@run_callFunc_extern Tryz.prog 122 _ ReflectliteValue.set Tryz.func122 (by kernel_rfl) (by kernel_rfl) (by kernel_rfl) (by kernel_rfl)
 have tR:=as_typeOfR
 have mA:=as_mAssign
 have aR:=as_assignR
 have vR:=as_valueOfR
 go_enter Tryz.func86,Tryz.ntmps86
 go_wp2
 go_loopg [0] 1 (fun k q wr=>k=1∧q=.iface 71 (.agg #[.int .i64 p,.int .i64 e])∧Below (w.heap.size+1) (w.alloc (.cells #[.pointer (some ⟨12,99,none⟩),.pointer (some ⟨a,0,none⟩),.int .u64 150] 124)) wr)
 case atStart=>exact ⟨rfl,rfl,Below.refl _ _⟩
 case round =>
  obtain ⟨rfl,rfl,hB⟩:=hrel
  have hb6:wr.heap[w.heap.size]?=some (.cells #[.pointer (some ⟨12,99,none⟩),.pointer (some ⟨a,0,none⟩),.int .u64 150] 124 (0,0)):=by
   rw [hB.block _ (by omega)]; show (w.heap.push _)[w.heap.size]?=_; simp
  have hla:a<w.heap.size:=by
   rcases Nat.lt_or_ge a w.heap.size with h | h
   ·exact h
   ·rw [Array.getElem?_eq_none h] at ha; cases ha
  have hlt:tb<w.heap.size:=by
   rcases Nat.lt_or_ge tb w.heap.size with h | h
   ·exact h
   ·rw [Array.getElem?_eq_none h] at ht; cases ht
  have ha':wr.heap[a]?=some (.cells #[.pointer (some ⟨tb,0,none⟩)] 99 za):=by
   rw [hB.block _ (by omega)]; show (w.heap.push _)[a]?=_; rw [Array.getElem?_push,if_neg (by omega)]; exact ha
  have ht':wr.heap[tb]?=some (.cells (.int .i64 o1 :: .int .i64 o2 :: rest).toArray ty (0,0)):=by
   rw [hB.block _ (by omega)]; show (w.heap.push _)[tb]?=_; rw [Array.getElem?_push,if_neg (by omega)]; exact ht
  have hsz:w.heap.size+1≤wr.heap.size:=by have h1:(w.heap.push _).size≤wr.heap.size:=hB.size; rw [Array.size_push] at h1; exact h1
  have c0:wr.cell? ⟨w.heap.size,0,none⟩=some (.pointer (some ⟨12,99,none⟩)):=by simp [World.cell?,hb6]
  have c1:wr.cell? ⟨w.heap.size,1,none⟩=some (.pointer (some ⟨a,0,none⟩)):=by simp [World.cell?,hb6]
  have c2:wr.cell? ⟨w.heap.size,2,none⟩=some (.int .u64 150):=by simp [World.cell?,hb6]
  have el:=as_elemV ⟨a,0,none⟩ ⟨tb,0,none⟩ wr (by simp [World.cell?,ha'])
  have st:=as_set tb wr.heap.size p e o1 o2 rest (0,0) ty (wr.alloc (.cells #[.int .i64 p,.int .i64 e] 71)) (by show (wr.heap.push _)[wr.heap.size]?=_; simp) (by show (wr.heap.push _)[tb]?=_; rw [Array.getElem?_push]; rw [if_neg (by omega)]; exact ht')
  have B1:Below w.heap.size w wr:=(below_alloc (Nat.le_refl _) (Below.refl _ w)).trans (hB.mono (Nat.le_succ _))
  clear hb6 ha' ht' ha ht hla hlt
  go_wp2
  go_ret
  exact ⟨rfl,_,below_alloc (Nat.le_refl _) B1,rfl⟩
set_option maxRecDepth 100000 in
set_option maxHeartbeats 4000000 in
theorem as_any (p e o1 o2:Int) (tb:Nat) (w:World) (rest:List Value) (ty:TypeId) (hg:w.cell? ⟨1,0,none⟩=some (.iface 162 (.agg #[.pointer (some ⟨12,96,none⟩)]))) (ht:w.heap[tb]?=some (.cells (.int .i64 o1 :: .int .i64 o2 :: rest).toArray ty (0,0))) :
  Calls Tryz.prog 42 #[.iface 71 (.agg #[.int .i64 p,.int .i64 e]),.iface 99 (.pointer (some ⟨tb,0,none⟩))] w
   fun r w'=>r=.returned (.bool true)∧∃ W2,Below w.heap.size w W2∧w'=asPut W2 tb p e rest ty:=by
 have h118:=@run_callFunc_extern Tryz.prog 83 _ (fun args=>ReflectliteValue.unpack (args.getD 0 (.tuple #[]))) Tryz.func83 (by kernel_rfl) (by kernel_rfl) (by kernel_rfl) (by kernel_rfl)
 have h119:=@run_callFunc_extern Tryz.prog 84 _ (ReflectliteValue.methodAny (ReflectliteValue.valueError "reflectlite.Value.Type" 0) (fun t _ _ _=>ReflectliteType.toType t)) Tryz.func84 (by kernel_rfl) (by kernel_rfl) (by kernel_rfl) (by kernel_rfl)
 have h120:=@run_callFunc_extern Tryz.prog 85 _ (ReflectliteValue.method (ReflectliteValue.valueError "reflectlite.Value.IsNil" 0) ReflectliteValue.isNil) Tryz.func85 (by kernel_rfl) (by kernel_rfl) (by kernel_rfl) (by kernel_rfl)
 have h435:=@run_callFunc_extern Tryz.prog 209 _ (ReflectliteType.abiMethod fun t=>do pure (.int .u8 (← Rtype.kind t))) Tryz.func209 (by kernel_rfl) (by kernel_rfl) (by kernel_rfl) (by kernel_rfl)
 have h449:=@run_callFunc_extern Tryz.prog 219 _ (ReflectliteType.method ReflectliteType.elem) Tryz.func219 (by kernel_rfl) (by kernel_rfl) (by kernel_rfl) (by kernel_rfl)
 have h450:=@run_callFunc_extern Tryz.prog 220 _ (ReflectliteType.relation "Implements" ReflectliteType.implements_) Tryz.func220 (by kernel_rfl) (by kernel_rfl) (by kernel_rfl) (by kernel_rfl)
 have vP:=as_valueOfP
 have tP:=as_typeP
 have mK:=as_mKind
 have mE:=as_mElem
 have mI:=as_mImpl
 have kP:=as_kindP
 have kR:=as_kindR
 have eP:=as_elemP
 have iR:=as_implR
 have h0:1<w.heap.size:=by
  rcases Nat.lt_or_ge 1 w.heap.size with h | h
  ·exact h
  ·simp [World.cell?,Array.getElem?_eq_none h] at hg
 have hlt:tb<w.heap.size:=by
  rcases Nat.lt_or_ge tb w.heap.size with h | h
  ·exact h
  ·rw [Array.getElem?_eq_none h] at ht; cases ht
 have hg2:((w.alloc (.cells #[.pointer (some ⟨tb,0,none⟩)] 99)).alloc (.cells #[.pointer (some ⟨12,99,none⟩),.pointer (some ⟨w.heap.size,0,none⟩),.int .u64 150] 124)).cell? ⟨1,0,none⟩=some (.iface 162 (.agg #[.pointer (some ⟨12,96,none⟩)])):=by
  rw [World.cell?_alloc_lt _ _ ⟨1,0,none⟩ (by simp; omega),World.cell?_alloc_lt _ _ ⟨1,0,none⟩ h0]; exact hg
 have n8:=as_isNil ⟨w.heap.size,0,none⟩ ⟨tb,0,none⟩ ((w.alloc (.cells #[.pointer (some ⟨tb,0,none⟩)] 99)).alloc (.cells #[.pointer (some ⟨12,99,none⟩),.pointer (some ⟨w.heap.size,0,none⟩),.int .u64 150] 124)) (by rw [World.cell?_alloc_lt _ _ ⟨w.heap.size,0,none⟩ (by simp)]; simp)
 have B2:Below w.heap.size w ((w.alloc (.cells #[.pointer (some ⟨tb,0,none⟩)] 99)).alloc (.cells #[.pointer (some ⟨12,99,none⟩),.pointer (some ⟨w.heap.size,0,none⟩),.int .u64 150] 124)):=below_alloc (Nat.le_refl _) (below_alloc (Nat.le_refl _) (Below.refl _ w))
 have hw:=as_walk p e o1 o2 tb w.heap.size (.iface 99 (.pointer (some ⟨tb,0,none⟩))) ((w.alloc (.cells #[.pointer (some ⟨tb,0,none⟩)] 99)).alloc (.cells #[.pointer (some ⟨12,99,none⟩),.pointer (some ⟨w.heap.size,0,none⟩),.int .u64 150] 124)) rest ty (0,0)
  (by show ((w.heap.push _).push _)[w.heap.size]?=_; rw [Array.getElem?_push,if_neg (by simp),Array.getElem?_push,if_pos rfl])
  (by show ((w.heap.push _).push _)[tb]?=_; rw [Array.getElem?_push,if_neg (by simp; omega),Array.getElem?_push,if_neg (by omega)]; exact ht)
 clear ht hg
 go_enter Tryz.func42,Tryz.ntmps42
 go_wp2_with (first | (refine hw.mono ?_; rintro r w' ⟨rfl,W2,hB,rfl⟩))
 go_ret
 exact ⟨rfl,_,B2.trans (hB.mono (by show _≤((w.heap.push _).push _).size; simp; omega)),rfl⟩
end Go.Proofs.YtoijcpnfohjciaaGreatDoor
