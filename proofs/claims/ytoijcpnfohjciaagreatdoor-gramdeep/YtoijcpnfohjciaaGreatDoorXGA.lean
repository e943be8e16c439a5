/- errors.As where the target is a struct of two integers (package gram's refusal), of an error that is one. -/
import Derived.Test.YtoijcpnfohjciaaGreatDoorProg
import Derived.Test.YtoijcpnfohjciaaGreatDoorXGW
import Derived.Test.YtoijcpnfohjciaaGreatDoorXC
import Derived.WalkKit
import Derived.LaidEql
import Derived.Stop.Asserts
import Derived.RowKitTokens
import Derived.LoopN
import Derived.Deep.LoopGhost
import Derived.Laws.Rows
import Derived.Laws.Tables
import Derived.Below
import Derived.Test.YtoijcpnfohjciaaGreatDoorXTR
import Derived.Test.YtoijcpnfohjciaaGreatDoorXST
namespace Go.Proofs.YtoijcpnfohjciaaGreatDoor
open Go.RowKit Go.Extern.Stop Go.Stop Go.Extern
def hv:Value:=.iface 162 (.agg #[.pointer (some ⟨12,96,none⟩)])
def tv (a:Nat):Value:=.agg #[.pointer (some ⟨12,99,none⟩),.pointer (some ⟨a,0,none⟩),.int .u64 150]
def hT (t:Nat):Value:=.iface 162 (.agg #[.pointer (some ⟨12,t,none⟩)])
theorem as_valueOfP (t:Addr) (w:World):(ReflectliteValue.unpack (.iface 99 (.pointer (some t)))).run Tryz.prog w
  = .ok (.agg #[.pointer (some ⟨12,99,none⟩),.pointer (some ⟨w.heap.size,0,none⟩),.int .u64 150]) (w.alloc (.cells #[.pointer (some t)] 99)):=by kernel_rfl
theorem as_typeP (a:Addr) (w:World):(ReflectliteValue.methodAny (ReflectliteValue.valueError "reflectlite.Value.Type" 0) (fun t _ _ _=>ReflectliteType.toType t) #[.agg #[.pointer (some ⟨12,99,none⟩),.pointer (some a),.int .u64 150]]).run Tryz.prog w
  = .ok (.iface 162 (.agg #[.pointer (some ⟨12,99,none⟩)])) w:=by kernel_rfl
theorem as_mKind (h:Value) (w:World):(Go.method 372 162 (.agg #[h]) "Kind").run Tryz.prog w=.ok (209,h) w:=by kernel_rfl
theorem as_kindP (w:World):((ReflectliteType.abiMethod fun t=>(fun a:Nat=>Value.int IntKind.u8 (a:Int)) <$> Rtype.kind t) #[.pointer (some ⟨12,99,none⟩)]).run Tryz.prog w=.ok (.int .u8 22) w:=by kernel_rfl
theorem as_kindR (w:World):((ReflectliteType.abiMethod fun t=>(fun a:Nat=>Value.int IntKind.u8 (a:Int)) <$> Rtype.kind t) #[.pointer (some ⟨12,71,none⟩)]).run Tryz.prog w=.ok (.int .u8 25) w:=by kernel_rfl
theorem as_rlm (z:Sem Value) (f:TypeId→Addr→Nat→Nat→Sem Value) (v:Value) :
  ReflectliteValue.method z f #[v]=(do match ← ReflectliteValue.parts v with | none=>z | some (t,a,fl)=>f t a fl (fl % 32)):=rfl
theorem as_partsP (a:Addr) (w:World):(ReflectliteValue.parts (.agg #[.pointer (some ⟨12,99,none⟩),.pointer (some a),.int .u64 150])).run Tryz.prog w=.ok (some (99,a,150)) w:=by kernel_rfl
theorem as_isNil (a p:Addr) (W:World) (ha:W.cell? a=some (.pointer (some p))) :
  (ReflectliteValue.method (ReflectliteValue.valueError "reflectlite.Value.IsNil" 0) ReflectliteValue.isNil #[.agg #[.pointer (some ⟨12,99,none⟩),.pointer (some a),.int .u64 150]]).run Tryz.prog W=.ok (.bool false) W:=by
 rw [as_rlm]
 simp only [Sem.run_bind,as_partsP,Result.andThen]
 simp [ReflectliteValue.isNil,loadVar,isAgg,underlying,Tryz.underlying99,ha,Result.andThen]
theorem as_mElem (h:Value) (w:World):(Go.method 372 162 (.agg #[h]) "Elem").run Tryz.prog w=.ok (219,.agg #[h]) w:=by kernel_rfl
theorem as_mImpl (h:Value) (w:World):(Go.method 372 162 (.agg #[h]) "Implements").run Tryz.prog w=.ok (220,.agg #[h]) w:=by kernel_rfl
theorem as_mAssign (h:Value) (w:World):(Go.method 372 162 (.agg #[h]) "AssignableTo").run Tryz.prog w=.ok (217,.agg #[h]) w:=by kernel_rfl
theorem as_elemP (w:World):(ReflectliteType.method ReflectliteType.elem #[.agg #[.pointer (some ⟨12,99,none⟩)]]).run Tryz.prog w=.ok (.iface 162 (.agg #[.pointer (some ⟨12,71,none⟩)])) w:=by kernel_rfl
theorem as_implR (w:World):(ReflectliteType.relation "Implements" ReflectliteType.implements_ #[.agg #[.pointer (some ⟨12,71,none⟩)],.iface 162 (.agg #[.pointer (some ⟨12,96,none⟩)])]).run Tryz.prog w=.ok (.bool true) w:=by kernel_rfl
theorem as_typeOfR (v:Value) (w:World):(ReflectliteType.typeOf #[.iface 71 v]).run Tryz.prog w=.ok (.iface 162 (.agg #[.pointer (some ⟨12,71,none⟩)])) w:=by kernel_rfl
theorem as_assignR (w:World):(ReflectliteType.relation "AssignableTo" ReflectliteType.assignableTo #[.agg #[.pointer (some ⟨12,71,none⟩)],.iface 162 (.agg #[.pointer (some ⟨12,71,none⟩)])]).run Tryz.prog w=.ok (.bool true) w:=by kernel_rfl
theorem as_valueOfR (p e:Int) (w:World):(ReflectliteValue.unpack (.iface 71 (.agg #[.int .i64 p,.int .i64 e]))).run Tryz.prog w
  = .ok (.agg #[.pointer (some ⟨12,71,none⟩),.pointer (some ⟨w.heap.size,0,none⟩),.int .u64 153]) (w.alloc (.cells #[.int .i64 p,.int .i64 e] 71)):=by kernel_rfl
theorem as_elemOfP (w:World):(Rtype.elem? 99).run Tryz.prog w=.ok (some 71) w:=by kernel_rfl
theorem as_mkR (p:Addr) (w:World):(ReflectliteValue.mk 71 p ReflectliteValue.flagAddr).run Tryz.prog w=.ok (.agg #[.pointer (some ⟨12,71,none⟩),.pointer (some p),.int .u64 409]) w:=by kernel_rfl
theorem as_elemV (a p:Addr) (W:World) (ha:W.cell? a=some (.pointer (some p))) :
  (ReflectliteValue.method (ReflectliteValue.valueError "reflectlite.Value.Elem" 0) ReflectliteValue.elem #[.agg #[.pointer (some ⟨12,99,none⟩),.pointer (some a),.int .u64 150]]).run Tryz.prog W
   = .ok (.agg #[.pointer (some ⟨12,71,none⟩),.pointer (some p),.int .u64 409]) W:=by
 rw [as_rlm]
 simp only [Sem.run_bind,as_partsP,Result.andThen]
 simp [ReflectliteValue.elem,loadVar,isAgg,underlying,Tryz.underlying99,ha,Result.andThen,as_elemOfP,as_mkR]
theorem as_rls (v x:Value):ReflectliteValue.set #[v,x]=(do
  let (some (dst,a,fl),some (src,b,_)):=(← ReflectliteValue.parts v,← ReflectliteValue.parts x)
   | unsupported (.noEntry "extern/(internal/reflectlite.Value).Set.zeroValue")
  if fl / ReflectliteValue.flagAddr % 2 == 0 then unsupported (.noEntry "extern/(internal/reflectlite.Value).Set.unaddressable")
  let val ← loadVar src b
  if ← Rtype.directlyAssignable dst src then storeVar dst a val
  else if ← Rtype.implements dst src then
   if (← Rtype.kind src) == 20 then
    match val with
    | .nilIface=>unsupported (.noEntry "extern/reflectlite: a nil value of one interface type handed on as a value of another")
    | _=>storeVar dst a val
   else storeVar dst a (.iface src val)
  else panicString ("reflectlite.Set: value of type " ++ (← Rtype.spelt src) ++ " is not assignable to type " ++ (← Rtype.spelt dst))
  pure (.tuple #[])):=rfl
theorem as_partsA (a:Addr) (w:World):(ReflectliteValue.parts (.agg #[.pointer (some ⟨12,71,none⟩),.pointer (some a),.int .u64 409])).run Tryz.prog w=.ok (some (71,a,409)) w:=by kernel_rfl
theorem as_partsR (a:Addr) (w:World):(ReflectliteValue.parts (.agg #[.pointer (some ⟨12,71,none⟩),.pointer (some a),.int .u64 153])).run Tryz.prog w=.ok (some (71,a,153)) w:=by kernel_rfl
theorem as_directR (w:World):(Rtype.directlyAssignable 71 71).run Tryz.prog w=.ok true w:=by kernel_rfl
theorem as_sizeR (w:World):(sizeOf 71).run Tryz.prog w=.ok 2 w:=by kernel_rfl
def asPut (W:World) (t:Nat) (p e:Int) (rest:List Value) (ty:TypeId):World:={ W with heap:=W.heap.setIfInBounds t (.cells (.int .i64 p :: .int .i64 e :: rest).toArray ty (0,0)) }
def rho0:X.Rho:=⟨fun _=>False,fun _=>False,fun _=>0,fun _=>0,fun _=>{ state:=.ready,pending:=none,fn:=0,tmps:=#[],params:=#[],assign:=.skip,body:=.skip,defers:=0 }⟩
theorem as_store (t:Nat) (p e o1 o2:Int) (rest:List Value) (ty:TypeId) (W:World) (ht:W.heap[t]?=some (.cells (.int .i64 o1 :: .int .i64 o2 :: rest).toArray ty (0,0))) :
  (storeVar 71 ⟨t,0,none⟩ (.agg #[.int .i64 p,.int .i64 e])).run Tryz.prog W=.ok () (asPut W t p e rest ty):=by
 have hlt:t<W.heap.size:=(Array.getElem?_eq_some_iff.1 ht).1
 have h:=@X.run_store Tryz.prog W t 0 (.int .i64 o1 :: .int .i64 o2 :: rest) ty rho0 (.int .i64 p) trivial ht (by simp)
 simp only [X.conc,List.set_cons_zero] at h
 have h2:=@X.run_store Tryz.prog { W with heap:=W.heap.setIfInBounds t (.cells (.int .i64 p :: .int .i64 o2 :: rest).toArray ty (0,0)) } t 1 (.int .i64 p :: .int .i64 o2 :: rest) ty rho0 (.int .i64 e) trivial (Array.getElem?_setIfInBounds_self_of_lt hlt) (by simp)
 simp only [X.conc,List.set_cons_zero,List.set_cons_succ,Array.setIfInBounds_setIfInBounds] at h2
 unfold storeVar
 rw [X.run_ok_bind (as_sizeR W)]
 show Sem.run Tryz.prog (storeCells ⟨t,0,none⟩ [.int .i64 p,.int .i64 e]) W=_
 simp only [storeCells,X.add_none]
 rw [X.run_ok_bind h,X.run_ok_bind h2]
 rfl
theorem as_set (t b:Nat) (p e o1 o2:Int) (rest:List Value) (z:Nat × Nat) (ty:TypeId) (W:World) (hb:W.heap[b]?=some (.cells #[.int .i64 p,.int .i64 e] 71 z)) (ht:W.heap[t]?=some (.cells (.int .i64 o1 :: .int .i64 o2 :: rest).toArray ty (0,0))) :
  (ReflectliteValue.set #[.agg #[.pointer (some ⟨12,71,none⟩),.pointer (some ⟨t,0,none⟩),.int .u64 409],.agg #[.pointer (some ⟨12,71,none⟩),.pointer (some ⟨b,0,none⟩),.int .u64 153]]).run Tryz.prog W
   = .ok (.tuple #[]) (asPut W t p e rest ty):=by
 rw [as_rls]
 simp only [Sem.run_bind,as_partsA,as_partsR,Result.andThen]
 have h1:=run_loadVar_row (P:=Tryz.prog) W b 71 71 #[.int .i64 p,.int .i64 e] z _ hb Tryz.underlying71 rfl (by kernel_rfl)
 have h2:=as_store t p e o1 o2 rest ty W ht
 simp [ReflectliteValue.flagAddr,h1,as_directR,h2]
theorem below_alloc {B:Nat} {w0 w:World} {o:Obj} (hB:B≤w0.heap.size) (h:Below B w0 w):Below B w0 (w.alloc o) :=
 ⟨h.os,h.tape,h.output,by show _≤(w.heap.push o).size; rw [Array.size_push]; exact Nat.le_succ_of_le h.size,fun k hk=>by
  show (w.heap.push o)[k]?=_
  have:=h.size
  rw [Array.getElem?_push,if_neg (by omega)]; exact h.block k hk⟩
set_option maxRecDepth 100000 in
set_option maxHeartbeats 4000000 in
theorem as_walk (p e o1 o2:Int) (tb a:Nat) (x:Value) (w:World) (rest:List Value) (ty:TypeId) (za:Nat × Nat) (ha:w.heap[a]?=some (.cells #[.pointer (some ⟨tb,0,none⟩)] 99 za)) (ht:w.heap[tb]?=some (.cells (.int .i64 o1 :: .int .i64 o2 :: rest).toArray ty (0,0))) :
  Calls Tryz.prog 86 #[.iface 71 (.agg #[.int .i64 p,.int .i64 e]),x,.agg #[.pointer (some ⟨12,99,none⟩),.pointer (some ⟨a,0,none⟩),.int .u64 150],.iface 162 (.agg #[.pointer (some ⟨12,71,none⟩)])] w
   fun r w'=>r=.returned (.bool true)∧∃ W2,Below w.heap.size w W2∧w'=asPut W2 tb p e rest ty:=by
 have h118:=@run_callFunc_extern Tryz.prog 83 _ (fun args=>ReflectliteValue.unpack (args.getD 0 (.tuple #[]))) Tryz.func83 (by kernel_rfl) (by kernel_rfl) (by kernel_rfl) (by kernel_rfl)
 have h165:=@run_callFunc_extern Tryz.prog 120 _ ReflectliteType.typeOf Tryz.func120 (by kernel_rfl) (by kernel_rfl) (by kernel_rfl) (by kernel_rfl)
 have h447:=@run_callFunc_extern Tryz.prog 217 _ (ReflectliteType.relation "AssignableTo" ReflectliteType.assignableTo) Tryz.func217 (by kernel_rfl) (by kernel_rfl) (by kernel_rfl) (by kernel_rfl)
 have h166:=@run_callFunc_extern Tryz.prog 121 _ (ReflectliteValue.method (ReflectliteValue.valueError "reflectlite.Value.Elem" 0) ReflectliteValue.elem) Tryz.func121 (by kernel_rfl) (by kernel_rfl) (by kernel_rfl) (by kernel_rfl)
 have h167:=@run_callFunc_extern Tryz.prog 122 _ ReflectliteValue.set Tryz.func122 (by kernel_rfl) (by kernel_rfl) (by kernel_rfl) (by kernel_rfl)
 have tR:=as_typeOfR
 have mA:=as_mAssign
 have aR:=as_assignR
 have vR:=as_valueOfR
 go_enter Tryz.func86,Tryz.ntmps86
 go_wp2
 go_loopg [0] 1 (fun k q wr=>k=1∧q=.iface 71 (.agg #[.int .i64 p,.int .i64 e])∧Below (w.heap.size+1) (w.alloc (.cells #[.pointer (some ⟨12,99,none⟩),.pointer (some ⟨a,0,none⟩),.int .u64 150] 124)) wr)
 case atStart=>exact ⟨rfl,rfl,Below.refl _ _⟩
 case round =>
  obtain ⟨rfl,rfl,hB⟩:=hrel
  have hb6:wr.heap[w.heap.size]?=some (.cells #[.pointer (some ⟨12,99,none⟩),.pointer (some ⟨a,0,none⟩),.int .u64 150] 124 (0,0)):=by
   rw [hB.block _ (by omega)]; show (w.heap.push _)[w.heap.size]?=_; simp
  have hla:a<w.heap.size:=by
   rcases Nat.lt_or_ge a w.heap.size with h | h
   ·exact h
   ·rw [Array.getElem?_eq_none h] at ha; cases ha
  have hlt:tb<w.heap.size:=by
   rcases Nat.lt_or_ge tb w.heap.size with h | h
   ·exact h
   ·rw [Array.getElem?_eq_none h] at ht; cases ht
  have ha':wr.heap[a]?=some (.cells #[.pointer (some ⟨tb,0,none⟩)] 99 za):=by
   rw [hB.block _ (by omega)]; show (w.heap.push _)[a]?=_; rw [Array.getElem?_push,if_neg (by omega)]; exact ha
  have ht':wr.heap[tb]?=some (.cells (.int .i64 o1 :: .int .i64 o2 :: rest).toArray ty (0,0)):=by
   rw [hB.block _ (by omega)]; show (w.heap.push _)[tb]?=_; rw [Array.getElem?_push,if_neg (by omega)]; exact ht
  have hsz:w.heap.size+1≤wr.heap.size:=by have h1:(w.heap.push _).size≤wr.heap.size:=hB.size; rw [Array.size_push] at h1; exact h1
  have c0:wr.cell? ⟨w.heap.size,0,none⟩=some (.pointer (some ⟨12,99,none⟩)):=by simp [World.cell?,hb6]
  have c1:wr.cell? ⟨w.heap.size,1,none⟩=some (.pointer (some ⟨a,0,none⟩)):=by simp [World.cell?,hb6]
  have c2:wr.cell? ⟨w.heap.size,2,none⟩=some (.int .u64 150):=by simp [World.cell?,hb6]
  have el:=as_elemV ⟨a,0,none⟩ ⟨tb,0,none⟩ wr (by simp [World.cell?,ha'])
  have st:=as_set tb wr.heap.size p e o1 o2 rest (0,0) ty (wr.alloc (.cells #[.int .i64 p,.int .i64 e] 71)) (by show (wr.heap.push _)[wr.heap.size]?=_; simp) (by show (wr.heap.push _)[tb]?=_; rw [Array.getElem?_push]; rw [if_neg (by omega)]; exact ht')
  have B1:Below w.heap.size w wr:=(below_alloc (Nat.le_refl _) (Below.refl _ w)).trans (hB.mono (Nat.le_succ _))
  clear hb6 ha' ht' ha ht hla hlt
  go_wp2
  go_ret
  exact ⟨rfl,_,below_alloc (Nat.le_refl _) B1,rfl⟩
set_option maxRecDepth 100000 in
set_option maxHeartbeats 4000000 in
theorem as_any (p e o1 o2:Int) (tb:Nat) (w:World) (rest:List Value) (ty:TypeId) (hg:w.cell? ⟨1,0,none⟩=some (.iface 162 (.agg #[.pointer (some ⟨12,96,none⟩)]))) (ht:w.heap[tb]?=some (.cells (.int .i64 o1 :: .int .i64 o2 :: rest).toArray ty (0,0))) :
  Calls Tryz.prog 42 #[.iface 71 (.agg #[.int .i64 p,.int .i64 e]),.iface 99 (.pointer (some ⟨tb,0,none⟩))] w
   fun r w'=>r=.returned (.bool true)∧∃ W2,Below w.heap.size w W2∧w'=asPut W2 tb p e rest ty:=by
 have h118:=@run_callFunc_extern Tryz.prog 83 _ (fun args=>ReflectliteValue.unpack (args.getD 0 (.tuple #[]))) Tryz.func83 (by kernel_rfl) (by kernel_rfl) (by kernel_rfl) (by kernel_rfl)
 have h119:=@run_callFunc_extern Tryz.prog 84 _ (ReflectliteValue.methodAny (ReflectliteValue.valueError "reflectlite.Value.Type" 0) (fun t _ _ _=>ReflectliteType.toType t)) Tryz.func84 (by kernel_rfl) (by kernel_rfl) (by kernel_rfl) (by kernel_rfl)
 have h120:=@run_callFunc_extern Tryz.prog 85 _ (ReflectliteValue.method (ReflectliteValue.valueError "reflectlite.Value.IsNil" 0) ReflectliteValue.isNil) Tryz.func85 (by kernel_rfl) (by kernel_rfl) (by kernel_rfl) (by kernel_rfl)
 have h435:=@run_callFunc_extern Tryz.prog 209 _ (ReflectliteType.abiMethod fun t=>do pure (.int .u8 (← Rtype.kind t))) Tryz.func209 (by kernel_rfl) (by kernel_rfl) (by kernel_rfl) (by kernel_rfl)
 have h449:=@run_callFunc_extern Tryz.prog 219 _ (ReflectliteType.method ReflectliteType.elem) Tryz.func219 (by kernel_rfl) (by kernel_rfl) (by kernel_rfl) (by kernel_rfl)
 have h450:=@run_callFunc_extern Tryz.prog 220 _ (ReflectliteType.relation "Implements" ReflectliteType.implements_) Tryz.func220 (by kernel_rfl) (by kernel_rfl) (by kernel_rfl) (by kernel_rfl)
 have vP:=as_valueOfP
 have tP:=as_typeP
 have mK:=as_mKind
 have mE:=as_mElem
 have mI:=as_mImpl
 have kP:=as_kindP
 have kR:=as_kindR
 have eP:=as_elemP
 have iR:=as_implR
 have h0:1<w.heap.size:=by
  rcases Nat.lt_or_ge 1 w.heap.size with h | h
  ·exact h
  ·simp [World.cell?,Array.getElem?_eq_none h] at hg
 have hlt:tb<w.heap.size:=by
  rcases Nat.lt_or_ge tb w.heap.size with h | h
  ·exact h
  ·rw [Array.getElem?_eq_none h] at ht; cases ht
 have hg2:((w.alloc (.cells #[.pointer (some ⟨tb,0,none⟩)] 99)).alloc (.cells #[.pointer (some ⟨12,99,none⟩),.pointer (some ⟨w.heap.size,0,none⟩),.int .u64 150] 124)).cell? ⟨1,0,none⟩=some (.iface 162 (.agg #[.pointer (some ⟨12,96,none⟩)])):=by
  rw [World.cell?_alloc_lt _ _ ⟨1,0,none⟩ (by simp; omega),World.cell?_alloc_lt _ _ ⟨1,0,none⟩ h0]; exact hg
 have n8:=as_isNil ⟨w.heap.size,0,none⟩ ⟨tb,0,none⟩ ((w.alloc (.cells #[.pointer (some ⟨tb,0,none⟩)] 99)).alloc (.cells #[.pointer (some ⟨12,99,none⟩),.pointer (some ⟨w.heap.size,0,none⟩),.int .u64 150] 124)) (by rw [World.cell?_alloc_lt _ _ ⟨w.heap.size,0,none⟩ (by simp)]; simp)
 have B2:Below w.heap.size w ((w.alloc (.cells #[.pointer (some ⟨tb,0,none⟩)] 99)).alloc (.cells #[.pointer (some ⟨12,99,none⟩),.pointer (some ⟨w.heap.size,0,none⟩),.int .u64 150] 124)):=below_alloc (Nat.le_refl _) (below_alloc (Nat.le_refl _) (Below.refl _ w))
 have hw:=as_walk p e o1 o2 tb w.heap.size (.iface 99 (.pointer (some ⟨tb,0,none⟩))) ((w.alloc (.cells #[.pointer (some ⟨tb,0,none⟩)] 99)).alloc (.cells #[.pointer (some ⟨12,99,none⟩),.pointer (some ⟨w.heap.size,0,none⟩),.int .u64 150] 124)) rest ty (0,0)
  (by show ((w.heap.push _).push _)[w.heap.size]?=_; rw [Array.getElem?_push,if_neg (by simp),Array.getElem?_push,if_pos rfl])
  (by show ((w.heap.push _).push _)[tb]?=_; rw [Array.getElem?_push,if_neg (by simp; omega),Array.getElem?_push,if_neg (by omega)]; exact ht)
 clear ht hg
 go_enter Tryz.func42,Tryz.ntmps42
 go_wp2_with (first | (refine hw.mono ?_; rintro r w' ⟨rfl,W2,hB,rfl⟩))
 go_ret
 exact ⟨rfl,_,B2.trans (hB.mono (by show _≤((w.heap.push _).push _).size; simp; omega)),rfl⟩
end Go.Proofs.YtoijcpnfohjciaaGreatDoor

/- An executor for closed calls, 33c: a closure that catches: what panicked is laid into two slots, then its code runs. -/
namespace Go.Proofs.YtoijcpnfohjciaaGreatDoor.X
open Go.RowKit
section
variable {P:Program} {w0:World}
theorem wpS_of_wpN {c:Code} {Q:Exit→Act→List Frame→World→Prop} {a:Act} {cs:List Frame} {w:World} (h:WpN P none c (fun e a' w'=>Q e a' cs w') a w):c.wpS P Q a cs w:=fun b k hk hb=>by
 obtain ⟨e,a',w',q,harr⟩:=h b k cs (by rw [hk]; rfl) hb
 rw [Frame.atR_of_none hb] at harr
 refine ⟨e,a',cs,w',q,?_⟩
 cases e with
 | normal=>have h1:=StepsIn.steps harr; rw [Frame.atR_of_none hb] at h1; exact h1
 | exit id=>intro k' hk'; have h1:=StepsIn.steps (harr.1 k' hk'); rw [Frame.atR_of_none hb] at h1; exact h1
 | goto l=>intro k' hk'; have h1:=StepsIn.steps (harr.1 k' hk'); rw [Frame.atR_of_none hb] at h1; exact h1
 | ret=>obtain ⟨todo,h1⟩:=harr.1 hb; rw [Frame.atR_of_none hb] at h1; exact ⟨todo,StepsIn.steps h1⟩
 | panic pc=>obtain ⟨todo,h1⟩:=harr; rw [Frame.atR_of_none hb] at h1; exact ⟨todo,StepsIn.steps h1⟩
 | outgrown=>exact harr
def LeavesC (P:Program) (fn:Func) (tmps:Array Value) (u:FrameMode) (R:Ending→FrameMode→World→Prop):List Deferred→World→Prop
 | [],w=>∃ v,(results fn tmps).run P w=.ok v w∧R (.returned v) u w
 | d :: ds,w=>∃ r w',d.target=.collected r∧(Instr.takeDeferred r).run P w=.ok [] w'∧LeavesC P fn tmps u R ds w'
theorem leavesC_steps {fn:Func} {tmps:Array Value} {u:FrameMode} {R:Ending→FrameMode→World→Prop}:∀ (ds:List Deferred) (w:World) (fr:Frame) (cs:List Frame),fr.mode=.returning→fr.defers=ds→fr.tmps=tmps→P.funcs[fr.fn]?=some fn→LeavesC P fn tmps u R ds w →
  ∃ v w' fr',R (.returned v) u w'∧Steps P (lone fr cs w) (lone fr' cs w')∧fr'.kind=fr.kind∧fr'.going P w' (.returned v):=by
 intro ds
 induction ds with
 | nil =>
  intro w fr cs hu hd ht hf h
  obtain ⟨v,hr,hR⟩:=h
  exact ⟨v,w,fr,hR,Steps.refl P _,rfl,hu,hd,fn,hf,ht ▸ hr⟩
 | cons d ds ih =>
  intro w fr cs hu hd ht hf h
  obtain ⟨r,w',htar,htake,hrest⟩:=h
  have h1:=step_collected (cs:=cs) (by rw [hu]; simp) hd htar htake
  obtain ⟨v,w'',fr',hR',hs',hk',hl'⟩:=ih w' { fr with defers:=[] ++ ds } cs hu rfl ht hf hrest
  exact ⟨v,w'',fr',hR',Steps.trans (.one h1) hs',hk',hl'⟩
def bodyPostC (P:Program) (fn:Func) (c₀:Frame) (cs:List Frame) (R:Ending→FrameMode→World→Prop):Exit→Act→List Frame→World→Prop
 | .normal,a,cs',w | .ret,a,cs',w=>∃ u,cs'={ c₀ with mode:=u } :: cs∧LeavesC P fn a.tmps u R a.defers w
 | _,_,_,_=>False
theorem callsD_of_wpC {f:FuncId} {fn:Func} {c:Code} {args:Array Value} {u:FrameMode} {w:World} {R:Ending→FrameMode→World→Prop} (hf:P.funcs[f]?=some fn) (hb:fn.body=some c)
  (h:∀ (c₀:Frame) (cs:List Frame),c₀.mode=u→c.wpS P (bodyPostC P fn c₀ cs R) { tmps:=args ++ Array.replicate (fn.ntmps - args.size) undef,defers:=[] } (c₀ :: cs) w):CallsD P f args u w R:=by
 intro c₀ cs hu
 let b:Frame:={ (default:Frame) with fn:=f,kind:=.deferred }
 have henter:Frame.enter P f args .deferred=b.at { tmps:=args ++ Array.replicate (fn.ntmps - args.size) undef,defers:=[] } [.code c]:=by
  simp [Frame.enter,Frame.at,hf,hb,b]
 obtain ⟨e,a',cs',w',hq,harr⟩:=h c₀ cs hu b [] rfl rfl
 rw [← henter] at harr
 cases e with
 | normal =>
  obtain ⟨u',rfl,hl⟩:=hq
  obtain ⟨v,w'',fr',hR,hs,hk,hg⟩:=leavesC_steps a'.defers w' { b.at a' [] with mode:=.returning } ({ c₀ with mode:=u' } :: cs) rfl rfl rfl hf hl
  exact ⟨.returned v,u',w'',fr',hR,Steps.trans harr (Steps.trans (.one step_end) hs),hk,hg⟩
 | ret =>
  obtain ⟨u',rfl,hl⟩:=hq
  obtain ⟨todo,hs₀⟩:=harr
  obtain ⟨v,w'',fr',hR,hs,hk,hg⟩:=leavesC_steps a'.defers w' { b.at a' todo with mode:=.returning } ({ c₀ with mode:=u' } :: cs) rfl rfl rfl hf hl
  exact ⟨.returned v,u',w'',fr',hR,Steps.trans hs₀ hs,hk,hg⟩
 | _=>exact hq.elim
theorem leavesC_marks {r:Rho} {h:T AO} {nx:Pt} {fn:Func} {tmps:Array Value} {u:FrameMode} {R:Ending→FrameMode→World→Prop} {B:Nat} (h0:w0.heap.size≤B):∀ (ds:List Deferred) (w:World) {re:Rho} {he:T AO} {we:World},
  Marks B r h w ds→WR P w0 r h nx w→Ev re he we r h w→we.heap.size≤B→(∀ w',WR P w0 r h nx w'→Ev re he we r h w'→LeavesC P fn tmps u R [] w')→LeavesC P fn tmps u R ds w
 | [],w,_,_,_,_,H,e,_,hR=>hR w H e
 | d :: ds,w,re,he,we,hm,H,e,hB,hR=>by
  obtain ⟨⟨b,rfl,h2,h3,h4,h5⟩,g⟩:=hm
  refine ⟨b,_,rfl,run_takeDeferred h3,?_⟩
  refine leavesC_marks h0 ds _ ?_ (H.other (Nat.le_trans h0 h2) h4 _) (e.other (Nat.le_trans hB h2) _) hB hR
  clear hR e H h3
  induction ds with
  | nil=>trivial
  | cons d' ds ih =>
   obtain ⟨⟨b',rfl,k2,k3,k4,k5⟩,g⟩:=g
   refine ⟨⟨b',rfl,k2,?_,k4,k5⟩,ih g (fun d hd=>h5 d (List.mem_cons_of_mem _ hd))⟩
   have hne:b'≠b:=fun e=>h5 _ (List.mem_cons_self ..) (by rw [e])
   exact (World.putObj_heap_other hne).trans k3
def catchK (K:T AO→Pt→Prop) (e:AE) (_:S) (h:T AO) (nx:Pt):Prop :=
 match e with
 | .exit _=>False
 | _=>K h nx
def catchF (p1 p2:Sl) (d:D):Catch:=fun ch u vs h nx K=>argsK vs slTab .l fun tm=>tm.setK u p1 fun tm=>tm.setK u p2 fun tm=>d ch.calm tm h nx (catchK K)
theorem catch_ok {f2:Nat} {fn2:Func} {c2:Code} {id:Nat} {ops:Array Oper} {p1 p2:Sl} {ac:AC} (hm:P.follows .mixedOrders=true)
  (hf2:P.funcs[f2]?=some fn2) (hbody2:fn2.body=some (.seq (.region id ops false) c2)) (h2:compC P fn2.ntmps c2=some ac) (hres:fn2.results=#[]) (hp1:p1.toNat<fn2.ntmps) (hp2:p2.toNat<fn2.ntmps)
  (hrec:∀ (a:Act) (c₀:Frame) (cs:List Frame) (w:World) (v:Value) (Q:Exit→Act→List Frame→World→Prop),c₀.mode=.panicking [{ v:=v,recovered:=false }]→p1.toNat<a.tmps.size→p2.toNat<a.tmps.size →
   Q .normal ((a.put (some p1.toNat) v).put (some p2.toNat) v) ({ c₀ with mode:=.panicking [{ v:=v,recovered:=true }] } :: cs) w→wpOpsS P ops Q (List.range ops.size) a (c₀ :: cs) w) :
  CatchOk P f2 (catchF p1 p2 (den ac)):=by
 intro w0 ch hcur hch u vs h nx K r w hk hE H hu hvs
 obtain ⟨tm,hk,htm⟩:=argsK_spec hk
 rw [S.setK_iff,S.setK_iff] at hk
 have hsz:fn2.ntmps≤((concL r vs).toArray ++ Array.replicate (fn2.ntmps - (concL r vs).toArray.size) undef).size:=by simp [concL_length]; omega
 have htr:TR r tm ((concL r vs).toArray ++ Array.replicate (fn2.ntmps - (concL r vs).toArray.size) undef):=fun q v hq=>by
  rcases htm q v hq with h1 | ⟨i,h1,h2⟩
  ·rw [S.find_l] at h1; cases h1
  ·have hi:i<vs.length:=(List.getElem?_eq_some_iff.1 h2).1
   have h1:q.toNat=i:=by rw [h1]; show 0+i=i; omega
   refine ⟨?_,hvs.get h2⟩
   rw [h1,Array.getElem?_append_left (by simp [concL_length]; exact hi)]
   rw [List.getElem?_toArray,concL_get,h2]; rfl
 refine callsD_of_wpC hf2 hbody2 fun c₀ cs hc₀=>wpS_seq (wpS_region (hrec _ c₀ cs w (conc r u) _ hc₀ (Nat.lt_of_lt_of_le hp1 hsz) (Nat.lt_of_lt_of_le hp2 hsz) ?_))
 show Code.wpS _ _ _ _ _ _
 refine wpS_of_wpN ?_
 have htr1:=htr.put (Nat.lt_of_lt_of_le hp1 hsz) hu
 have htr2:=htr1.put (p:=p2) (by rw [Array.size_setIfInBounds]; exact Nat.lt_of_lt_of_le hp2 hsz) hu
 refine den_sound hm fn2.ntmps c2 ac h2 ⟨fn2.ntmps,w.heap.size,none,[]⟩ ch.calm rfl hch _ h nx (catchK K) _ w r _ hk ⟨H,htr2,?_,⟨[],rfl,trivial,fun e=>(e rfl).elim⟩,hE,by show CurOk none ch.cur r; rw [hcur]; exact rfl,Nat.le_refl _⟩ (fun e tm' h' nx' r' a' w' hK hs ev=>?_) (CHq.of hch).goodP
 ·simp only [Act.put,Array.size_setIfInBounds]; exact hsz
 ·have key:∀ e:Exit,(e=.normal∨e=.ret)→K h' nx'→bodyPostC P fn2 c₀ cs (fun e u' w'=>(∃ v,e=.returned v)∧settle u'=.returning∧∃ h' nx' r',K h' nx'∧WR P w0 r' h' nx' w'∧Ev r h w r' h' w') e a' ({ c₀ with mode:=.panicking [{ v:=conc r u,recovered:=true }] } :: cs) w':=fun e he hK=>by
   obtain ⟨ds,d1,d2,-⟩:=hs.defers
   have d1:a'.defers=ds:=by rw [d1]; simp
   have h1:LeavesC P fn2 a'.tmps (.panicking [{ v:=conc r u,recovered:=true }]) (fun e u' w'=>(∃ v,e=.returned v)∧settle u'=.returning∧∃ h' nx' r',K h' nx'∧WR P w0 r' h' nx' w'∧Ev r h w r' h' w') a'.defers w':=by
    rw [d1]
    refine leavesC_marks H.below.size ds w' d2 hs.wr ev (Nat.le_refl _) fun w'' H'' e''=>⟨.tuple #[],by simp [results,hres],⟨_,rfl⟩,rfl,h',nx',r',hK,H'',e''⟩
   rcases he with rfl | rfl
   ·exact ⟨_,rfl,h1⟩
   ·exact ⟨_,rfl,h1⟩
  cases e with
  | exit id=>exact hK.elim
  | nrm=>exact key _ (.inl rfl) hK
  | ret=>exact key _ (.inr rfl) hK
end
end Go.Proofs.YtoijcpnfohjciaaGreatDoor.X

/- An executor for closed calls, 45: errors.As told, where the target is package gram's refusal; what catches it; gram.answered told. -/
namespace Go.Proofs.YtoijcpnfohjciaaGreatDoor.X
open Go.RowKit
def asGF (x y:AV) (h:T AO) (nx:Pt) (K:AV→T AO→Pt→Prop):Prop:=match x,y with
 | .iface t (.agg [.int .i64 p,.int .i64 e]),.iface t' (.ptr k 0)=>Bool.rec (motive:=fun _=>Prop) False (h.getK k fun o=>match o with
   | .cells (.int .i64 _ :: .int .i64 _ :: rest) ty=>h.setK (.cells (.int .i64 p :: .int .i64 e :: rest) ty) k fun h=>K (.bool true) h nx
   | _=>False) (Nat.beq t 71&&Nat.beq t' 99)
 | _,_=>False
theorem asG_sem:FunSem Tryz.prog 42 (told2 asGF) :=
 told2_sem ⟨_,_,Tryz.func42,by kernel_rfl,rfl⟩ fun w0 w r h nx x y K R hG H hx hy hF hR=>by
  unfold asGF at hF
  split at hF
  ·rename_i t p e t' k
   obtain ⟨hb,hF⟩:=brec hF
   simp only [Bool.and_eq_true] at hb
   obtain rfl:=Nat.eq_of_beq_eq_true hb.1
   obtain rfl:=Nat.eq_of_beq_eq_true hb.2
   rw [T.getK_iff] at hF
   obtain ⟨o,ho,hF⟩:=hF
   split at hF
   ·rename_i o1 o2 rest ty
    rw [T.setK_iff] at hF
    obtain ⟨g1,g2,g3,rest',g4',g5⟩:=H.has k _ ho
    have g4:w.heap[r.blk k]?=some (.cells (.int .i64 o1 :: .int .i64 o2 :: (concL r rest ++ rest')).toArray ty (0,0)):=by rw [g4']; simp [concL,conc]
    have hcall:=as_any p e o1 o2 (r.blk k) w (concL r rest ++ rest') ty hG.et g4
    have ea:(#[conc r (.iface 71 (.agg [.int .i64 p,.int .i64 e])),conc r (.iface 99 (.ptr k 0))]:Array Value)=#[.iface 71 (.agg #[.int .i64 p,.int .i64 e]),.iface 99 (.pointer (some ⟨r.blk k,0,none⟩))]:=by
     simp [concL,conc]
    rw [ea]
    refine hcall.mono fun en w' hw'=>?_
    obtain ⟨rfl,W2,hB,rfl⟩:=hw'
    have hlt:=H.lt ho
    have hsz:(asPut W2 (r.blk k) p e (concL r rest ++ rest') ty).heap.size=W2.heap.size:=by simp [asPut]
    have hother:∀ b,b<w.heap.size→b≠r.blk k→(asPut W2 (r.blk k) p e (concL r rest ++ rest') ty).heap[b]?=w.heap[b]?:=fun b hb hne=>by
     show (W2.heap.setIfInBounds _ _)[b]?=_
     rw [Array.getElem?_setIfInBounds_ne (fun e=>hne e.symm)]
     exact hB.block b hb
    have hself:(asPut W2 (r.blk k) p e (concL r rest ++ rest') ty).heap[r.blk k]?=some (.cells (.int .i64 p :: .int .i64 e :: (concL r rest ++ rest')).toArray ty (0,0)):=by
     show (W2.heap.setIfInBounds _ _)[r.blk k]?=_
     exact Array.getElem?_setIfInBounds_self_of_lt (Nat.lt_of_lt_of_le hlt hB.size)
    have hBel:Below w0.heap.size w0 (asPut W2 (r.blk k) p e (concL r rest ++ rest') ty):=by
     refine ⟨hB.os.trans H.below.os,hB.tape.trans H.below.tape,hB.output.trans H.below.output,?_,fun b hb=>?_⟩
     ·rw [hsz]; exact Nat.le_trans H.below.size hB.size
     ·rw [hother b (Nat.lt_of_lt_of_le hb H.below.size) (by omega)]; exact H.below.block b hb
    have hok:okO r.has (.cells (.int .i64 p :: .int .i64 e :: rest) ty):=by
     have g3:okL r.has (.int .i64 o1 :: .int .i64 o2 :: rest):=g3
     show okL r.has (.int .i64 p :: .int .i64 e :: rest)
     simp only [okL,okV,true_and] at g3 ⊢
     exact g3
    have hWR:WR Tryz.prog w0 r (h.set (.cells (.int .i64 p :: .int .i64 e :: rest) ty) k) nx (asPut W2 (r.blk k) p e (concL r rest ++ rest') ty):=H.turn hBel fun k' o' hko=>by
     by_cases q:k'=k
     ·subst q
      rw [T.find_set] at hko; cases hko
      exact .inr ⟨⟨_,ho⟩,hok,rest',by rw [hself]; simp [concL,conc],g5⟩
     ·rw [T.find_set_ne _ _ _ _ q] at hko
      exact .inl ⟨hko,hother _ (H.lt hko) fun e=>q (H.apart k' k o' _ hko ho e)⟩
    have hEv:Ev r h w r (h.set (.cells (.int .i64 p :: .int .i64 e :: rest) ty) k) (asPut W2 (r.blk k) p e (concL r rest ++ rest') ty):=⟨.refl r,by rw [hsz]; exact hB.size,fun b hb hn=>hother b hb fun e=>hn k _ ho e.symm,fun k' o' hko=>by
     by_cases q:k'=k
     ·subst q; exact .inr ⟨k',_,ho,rfl⟩
     ·rw [T.find_set_ne _ _ _ _ q] at hko; exact .inr ⟨k',o',hko,rfl⟩⟩
    have:=hR (.bool true) _ nx r _ hF hWR hEv (by simp [okV])
    simpa [conc] using this
   ·exact hF.elim
  ·exact hF.elim
end Go.Proofs.YtoijcpnfohjciaaGreatDoor.X
