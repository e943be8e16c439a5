/- errors.As where the target is a struct (package kernel's refusal): of an error that is one, or that holds one within others. -/
import Derived.Test.YtpajcdofelmaaaaGreatDoorProg
import Derived.Test.YtpajcdofelmaaaaGreatDoorXC
import Derived.WalkKit
import Derived.LaidEql
import Derived.Stop.Asserts
import Derived.RowKitTokens
import Derived.LoopN
import Derived.Deep.LoopGhost
import Derived.Laws.Rows
import Derived.Laws.Tables
import Derived.Below
namespace Go.Proofs.YtpajcdofelmaaaaGreatDoor
open Go.RowKit Go.Extern.Stop Go.Stop Go.Extern
def hv:Value:=.iface 351 (.agg #[.pointer (some ⟨1,149,none⟩)])
def tv (a:Nat):Value:=.agg #[.pointer (some ⟨1,211,none⟩),.pointer (some ⟨a,0,none⟩),.int .u64 150]
def hT (t:Nat):Value:=.iface 351 (.agg #[.pointer (some ⟨1,t,none⟩)])
theorem as_valueOfP (t:Addr) (w:World):(ReflectliteValue.unpack (.iface 211 (.pointer (some t)))).run Tryz.prog w
  = .ok (.agg #[.pointer (some ⟨1,211,none⟩),.pointer (some ⟨w.heap.size,0,none⟩),.int .u64 150]) (w.alloc (.cells #[.pointer (some t)] 211)):=by kernel_rfl
theorem as_typeP (a:Addr) (w:World):(ReflectliteValue.methodAny (ReflectliteValue.valueError "reflectlite.Value.Type" 0) (fun t _ _ _=>ReflectliteType.toType t) #[.agg #[.pointer (some ⟨1,211,none⟩),.pointer (some a),.int .u64 150]]).run Tryz.prog w
  = .ok (.iface 351 (.agg #[.pointer (some ⟨1,211,none⟩)])) w:=by kernel_rfl
theorem as_mKind (h:Value) (w:World):(Go.method 661 351 (.agg #[h]) "Kind").run Tryz.prog w=.ok (417,h) w:=by kernel_rfl
theorem as_kindP (w:World):((ReflectliteType.abiMethod fun t=>(fun a:Nat=>Value.int IntKind.u8 (a:Int)) <$> Rtype.kind t) #[.pointer (some ⟨1,211,none⟩)]).run Tryz.prog w=.ok (.int .u8 22) w:=by kernel_rfl
theorem as_kindR (w:World):((ReflectliteType.abiMethod fun t=>(fun a:Nat=>Value.int IntKind.u8 (a:Int)) <$> Rtype.kind t) #[.pointer (some ⟨1,209,none⟩)]).run Tryz.prog w=.ok (.int .u8 25) w:=by kernel_rfl
theorem as_rlm (z:Sem Value) (f:TypeId→Addr→Nat→Nat→Sem Value) (v:Value) :
  ReflectliteValue.method z f #[v]=(do match ← ReflectliteValue.parts v with | none=>z | some (t,a,fl)=>f t a fl (fl % 32)):=rfl
theorem as_partsP (a:Addr) (w:World):(ReflectliteValue.parts (.agg #[.pointer (some ⟨1,211,none⟩),.pointer (some a),.int .u64 150])).run Tryz.prog w=.ok (some (211,a,150)) w:=by kernel_rfl
theorem as_isNil (a p:Addr) (W:World) (ha:W.cell? a=some (.pointer (some p))) :
  (ReflectliteValue.method (ReflectliteValue.valueError "reflectlite.Value.IsNil" 0) ReflectliteValue.isNil #[.agg #[.pointer (some ⟨1,211,none⟩),.pointer (some a),.int .u64 150]]).run Tryz.prog W=.ok (.bool false) W:=by
 rw [as_rlm]
 simp only [Sem.run_bind,as_partsP,Result.andThen]
 simp [ReflectliteValue.isNil,loadVar,isAgg,underlying,Tryz.underlying211,ha,Result.andThen]
theorem as_mElem (h:Value) (w:World):(Go.method 661 351 (.agg #[h]) "Elem").run Tryz.prog w=.ok (429,.agg #[h]) w:=by kernel_rfl
theorem as_mImpl (h:Value) (w:World):(Go.method 661 351 (.agg #[h]) "Implements").run Tryz.prog w=.ok (430,.agg #[h]) w:=by kernel_rfl
theorem as_mAssign (h:Value) (w:World):(Go.method 661 351 (.agg #[h]) "AssignableTo").run Tryz.prog w=.ok (427,.agg #[h]) w:=by kernel_rfl
theorem as_mUnwrap (h:Value) (w:World):(Go.method 661 304 h "Unwrap").run Tryz.prog w=.ok (425,h) w:=by kernel_rfl
theorem as_elemP (w:World):(ReflectliteType.method ReflectliteType.elem #[.agg #[.pointer (some ⟨1,211,none⟩)]]).run Tryz.prog w=.ok (.iface 351 (.agg #[.pointer (some ⟨1,209,none⟩)])) w:=by kernel_rfl
theorem as_implR (w:World):(ReflectliteType.relation "Implements" ReflectliteType.implements_ #[.agg #[.pointer (some ⟨1,209,none⟩)],.iface 351 (.agg #[.pointer (some ⟨1,149,none⟩)])]).run Tryz.prog w=.ok (.bool true) w:=by kernel_rfl
theorem as_typeOfR (v:Value) (w:World):(ReflectliteType.typeOf #[.iface 209 v]).run Tryz.prog w=.ok (.iface 351 (.agg #[.pointer (some ⟨1,209,none⟩)])) w:=by kernel_rfl
theorem as_typeOfW (v:Value) (w:World):(ReflectliteType.typeOf #[.iface 304 v]).run Tryz.prog w=.ok (.iface 351 (.agg #[.pointer (some ⟨1,304,none⟩)])) w:=by kernel_rfl
theorem as_assignR (w:World):(ReflectliteType.relation "AssignableTo" ReflectliteType.assignableTo #[.agg #[.pointer (some ⟨1,209,none⟩)],.iface 351 (.agg #[.pointer (some ⟨1,209,none⟩)])]).run Tryz.prog w=.ok (.bool true) w:=by kernel_rfl
theorem as_assignW (w:World):(ReflectliteType.relation "AssignableTo" ReflectliteType.assignableTo #[.agg #[.pointer (some ⟨1,304,none⟩)],.iface 351 (.agg #[.pointer (some ⟨1,209,none⟩)])]).run Tryz.prog w=.ok (.bool false) w:=by kernel_rfl
theorem as_valueOfR (e:Int) (w:World):(ReflectliteValue.unpack (.iface 209 (.agg #[.int .i64 e]))).run Tryz.prog w
  = .ok (.agg #[.pointer (some ⟨1,209,none⟩),.pointer (some ⟨w.heap.size,0,none⟩),.int .u64 153]) (w.alloc (.cells #[.int .i64 e] 209)):=by kernel_rfl
theorem as_elemOfP (w:World):(Rtype.elem? 211).run Tryz.prog w=.ok (some 209) w:=by kernel_rfl
theorem as_mkR (p:Addr) (w:World):(ReflectliteValue.mk 209 p ReflectliteValue.flagAddr).run Tryz.prog w=.ok (.agg #[.pointer (some ⟨1,209,none⟩),.pointer (some p),.int .u64 409]) w:=by kernel_rfl
theorem as_elemV (a p:Addr) (W:World) (ha:W.cell? a=some (.pointer (some p))) :
  (ReflectliteValue.method (ReflectliteValue.valueError "reflectlite.Value.Elem" 0) ReflectliteValue.elem #[.agg #[.pointer (some ⟨1,211,none⟩),.pointer (some a),.int .u64 150]]).run Tryz.prog W
   = .ok (.agg #[.pointer (some ⟨1,209,none⟩),.pointer (some p),.int .u64 409]) W:=by
 rw [as_rlm]
 simp only [Sem.run_bind,as_partsP,Result.andThen]
 simp [ReflectliteValue.elem,loadVar,isAgg,underlying,Tryz.underlying211,ha,Result.andThen,as_elemOfP,as_mkR]
theorem as_rls (v x:Value):ReflectliteValue.set #[v,x]=(do
  let (some (dst,a,fl),some (src,b,_)):=(← ReflectliteValue.parts v,← ReflectliteValue.parts x)
   | unsupported (.noEntry "extern/(internal/reflectlite.Value).Set.zeroValue")
  if fl / ReflectliteValue.flagAddr % 2 == 0 then unsupported (.noEntry "extern/(internal/reflectlite.Value).Set.unaddressable")
  let val ← loadVar src b
  if ← Rtype.directlyAssignable dst src then storeVar dst a val
  else if ← Rtype.implements dst src then
   if (← Rtype.kind src) == 20 then
    match val with
    | .nilIface=>unsupported (.noEntry "extern/reflectlite: a nil value of one interface type handed on as a value of another")
    | _=>storeVar dst a val
   else storeVar dst a (.iface src val)
  else panicString ("reflectlite.Set: value of type " ++ (← Rtype.spelt src) ++ " is not assignable to type " ++ (← Rtype.spelt dst))
  pure (.tuple #[])):=rfl
theorem as_partsA (a:Addr) (w:World):(ReflectliteValue.parts (.agg #[.pointer (some ⟨1,209,none⟩),.pointer (some a),.int .u64 409])).run Tryz.prog w=.ok (some (209,a,409)) w:=by kernel_rfl
theorem as_partsR (a:Addr) (w:World):(ReflectliteValue.parts (.agg #[.pointer (some ⟨1,209,none⟩),.pointer (some a),.int .u64 153])).run Tryz.prog w=.ok (some (209,a,153)) w:=by kernel_rfl
theorem as_directR (w:World):(Rtype.directlyAssignable 209 209).run Tryz.prog w=.ok true w:=by kernel_rfl
theorem as_sizeR (w:World):(sizeOf 209).run Tryz.prog w=.ok 1 w:=by kernel_rfl
def asPut (W:World) (t:Nat) (e:Int) (rest:List Value) (ty:TypeId):World:={ W with heap:=W.heap.setIfInBounds t (.cells (.int .i64 e :: rest).toArray ty (0,0)) }
theorem as_store (t:Nat) (e old:Int) (rest:List Value) (ty:TypeId) (W:World) (ht:W.heap[t]?=some (.cells (.int .i64 old :: rest).toArray ty (0,0))) :
  (storeVar 209 ⟨t,0,none⟩ (.agg #[.int .i64 e])).run Tryz.prog W=.ok () (asPut W t e rest ty):=by
 have h:=@X.run_store Tryz.prog W t 0 _ ty ⟨fun _=>False,fun _=>False,fun _=>0,fun _=>0,fun _=>{ state:=.ready,pending:=none,fn:=0,tmps:=#[],params:=#[],assign:=.skip,body:=.skip,defers:=0 }⟩ (.int .i64 e) trivial ht (by simp)
 simp only [X.conc,List.set_cons_zero] at h
 unfold storeVar
 rw [X.run_ok_bind (as_sizeR W)]
 show Sem.run Tryz.prog (storeCells ⟨t,0,none⟩ [.int .i64 e]) W=_
 simp only [storeCells,X.add_none]
 rw [X.run_ok_bind h]
 rfl
theorem as_set (t b:Nat) (e old:Int) (rest:List Value) (z:Nat × Nat) (ty:TypeId) (W:World) (hb:W.heap[b]?=some (.cells #[.int .i64 e] 209 z)) (ht:W.heap[t]?=some (.cells (.int .i64 old :: rest).toArray ty (0,0))) :
  (ReflectliteValue.set #[.agg #[.pointer (some ⟨1,209,none⟩),.pointer (some ⟨t,0,none⟩),.int .u64 409],.agg #[.pointer (some ⟨1,209,none⟩),.pointer (some ⟨b,0,none⟩),.int .u64 153]]).run Tryz.prog W
   = .ok (.tuple #[]) (asPut W t e rest ty):=by
 rw [as_rls]
 simp only [Sem.run_bind,as_partsA,as_partsR,Result.andThen]
 have h1:=run_loadVar_row (P:=Tryz.prog) W b 209 209 #[.int .i64 e] z _ hb Tryz.underlying209 rfl (by kernel_rfl)
 have h2:=as_store t e old rest ty W ht
 simp [ReflectliteValue.flagAddr,h1,as_directR,h2]
def errV:List Int→Int→Value
 | [],e=>.iface 209 (.agg #[.int .i64 e])
 | f :: fs,e=>.iface 304 (.agg #[.int .i64 f,errV fs e])
theorem as_noAs (t:TypeId) (ht:(Tryz.prog.info? t).map (fun i=>(lacking #[("As",358)] i.methods).isEmpty)=some false) (v:Value) (xT:TypeId) (w:World):(Instr.typeAssert (.iface t v) xT 356 true).run Tryz.prog w=.ok (.tuple #[.nilIface,.bool false]) w :=
 run_typeAssert_lacksB Tryz.underlying356 ht (by kernel_rfl) v xT w
theorem as_noAsW (v:Value) (xT:TypeId) (w:World):(Instr.typeAssert (.iface 304 v) xT 356 true).run Tryz.prog w=.ok (.tuple #[.nilIface,.bool false]) w:=as_noAs _ (by kernel_rfl) v xT w
theorem as_hasUnwrap (v:Value) (xT:TypeId) (w:World):(Instr.typeAssert (.iface 304 v) xT 359 true).run Tryz.prog w=.ok (.tuple #[.iface 304 v,.bool true]) w :=
 run_typeAssert_hasB Tryz.underlying359 (by kernel_rfl) v xT w
theorem errV_iface (fs:List Int) (e:Int):∃ t v,errV fs e=.iface t v:=by
 cases fs with
 | nil=>exact ⟨_,_,rfl⟩
 | cons f fs=>exact ⟨_,_,rfl⟩
theorem unwrap_any (f:Int) (t:TypeId) (v:Value) (w:World):Calls Tryz.prog 425 #[.agg #[.int .i64 f,.iface t v]] w fun r w'=>r=.returned (.iface t v)∧w'=w.alloc (.cells #[.int .i64 f,.iface t v] 304):=by
 go_enter Tryz.func425,Tryz.ntmps425
 go_wp2
 go_ret
 exact ⟨rfl,rfl⟩
end Go.Proofs.YtpajcdofelmaaaaGreatDoor
