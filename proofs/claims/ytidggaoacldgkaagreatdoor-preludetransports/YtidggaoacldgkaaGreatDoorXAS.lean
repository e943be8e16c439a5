/- errors.As where the target is a struct (package kernel's refusal): of an error that is one, or that holds one within others. -/
import Derived.Test.YtidggaoacldgkaaGreatDoorProg
import Derived.Test.YtidggaoacldgkaaGreatDoorXC
import Derived.WalkKit
import Derived.LaidEql
import Derived.Stop.Asserts
import Derived.RowKitTokens
import Derived.LoopN
import Derived.Deep.LoopGhost
import Derived.Laws.Rows
import Derived.Laws.Tables
import Derived.Below
import Derived.Test.YtidggaoacldgkaaGreatDoorXRA
namespace Go.Proofs.YtidggaoacldgkaaGreatDoor
open Go.RowKit Go.Extern.Stop Go.Stop Go.Extern
def hv:Value:=.iface 280 (.agg #[.pointer (some ⟨1,91,none⟩)])
def tv (a:Nat):Value:=.agg #[.pointer (some ⟨1,174,none⟩),.pointer (some ⟨a,0,none⟩),.int .u64 150]
def hT (t:Nat):Value:=.iface 280 (.agg #[.pointer (some ⟨1,t,none⟩)])
theorem as_valueOfP (t:Addr) (w:World):(ReflectliteValue.unpack (.iface 174 (.pointer (some t)))).run Tryz.prog w
  = .ok (.agg #[.pointer (some ⟨1,174,none⟩),.pointer (some ⟨w.heap.size,0,none⟩),.int .u64 150]) (w.alloc (.cells #[.pointer (some t)] 174)):=by kernel_rfl
theorem as_typeP (a:Addr) (w:World):(ReflectliteValue.methodAny (ReflectliteValue.valueError "reflectlite.Value.Type" 0) (fun t _ _ _=>ReflectliteType.toType t) #[.agg #[.pointer (some ⟨1,174,none⟩),.pointer (some a),.int .u64 150]]).run Tryz.prog w
  = .ok (.iface 280 (.agg #[.pointer (some ⟨1,174,none⟩)])) w:=by kernel_rfl
theorem as_mKind (h:Value) (w:World):(Go.method 671 280 (.agg #[h]) "Kind").run Tryz.prog w=.ok (436,h) w:=by kernel_rfl
theorem as_kindP (w:World):((ReflectliteType.abiMethod fun t=>(fun a:Nat=>Value.int IntKind.u8 (a:Int)) <$> Rtype.kind t) #[.pointer (some ⟨1,174,none⟩)]).run Tryz.prog w=.ok (.int .u8 22) w:=by kernel_rfl
theorem as_kindR (w:World):((ReflectliteType.abiMethod fun t=>(fun a:Nat=>Value.int IntKind.u8 (a:Int)) <$> Rtype.kind t) #[.pointer (some ⟨1,172,none⟩)]).run Tryz.prog w=.ok (.int .u8 25) w:=by kernel_rfl
theorem as_rlm (z:Sem Value) (f:TypeId→Addr→Nat→Nat→Sem Value) (v:Value) :
  ReflectliteValue.method z f #[v]=(do match ← ReflectliteValue.parts v with | none=>z | some (t,a,fl)=>f t a fl (fl % 32)):=rfl
theorem as_partsP (a:Addr) (w:World):(ReflectliteValue.parts (.agg #[.pointer (some ⟨1,174,none⟩),.pointer (some a),.int .u64 150])).run Tryz.prog w=.ok (some (174,a,150)) w:=by kernel_rfl
theorem as_isNil (a p:Addr) (W:World) (ha:W.cell? a=some (.pointer (some p))) :
  (ReflectliteValue.method (ReflectliteValue.valueError "reflectlite.Value.IsNil" 0) ReflectliteValue.isNil #[.agg #[.pointer (some ⟨1,174,none⟩),.pointer (some a),.int .u64 150]]).run Tryz.prog W=.ok (.bool false) W:=by
 rw [as_rlm]
 simp only [Sem.run_bind,as_partsP,Result.andThen]
 simp [ReflectliteValue.isNil,loadVar,isAgg,underlying,Tryz.underlying174,ha,Result.andThen]
theorem as_mElem (h:Value) (w:World):(Go.method 671 280 (.agg #[h]) "Elem").run Tryz.prog w=.ok (450,.agg #[h]) w:=by kernel_rfl
theorem as_mImpl (h:Value) (w:World):(Go.method 671 280 (.agg #[h]) "Implements").run Tryz.prog w=.ok (451,.agg #[h]) w:=by kernel_rfl
theorem as_mAssign (h:Value) (w:World):(Go.method 671 280 (.agg #[h]) "AssignableTo").run Tryz.prog w=.ok (448,.agg #[h]) w:=by kernel_rfl
theorem as_mUnwrap (h:Value) (w:World):(Go.method 671 170 h "Unwrap").run Tryz.prog w=.ok (442,h) w:=by kernel_rfl
theorem as_elemP (w:World):(ReflectliteType.method ReflectliteType.elem #[.agg #[.pointer (some ⟨1,174,none⟩)]]).run Tryz.prog w=.ok (.iface 280 (.agg #[.pointer (some ⟨1,172,none⟩)])) w:=by kernel_rfl
theorem as_implR (w:World):(ReflectliteType.relation "Implements" ReflectliteType.implements_ #[.agg #[.pointer (some ⟨1,172,none⟩)],.iface 280 (.agg #[.pointer (some ⟨1,91,none⟩)])]).run Tryz.prog w=.ok (.bool true) w:=by kernel_rfl
theorem as_typeOfR (v:Value) (w:World):(ReflectliteType.typeOf #[.iface 172 v]).run Tryz.prog w=.ok (.iface 280 (.agg #[.pointer (some ⟨1,172,none⟩)])) w:=by kernel_rfl
theorem as_typeOfW (v:Value) (w:World):(ReflectliteType.typeOf #[.iface 170 v]).run Tryz.prog w=.ok (.iface 280 (.agg #[.pointer (some ⟨1,170,none⟩)])) w:=by kernel_rfl
theorem as_assignR (w:World):(ReflectliteType.relation "AssignableTo" ReflectliteType.assignableTo #[.agg #[.pointer (some ⟨1,172,none⟩)],.iface 280 (.agg #[.pointer (some ⟨1,172,none⟩)])]).run Tryz.prog w=.ok (.bool true) w:=by kernel_rfl
theorem as_assignW (w:World):(ReflectliteType.relation "AssignableTo" ReflectliteType.assignableTo #[.agg #[.pointer (some ⟨1,170,none⟩)],.iface 280 (.agg #[.pointer (some ⟨1,172,none⟩)])]).run Tryz.prog w=.ok (.bool false) w:=by kernel_rfl
theorem as_valueOfR (e:Int) (w:World):(ReflectliteValue.unpack (.iface 172 (.agg #[.int .i64 e]))).run Tryz.prog w
  = .ok (.agg #[.pointer (some ⟨1,172,none⟩),.pointer (some ⟨w.heap.size,0,none⟩),.int .u64 153]) (w.alloc (.cells #[.int .i64 e] 172)):=by kernel_rfl
theorem as_elemOfP (w:World):(Rtype.elem? 174).run Tryz.prog w=.ok (some 172) w:=by kernel_rfl
theorem as_mkR (p:Addr) (w:World):(ReflectliteValue.mk 172 p ReflectliteValue.flagAddr).run Tryz.prog w=.ok (.agg #[.pointer (some ⟨1,172,none⟩),.pointer (some p),.int .u64 409]) w:=by kernel_rfl
theorem as_elemV (a p:Addr) (W:World) (ha:W.cell? a=some (.pointer (some p))) :
  (ReflectliteValue.method (ReflectliteValue.valueError "reflectlite.Value.Elem" 0) ReflectliteValue.elem #[.agg #[.pointer (some ⟨1,174,none⟩),.pointer (some a),.int .u64 150]]).run Tryz.prog W
   = .ok (.agg #[.pointer (some ⟨1,172,none⟩),.pointer (some p),.int .u64 409]) W:=by
 rw [as_rlm]
 simp only [Sem.run_bind,as_partsP,Result.andThen]
 simp [ReflectliteValue.elem,loadVar,isAgg,underlying,Tryz.underlying174,ha,Result.andThen,as_elemOfP,as_mkR]
theorem as_rls (v x:Value):ReflectliteValue.set #[v,x]=(do
  let (some (dst,a,fl),some (src,b,_)):=(← ReflectliteValue.parts v,← ReflectliteValue.parts x)
   | unsupported (.noEntry "extern/(internal/reflectlite.Value).Set.zeroValue")
  if fl / ReflectliteValue.flagAddr % 2 == 0 then unsupported (.noEntry "extern/(internal/reflectlite.Value).Set.unaddressable")
  let val ← loadVar src b
  if ← Rtype.directlyAssignable dst src then storeVar dst a val
  else if ← Rtype.implements dst src then
   if (← Rtype.kind src) == 20 then
    match val with
    | .nilIface=>unsupported (.noEntry "extern/reflectlite: a nil value of one interface type handed on as a value of another")
    | _=>storeVar dst a val
   else storeVar dst a (.iface src val)
  else panicString ("reflectlite.Set: value of type " ++ (← Rtype.spelt src) ++ " is not assignable to type " ++ (← Rtype.spelt dst))
  pure (.tuple #[])):=rfl
theorem as_partsA (a:Addr) (w:World):(ReflectliteValue.parts (.agg #[.pointer (some ⟨1,172,none⟩),.pointer (some a),.int .u64 409])).run Tryz.prog w=.ok (some (172,a,409)) w:=by kernel_rfl
theorem as_partsR (a:Addr) (w:World):(ReflectliteValue.parts (.agg #[.pointer (some ⟨1,172,none⟩),.pointer (some a),.int .u64 153])).run Tryz.prog w=.ok (some (172,a,153)) w:=by kernel_rfl
theorem as_directR (w:World):(Rtype.directlyAssignable 172 172).run Tryz.prog w=.ok true w:=by kernel_rfl
theorem as_sizeR (w:World):(sizeOf 172).run Tryz.prog w=.ok 1 w:=by kernel_rfl
def asPut (W:World) (t:Nat) (e:Int) (rest:List Value) (ty:TypeId):World:={ W with heap:=W.heap.setIfInBounds t (.cells (.int .i64 e :: rest).toArray ty (0,0)) }
theorem as_store (t:Nat) (e old:Int) (rest:List Value) (ty:TypeId) (W:World) (ht:W.heap[t]?=some (.cells (.int .i64 old :: rest).toArray ty (0,0))) :
  (storeVar 172 ⟨t,0,none⟩ (.agg #[.int .i64 e])).run Tryz.prog W=.ok () (asPut W t e rest ty):=by
 have h:=@X.run_store Tryz.prog W t 0 _ ty ⟨fun _=>False,fun _=>False,fun _=>0,fun _=>0,fun _=>{ state:=.ready,pending:=none,fn:=0,tmps:=#[],params:=#[],assign:=.skip,body:=.skip,defers:=0 }⟩ (.int .i64 e) trivial ht (by simp)
 simp only [X.conc,List.set_cons_zero] at h
 unfold storeVar
 rw [X.run_ok_bind (as_sizeR W)]
 show Sem.run Tryz.prog (storeCells ⟨t,0,none⟩ [.int .i64 e]) W=_
 simp only [storeCells,X.add_none]
 rw [X.run_ok_bind h]
 rfl
theorem as_set (t b:Nat) (e old:Int) (rest:List Value) (z:Nat × Nat) (ty:TypeId) (W:World) (hb:W.heap[b]?=some (.cells #[.int .i64 e] 172 z)) (ht:W.heap[t]?=some (.cells (.int .i64 old :: rest).toArray ty (0,0))) :
  (ReflectliteValue.set #[.agg #[.pointer (some ⟨1,172,none⟩),.pointer (some ⟨t,0,none⟩),.int .u64 409],.agg #[.pointer (some ⟨1,172,none⟩),.pointer (some ⟨b,0,none⟩),.int .u64 153]]).run Tryz.prog W
   = .ok (.tuple #[]) (asPut W t e rest ty):=by
 rw [as_rls]
 simp only [Sem.run_bind,as_partsA,as_partsR,Result.andThen]
 have h1:=run_loadVar_row (P:=Tryz.prog) W b 172 172 #[.int .i64 e] z _ hb Tryz.underlying172 rfl (by kernel_rfl)
 have h2:=as_store t e old rest ty W ht
 simp [ReflectliteValue.flagAddr,h1,as_directR,h2]
def errV:List Int→Int→Value
 | [],e=>.iface 172 (.agg #[.int .i64 e])
 | f :: fs,e=>.iface 170 (.agg #[.int .i64 f,errV fs e])
theorem as_noAs (t:TypeId) (ht:(Tryz.prog.info? t).map (fun i=>(lacking #[("As",287)] i.methods).isEmpty)=some false) (v:Value) (xT:TypeId) (w:World):(Instr.typeAssert (.iface t v) xT 285 true).run Tryz.prog w=.ok (.tuple #[.nilIface,.bool false]) w :=
 run_typeAssert_lacksB Tryz.underlying285 ht (by kernel_rfl) v xT w
theorem as_noAsW (v:Value) (xT:TypeId) (w:World):(Instr.typeAssert (.iface 170 v) xT 285 true).run Tryz.prog w=.ok (.tuple #[.nilIface,.bool false]) w:=as_noAs _ (by kernel_rfl) v xT w
theorem as_hasUnwrap (v:Value) (xT:TypeId) (w:World):(Instr.typeAssert (.iface 170 v) xT 288 true).run Tryz.prog w=.ok (.tuple #[.iface 170 v,.bool true]) w :=
 run_typeAssert_hasB Tryz.underlying288 (by kernel_rfl) v xT w
theorem errV_iface (fs:List Int) (e:Int):∃ t v,errV fs e=.iface t v:=by
 cases fs with
 | nil=>exact ⟨_,_,rfl⟩
 | cons f fs=>exact ⟨_,_,rfl⟩
theorem unwrap_any (f:Int) (t:TypeId) (v:Value) (w:World):Calls Tryz.prog 442 #[.agg #[.int .i64 f,.iface t v]] w fun r w'=>r=.returned (.iface t v)∧w'=w.alloc (.cells #[.int .i64 f,.iface t v] 170):=by
 go_enter Tryz.func442,Tryz.ntmps442
 go_wp2
 go_ret
 exact ⟨rfl,rfl⟩
end Go.Proofs.YtidggaoacldgkaaGreatDoor

/- errors.As where the target is a struct: the walks. -/
namespace Go.Proofs.YtidggaoacldgkaaGreatDoor
open Go.RowKit Go.Extern.Stop Go.Stop Go.Extern
theorem below_alloc {B:Nat} {w0 w:World} {o:Obj} (hB:B≤w0.heap.size) (h:Below B w0 w):Below B w0 (w.alloc o) :=
 ⟨h.os,h.tape,h.output,by show _≤(w.heap.push o).size; rw [Array.size_push]; exact Nat.le_succ_of_le h.size,fun k hk=>by
  show (w.heap.push o)[k]?=_
  have:=h.size
  rw [Array.getElem?_push,if_neg (by omega)]; exact h.block k hk⟩
set_option maxHeartbeats 4000000 in
theorem as_walk (fs:List Int) (e old:Int) (tb a:Nat) (x:Value) (w:World) (rest:List Value) (ty:TypeId) (za:Nat × Nat) (ha:w.heap[a]?=some (.cells #[.pointer (some ⟨tb,0,none⟩)] 174 za)) (ht:w.heap[tb]?=some (.cells (.int .i64 old :: rest).toArray ty (0,0))) :
  Calls Tryz.prog 123 #[errV fs e,x,.agg #[.pointer (some ⟨1,174,none⟩),.pointer (some ⟨a,0,none⟩),.int .u64 150],.iface 280 (.agg #[.pointer (some ⟨1,172,none⟩)])] w
   fun r w'=>r=.returned (.bool true)∧∃ W2,Below w.heap.size w W2∧w'=asPut W2 tb e rest ty:=by
 have h118:=@run_callFunc_extern Tryz.prog 120 _ (fun args=>ReflectliteValue.unpack (args.getD 0 (.tuple #[]))) Tryz.func120 (by kernel_rfl) (by kernel_rfl) (by kernel_rfl) (by kernel_rfl)
 have h165:=@run_callFunc_extern Tryz.prog 162 _ ReflectliteType.typeOf Tryz.func162 (by kernel_rfl) (by kernel_rfl) (by kernel_rfl) (by kernel_rfl)
 have h447:=@run_callFunc_extern Tryz.prog 448 _ (ReflectliteType.relation "AssignableTo" ReflectliteType.assignableTo) Tryz.func448 (by kernel_rfl) (by kernel_rfl) (by kernel_rfl) (by kernel_rfl)
 have h166:=@run_callFunc_extern Tryz.prog 163 _ (ReflectliteValue.method (ReflectliteValue.valueError "reflectlite.Value.Elem" 0) ReflectliteValue.elem) Tryz.func163 (by kernel_rfl) (by kernel_rfl) (by kernel_rfl) (by kernel_rfl)
 have h167:=@run_callFunc_extern Tryz.prog 164 _ ReflectliteValue.set Tryz.func164 (by kernel_rfl) (by kernel_rfl) (by kernel_rfl) (by kernel_rfl)
 have tR:=as_typeOfR
 have tW:=as_typeOfW
 have mA:=as_mAssign
 have aR:=as_assignR
 have aW:=as_assignW
 have vR:=as_valueOfR
 have nW:=as_noAsW
 have uW:=as_hasUnwrap
 have mU:=as_mUnwrap
 go_enter Tryz.func123,Tryz.ntmps123
 go_wp2
 go_loopg [0] (fs.length+1) (fun k p wr=>∃ gs:List Int,k=gs.length+1∧p=errV gs e∧Below (w.heap.size+1) (w.alloc (.cells #[.pointer (some ⟨1,174,none⟩),.pointer (some ⟨a,0,none⟩),.int .u64 150] 223)) wr)
 case atStart=>exact ⟨fs,rfl,rfl,Below.refl _ _⟩
 case round =>
  obtain ⟨gs,rfl,rfl,hB⟩:=hrel
  have hb6:wr.heap[w.heap.size]?=some (.cells #[.pointer (some ⟨1,174,none⟩),.pointer (some ⟨a,0,none⟩),.int .u64 150] 223 (0,0)):=by
   rw [hB.block _ (by omega)]; show (w.heap.push _)[w.heap.size]?=_; simp
  have hla:a<w.heap.size:=by
   rcases Nat.lt_or_ge a w.heap.size with h | h
   ·exact h
   ·rw [Array.getElem?_eq_none h] at ha; cases ha
  have hlt:tb<w.heap.size:=by
   rcases Nat.lt_or_ge tb w.heap.size with h | h
   ·exact h
   ·rw [Array.getElem?_eq_none h] at ht; cases ht
  have ha':wr.heap[a]?=some (.cells #[.pointer (some ⟨tb,0,none⟩)] 174 za):=by
   rw [hB.block _ (by omega)]; show (w.heap.push _)[a]?=_; rw [Array.getElem?_push,if_neg (by omega)]; exact ha
  have ht':wr.heap[tb]?=some (.cells (.int .i64 old :: rest).toArray ty (0,0)):=by
   rw [hB.block _ (by omega)]; show (w.heap.push _)[tb]?=_; rw [Array.getElem?_push,if_neg (by omega)]; exact ht
  have hsz:w.heap.size+1≤wr.heap.size:=by have h1:(w.heap.push _).size≤wr.heap.size:=hB.size; rw [Array.size_push] at h1; exact h1
  have c0:wr.cell? ⟨w.heap.size,0,none⟩=some (.pointer (some ⟨1,174,none⟩)):=by simp [World.cell?,hb6]
  have c1:wr.cell? ⟨w.heap.size,1,none⟩=some (.pointer (some ⟨a,0,none⟩)):=by simp [World.cell?,hb6]
  have c2:wr.cell? ⟨w.heap.size,2,none⟩=some (.int .u64 150):=by simp [World.cell?,hb6]
  have el:=as_elemV ⟨a,0,none⟩ ⟨tb,0,none⟩ wr (by simp [World.cell?,ha'])
  have st:=as_set tb wr.heap.size e old rest (0,0) ty (wr.alloc (.cells #[.int .i64 e] 172)) (by show (wr.heap.push _)[wr.heap.size]?=_; simp) (by show (wr.heap.push _)[tb]?=_; rw [Array.getElem?_push]; rw [if_neg (by omega)]; exact ht')
  have B1:Below w.heap.size w wr:=(below_alloc (Nat.le_refl _) (Below.refl _ w)).trans (hB.mono (Nat.le_succ _))
  clear hb6 ha' ht' ha ht hla hlt
  cases gs with
  | nil =>
   simp only [errV]
   go_wp2
   go_ret
   exact ⟨rfl,_,below_alloc (Nat.le_refl _) B1,rfl⟩
  | cons f gs =>
   obtain ⟨t,v,hv⟩:=errV_iface gs e
   simp only [errV,hv]
   go_wp2_with (first | (refine (unwrap_any f t v _).mono ?_; rintro r w' ⟨rfl,rfl⟩))
   go_roundg (gs.length+1)
   case measure=>simp
   case rel=>exact ⟨gs,rfl,hv.symm,below_alloc (by show _≤(w.heap.push _).size; simp) hB⟩
set_option maxHeartbeats 4000000 in
theorem as_any (fs:List Int) (e old:Int) (tb:Nat) (w:World) (rest:List Value) (ty:TypeId) (hg:w.cell? ⟨0,0,none⟩=some (.iface 280 (.agg #[.pointer (some ⟨1,91,none⟩)]))) (ht:w.heap[tb]?=some (.cells (.int .i64 old :: rest).toArray ty (0,0))) :
  Calls Tryz.prog 83 #[errV fs e,.iface 174 (.pointer (some ⟨tb,0,none⟩))] w
   fun r w'=>r=.returned (.bool true)∧∃ W2,Below w.heap.size w W2∧w'=asPut W2 tb e rest ty:=by
 have h118:=@run_callFunc_extern Tryz.prog 120 _ (fun args=>ReflectliteValue.unpack (args.getD 0 (.tuple #[]))) Tryz.func120 (by kernel_rfl) (by kernel_rfl) (by kernel_rfl) (by kernel_rfl)
 have h119:=@run_callFunc_extern Tryz.prog 121 _ (ReflectliteValue.methodAny (ReflectliteValue.valueError "reflectlite.Value.Type" 0) (fun t _ _ _=>ReflectliteType.toType t)) Tryz.func121 (by kernel_rfl) (by kernel_rfl) (by kernel_rfl) (by kernel_rfl)
 have h120:=@run_callFunc_extern Tryz.prog 122 _ (ReflectliteValue.method (ReflectliteValue.valueError "reflectlite.Value.IsNil" 0) ReflectliteValue.isNil) Tryz.func122 (by kernel_rfl) (by kernel_rfl) (by kernel_rfl) (by kernel_rfl)
 have h435:=@run_callFunc_extern Tryz.prog 436 _ (ReflectliteType.abiMethod fun t=>do pure (.int .u8 (← Rtype.kind t))) Tryz.func436 (by kernel_rfl) (by kernel_rfl) (by kernel_rfl) (by kernel_rfl)
 have h449:=@run_callFunc_extern Tryz.prog 450 _ (ReflectliteType.method ReflectliteType.elem) Tryz.func450 (by kernel_rfl) (by kernel_rfl) (by kernel_rfl) (by kernel_rfl)
 have h450:=@run_callFunc_extern Tryz.prog 451 _ (ReflectliteType.relation "Implements" ReflectliteType.implements_) Tryz.func451 (by kernel_rfl) (by kernel_rfl) (by kernel_rfl) (by kernel_rfl)
 have vP:=as_valueOfP
 have tP:=as_typeP
 have mK:=as_mKind
 have mE:=as_mElem
 have mI:=as_mImpl
 have kP:=as_kindP
 have kR:=as_kindR
 have eP:=as_elemP
 have iR:=as_implR
 obtain ⟨t,v,hv⟩:=errV_iface fs e
 have h0:0<w.heap.size:=by
  rcases Nat.eq_zero_or_pos w.heap.size with h0 | h
  ·simp [World.cell?,h0] at hg
  ·exact h
 have hlt:tb<w.heap.size:=by
  rcases Nat.lt_or_ge tb w.heap.size with h | h
  ·exact h
  ·rw [Array.getElem?_eq_none h] at ht; cases ht
 have hg2:((w.alloc (.cells #[.pointer (some ⟨tb,0,none⟩)] 174)).alloc (.cells #[.pointer (some ⟨1,174,none⟩),.pointer (some ⟨w.heap.size,0,none⟩),.int .u64 150] 223)).cell? ⟨0,0,none⟩=some (.iface 280 (.agg #[.pointer (some ⟨1,91,none⟩)])):=by
  rw [World.cell?_alloc_lt _ _ ⟨0,0,none⟩ (by simp),World.cell?_alloc_lt _ _ ⟨0,0,none⟩ h0]; exact hg
 have n8:=as_isNil ⟨w.heap.size,0,none⟩ ⟨tb,0,none⟩ ((w.alloc (.cells #[.pointer (some ⟨tb,0,none⟩)] 174)).alloc (.cells #[.pointer (some ⟨1,174,none⟩),.pointer (some ⟨w.heap.size,0,none⟩),.int .u64 150] 223)) (by rw [World.cell?_alloc_lt _ _ ⟨w.heap.size,0,none⟩ (by simp)]; simp)
 have B2:Below w.heap.size w ((w.alloc (.cells #[.pointer (some ⟨tb,0,none⟩)] 174)).alloc (.cells #[.pointer (some ⟨1,174,none⟩),.pointer (some ⟨w.heap.size,0,none⟩),.int .u64 150] 223)):=below_alloc (Nat.le_refl _) (below_alloc (Nat.le_refl _) (Below.refl _ w))
 have hw:=as_walk fs e old tb w.heap.size (.iface 174 (.pointer (some ⟨tb,0,none⟩))) ((w.alloc (.cells #[.pointer (some ⟨tb,0,none⟩)] 174)).alloc (.cells #[.pointer (some ⟨1,174,none⟩),.pointer (some ⟨w.heap.size,0,none⟩),.int .u64 150] 223)) rest ty (0,0)
  (by show ((w.heap.push _).push _)[w.heap.size]?=_; rw [Array.getElem?_push,if_neg (by simp),Array.getElem?_push,if_pos rfl])
  (by show ((w.heap.push _).push _)[tb]?=_; rw [Array.getElem?_push,if_neg (by simp; omega),Array.getElem?_push,if_neg (by omega)]; exact ht)
 rw [hv] at hw
 rw [hv]
 clear hv ht hg
 go_enter Tryz.func83,Tryz.ntmps83
 go_wp2_with (first | (refine hw.mono ?_; rintro r w' ⟨rfl,W2,hB,rfl⟩))
 go_ret
 exact ⟨rfl,_,B2.trans (hB.mono (by show _≤((w.heap.push _).push _).size; simp; omega)),rfl⟩
end Go.Proofs.YtidggaoacldgkaaGreatDoor

/- An executor for closed calls, 39: errors.As told, where the target is a struct of one integer. -/
namespace Go.Proofs.YtidggaoacldgkaaGreatDoor.X
open Go.RowKit
def errF:Nat→AV→Option (List Int × Int)
 | 0,_=>none
 | n+1,.iface t (.agg [.int .i64 f,u])=>bif Nat.beq t 170 then (match errF n u with
  | some (fs,e)=>some (f :: fs,e)
  | none=>none) else none
 | _+1,.iface t (.agg [.int .i64 e])=>bif Nat.beq t 172 then some ([],e) else none
 | _,_=>none
theorem errF_spec (r:Rho):∀ (n:Nat) (x:AV) (fs:List Int) (e:Int),errF n x=some (fs,e)→conc r x=errV fs e:=by
 intro n
 induction n with
 | zero=>intro x fs e h; simp [errF] at h
 | succ n ih =>
  intro x fs e h
  unfold errF at h
  split at h
  ·rename_i h0; exact (Nat.succ_ne_zero _ h0).elim
  ·rename_i n' t f u hn
   obtain rfl:n'=n:=Nat.succ.inj hn.symm
   cases hb:Nat.beq t 170 with
   | false=>rw [hb] at h; cases h
   | true =>
    rw [hb] at h
    obtain rfl:=Nat.eq_of_beq_eq_true hb
    simp only [cond_true] at h
    split at h
    ·rename_i fs' e' hu
     simp only [Option.some.injEq,Prod.mk.injEq] at h
     obtain ⟨rfl,rfl⟩:=h
     simp [conc,concL,errV,ih u fs' e' hu]
    ·cases h
  ·rename_i n' t e0 hn
   cases hb:Nat.beq t 172 with
   | false=>rw [hb] at h; cases h
   | true =>
    rw [hb] at h
    obtain rfl:=Nat.eq_of_beq_eq_true hb
    simp only [cond_true,Option.some.injEq,Prod.mk.injEq] at h
    obtain ⟨rfl,rfl⟩:=h
    simp [conc,concL,errV]
  ·cases h
def asAF:AF:=⟨fun _ tm h nx K=>match tm.find s2 with
 | none=>tm.getK s0 fun x=>tm.getK s1 fun y=>match y with
  | .iface t (.ptr k 0)=>Bool.rec (motive:=fun _=>Prop) False (match errF 100 x with
   | some (_,e)=>h.getK k fun o=>match o with
    | .cells (.int .i64 _ :: rest) ty=>h.setK (.cells (.int .i64 e :: rest) ty) k fun h=>tm.setK (.bool true) s0 fun tm=>K .ret tm h nx
    | _=>False
   | none=>False) (Nat.beq t 174)
  | _=>False
 | some _=>False,[.t s0]⟩
theorem as_sem:FunSem Tryz.prog 83 asAF:=by
 intro w0 ch hcur hch args h nx K r w R hk hE H ha hR _
 obtain ⟨tm,h1,h2,h3,h4⟩:=argsK_full hk
 refine ⟨⟨_,_,Tryz.func83,by kernel_rfl,rfl⟩,?_⟩
 have h1:(match tm.find s2 with
  | none=>tm.getK s0 fun x=>tm.getK s1 fun y=>match y with
   | .iface t (.ptr k 0)=>Bool.rec (motive:=fun _=>Prop) False (match errF 100 x with
    | some (_,e)=>h.getK k fun o=>match o with
     | .cells (.int .i64 _ :: rest) ty=>h.setK (.cells (.int .i64 e :: rest) ty) k fun h=>tm.setK (.bool true) s0 fun tm=>retK asAF.res K .ret tm h nx
     | _=>False
    | none=>False) (Nat.beq t 174)
   | _=>False
  | some _=>False):=h1
 split at h1
 ·rename_i hn
  rw [S.getK_iff] at h1
  obtain ⟨x,hx,h1⟩:=h1
  rw [S.getK_iff] at h1
  obtain ⟨y,hy,h1⟩:=h1
  have hargs:args=[x,y]:=by
   match args,h3,h4 with
   | [],_,h4=>have:=h4 s0 (Nat.zero_le _); rw [hx,S.find_l] at this; cases this
   | [a],_,h4=>have:=h4 s1 (Nat.le_refl _); rw [hy,S.find_l] at this; cases this
   | [a,b],h3,_ =>
    have h5:=h3 s0 0 a rfl rfl
    have h6:=h3 s1 1 b rfl rfl
    rw [hx] at h5; rw [hy] at h6; cases h5; cases h6; rfl
   | a :: b :: c :: l,h3,_=>have:=h3 s2 2 c rfl rfl; rw [hn] at this; cases this
  subst hargs
  split at h1
  ·rename_i t k
   obtain ⟨ht,h1⟩:=brec h1
   obtain rfl:=Nat.eq_of_beq_eq_true ht
   split at h1
   ·rename_i fs e he
    rw [T.getK_iff] at h1
    obtain ⟨o,ho,h1⟩:=h1
    split at h1
    ·rename_i old rest ty
     rw [T.setK_iff,S.setK_iff] at h1
     have h1:((tm.set (.bool true) s0).getK s0 fun v=>K v (h.set (.cells (.int .i64 e :: rest) ty) k) nx):=h1
     rw [S.getK_iff,S.find_set] at h1
     obtain ⟨v,hv,h1⟩:=h1
     cases hv
     obtain ⟨g1,g2,g3,rest',g4,g5⟩:=H.has k _ ho
     have g4':w.heap[r.blk k]?=some (.cells (.int .i64 old :: (concL r rest ++ rest')).toArray ty (0,0)):=by rw [g4]; simp [concL,conc]
     have hG:GW w:=hE.1.below H.below
     have hcall:=as_any fs e old (r.blk k) w (concL r rest ++ rest') ty hG g4'
     have ea:(concL r [x,.iface 174 (.ptr k 0)]).toArray=#[errV fs e,.iface 174 (.pointer (some ⟨r.blk k,0,none⟩))]:=by
      simp [concL,conc,errF_spec r _ _ _ _ he]
     rw [ea]
     refine hcall.mono fun en w' hw'=>?_
     obtain ⟨rfl,W2,hB,rfl⟩:=hw'
     have hlt:=H.lt ho
     have hsz:(asPut W2 (r.blk k) e (concL r rest ++ rest') ty).heap.size=W2.heap.size:=by simp [asPut]
     have hother:∀ b,b<w.heap.size→b≠r.blk k→(asPut W2 (r.blk k) e (concL r rest ++ rest') ty).heap[b]?=w.heap[b]?:=fun b hb hne=>by
      show (W2.heap.setIfInBounds _ _)[b]?=_
      rw [Array.getElem?_setIfInBounds_ne (fun e=>hne e.symm)]
      exact hB.block b hb
     have hself:(asPut W2 (r.blk k) e (concL r rest ++ rest') ty).heap[r.blk k]?=some (.cells (.int .i64 e :: (concL r rest ++ rest')).toArray ty (0,0)):=by
      show (W2.heap.setIfInBounds _ _)[r.blk k]?=_
      exact Array.getElem?_setIfInBounds_self_of_lt (Nat.lt_of_lt_of_le hlt hB.size)
     have hBel:Below w0.heap.size w0 (asPut W2 (r.blk k) e (concL r rest ++ rest') ty):=by
      refine ⟨hB.os.trans H.below.os,hB.tape.trans H.below.tape,hB.output.trans H.below.output,?_,fun b hb=>?_⟩
      ·rw [hsz]; exact Nat.le_trans H.below.size hB.size
      ·rw [hother b (Nat.lt_of_lt_of_le hb H.below.size) (by omega)]; exact H.below.block b hb
     have hok:okO r.has (.cells (.int .i64 e :: rest) ty):=by
      have g3:okL r.has (.int .i64 old :: rest):=g3
      show okL r.has (.int .i64 e :: rest)
      simp only [okL,okV,true_and] at g3 ⊢
      exact g3
     have hWR:WR Tryz.prog w0 r (h.set (.cells (.int .i64 e :: rest) ty) k) nx (asPut W2 (r.blk k) e (concL r rest ++ rest') ty):=H.turn hBel fun k' o' hko=>by
      by_cases q:k'=k
      ·subst q
       rw [T.find_set] at hko; cases hko
       exact .inr ⟨⟨_,ho⟩,hok,rest',by rw [hself]; simp [concL,conc],g5⟩
      ·rw [T.find_set_ne _ _ _ _ q] at hko
       exact .inl ⟨hko,hother _ (H.lt hko) fun e=>q (H.apart k' k o' _ hko ho e)⟩
     have hEv:Ev r h w r (h.set (.cells (.int .i64 e :: rest) ty) k) (asPut W2 (r.blk k) e (concL r rest ++ rest') ty):=⟨.refl r,by rw [hsz]; exact hB.size,fun b hb hn=>hother b hb fun e=>hn k _ ho e.symm,fun k' o' hko=>by
      by_cases q:k'=k
      ·subst q; exact .inr ⟨k',_,ho,rfl⟩
      ·rw [T.find_set_ne _ _ _ _ q] at hko; exact .inr ⟨k',o',hko,rfl⟩⟩
     have:=hR (.bool true) _ nx r _ h1 hWR hEv (by simp [okV])
     simpa [conc] using this
    ·exact h1.elim
   ·exact h1.elim
  ·exact h1.elim
 ·exact h1.elim
end Go.Proofs.YtidggaoacldgkaaGreatDoor.X
