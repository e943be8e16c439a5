/- An executor for closed calls, 5: an operation of the executor gives what the operation that it stands for gives (slots, blocks, parts). -/
import Derived.Test.YtidggaoacldgkaaGreatDoorXD
import Derived.Maps.Keyed
namespace Go.Proofs.YtidggaoacldgkaaGreatDoor.X
open Go.RowKit
section
variable {P:Program} {w:World}
theorem run_typeInfo {t:TypeId} {i:TypeInfo} (h:P.info? t=some i):(typeInfo t).run P w=.ok i w:=by
 show Sem.run P (Sem.program fun p=>_) w=_
 simp only [Sem.run,Sem.bind]
 rw [h]; rfl
theorem run_underlying {t:TypeId} {d:TypeDesc} (h:P.underlying t=some d):(underlying t).run P w=.ok d w:=by
 show Sem.run P (Sem.program fun p=>_) w=_
 simp only [Sem.run,Sem.bind]
 rw [h]; rfl
theorem run_sizeOf {t:TypeId} {i:TypeInfo} (h:P.info? t=some i):(sizeOf t).run P w=.ok i.size w:=by
 unfold sizeOf; rw [run_ok_bind (run_typeInfo h)]; rfl
theorem run_zeroValue {t:TypeId} {i:TypeInfo} {z:Value} (h:P.info? t=some i) (hz:i.zero=some z):(zeroValue t).run P w=.ok z w:=by
 unfold zeroValue; rw [run_ok_bind (run_typeInfo h),hz]; rfl
def aggD:TypeDesc→Bool
 | .struct _ | .array _ _=>true
 | _=>false
theorem run_isAgg {t:TypeId} {d:TypeDesc} (h:P.underlying t=some d):(isAgg t).run P w=.ok (aggD d) w:=by
 unfold isAgg; rw [run_ok_bind (run_underlying h)]
 cases d <;> rfl
end
def Cps (place:Nat→Option (Nat × Nat)):List (Nat × Operand)→List (Nat × Nat × AX)→Prop
 | [],[]=>True
 | p :: ps,q :: qs=>place p.1=some (q.1,q.2.1)∧Cx p.2 q.2.2∧Cps place ps qs
 | _,_=>False
def Cxo:Option Operand→Option AX→Prop
 | none,none=>True
 | some o,some x=>Cx o x
 | _,_=>False
def isConst:Operand→Prop
 | .const _=>True
 | _=>False
def EqT (P:Program) (x y:Operand):EK→TypeDesc→Prop
 | .b,.bool=>True
 | .p,.pointer e=>∃ j,P.info? e=some j∧j.size≠0
 | .s,.slice _=>True
 | .m,.map _ _=>True
 | .f,.func _ _ _=>True
 | .i,.interface _=>isConst x∨isConst y
 | _,_=>False
def NoInt (P:Program) (u:TypeId):Prop:=P.underlying u=some .string∨∃ e,P.underlying u=some (.slice e)
def EA (P:Program) (t:TypeId) (n:Nat):Prop:=∃ fs:Array Field,P.underlying t=some (.struct fs)∧P.stoodInHeld t=false∧P.eqGuardType P.depth t=false∧fs.toList.map (·.offset)=List.range n∧∀ f ∈ fs.toList,f.name≠"_"∧P.underlying f.type=some (.int .i64)
def SK (P:Program) (key:TypeId) (n:Nat):Prop:=Maps.Keyed P key∧∀ s:List Int,s.length=n→(∀ x ∈ s,inI x=true)→∃ l,keyOf P key (keyI s)=some l
inductive Co (P:Program):Op→AOp→Prop
 | mv {x:Operand} {x':AX}:Cx x x'→Co P (.move x) (.mv x')
 | asg {x:Operand} {x':AX}:Cx x x'→Co P (.assign x) (.mv x')
 | pick {c a b:Operand} {c' a' b':AX}:Cx c c'→Cx a a'→Cx b b'→Co P (.pick c a b) (.pick c' a' b')
 | new {e:TypeId} {i:TypeInfo} {z:Value} {v:AV}:P.info? e=some i→i.zero=some z→Lone v z→Co P (.alloc e) (.new (cellsA v) e)
 | box {e:TypeId} {x:Operand} {x':AX}:Cx x x'→Co P (.box e x) (.box e x')
 | build {t:TypeId} {i:TypeInfo} {z:Value} {v:AV} {fields:Array Field} {places:Array (Nat × Nat)} {ps:Array (Nat × Operand)} {qs:List (Nat × Nat × AX)} :
   P.info? t=some i→i.zero=some z→Lone v z→P.underlying t=some (.struct fields) →
   (∀ w,(fields.mapM (fun f=>do pure (f.offset,← sizeOf f.type)):Sem (Array (Nat × Nat))).run P w=.ok places w)→Cps (places[·]?) ps.toList qs→Co P (.build t ps) (.build (cellsA v) qs)
 | buildA {t:TypeId} {i:TypeInfo} {z:Value} {v:AV} {n:Nat} {elem:TypeId} {j:TypeInfo} {ps:Array (Nat × Operand)} {qs:List (Nat × Nat × AX)} :
   P.info? t=some i→i.zero=some z→Lone v z→P.underlying t=some (.array n elem)→P.info? elem=some j →
   Cps (fun i=>some (i*j.size,j.size)) ps.toList qs→Co P (.build t ps) (.build (cellsA v) qs)
 | buildS {t:TypeId} {n:Nat} {elem:TypeId} {j:TypeInfo} {z:Value} {v:AV} {zs:List AV} {ps:Array (Nat × Operand)} {qs:List (Nat × Nat × AX)} :
   P.underlying t=some (.slice elem)→P.info? elem=some j→j.zero=some z→n*j.size≤2 ^ 24→0<n*j.size→(∀ n,okL n zs) →
   (∀ r,(concL r zs).toArray=(Array.range (n*j.size)).map (z.cells[· % z.cells.size]!))→Lone v z →
   Cps (fun i=>some (i*j.size,j.size)) ps.toList qs→Co P (.buildSlice t n ps) (.buildS elem n zs qs)
 | buildE {t:TypeId} {elem:TypeId} {j:TypeInfo}:P.underlying t=some (.slice elem)→P.info? elem=some j→Co P (.buildSlice t 0 #[]) (.buildS elem 0 [] [])
 | ld1 {t:TypeId} {d:TypeDesc} {x:Operand} {x':AX}:P.underlying t=some d→aggD d=false→Cx x x'→Co P (.load t x) (.ld1 x')
 | ldN {t:TypeId} {d:TypeDesc} {i:TypeInfo} {x:Operand} {x':AX}:P.underlying t=some d→aggD d=true→P.info? t=some i→Cx x x'→Co P (.load t x) (.ldN i.size x')
 | st {t:TypeId} {i:TypeInfo} {a x:Operand} {a' x':AX}:P.info? t=some i→Cx a a'→Cx x x'→Co P (.store t a x) (.st i.size a' x')
 | nchk {x:Operand} {x':AX}:Cx x x'→Co P (.nilCheck x) (.nchk x')
 | fa {s:TypeId} {fields:Array Field} {i:Nat} {f:Field} {j:TypeInfo} {x:Operand} {x':AX}:P.underlying s=some (.struct fields)→fields[i]?=some f→P.info? f.type=some j→j.size≠0→Cx x x'→Co P (.fieldAddr s x i) (.fa f.offset x')
 | fld {s:TypeId} {fields:Array Field} {i:Nat} {f:Field} {d:TypeDesc} {j:TypeInfo} {x:Operand} {x':AX}:P.underlying s=some (.struct fields)→fields[i]?=some f→P.underlying f.type=some d→aggD d=true→P.info? f.type=some j→Cx x x'→Co P (.field s x i) (.fld j.size f.offset x')
 | fld1 {s:TypeId} {fields:Array Field} {i:Nat} {f:Field} {d:TypeDesc} {x:Operand} {x':AX}:P.underlying s=some (.struct fields)→fields[i]?=some f→P.underlying f.type=some d→aggD d=false→Cx x x'→Co P (.field s x i) (.fld1 f.offset x')
 | ia {t elem:TypeId} {j:TypeInfo} {x i:Operand} {x' i':AX}:P.underlying t=some (.slice elem)→P.info? elem=some j→Cx x x'→Cx i i'→Co P (.indexAddr t x i) (.ia j.size x' i')
 | iaA {t elem:TypeId} {len:Nat} {j:TypeInfo} {x i:Operand} {x' i':AX}:P.underlying t=some (.array len elem)→P.info? elem=some j→Cx x x'→Cx i i'→Co P (.indexAddr t x i) (.iaA len j.size x' i')
 | ext {x:Operand} {x':AX} {i:Nat}:Cx x x'→Co P (.extract x i) (.ext x' i)
 | mkf {f:FuncId} {a b:Array Operand} {a' b':List AX}:Cxs a.toList a'→Cxs b.toList b'→Co P (.makeFunc (.func f) a b) (.mkf f a' b')
 | mki {t:TypeId} {d:TypeDesc} {x:Operand} {x':AX}:P.underlying t=some d→(∀ m,d≠.interface m)→Cx x x'→Co P (.makeInterface t x) (.mki t x')
 | ar {op:BinOp} {t u:TypeId} {x y:Operand} {x' y':AX}:Cx x x'→Cx y y'→Co P (.binOp op t x y u) (.ar op x' y')
 | eq {op:BinOp} {ek:EK} {neg:Bool} {t u:TypeId} {d:TypeDesc} {x y:Operand} {x' y':AX}:(op=.eql∧neg=false∨op=.neq∧neg=true)→P.underlying t=some d→EqT P x y ek d→Cx x x'→Cx y y'→Co P (.binOp op t x y u) (.eq ek neg x' y')
 | un {op:UnOp} {t:TypeId} {x:Operand} {x':AX}:Cx x x'→Co P (.unOp op t x) (.un op x')
 | cvI {src dst:TypeId} {d:TypeDesc} {k:IntKind} {x:Operand} {x':AX}:P.underlying src=some d→P.underlying dst=some (.int k)→Cx x x'→Co P (.convert src dst x) (.cvI k x')
 | cvS {src dst:TypeId} {d:TypeDesc} {x:Operand} {x':AX}:P.underlying src=some d→P.underlying dst=some .string→Cx x x'→Co P (.convert src dst x) (.cvS x')
 | lenS {t:TypeId} {x:Operand} {x':AX}:P.underlying t=some .string→Cx x x'→Co P (.call ⟨.builtin .len,#[x],#[t]⟩) (.lenS x')
 | len {t e:TypeId} {x:Operand} {x':AX}:P.underlying t=some (.slice e)→Cx x x'→Co P (.call ⟨.builtin .len,#[x],#[t]⟩) (.len x')
 | lenM {t:TypeId} {k e:TypeId} {x:Operand} {x':AX}:P.underlying t=some (.map k e)→Cx x x'→Co P (.call ⟨.builtin .len,#[x],#[t]⟩) (.lenM x')
 | ix1 {t elem:TypeId} {l:Nat} {d:TypeDesc} {j:TypeInfo} {x i:Operand} {x' i':AX}:P.underlying t=some (.array l elem)→P.underlying elem=some d→aggD d=false→P.info? elem=some j→j.size=1→Cx x x'→Cx i i'→Co P (.index t x i) (.ix1 l x' i')
 | lk {t key elem:TypeId} {j:TypeInfo} {z:Value} {v:AV} {ok:Bool} {x k:Operand} {x' k':AX}:P.underlying t=some (.map key elem)→P.underlying key=some .string→P.info? elem=some j→j.zero=some z→Lone v z→Cx x x'→Cx k k'→Co P (.lookup t x k ok) (.lk v ok x' k')
 | up {t key elem:TypeId} {x k v:Operand} {x' k' v':AX}:P.underlying t=some (.map key elem)→P.underlying key=some .string→Cx x x'→Cx k k'→Cx v v'→Co P (.mapUpdate t x k v) (.up x' k' v')
 | ins {t key elem:TypeId} {x k v:Operand} {x' k' v':AX}:P.underlying t=some (.map key elem)→P.underlying key=some .string→Cx x x'→Cx k k'→Cx v v'→Co P (.insert t x k v) (.up x' k' v')
 | lkA {t key elem:TypeId} {n:Nat} {j:TypeInfo} {z:Value} {v:AV} {ok:Bool} {x k:Operand} {x' k':AX}:P.underlying t=some (.map key elem)→SK P key n→P.info? elem=some j→j.zero=some z→Lone v z→Cx x x'→Cx k k'→Co P (.lookup t x k ok) (.lkA n v ok x' k')
 | upA {t key elem:TypeId} {n:Nat} {x k v:Operand} {x' k' v':AX}:P.underlying t=some (.map key elem)→SK P key n→Cx x x'→Cx k k'→Cx v v'→Co P (.mapUpdate t x k v) (.upA n x' k' v')
 | cvB {src dst e:TypeId} {d:TypeDesc} {j:TypeInfo} {x:Operand} {x':AX}:P.underlying src=some d→P.underlying dst=some (.slice e)→P.underlying e=some (.int .u8)→P.info? e=some j→j.size=1→Cx x x'→Co P (.convert src dst x) (.cvB e x')
 | cvT {src dst e:TypeId} {x:Operand} {x':AX}:P.underlying src=some (.slice e)→P.underlying e=some (.int .u8)→P.underlying dst=some .string→Cx x x'→Co P (.convert src dst x) (.cvT x')
 | clr {t e:TypeId} {j:TypeInfo} {z:Value} {v:AV} {x:Operand} {x':AX}:P.underlying t=some (.slice e)→P.info? e=some j→j.zero=some z→Lone v z→0<(cellsA v).length→Cx x x'→Co P (.call ⟨.builtin .clear,#[x],#[t]⟩) (.clr (cellsA v) x')
 | ixS {t:TypeId} {x i:Operand} {x' i':AX}:P.underlying t=some .string→Cx x x'→Cx i i'→Co P (.index t x i) (.ixS x' i')
 | mkS {t e:TypeId} {j:TypeInfo} {z:Value} {v:AV} {l c:Operand} {l' c':AX}:P.underlying t=some (.slice e)→P.info? e=some j→j.zero=some z→Lone v z→(cellsA v).length=j.size→0<j.size→j.bytes≤1048576→Cx l l'→Cx c c'→Co P (.makeSlice t l c) (.mkS e j.size (cellsA v) l' c')
 | sl {t e:TypeId} {j:TypeInfo} {x:Operand} {lo hi mx:Option Operand} {x':AX} {lo' hi' mx':Option AX}:P.underlying t=some (.slice e)→P.info? e=some j→Cx x x'→Cxo lo lo'→Cxo hi hi'→Cxo mx mx'→(mx≠none→hi≠none)→Co P (.slice t x lo hi mx) (.sl j.size x' lo' hi' mx')
 | slS {t:TypeId} {x:Operand} {lo hi:Option Operand} {x':AX} {lo' hi':Option AX}:P.underlying t=some .string→Cx x x'→Cxo lo lo'→Cxo hi hi'→Co P (.slice t x lo hi none) (.slS x' lo' hi')
 | app {t u e:TypeId} {j:TypeInfo} {z:Value} {v:AV} {x y:Operand} {x' y':AX}:P.underlying t=some (.slice e)→NoInt P u→P.info? e=some j→j.zero=some z→Lone v z→(cellsA v).length=j.size→0<j.size→j.bytes≤1048576→Cx x x'→Cx y y'→Co P (.call ⟨.builtin .append,#[x,y],#[t,u]⟩) (.app e j.size x' y')
 | max {ts:Array TypeId} {xs:Array Operand} {xs':List AX}:Cxs xs.toList xs'→Co P (.call ⟨.builtin .max,xs,ts⟩) (.mm true xs')
 | min {ts:Array TypeId} {xs:Array Operand} {xs':List AX}:Cxs xs.toList xs'→Co P (.call ⟨.builtin .min,xs,ts⟩) (.mm false xs')
 | lenC {t:TypeId} {d:ChanDir} {e:TypeId} {x:Operand} {x':AX}:P.underlying t=some (.chan d e)→Cx x x'→Co P (.call ⟨.builtin .len,#[x],#[t]⟩) (.lenC x')
 | mkC {t:TypeId} {d:ChanDir} {e:TypeId} {j:TypeInfo} {x:Operand} {x':AX}:P.underlying t=some (.chan d e)→P.info? e=some j→j.bytes≤1048576→Cx x x'→Co P (.makeChan t x) (.mkC x')
 | mkM {t:TypeId}:Co P (.makeMap t none) .mkM
 | rng {t:TypeId} {x:Operand} {x':AX}:P.underlying t=some .string→Cx x x'→Co P (.range t x) (.rng x')
 | eqA {op:BinOp} {t u:TypeId} {n:Nat} {neg:Bool} {x y:Operand} {x' y':AX}:EA P t n→op=.eql∧neg=false∨op=.neq∧neg=true→Cx x x'→Cx y y'→Co P (.binOp op t x y u) (.eqA n neg x' y')
 | nxt {x:Operand} {x':AX}:Cx x x'→Co P (.next x true) (.nxt x')
 | ta {x:Operand} {xT t:TypeId} {ts:List Nat} {x':AX}:(∀ s ∈ ts,∀ (v:Value) (w:World),(Instr.typeAssert (.iface s v) xT t true).run P w=.ok (.tuple #[.iface s v,.bool true]) w)→Cx x x'→Co P (.typeAssert x xT t true) (.ta ts x')
section
variable {P:Program} {w0:World} {r:Rho} {h:T AO} {nx:Pt} {w:World} {K:AV→T AO→Pt→Prop} {tm:S} {a:Act}
theorem Yields.ptr (H:WR P w0 r h nx w) {vs:List AV} {e:TypeId} {s:Sem Next} (hv:okL r.has vs) (hK:K (.ptr nx 0) (h.set (.cells vs e) nx) nx.succ)
  (hs:∀ x w',(newRow e (concL r vs).toArray).run P w=.ok x w'→s.run P w=.ok (.value (.pointer (some x))) w'):Yields P w0 r h w s K:=by
 obtain ⟨w',h1,h2,h3⟩:=H.newRow vs e hv
 refine ⟨_,_,_,w',.ptr nx 0,_,hK,hs _ _ h1,.inl (by simp [conc]),h2,h3,?_⟩
 exact Or.inl rfl
theorem setK_forceP {o:AO} {nx:Pt} {K:AV→T AO→Pt→Prop} {v:AV} (hk:h.setK o nx fun h'=>succK nx fun n'=>K v h' n'):K v (h.set o nx) nx.succ:=by
 rw [T.setK_iff,succK_iff] at hk; exact hk
theorem fill_put (place:Nat→Option (Nat × Nat)) {off size:Nat} {i:Nat} {v:Value} {cs:List Value} {rest:List (Nat × Value)} {vl:List Value} (hv:v.cells=vl.toArray) (hp:place i=some (off,size)) (hs:vl.length=size) (hl:off+size≤cs.length) :
  Instr.fill place cs.toArray ((i,v) :: rest)=Instr.fill place (putL cs off vl).toArray rest:=by
 have key:∀ (l:List Value) (o n:Nat) (c:Array Value),(l.toArray.zipIdx n).foldl (fun cs (x:Value × Nat)=>cs.setIfInBounds (o+x.2) x.1) c=(putL c.toList (o+n) l).toArray:=by
  intro l
  induction l with
  | nil=>intro o n c; simp [putL]; rfl
  | cons x l ih =>
   intro o n c
   have e:((x :: l).toArray.zipIdx n)=#[(x,n)] ++ (l.toArray.zipIdx (n+1)):=by
    apply Array.ext'
    simp [List.zipIdx_cons]
   rw [e,Array.foldl_append]
   have:=ih o (n+1) (c.setIfInBounds (o+n) x)
   simp only [List.foldl_toArray',List.foldl_cons,List.foldl_nil] at this ⊢
   rw [this]
   simp [putL,Nat.add_assoc]
 rw [Instr.fill,hp]
 simp only [hv]
 rw [if_neg (by simp [hs]; omega)]
 rw [key vl off 0 cs.toArray]
 rfl
theorem fillK_spec (ht:TR r tm a.tmps) {place:Nat→Option (Nat × Nat)}:∀ {ps:List (Nat × Operand)} {qs:List (Nat × Nat × AX)} {z:List AV} {c:List AV→Prop},Cps place ps qs→okL r.has z→fillK tm qs z c →
  ∃ vs,c vs∧okL r.has vs∧Instr.fill place (concL r z).toArray (ps.map fun p=>(p.1,a.eval p.2))=some (concL r vs).toArray
 | [],[],z,c,_,hz,hk=>⟨z,hk,hz,by simp [Instr.fill]⟩
 | _ :: _,[],_,_,hc,_,_=>hc.elim
 | [],_ :: _,_,_,hc,_,_=>hc.elim
 | p :: ps,q :: qs,z,c,hc,hz,hk=>by
  obtain ⟨h1,h2,h3⟩:=hc
  obtain ⟨v,g1,g2,g3⟩:=evK_spec h2 ht hk
  rw [forceB_iff] at g1
  cases hb:(Nat.beq (cellsA v).length q.2.1&&Nat.ble (q.1+q.2.1) z.length) with
  | false=>rw [hb] at g1; exact g1.elim
  | true =>
   rw [hb] at g1
   simp only [Bool.and_eq_true,Nat.ble_eq] at hb
   obtain ⟨vs,e1,e2,e3⟩:=fillK_spec ht (z:=putL z q.1 (cellsA v)) h3 (okL_put hz (okL_cells g3)) g1
   refine ⟨vs,e1,e2,?_⟩
   rw [List.map_cons,fill_put place (vl:=concL r (cellsA v)) (by rw [g2,conc_cells]) h1 (by rw [concL_length]; exact Nat.eq_of_beq_eq_true hb.1) (by rw [concL_length]; exact hb.2),← concL_put]
   exact e3
end
end Go.Proofs.YtidggaoacldgkaaGreatDoor.X

/- An executor for closed calls, 6: the operations of slots, blocks and parts are right. -/
namespace Go.Proofs.YtidggaoacldgkaaGreatDoor.X
open Go.RowKit
section
variable {P:Program} {w0:World} {r:Rho} {h:T AO} {nx:Pt} {w:World} {K:AV→T AO→Pt→Prop} {tm:S} {a:Act} {o:Oper}
theorem brec {b:Bool} {p:Prop} (h:Bool.rec (motive:=fun _=>Prop) False p b):b=true∧p:=by
 cases b with
 | false=>exact h.elim
 | true=>exact ⟨rfl,h⟩
theorem run_sureAddr (b i:Nat):(Instr.sureAddr (.pointer (some ⟨b,i,none⟩))).run P w=.ok ⟨b,i,none⟩ w:=rfl
theorem s_ld1 (H:WR P w0 r h nx w) (ht:TR r tm a.tmps) {t:TypeId} {d:TypeDesc} {x:Operand} {x':AX} (hu:P.underlying t=some d) (hd:aggD d=false) (hx:Cx x x') (hop:o.op=.load t x) (hk:stepV (.ld1 x') tm h nx K):Yields P w0 r h w (execOp a.eval o) K:=by
 simp only [stepV,oLd1] at hk
 obtain ⟨v,h1,h2,h3⟩:=evK_spec hx ht hk
 split at h1
 ·rename_i k i
  obtain ⟨b,hb,h1⟩:=(T.getK_iff _ _ _).1 h1
  split at h1
  ·rename_i vs e
   split at h1
   ·rename_i u hu'
    simp only [execOp,hop]
    refine Yields.pureV H h1 ?_ (((H.has k _ hb).2.2.1:okL r.has vs).get hu')
    rw [h2]
    simp only [conc,Instr.loadAt]
    rw [run_ok_bind (run_sureAddr _ _),loadVar,run_ok_bind (run_isAgg hu),hd]
    simp only [Bool.false_eq_true,if_false]
    exact H.loadOne hb hu'
   ·exact h1.elim
  ·rename_i vs e
   split at h1
   ·rename_i u hu'
    simp only [execOp,hop]
    refine Yields.pureV H h1 ?_ (((H.has k _ hb).2.2.1:okL r.has vs).get hu')
    rw [h2]
    simp only [conc,Instr.loadAt]
    rw [run_ok_bind (run_sureAddr _ _),loadVar,run_ok_bind (run_isAgg hu),hd]
    simp only [Bool.false_eq_true,if_false]
    obtain ⟨-,-,-,rest,z,hbb,-⟩:=H.has k _ hb
    refine run_load ?_
    rw [cell_of hbb]
    have hlt:i<vs.length:=(List.getElem?_eq_some_iff.1 hu').1
    rw [List.getElem?_append_left (by rw [concL_length]; exact hlt),concL_get,hu']; rfl
   ·exact h1.elim
  ·exact h1.elim
 ·exact h1.elim
theorem s_ldN (H:WR P w0 r h nx w) (ht:TR r tm a.tmps) {t:TypeId} {d:TypeDesc} {i:TypeInfo} {x:Operand} {x':AX} (hu:P.underlying t=some d) (hd:aggD d=true) (hi:P.info? t=some i) (hx:Cx x x') (hop:o.op=.load t x) (hk:stepV (.ldN i.size x') tm h nx K):Yields P w0 r h w (execOp a.eval o) K:=by
 simp only [stepV,oLdN] at hk
 obtain ⟨v,h1,h2,h3⟩:=evK_spec hx ht hk
 split at h1
 ·rename_i k q
  obtain ⟨b,hb,h1⟩:=(T.getK_iff _ _ _).1 h1
  split at h1
  ·rename_i vs e
   obtain ⟨hle,h1⟩:=brec h1
   rw [forceL_iff] at h1
   simp only [execOp,hop]
   refine Yields.pureV H h1 ?_ ?_
   ·rw [h2]
    simp only [conc,Instr.loadAt]
    rw [run_ok_bind (run_sureAddr _ _),loadVar,run_ok_bind (run_isAgg hu),hd]
    simp only [if_true]
    rw [run_ok_bind (run_sizeOf hi),run_ok_bind (H.loadCells hb _ _ (Nat.le_of_ble_eq_true hle))]
    rfl
   ·simp only [okV]
    exact okL_take (okL_drop ((H.has k _ hb).2.2.1:okL r.has vs) _) _
  ·exact h1.elim
 ·exact h1.elim
theorem s_st (H:WR P w0 r h nx w) (ht:TR r tm a.tmps) {t:TypeId} {i:TypeInfo} {x y:Operand} {x' y':AX} (hi:P.info? t=some i) (hx:Cx x x') (hy:Cx y y') (hop:o.op=.store t x y) (hk:stepV (.st i.size x' y') tm h nx K):Yields P w0 r h w (execOp a.eval o) K:=by
 simp only [stepV,oSt] at hk
 obtain ⟨v,h1,h2,h3⟩:=evK_spec hx ht hk
 split at h1
 ·rename_i k q
  obtain ⟨u,h1,h4,h5⟩:=evK_spec hy ht h1
  obtain ⟨b,hb,h1⟩:=(T.getK_iff _ _ _).1 h1
  split at h1
  ·rename_i vs e
   obtain ⟨hle,h1⟩:=brec h1
   rw [forceL_iff,T.setK_iff] at h1
   simp only [Bool.and_eq_true] at hle
   obtain ⟨⟨hl1,hl2⟩,hl3⟩:=hle
   have hl1:=Nat.eq_of_beq_eq_true hl1
   obtain ⟨w',e1,e2,e3⟩:=H.storeCells hb q (cellsA u) (flatB_spec hl3) (okL_cells h5) (by have:=Nat.le_of_ble_eq_true hl2; omega)
   simp only [execOp,hop]
   refine ⟨r,_,nx,w',.tup [],.skip,h1,run_skip ?_,.inr ⟨rfl,by simp [conc,concL,undef]⟩,e2,e3,by simp [okV,okL]⟩
   rw [h2,h4]
   simp only [conc,Instr.storeAt]
   rw [run_ok_bind (run_sureAddr _ _),storeVar,run_ok_bind (run_sizeOf hi),conc_cells]
   rw [if_neg (by simp [concL_length,hl1])]
   exact e1
  ·exact h1.elim
 ·exact h1.elim
theorem s_fa (H:WR P w0 r h nx w) (ht:TR r tm a.tmps) {s:TypeId} {fields:Array Field} {i:Nat} {f:Field} {j:TypeInfo} {x:Operand} {x':AX} (hu:P.underlying s=some (.struct fields)) (hf:fields[i]?=some f) (hj:P.info? f.type=some j) (hz:j.size≠0) (hx:Cx x x') (hop:o.op=.fieldAddr s x i) (hk:stepV (.fa f.offset x') tm h nx K):Yields P w0 r h w (execOp a.eval o) K:=by
 simp only [stepV,oFa] at hk
 obtain ⟨v,h1,h2,h3⟩:=evK_spec hx ht hk
 split at h1
 ·rename_i k q
  rw [forceN_iff] at h1
  simp only [execOp,hop]
  refine Yields.pureV H h1 ?_ (by simp only [okV] at h3 ⊢; exact h3)
  rw [h2]
  simp only [conc,Instr.fieldAt]
  rw [run_ok_bind (run_underlying hu)]
  simp only [hf]
  rw [run_ok_bind (run_sureAddr _ _),fieldPlace]
  rw [run_bind,run_ok_bind (run_sizeOf hj),if_neg hz]
  simp only [run_pure,add_none]
 ·exact h1.elim
theorem run_part1 {t:TypeId} {d:TypeDesc} {cs:List AV} {q:Nat} {v:AV} (hu:P.underlying t=some d) (hd:aggD d=false) (hv:cs[q]?=some v):(part t (concL r cs).toArray q).run P w=.ok (conc r v) w:=by
 unfold part
 rw [run_ok_bind (run_isAgg hu),hd]
 simp [concL_get,hv]
theorem run_partN {t:TypeId} {d:TypeDesc} {i:TypeInfo} {cs:List AV} {q:Nat} (hu:P.underlying t=some d) (hd:aggD d=true) (hi:P.info? t=some i):(part t (concL r cs).toArray q).run P w=.ok (conc r (.agg ((cs.drop q).take i.size))) w:=by
 unfold part
 rw [run_ok_bind (run_isAgg hu),hd]
 simp only [if_true]
 rw [run_ok_bind (run_sizeOf hi)]
 simp only [run_pure,conc]
 congr 2
 simp [concL_map,List.map_take,List.map_drop,List.extract_eq_take_drop]
theorem s_fld (H:WR P w0 r h nx w) (ht:TR r tm a.tmps) {s:TypeId} {fields:Array Field} {i:Nat} {f:Field} {d:TypeDesc} {j:TypeInfo} {x:Operand} {x':AX} (hu:P.underlying s=some (.struct fields)) (hf:fields[i]?=some f) (hd:P.underlying f.type=some d) (ha:aggD d=true) (hj:P.info? f.type=some j) (hx:Cx x x') (hop:o.op=.field s x i) (hk:stepV (.fld j.size f.offset x') tm h nx K):Yields P w0 r h w (execOp a.eval o) K:=by
 simp only [stepV,oFld] at hk
 obtain ⟨v,h1,h2,h3⟩:=evK_spec hx ht hk
 split at h1
 ·rename_i vs
  rw [forceL_iff] at h1
  simp only [okV] at h3
  simp only [execOp,hop]
  refine Yields.pureV H h1 ?_ (by simp only [okV]; exact okL_take (okL_drop h3 _) _)
  rw [h2]
  simp only [conc,Instr.field]
  rw [run_ok_bind (run_underlying hu)]
  simp only [hf]
  exact run_partN hd ha hj
 ·exact h1.elim
theorem s_fld1 (H:WR P w0 r h nx w) (ht:TR r tm a.tmps) {s:TypeId} {fields:Array Field} {i:Nat} {f:Field} {d:TypeDesc} {x:Operand} {x':AX} (hu:P.underlying s=some (.struct fields)) (hf:fields[i]?=some f) (hd:P.underlying f.type=some d) (ha:aggD d=false) (hx:Cx x x') (hop:o.op=.field s x i) (hk:stepV (.fld1 f.offset x') tm h nx K):Yields P w0 r h w (execOp a.eval o) K:=by
 simp only [stepV,oFld1] at hk
 obtain ⟨v,h1,h2,h3⟩:=evK_spec hx ht hk
 split at h1
 ·rename_i vs
  split at h1
  ·rename_i u hu'
   simp only [okV] at h3
   simp only [execOp,hop]
   refine Yields.pureV H h1 ?_ (h3.get hu')
   rw [h2]
   simp only [conc,Instr.field]
   rw [run_ok_bind (run_underlying hu)]
   simp only [hf]
   exact run_part1 hd ha hu'
  ·exact h1.elim
 ·exact h1.elim
theorem s_ia (H:WR P w0 r h nx w) (ht:TR r tm a.tmps) {t elem:TypeId} {j:TypeInfo} {x i:Operand} {x' i':AX} (hu:P.underlying t=some (.slice elem)) (hj:P.info? elem=some j) (hx:Cx x x') (hi:Cx i i') (hop:o.op=.indexAddr t x i) (hk:stepV (.ia j.size x' i') tm h nx K):Yields P w0 r h w (execOp a.eval o) K:=by
 simp only [stepV,oIa] at hk
 obtain ⟨v,h1,h2,h3⟩:=evK_spec hx ht hk
 split at h1
 ·rename_i k q l c op
  obtain ⟨u,h1,h4,h5⟩:=evK_spec hi ht h1
  obtain ⟨kd,m,rfl,hm,h1⟩:=atK_spec h1
  rw [forceN_iff] at h1
  simp only [execOp,hop]
  refine Yields.pureV H h1 ?_ (by simp only [okV] at h3 ⊢; exact h3)
  rw [h2,h4]
  simp only [conc,Instr.indexAt,asIntOf]
  rw [run_ok_bind (run_pure P _ w),run_ok_bind (run_underlying hu)]
  simp only []
  rw [run_ok_bind (run_pure P _ w),run_ok_bind (run_underlying hu)]
  simp only []
  rw [if_pos (by constructor <;> simp <;> omega),run_ok_bind (run_sizeOf hj)]
  simp [add_none]
 ·exact h1.elim
theorem s_iaA (H:WR P w0 r h nx w) (ht:TR r tm a.tmps) {t elem:TypeId} {len:Nat} {j:TypeInfo} {x i:Operand} {x' i':AX} (hu:P.underlying t=some (.array len elem)) (hj:P.info? elem=some j) (hx:Cx x x') (hi:Cx i i') (hop:o.op=.indexAddr t x i) (hk:stepV (.iaA len j.size x' i') tm h nx K):Yields P w0 r h w (execOp a.eval o) K:=by
 simp only [stepV,oIaA] at hk
 obtain ⟨v,h1,h2,h3⟩:=evK_spec hx ht hk
 split at h1
 ·rename_i k q
  obtain ⟨u,h1,h4,h5⟩:=evK_spec hi ht h1
  obtain ⟨kd,m,rfl,hm,h1⟩:=atK_spec h1
  rw [forceN_iff] at h1
  simp only [execOp,hop]
  refine Yields.pureV H h1 ?_ (by simp only [okV] at h3 ⊢; exact h3)
  rw [h2,h4]
  simp only [conc,Instr.indexAt,asIntOf]
  rw [run_ok_bind (run_pure P _ w),run_ok_bind (run_underlying hu)]
  simp only []
  rw [run_ok_bind (run_sureAddr _ _),run_ok_bind (run_pure P _ w),run_ok_bind (run_underlying hu)]
  simp only []
  rw [if_pos (by constructor <;> simp <;> omega),run_ok_bind (run_sizeOf hj)]
  simp [add_none]
 ·exact h1.elim
end
end Go.Proofs.YtidggaoacldgkaaGreatDoor.X

/- An executor for closed calls, 7: the operations of slots, literals, functions and numbers are right. -/
namespace Go.Proofs.YtidggaoacldgkaaGreatDoor.X
open Go.RowKit
section
variable {P:Program} {w0:World} {r:Rho} {h:T AO} {nx:Pt} {w:World} {K:AV→T AO→Pt→Prop} {tm:S} {a:Act} {o:Oper}
theorem s_mv (H:WR P w0 r h nx w) (ht:TR r tm a.tmps) {x:Operand} {x':AX} (hx:Cx x x') (hop:o.op=.move x∨o.op=.assign x) (hk:stepV (.mv x') tm h nx K):Yields P w0 r h w (execOp a.eval o) K:=by
 simp only [stepV,oMv] at hk
 obtain ⟨v,h1,h2,h3⟩:=evK_spec hx ht hk
 refine Yields.pure H h1 ?_ h3
 rcases hop with hop | hop <;> simp only [execOp,hop,h2] <;> rfl
theorem s_pick (H:WR P w0 r h nx w) (ht:TR r tm a.tmps) {c x y:Operand} {c' x' y':AX} (hc:Cx c c') (hx:Cx x x') (hy:Cx y y') (hop:o.op=.pick c x y) (hk:stepV (.pick c' x' y') tm h nx K):Yields P w0 r h w (execOp a.eval o) K:=by
 simp only [stepV,oPick] at hk
 obtain ⟨v,h1,h2,h3⟩:=evK_spec hc ht hk
 split at h1
 ·obtain ⟨u,g1,g2,g3⟩:=evK_spec hx ht h1
  refine Yields.pure H g1 ?_ g3
  simp only [execOp,hop,h2,conc,g2]; rfl
 ·obtain ⟨u,g1,g2,g3⟩:=evK_spec hy ht h1
  refine Yields.pure H g1 ?_ g3
  simp only [execOp,hop,h2,conc,g2]; rfl
 ·exact h1.elim
theorem s_new (H:WR P w0 r h nx w) {e:TypeId} {i:TypeInfo} {z:Value} {v:AV} (hi:P.info? e=some i) (hz:i.zero=some z) (hv:Lone v z) (hop:o.op=.alloc e) (hk:stepV (.new (cellsA v) e) tm h nx K):Yields P w0 r h w (execOp a.eval o) K:=by
 simp only [stepV,oNew] at hk
 refine Yields.ptr H (okL_cells (hv.2 _)) (setK_forceP hk) fun x w' hx=>?_
 simp only [execOp,hop]
 refine run_value ?_
 unfold Instr.alloc
 rw [run_ok_bind (run_zeroValue hi hz)]
 simp only []
 have:(newVar e z).run P w=.ok x w':=by rw [newVar,← hv.1 r,conc_cells]; exact hx
 rw [run_ok_bind this]; rfl
theorem s_box (H:WR P w0 r h nx w) (ht:TR r tm a.tmps) {e:TypeId} {x:Operand} {x':AX} (hx:Cx x x') (hop:o.op=.box e x) (hk:stepV (.box e x') tm h nx K):Yields P w0 r h w (execOp a.eval o) K:=by
 simp only [stepV,oBox] at hk
 obtain ⟨v,h1,h2,h3⟩:=evK_spec hx ht hk
 refine Yields.ptr H (okL_cells h3) (setK_forceP h1) fun x w' hx=>?_
 simp only [execOp,hop,h2]
 refine run_value ?_
 have:(newVar e (conc r v)).run P w=.ok x w':=by rw [newVar,conc_cells]; exact hx
 unfold Instr.box
 rw [run_ok_bind this]; rfl
theorem toList_parts (ps:Array (Nat × Operand)):(ps.map fun (i,x)=>(i,a.eval x)).toList=ps.toList.map fun p=>(p.1,a.eval p.2):=by
 simp
theorem s_build (H:WR P w0 r h nx w) (ht:TR r tm a.tmps) {t:TypeId} {i:TypeInfo} {z:Value} {v:AV} {fields:Array Field} {places:Array (Nat × Nat)} {ps:Array (Nat × Operand)} {qs:List (Nat × Nat × AX)}
  (hi:P.info? t=some i) (hz:i.zero=some z) (hv:Lone v z) (hu:P.underlying t=some (.struct fields))
  (hpl:∀ w,(fields.mapM (fun f=>do pure (f.offset,← sizeOf f.type)):Sem (Array (Nat × Nat))).run P w=.ok places w) (hps:Cps (places[·]?) ps.toList qs) (hop:o.op=.build t ps) (hk:stepV (.build (cellsA v) qs) tm h nx K):Yields P w0 r h w (execOp a.eval o) K:=by
 simp only [stepV,oBuild] at hk
 obtain ⟨vs,h1,h2,h3⟩:=fillK_spec ht hps (okL_cells (hv.2 _)) hk
 rw [forceL_iff] at h1
 simp only [execOp,hop]
 refine Yields.pureV H h1 ?_ (by simp only [okV]; exact h2)
 unfold Instr.build
 rw [run_ok_bind (run_zeroValue hi hz),run_ok_bind (run_underlying hu)]
 simp only []
 rw [run_ok_bind (hpl w),toList_parts,← hv.1 r,conc_cells,h3]
 simp only [conc]; rfl
theorem s_buildA (H:WR P w0 r h nx w) (ht:TR r tm a.tmps) {t:TypeId} {i:TypeInfo} {z:Value} {v:AV} {n:Nat} {elem:TypeId} {j:TypeInfo} {ps:Array (Nat × Operand)} {qs:List (Nat × Nat × AX)}
  (hi:P.info? t=some i) (hz:i.zero=some z) (hv:Lone v z) (hu:P.underlying t=some (.array n elem)) (hj:P.info? elem=some j)
  (hps:Cps (fun i=>some (i*j.size,j.size)) ps.toList qs) (hop:o.op=.build t ps) (hk:stepV (.build (cellsA v) qs) tm h nx K):Yields P w0 r h w (execOp a.eval o) K:=by
 simp only [stepV,oBuild] at hk
 obtain ⟨vs,h1,h2,h3⟩:=fillK_spec ht hps (okL_cells (hv.2 _)) hk
 rw [forceL_iff] at h1
 simp only [execOp,hop]
 refine Yields.pureV H h1 ?_ (by simp only [okV]; exact h2)
 unfold Instr.build
 rw [run_ok_bind (run_zeroValue hi hz),run_ok_bind (run_underlying hu)]
 simp only []
 rw [run_ok_bind (run_sizeOf hj),toList_parts,← hv.1 r,conc_cells,h3]
 simp only [conc]; rfl
theorem Yields.slice (H:WR P w0 r h nx w) {vs:List AV} {e:TypeId} {n m:Nat} {s:Sem Next} (hv:okL r.has vs) (hK:K (.sl nx 0 n m false) (h.set (.cells vs e) nx) nx.succ)
  (hs:∀ x w',(newRow e (concL r vs).toArray).run P w=.ok x w'→s.run P w=.ok (.value (.slice (some x) n m)) w'):Yields P w0 r h w s K:=by
 obtain ⟨w',h1,h2,h3⟩:=H.newRow vs e hv
 refine ⟨_,_,_,w',.sl nx 0 n m false,_,hK,hs _ _ h1,.inl (by simp [conc]),h2,h3,?_⟩
 exact Or.inl rfl
theorem s_buildS (H:WR P w0 r h nx w) (ht:TR r tm a.tmps) {t:TypeId} {n:Nat} {elem:TypeId} {j:TypeInfo} {z:Value} {zs:List AV} {ps:Array (Nat × Operand)} {qs:List (Nat × Nat × AX)}
  (hu:P.underlying t=some (.slice elem)) (hj:P.info? elem=some j) (hz:j.zero=some z) (hn:n*j.size≤2 ^ 24) (h0:0<n*j.size) (hok:∀ n,okL n zs)
  (hzs:∀ r,(concL r zs).toArray=(Array.range (n*j.size)).map (z.cells[· % z.cells.size]!))
  (hps:Cps (fun i=>some (i*j.size,j.size)) ps.toList qs) (hop:o.op=.buildSlice t n ps) (hk:stepV (.buildS elem n zs qs) tm h nx K):Yields P w0 r h w (execOp a.eval o) K:=by
 simp only [stepV,oBuildS] at hk
 obtain ⟨vs,h1,h2,h3⟩:=fillK_spec ht hps (hok _) hk
 rw [forceL_iff] at h1
 refine Yields.slice H h2 (setK_forceP h1) fun x w' hx=>?_
 simp only [execOp,hop]
 refine run_value ?_
 unfold Instr.buildSlice
 rw [run_ok_bind (run_underlying hu)]
 simp only []
 rw [run_ok_bind (run_sizeOf hj),if_neg (by omega)]
 rw [if_neg (by omega),run_ok_bind (run_zeroValue hj hz),run_ok_bind (run_pure P _ w)]
 rw [← hzs r,toList_parts,h3]
 simp only []
 rw [run_ok_bind hx]; rfl
theorem s_buildE (H:WR P w0 r h nx w) {t:TypeId} {elem:TypeId} {j:TypeInfo} (hu:P.underlying t=some (.slice elem)) (hj:P.info? elem=some j) (hop:o.op=.buildSlice t 0 #[]) (hk:stepV (.buildS elem 0 [] []) tm h nx K):Yields P w0 r h w (execOp a.eval o) K:=by
 simp only [stepV,oBuildS] at hk
 have h1:h.setK (.cells [] elem) nx fun h'=>succK nx fun n'=>K (.sl nx 0 0 0 false) h' n':=hk
 refine Yields.slice (vs:=[]) H (by simp [okL]) (setK_forceP h1) fun x w' hx=>?_
 simp only [execOp,hop]
 refine run_value ?_
 unfold Instr.buildSlice
 rw [run_ok_bind (run_underlying hu)]
 simp only []
 rw [run_ok_bind (run_sizeOf hj),if_neg (by omega)]
 rw [if_pos (by omega),run_ok_bind (run_pure P _ w)]
 simp only [Nat.zero_mul]
 simp only [concL] at hx
 have:(newRow elem #[]).run P w=.ok x w':=hx
 rw [show (Array.map (fun x:Nat × Operand=>(x.fst,a.eval x.snd)) #[]).toList=[] by simp,show ∀ f:Nat→Value,(Array.range 0).map f=#[] from fun f=>by rw [show (Array.range 0)=#[] from rfl]; exact Array.map_empty]
 simp only [Instr.fill]
 rw [run_ok_bind this]; rfl
theorem s_nchk (H:WR P w0 r h nx w) (ht:TR r tm a.tmps) {x:Operand} {x':AX} (hx:Cx x x') (hop:o.op=.nilCheck x) (hk:stepV (.nchk x') tm h nx K):Yields P w0 r h w (execOp a.eval o) K:=by
 simp only [stepV,oNchk] at hk
 obtain ⟨v,h1,h2,h3⟩:=evK_spec hx ht hk
 have key:K v h nx∧(execOp a.eval o).run P w=.ok (.value (conc r v)) w:=by
  simp only [execOp,hop,h2]
  cases v with
  | nilp=>exact h1.elim
  | nili=>exact h1.elim
  | nilf=>exact h1.elim
  | fn f x y =>
   cases f <;> first | exact ⟨h1,by simp only [conc]; rfl⟩ | exact h1.elim
  | _=>exact ⟨h1,by simp only [conc]; rfl⟩
 exact Yields.pure H key.1 key.2 h3
theorem s_ext (H:WR P w0 r h nx w) (ht:TR r tm a.tmps) {x:Operand} {x':AX} {i:Nat} (hx:Cx x x') (hop:o.op=.extract x i) (hk:stepV (.ext x' i) tm h nx K):Yields P w0 r h w (execOp a.eval o) K:=by
 simp only [stepV,oExt] at hk
 obtain ⟨v,h1,h2,h3⟩:=evK_spec hx ht hk
 split at h1
 ·rename_i vs
  split at h1
  ·rename_i u hu
   simp only [okV] at h3
   simp only [execOp,hop]
   refine Yields.pureV H h1 ?_ (h3.get hu)
   rw [h2]
   simp [conc,Instr.extract,concL_get,hu]
  ·exact h1.elim
 ·exact h1.elim
theorem s_mkf (H:WR P w0 r h nx w) (ht:TR r tm a.tmps) {f:FuncId} {x y:Array Operand} {x' y':List AX} (hx:Cxs x.toList x') (hy:Cxs y.toList y') (hop:o.op=.makeFunc (.func f) x y) (hk:stepV (.mkf f x' y') tm h nx K):Yields P w0 r h w (execOp a.eval o) K:=by
 simp only [stepV,oMkf] at hk
 obtain ⟨vs,h1,h2,h3⟩:=evsK_spec ht hx hk
 obtain ⟨us,h4,h5,h6⟩:=evsK_spec ht hy h1
 simp only [execOp,hop]
 refine Yields.pureV H h4 ?_ (by simp only [okV]; exact ⟨h3,h6⟩)
 have e1:x.map a.eval=(concL r vs).toArray:=by rw [← h2]; apply Array.ext'; simp
 have e2:y.map a.eval=(concL r us).toArray:=by rw [← h5]; apply Array.ext'; simp
 simp only [Instr.makeFunc,conc,e1,e2]; rfl
theorem s_mki (H:WR P w0 r h nx w) (ht:TR r tm a.tmps) {t:TypeId} {d:TypeDesc} {x:Operand} {x':AX} (hu:P.underlying t=some d) (hd:∀ m,d≠.interface m) (hx:Cx x x') (hop:o.op=.makeInterface t x) (hk:stepV (.mki t x') tm h nx K):Yields P w0 r h w (execOp a.eval o) K:=by
 simp only [stepV,oMki] at hk
 obtain ⟨v,h1,h2,h3⟩:=evK_spec hx ht hk
 simp only [execOp,hop]
 refine Yields.pureV H h1 ?_ (by simp only [okV]; exact h3)
 unfold Instr.makeInterface
 rw [run_ok_bind (run_underlying hu),h2]
 cases d <;> first | exact absurd rfl (hd _) | (simp only [conc]; rfl)
end
end Go.Proofs.YtidggaoacldgkaaGreatDoor.X
