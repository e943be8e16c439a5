/- An executor for closed calls, 14: the executor's operations made out of the program's. -/
import Derived.Test.YtidggaoacldgkaaGreatDoorXM
import Derived.DeepKeys4
import Derived.Stop.Asserts
namespace Go.Proofs.YtidggaoacldgkaaGreatDoor.X
open Go.RowKit
def skB (P:Program) (key:TypeId) (n:Nat):Bool :=
 match P.underlying key with
 | some (.struct fs)=>P.keyType key&&decide (P.types.size+2≤10000)&&decide (key<P.types.size)&&laidOutB P&&Nat.beq (P.cellsOf key) n &&
  fs.toList.all (fun f=>f.name != "_"&&Nat.blt f.offset n&&Nat.beq (P.cellsOf f.type) 1&&(match P.underlying f.type with | some (.int .i64)=>true | _=>false))
 | _=>false
theorem mapM_some {α β:Type} {f:α→Option β}:∀ {l:List α},(∀ x ∈ l,∃ y,f x=some y)→∃ ys,l.mapM f=some ys
 | [],_=>⟨[],rfl⟩
 | x :: l,h=>by
  obtain ⟨y,hy⟩:=h x (List.mem_cons_self ..)
  obtain ⟨ys,hys⟩:=mapM_some fun z hz=>h z (List.mem_cons_of_mem _ hz)
  exact ⟨y :: ys,by simp [List.mapM_cons,hy,hys]⟩
theorem inI_wf {x:Int} (h:inI x=true):(Lit.int .i64 x).wf=true:=by
 have h1:IntKind.i64.min=-9223372036854775808:=by decide
 have h2:IntKind.i64.max=9223372036854775807:=by decide
 simp only [Lit.wf,h1,h2,Bool.and_eq_true,decide_eq_true_eq]
 cases x with
 | ofNat m =>
  simp only [inI,Nat.blt_eq] at h
  constructor
  ·exact Int.le_trans (by decide) (Int.natCast_nonneg m)
  ·show (m:Int)≤9223372036854775807
   omega
 | negSucc m =>
  simp only [inI,Nat.blt_eq] at h
  rw [Int.negSucc_eq]
  omega
theorem sk_of {P:Program} {key:TypeId} {n:Nat} (h:skB P key n=true):SK P key n:=by
 unfold skB at h
 split at h
 ·rename_i fs hu
  simp only [Bool.and_eq_true,decide_eq_true_eq,List.all_eq_true] at h
  obtain ⟨⟨⟨⟨⟨h1,h2⟩,h3⟩,h4⟩,h5⟩,h6⟩:=h
  have h5:=Nat.eq_of_beq_eq_true h5
  refine ⟨Maps.Keyed.of_law (deep_law_laid h4 (m:=P.types.size+1) h2 h3 h1 (by rw [hu])),fun s hs hsi=>?_⟩
  have hw:∃ d,P.types.size=d+1:=⟨P.types.size - 1,by have h0:0<P.types.size:=Nat.lt_of_le_of_lt (Nat.zero_le _) h3; omega⟩
  obtain ⟨d,hd⟩:=hw
  have hcell:(keyI s).cells.toList=s.map (Value.int .i64):=by simp [keyI,Value.cells]
  have hform:(keyI s).formed P key=true:=by
   simp only [keyI,Value.formed,hu]
   simp [hs,h5]
  obtain ⟨ys,hys⟩:=mapM_some (f:=fun f:Field=>P.keyLits (d+1) f.type (((s.map (Value.int .i64)).drop f.offset).take (P.cellsOf f.type))) (l:=fs.toList) fun f hf=>by
   obtain ⟨⟨⟨-,e2⟩,e3⟩,e4⟩:=h6 f hf
   have e3:=Nat.eq_of_beq_eq_true e3
   have e2:f.offset<n:=by simpa [Nat.blt_eq] using e2
   split at e4
   ·rename_i hk
    have hx:f.offset<(s.map (Value.int .i64)).length:=by simp; omega
    have:((s.map (Value.int .i64)).drop f.offset).take (P.cellsOf f.type)=[Value.int .i64 (s[f.offset]'(by omega))]:=by
     rw [e3,List.drop_eq_getElem_cons hx]
     simp
    rw [this]
    refine ⟨[Lit.int .i64 (s[f.offset]'(by omega))],?_⟩
    simp only [Program.keyLits,hk]
    rw [if_pos ⟨trivial,inI_wf (hsi _ (List.getElem_mem _))⟩]
   ·cases e4
  refine ⟨.string (keyBytes ys.flatten),?_⟩
  unfold keyOf
  simp only [hu,h1,hform,Bool.and_self,if_true,hcell]
  rw [hd]
  have hall:fs.all (·.name != "_")=true:=by
   rw [Array.all_eq_true_iff_forall_mem]
   intro f hf
   exact (h6 f (Array.mem_toList_iff.2 hf)).1.1.1
  have hcond:(s.map (Value.int .i64)).length=P.cellsOf key∧fs.all (·.name != "_")=true:=⟨by simp [hs,h5],hall⟩
  have:P.keyLits (d+1+1) key (s.map (Value.int .i64))=some ys.flatten:=by
   unfold Program.keyLits
   simp only [hu]
   rw [if_pos hcond,hys]
   rfl
  rw [this]
  rfl
 ·cases h
def mapO {α β:Type} (f:α→Option β):List α→Option (List β)
 | []=>some []
 | x :: l=>match f x with
  | some y=>match mapO f l with
   | some ys=>some (y :: ys)
   | none=>none
  | none=>none
theorem mapO_cons {α β:Type} {f:α→Option β} {x:α} {l:List α} {r:List β} (h:mapO f (x :: l)=some r):∃ y ys,f x=some y∧mapO f l=some ys∧r=y :: ys:=by
 unfold mapO at h
 split at h
 ·rename_i y hy
  split at h
  ·rename_i ys hys
   cases h; exact ⟨y,ys,hy,hys,rfl⟩
  ·cases h
 ·cases h
def ofV:Nat→Value→Option AV
 | _,.bool b=>some (.bool b)
 | _,.int k n=>some (.int k n)
 | _,.string s=>some (.str (s.data.toList.map UInt8.toNat))
 | _,.pointer none=>some .nilp
 | _,.slice none 0 0=>some .nils
 | _,.map none=>some .nilm
 | _,.chan none=>some .nilc
 | _,.nilFunc=>some .nilf
 | _,.nilIface=>some .nili
 | n+1,.agg cs=>match mapO (ofV n) cs.toList with
  | some vs=>some (.agg vs)
  | none=>none
 | n+1,.tuple cs=>match mapO (ofV n) cs.toList with
  | some vs=>some (.tup vs)
  | none=>none
 | _,_=>none
theorem ofL_spec {n:Nat} (ih:∀ x v,ofV n x=some v→Lone v x):∀ {l:List Value} {vs:List AV},mapO (ofV n) l=some vs→(∀ r,concL r vs=l)∧∀ n,okL n vs
 | [],vs,h=>by cases h; exact ⟨fun r=>by simp [concL],fun n=>by simp [okL]⟩
 | x :: l,vs,h=>by
  obtain ⟨y,ys,h1,h2,rfl⟩:=mapO_cons h
  obtain ⟨g1,g2⟩:=ih x y h1
  obtain ⟨g3,g4⟩:=ofL_spec ih h2
  exact ⟨fun r=>by simp only [concL,g1 r,g3 r],fun n=>by simp only [okL]; exact ⟨g2 n,g4 n⟩⟩
theorem lone_str (s:ByteArray):Lone (.str (s.data.toList.map UInt8.toNat)) (.string s):=by
 refine ⟨fun r=>?_,fun n=>?_⟩
 ·simp only [conc,bytesOf]
  congr 1
  apply ByteArray.ext
  have:(UInt8.ofNat ∘ UInt8.toNat)=id:=by funext x; simp
  simp [this]
 ·simp only [okV,List.mem_map]
  rintro b ⟨x,-,rfl⟩
  exact x.toNat_lt
theorem ofV_flat {n:Nat} {x:Value} {v:AV} (hx:(∀ cs,x≠.agg cs)∧∀ cs,x≠.tuple cs) (h:ofV n x=some v):Lone v x:=by
 cases x with
 | bool b=>simp only [ofV] at h; cases h; exact ⟨fun r=>by simp only [conc],fun n=>by simp only [okV]⟩
 | int k m=>simp only [ofV] at h; cases h; exact ⟨fun r=>by simp only [conc],fun n=>by simp only [okV]⟩
 | string s=>simp only [ofV] at h; cases h; exact lone_str s
 | pointer a =>
  cases a with
  | none=>simp only [ofV] at h; cases h; exact ⟨fun r=>by simp only [conc],fun n=>by simp only [okV]⟩
  | some a=>simp [ofV] at h
 | slice a l c =>
  cases a with
  | none =>
   cases l with
   | zero =>
    cases c with
    | zero=>simp only [ofV] at h; cases h; exact ⟨fun r=>by simp only [conc],fun n=>by simp only [okV]⟩
    | succ c=>simp [ofV] at h
   | succ l=>simp [ofV] at h
  | some a=>simp [ofV] at h
 | map m =>
  cases m with
  | none=>simp only [ofV] at h; cases h; exact ⟨fun r=>by simp only [conc],fun n=>by simp only [okV]⟩
  | some a=>simp [ofV] at h
 | chan m =>
  cases m with
  | none=>simp only [ofV] at h; cases h; exact ⟨fun r=>by simp only [conc],fun n=>by simp only [okV]⟩
  | some a=>simp [ofV] at h
 | nilFunc=>simp only [ofV] at h; cases h; exact ⟨fun r=>by simp only [conc],fun n=>by simp only [okV]⟩
 | nilIface=>simp only [ofV] at h; cases h; exact ⟨fun r=>by simp only [conc],fun n=>by simp only [okV]⟩
 | agg cs=>exact absurd rfl (hx.1 cs)
 | tuple cs=>exact absurd rfl (hx.2 cs)
 | _=>simp [ofV] at h
theorem ofV_spec:∀ (n:Nat) (x:Value) (v:AV),ofV n x=some v→Lone v x:=by
 intro n
 induction n with
 | zero =>
  intro x v h
  cases x with
  | agg cs=>simp [ofV] at h
  | tuple cs=>simp [ofV] at h
  | _=>exact ofV_flat ⟨by simp,by simp⟩ h
 | succ n ih =>
  intro x v h
  cases x with
  | agg cs =>
   simp only [ofV] at h
   split at h
   ·rename_i vs hvs
    cases h
    obtain ⟨g1,g2⟩:=ofL_spec ih hvs
    exact ⟨fun r=>by simp only [conc,g1 r],fun n=>by simp only [okV]; exact g2 n⟩
   ·cases h
  | tuple cs =>
   simp only [ofV] at h
   split at h
   ·rename_i vs hvs
    cases h
    obtain ⟨g1,g2⟩:=ofL_spec ih hvs
    exact ⟨fun r=>by simp only [conc,g1 r],fun n=>by simp only [okV]; exact g2 n⟩
   ·cases h
  | _=>exact ofV_flat ⟨by simp,by simp⟩ h
def cx:Operand→Option AX
 | .tmp t=>some (.t (Sl.ofNat t))
 | .const y=>match ofV 4 y with
  | some v=>some (.c v)
  | none=>none
 | .func f=>some (.c (.fn (.func f) [] []))
 | .global _=>none
theorem cx_spec {o:Operand} {x:AX} (h:cx o=some x):Cx o x:=by
 cases o with
 | tmp t=>cases h; exact ⟨_,rfl,Sl.toNat_ofNat t⟩
 | const y =>
  simp only [cx] at h
  split at h
  ·rename_i v hv
   cases h; exact ⟨v,rfl,ofV_spec 4 y v hv⟩
  ·cases h
 | func f=>cases h; rfl
 | global g=>cases h
theorem cxs_spec:∀ {os:List Operand} {xs:List AX},mapO cx os=some xs→Cxs os xs
 | [],xs,h=>by cases h; trivial
 | o :: os,xs,h=>by
  obtain ⟨y,ys,h1,h2,rfl⟩:=mapO_cons h
  exact ⟨cx_spec h1,cxs_spec h2⟩
def cxo:Option Operand→Option (Option AX)
 | none=>some none
 | some o=>match cx o with
  | some x=>some (some x)
  | none=>none
theorem cxo_spec {o:Option Operand} {x:Option AX} (h:cxo o=some x):Cxo o x:=by
 cases o with
 | none=>cases h; trivial
 | some o =>
  simp only [cxo] at h
  split at h
  ·rename_i y hy
   cases h; exact cx_spec hy
  ·cases h
def cps (place:Nat→Option (Nat × Nat)) (ps:List (Nat × Operand)):Option (List (Nat × Nat × AX)) :=
 mapO (fun p=>match place p.1,cx p.2 with
  | some (a,b),some x=>some (a,b,x)
  | _,_=>none) ps
theorem cps_spec {place:Nat→Option (Nat × Nat)}:∀ {ps:List (Nat × Operand)} {qs:List (Nat × Nat × AX)},cps place ps=some qs→Cps place ps qs
 | [],qs,h=>by cases h; trivial
 | p :: ps,qs,h=>by
  obtain ⟨y,ys,h1,h2,rfl⟩:=mapO_cons h
  split at h1
  ·rename_i a b x ha hx
   cases h1
   exact ⟨ha,cx_spec hx,cps_spec h2⟩
  ·cases h1
def zeroA (P:Program) (t:TypeId):Option (TypeInfo × Value × AV) :=
 match P.info? t with
 | some i=>match i.zero with
  | some z=>match ofV 4 z with
   | some v=>some (i,z,v)
   | none=>none
  | none=>none
 | none=>none
theorem zeroA_spec {P:Program} {t:TypeId} {i:TypeInfo} {z:Value} {v:AV} (h:zeroA P t=some (i,z,v)):P.info? t=some i∧i.zero=some z∧Lone v z:=by
 unfold zeroA at h
 split at h
 ·rename_i i' hi
  split at h
  ·rename_i z' hz
   split at h
   ·rename_i v' hv
    cases h; exact ⟨hi,hz,ofV_spec 4 _ _ hv⟩
   ·cases h
  ·cases h
 ·cases h
def placesA (P:Program) (fs:List Field):Option (List (Nat × Nat)) :=
 mapO (fun f=>match P.info? f.type with
  | some j=>some (f.offset,j.size)
  | none=>none) fs
theorem placesA_spec {P:Program} {fs:Array Field} {l:List (Nat × Nat)} (h:placesA P fs.toList=some l) (w:World):(fs.mapM (fun f=>do pure (f.offset,← sizeOf f.type)):Sem (Array (Nat × Nat))).run P w=.ok l.toArray w:=by
 have key:∀ (fs:List Field) (l:List (Nat × Nat)),placesA P fs=some l→(fs.mapM (fun f=>do pure (f.offset,← sizeOf f.type)):Sem (List (Nat × Nat))).run P w=.ok l w:=by
  intro fs
  induction fs with
  | nil=>intro l h; cases h; rfl
  | cons f fs ih =>
   intro l h
   obtain ⟨y,ys,h1,h2,rfl⟩:=mapO_cons h
   split at h1
   ·rename_i j hj
    cases h1
    rw [List.mapM_cons]
    have e1:((do pure (f.offset,← sizeOf f.type)):Sem (Nat × Nat)).run P w=.ok (f.offset,j.size) w:=by rw [run_ok_bind (run_sizeOf hj)]; rfl
    rw [run_ok_bind e1,run_ok_bind (ih ys h2)]; rfl
   ·cases h1
 rw [Array.mapM_eq_mapM_toList]
 show Sem.run P (List.toArray <$> _) w=_
 rw [map_eq_pure_bind,run_ok_bind (key _ _ h)]; rfl
def isConstB:Operand→Bool
 | .const _=>true
 | _=>false
theorem isConstB_spec {o:Operand} (h:isConstB o=true):isConst o:=by
 cases o <;> first | trivial | cases h
def eqT (P:Program) (x y:Operand):TypeDesc→Option EK
 | .bool=>some .b
 | .pointer e=>match P.info? e with
  | some j=>if j.size=0 then none else some .p
  | none=>none
 | .slice _=>some .s
 | .map _ _=>some .m
 | .func _ _ _=>some .f
 | .interface _=>if isConstB x||isConstB y then some .i else none
 | _=>none
def eaN (P:Program) (t:TypeId):TypeDesc→Option Nat
 | .struct fs=>match !(P.stoodInHeld t)&&!(P.eqGuardType P.depth t)&&decide (fs.toList.map (·.offset)=List.range fs.size)&&fs.toList.all (fun f=>f.name != "_"&&(match P.underlying f.type with | some (.int .i64)=>true | _=>false)) with
  | true=>some fs.size
  | false=>none
 | _=>none
theorem eaN_spec {P:Program} {t:TypeId} {d:TypeDesc} {n:Nat} (h:eaN P t d=some n) (hu:P.underlying t=some d):EA P t n:=by
 unfold eaN at h
 split at h
 ·rename_i fs
  split at h
  ·rename_i hb
   cases h
   simp only [Bool.and_eq_true,Bool.not_eq_true',decide_eq_true_eq,List.all_eq_true] at hb
   obtain ⟨⟨⟨h1,h2⟩,h3⟩,h4⟩:=hb
   refine ⟨fs,hu,h1,h2,h3,fun f hf=>?_⟩
   obtain ⟨e1,e2⟩:=h4 f hf
   refine ⟨by simpa using e1,?_⟩
   split at e2
   ·rename_i hk; exact hk
   ·cases e2
  ·cases h
 ·cases h
theorem eqT_spec {P:Program} {x y:Operand} {d:TypeDesc} {ek:EK} (h:eqT P x y d=some ek):EqT P x y ek d:=by
 cases d with
 | pointer e =>
  simp only [eqT] at h
  split at h
  ·rename_i j hj
   split at h
   ·cases h
   ·rename_i hz
    cases h; exact ⟨j,hj,hz⟩
  ·cases h
 | interface m =>
  simp only [eqT] at h
  split at h
  ·rename_i hc
   cases h
   simp only [Bool.or_eq_true] at hc
   exact hc.imp isConstB_spec isConstB_spec
  ·cases h
 | _=>first | (cases h; trivial) | cases h
def taB (P:Program) (want:Array (String × TypeId)) (t:Nat):Bool:=match P.info? t with
 | some i=>(lacking want i.methods).isEmpty
 | none=>false
def taL (P:Program) (want:Array (String × TypeId)):List Nat:=(List.range P.types.size).filter (taB P want)
theorem taL_spec {P:Program} {t:TypeId} {want:Array (String × TypeId)} (hu:P.underlying t=some (.interface want)) (xT:TypeId):∀ s ∈ taL P want,∀ (v:Value) (w:World),(Instr.typeAssert (.iface s v) xT t true).run P w=.ok (.tuple #[.iface s v,.bool true]) w:=fun s hs v w=>by
 have h:=(List.mem_filter.1 hs).2
 refine run_typeAssert_hasB hu ?_ v xT w
 unfold taB at h
 cases hi:P.info? s with
 | none=>rw [hi] at h; cases h
 | some i=>rw [hi] at h; simpa using h
def compOp (P:Program):Op→Option AOp
 | .move x=>match cx x with
  | some x=>some (.mv x)
  | none=>none
 | .assign x=>match cx x with
  | some x=>some (.mv x)
  | none=>none
 | .pick c a b=>match cx c,cx a,cx b with
  | some c,some a,some b=>some (.pick c a b)
  | _,_,_=>none
 | .alloc e=>match zeroA P e with
  | some (_,_,v)=>some (.new (cellsA v) e)
  | none=>none
 | .box e x=>match cx x with
  | some x=>some (.box e x)
  | none=>none
 | .build t ps=>match zeroA P t,P.underlying t with
  | some (_,_,v),some (.struct fields)=>match placesA P fields.toList with
   | some pl=>match cps (fun i=>pl.toArray[i]?) ps.toList with
    | some qs=>some (.build (cellsA v) qs)
    | none=>none
   | none=>none
  | some (_,_,v),some (.array _ e)=>match P.info? e with
   | some j=>match cps (fun i=>some (i*j.size,j.size)) ps.toList with
    | some qs=>some (.build (cellsA v) qs)
    | none=>none
   | none=>none
  | _,_=>none
 | .buildSlice t n ps=>match P.underlying t with
  | some (.slice e)=>match zeroA P e with
   | some (j,_,v)=>if n=0 then (match ps with
     | ⟨[]⟩=>some (.buildS e 0 [] [])
     | _=>none)
    else if (cellsA v).length=j.size∧0<j.size∧n*j.size≤2 ^ 24 then
     match cps (fun i=>some (i*j.size,j.size)) ps.toList with
     | some qs=>some (.buildS e n (zerosL (cellsA v) n) qs)
     | none=>none
    else none
   | none=>none
  | _=>none
 | .load t x=>match P.underlying t,P.info? t,cx x with
  | some d,some i,some x=>if aggD d=true then some (.ldN i.size x) else some (.ld1 x)
  | _,_,_=>none
 | .store t a x=>match P.info? t,cx a,cx x with
  | some i,some a,some x=>some (.st i.size a x)
  | _,_,_=>none
 | .nilCheck x=>match cx x with
  | some x=>some (.nchk x)
  | none=>none
 | .fieldAddr s x i=>match P.underlying s with
  | some (.struct fields)=>match fields[i]? with
   | some f=>match P.info? f.type,cx x with
    | some j,some x=>if j.size=0 then none else some (.fa f.offset x)
    | _,_=>none
   | none=>none
  | _=>none
 | .field s x i=>match P.underlying s with
  | some (.struct fields)=>match fields[i]? with
   | some f=>match P.underlying f.type,P.info? f.type,cx x with
    | some d,some j,some x=>if aggD d=true then some (.fld j.size f.offset x) else some (.fld1 f.offset x)
    | _,_,_=>none
   | none=>none
  | _=>none
 | .indexAddr t x i=>match P.underlying t with
  | some (.slice e)=>match P.info? e,cx x,cx i with
   | some j,some x,some i=>some (.ia j.size x i)
   | _,_,_=>none
  | some (.array len e)=>match P.info? e,cx x,cx i with
   | some j,some x,some i=>some (.iaA len j.size x i)
   | _,_,_=>none
  | _=>none
 | .extract x i=>match cx x with
  | some x=>some (.ext x i)
  | none=>none
 | .makeFunc (.func f) a b=>match mapO cx a.toList,mapO cx b.toList with
  | some a,some b=>some (.mkf f a b)
  | _,_=>none
 | .makeInterface t x=>match P.underlying t,cx x with
  | some (.interface _),_=>none
  | some _,some x=>some (.mki t x)
  | _,_=>none
 | .binOp op t x y _=>match cx x,cx y,P.underlying t with
  | some x',some y',some d=>match op with
   | .eql=>match eqT P x y d with
    | some ek=>some (.eq ek false x' y')
    | none=>match eaN P t d with
     | some n=>some (.eqA n false x' y')
     | none=>some (.ar .eql x' y')
   | .neq=>match eqT P x y d with
    | some ek=>some (.eq ek true x' y')
    | none=>match eaN P t d with
     | some n=>some (.eqA n true x' y')
     | none=>some (.ar .neq x' y')
   | op=>some (.ar op x' y')
  | _,_,_=>none
 | .unOp op _ x=>match cx x with
  | some x=>some (.un op x)
  | none=>none
 | .convert src dst x=>match P.underlying src,P.underlying dst,cx x with
  | some _,some (.int k),some x=>some (.cvI k x)
  | some (.slice e),some .string,some x=>match P.underlying e with
   | some (.int .u8)=>some (.cvT x)
   | _=>none
  | some _,some .string,some x=>some (.cvS x)
  | some _,some (.slice e),some x=>match P.underlying e,P.info? e with
   | some (.int .u8),some j=>if j.size=1 then some (.cvB e x) else none
   | _,_=>none
  | _,_,_=>none
 | .makeChan t x=>match P.underlying t,cx x with
  | some (.chan _ e),some x=>match P.info? e with
   | some j=>if j.bytes≤1048576 then some (.mkC x) else none
   | none=>none
  | _,_=>none
 | .call ⟨.builtin .len,⟨[x]⟩,⟨[t]⟩⟩=>match P.underlying t,cx x with
  | some .string,some x=>some (.lenS x)
  | some (.slice _),some x=>some (.len x)
  | some (.map _ _),some x=>some (.lenM x)
  | some (.chan _ _),some x=>some (.lenC x)
  | _,_=>none
 | .call ⟨.builtin .append,⟨[x,y]⟩,⟨[t,u]⟩⟩=>match P.underlying t,P.underlying u,cx x,cx y with
  | some (.slice e),some (.slice _),some x,some y=>match zeroA P e with
   | some (j,_,v)=>if (cellsA v).length=j.size∧0<j.size∧j.bytes≤1048576 then some (.app e j.size x y) else none
   | none=>none
  | some (.slice e),some .string,some x,some y=>match zeroA P e with
   | some (j,_,v)=>if (cellsA v).length=j.size∧0<j.size∧j.bytes≤1048576 then some (.app e j.size x y) else none
   | none=>none
  | _,_,_,_=>none
 | .call ⟨.builtin .clear,⟨[x]⟩,⟨[t]⟩⟩=>match P.underlying t,cx x with
  | some (.slice e),some x=>match zeroA P e with
   | some (_,_,v)=>if 0<(cellsA v).length then some (.clr (cellsA v) x) else none
   | none=>none
  | _,_=>none
 | .call ⟨.builtin .max,xs,_⟩=>match mapO cx xs.toList with
  | some xs=>some (.mm true xs)
  | none=>none
 | .call ⟨.builtin .min,xs,_⟩=>match mapO cx xs.toList with
  | some xs=>some (.mm false xs)
  | none=>none
 | .index t x i=>match P.underlying t,cx x,cx i with
  | some .string,some x,some i=>some (.ixS x i)
  | some (.array l elem),some x,some i=>match P.underlying elem,P.info? elem with
   | some d,some j=>if aggD d=false∧j.size=1 then some (.ix1 l x i) else none
   | _,_=>none
  | _,_,_=>none
 | .lookup t x k ok=>match P.underlying t,cx x,cx k with
  | some (.map key elem),some x,some k=>match P.underlying key,zeroA P elem with
   | some .string,some (_,_,v)=>some (.lk v ok x k)
   | some (.struct fs),some (_,_,v)=>if skB P key fs.size then some (.lkA fs.size v ok x k) else none
   | _,_=>none
  | _,_,_=>none
 | .mapUpdate t x k v=>match P.underlying t,cx x,cx k,cx v with
  | some (.map key _),some x,some k,some v=>match P.underlying key with
   | some .string=>some (.up x k v)
   | some (.struct fs)=>if skB P key fs.size then some (.upA fs.size x k v) else none
   | _=>none
  | _,_,_,_=>none
 | .makeSlice t l c=>match P.underlying t,cx l,cx c with
  | some (.slice e),some l,some c=>match zeroA P e with
   | some (j,_,v)=>if (cellsA v).length=j.size∧0<j.size∧j.bytes≤1048576 then some (.mkS e j.size (cellsA v) l c) else none
   | none=>none
  | _,_,_=>none
 | .slice t x lo hi mx=>match P.underlying t,cx x,cxo lo,cxo hi with
  | some (.slice e),some x,some lo',some hi'=>match P.info? e,cxo mx with
   | some j,some mx'=>if mx.isNone||hi.isSome then some (.sl j.size x lo' hi' mx') else none
   | _,_=>none
  | some .string,some x,some lo',some hi'=>match mx with
   | none=>some (.slS x lo' hi')
   | some _=>none
  | _,_,_,_=>none
 | .insert t x k v=>match P.underlying t,cx x,cx k,cx v with
  | some (.map key _),some x,some k,some v=>match P.underlying key with
   | some .string=>some (.up x k v)
   | _=>none
  | _,_,_,_=>none
 | .makeMap _ none=>some .mkM
 | .range t x=>match P.underlying t,cx x with
  | some .string,some x=>some (.rng x)
  | _,_=>none
 | .next x true=>match cx x with
  | some x=>some (.nxt x)
  | none=>none
 | .typeAssert x _ t true=>match P.underlying t,cx x with
  | some (.interface want),some x=>some (.ta (taL P want) x)
  | _,_=>none
 | _=>none
end Go.Proofs.YtidggaoacldgkaaGreatDoor.X
