/- An executor for closed calls, 4: operands, and what an operation gives. -/
import Derived.Test.YtidggaoacldgkaaGreatDoorXC
import Derived.Test.YtidggaoacldgkaaGreatDoorXSL
namespace Go.Proofs.YtidggaoacldgkaaGreatDoor.X
open Go.RowKit
inductive AX where
 | t (p:Sl)
 | c (v:AV)
def Lone (v:AV) (x:Value):Prop:=(∀ r,conc r v=x)∧∀ n,okV n v
def Cx:Operand→AX→Prop
 | .tmp t,x=>∃ p,x=.t p∧p.toNat=t
 | .const y,x=>∃ v,x=.c v∧Lone v y
 | .func f,x=>x=.c (.fn (.func f) [] [])
 | .global _,_=>False
def TR (r:Rho) (tm:S) (ts:Array Value):Prop:=∀ p v,tm.find p=some v→ts[p.toNat]?=some (conc r v)∧okV r.has v
theorem TR.le {r s:Rho} {tm:S} {ts:Array Value} (h:r.Le s) (H:TR r tm ts):TR s tm ts:=fun p v hp=>by
 obtain ⟨h1,h2⟩:=H p v hp
 exact ⟨by rw [conc_le h h2]; exact h1,h2.mono h.has⟩
theorem TR.put {r:Rho} {tm:S} {ts:Array Value} (H:TR r tm ts) {p:Sl} {v:AV} (hp:p.toNat<ts.size) (hv:okV r.has v):TR r (tm.set v p) (ts.setIfInBounds p.toNat (conc r v)):=fun q u hq=>by
 by_cases e:q=p
 ·subst e
  rw [S.find_set] at hq; cases hq
  exact ⟨by simp [hp],hv⟩
 ·rw [S.find_set_ne _ _ _ _ e] at hq
  obtain ⟨h1,h2⟩:=H q u hq
  exact ⟨by rw [Array.getElem?_setIfInBounds_ne (fun h=>e (Sl.inj h.symm))]; exact h1,h2⟩
def evT (p:Sl) (tm:S) (c:AV→Prop):Prop:=p.rd tm c
def evC (v:AV) (_:S) (c:AV→Prop):Prop:=c v
def evK (tm:S) (x:AX) (c:AV→Prop):Prop :=
 AX.rec (motive:=fun _=>S→(AV→Prop)→Prop) evT evC x tm c
theorem evK_spec {r:Rho} {tm:S} {a:Act} {o:Operand} {x:AX} {c:AV→Prop} (hx:Cx o x) (ht:TR r tm a.tmps) (h:evK tm x c):∃ v,c v∧a.eval o=conc r v∧okV r.has v:=by
 cases o with
 | tmp t =>
  obtain ⟨p,rfl,rfl⟩:=hx
  obtain ⟨v,hv,hc⟩:=(S.getK_iff c tm p).1 h
  obtain ⟨h1,h2⟩:=ht p v hv
  exact ⟨v,hc,by simp [Act.eval,h1],h2⟩
 | const y =>
  obtain ⟨v,rfl,hv⟩:=hx
  exact ⟨v,h,by simp [Act.eval,hv.1 r],hv.2 _⟩
 | func f =>
  obtain rfl:=hx
  exact ⟨_,h,by simp [Act.eval,conc,concL],by simp [okV,okL]⟩
 | global g=>exact hx.elim
abbrev EVs:=S→(List AV→Prop)→Prop
def evsN (_:S) (c:List AV→Prop):Prop:=c []
def evsC (x:AX) (_:List AX) (ih:EVs) (tm:S) (c:List AV→Prop):Prop:=evK tm x fun v=>ih tm fun vs=>c (v :: vs)
def evsK (tm:S) (l:List AX) (c:List AV→Prop):Prop:=List.rec (motive:=fun _=>EVs) evsN evsC l tm c
def Cxs:List Operand→List AX→Prop
 | [],[]=>True
 | o :: os,x :: xs=>Cx o x∧Cxs os xs
 | _,_=>False
theorem evsK_spec {r:Rho} {tm:S} {a:Act} (ht:TR r tm a.tmps):∀ {os:List Operand} {xs:List AX} {c:List AV→Prop},Cxs os xs→evsK tm xs c→∃ vs,c vs∧os.map a.eval=concL r vs∧okL r.has vs
 | [],[],_,_,h=>⟨[],h,by simp [concL],by simp [okL]⟩
 | _ :: _,[],_,h,_=>h.elim
 | [],_ :: _,_,h,_=>h.elim
 | o :: os,x :: xs,c,hc,h=>by
  obtain ⟨v,h1,h2,h3⟩:=evK_spec hc.1 ht h
  obtain ⟨vs,g1,g2,g3⟩:=evsK_spec ht hc.2 h1
  exact ⟨v :: vs,g1,by simp [concL,h2,g2],by simp [okL,h3,g3]⟩
def forceL {α:Type} (l:List α) (c:List α→Prop):Prop :=
 List.rec (motive:=fun _=>(List α→Prop)→Prop) (fun c=>c []) (fun v _ ih c=>ih fun l=>c (v :: l)) l c
theorem forceL_iff {α:Type}:∀ (l:List α) (c:List α→Prop),forceL l c↔c l
 | [],_=>Iff.rfl
 | v :: l,c=>forceL_iff l (fun l=>c (v :: l))
def forceN (n:Nat) (c:Nat→Prop):Prop:=Nat.rec (motive:=fun _=>Prop) (c 0) (fun m _=>c (Nat.succ m)) n
theorem forceN_iff (n:Nat) (c:Nat→Prop):forceN n c↔c n:=by cases n <;> exact Iff.rfl
def forceI (n:Int) (c:Int→Prop):Prop:=Int.rec (motive:=fun _=>Prop) (fun m=>forceN m fun m=>c (.ofNat m)) (fun m=>forceN m fun m=>c (.negSucc m)) n
theorem forceI_iff (n:Int) (c:Int→Prop):forceI n c↔c n:=by
 cases n with
 | ofNat m=>exact forceN_iff m (fun m=>c (.ofNat m))
 | negSucc m=>exact forceN_iff m (fun m=>c (.negSucc m))
def forceB (b:Bool) (c:Bool→Prop):Prop:=Bool.rec (motive:=fun _=>Prop) (c false) (c true) b
theorem forceB_iff (b:Bool) (c:Bool→Prop):forceB b c↔c b:=by cases b <;> exact Iff.rfl
def forceP (p:Pt) (c:Pt→Prop):Prop :=
 Pt.rec (motive:=fun _=>(Pt→Prop)→Prop) (fun c=>c .e) (fun _ ih c=>ih fun p=>c (.z p)) (fun _ ih c=>ih fun p=>c (.o p)) p c
theorem forceP_iff:∀ (p:Pt) (c:Pt→Prop),forceP p c↔c p
 | .e,_=>Iff.rfl
 | .z p,c=>forceP_iff p (fun p=>c (.z p))
 | .o p,c=>forceP_iff p (fun p=>c (.o p))
def cellsA:AV→List AV
 | .agg vs=>vs
 | v=>[v]
theorem conc_cells (r:Rho) (v:AV):(conc r v).cells=(concL r (cellsA v)).toArray:=by
 cases v <;> simp [conc,Value.cells,cellsA,concL]
theorem okL_cells {n:Pt→Prop} {v:AV} (h:okV n v):okL n (cellsA v):=by
 cases v <;> first | (simp only [cellsA,okL,and_true]; exact h) | exact h
def flat1:AV→Bool
 | .agg _=>false
 | .tup _=>false
 | _=>true
def flatB:List AV→Bool
 | []=>true
 | v :: vs=>flat1 v&&flatB vs
theorem flatB_spec:∀ {l:List AV},flatB l=true→flatL l
 | [],_=>trivial
 | v :: vs,h=>by
  simp only [flatB,Bool.and_eq_true] at h
  refine ⟨?_,flatB_spec h.2⟩
  cases v <;> first | trivial | (simp [flat1] at h)
def Yields (P:Program) (w0:World) (r:Rho) (h:T AO) (w:World) (s:Sem Next) (K:AV→T AO→Pt→Prop):Prop :=
 ∃ r' h' nx' w' v n,K v h' nx'∧s.run P w=.ok n w'∧(n=.value (conc r' v)∨n=.skip∧conc r' v=undef)∧WR P w0 r' h' nx' w'∧Ev r h w r' h' w'∧okV r'.has v
section
variable {P:Program} {w0:World} {r:Rho} {h:T AO} {nx:Pt} {w:World} {K:AV→T AO→Pt→Prop}
theorem Yields.pure (H:WR P w0 r h nx w) {v:AV} {s:Sem Next} (hk:K v h nx) (hr:s.run P w=.ok (.value (conc r v)) w) (hv:okV r.has v):Yields P w0 r h w s K :=
 ⟨r,h,nx,w,v,_,hk,hr,.inl rfl,H,.refl r h w,hv⟩
theorem run_value {s:Sem Value} {w w':World} {v:Value} (h:s.run P w=.ok v w'):((do pure (Next.value (← s))):Sem Next).run P w=.ok (.value v) w':=by
 rw [run_ok_bind h]; rfl
theorem run_skip {s:Sem Unit} {w w':World} (h:s.run P w=.ok () w'):((do s; pure Next.skip):Sem Next).run P w=.ok .skip w':=by
 rw [run_ok_bind h]; rfl
theorem Yields.pureV (H:WR P w0 r h nx w) {v:AV} {s:Sem Value} (hk:K v h nx) (hr:s.run P w=.ok (conc r v) w) (hv:okV r.has v):Yields P w0 r h w (do Pure.pure (Next.value (← s))) K :=
 Yields.pure H hk (run_value hr) hv
end
inductive EK where
 | b | p | s | m | f | i
inductive AOp where
 | mv (x:AX)
 | pick (c a b:AX)
 | new (vs:List AV) (e:TypeId)
 | box (e:TypeId) (x:AX)
 | build (z:List AV) (ps:List (Nat × Nat × AX))
 | buildS (e:TypeId) (n:Nat) (z:List AV) (ps:List (Nat × Nat × AX))
 | ld1 (x:AX)
 | ldN (n:Nat) (x:AX)
 | st (n:Nat) (a x:AX)
 | nchk (x:AX)
 | fa (o:Nat) (x:AX)
 | fld (n o:Nat) (x:AX)
 | fld1 (o:Nat) (x:AX)
 | ia (n:Nat) (x i:AX)
 | iaA (len n:Nat) (x i:AX)
 | ext (x:AX) (i:Nat)
 | mkf (f:FuncId) (a b:List AX)
 | mki (t:TypeId) (x:AX)
 | ar (op:BinOp) (x y:AX)
 | eq (ek:EK) (neg:Bool) (x y:AX)
 | un (op:UnOp) (x:AX)
 | cvI (k:IntKind) (x:AX)
 | cvS (x:AX)
 | lenS (x:AX)
 | len (x:AX)
 | lenM (x:AX)
 | lenC (x:AX)
 | mkC (x:AX)
 | ixS (x i:AX)
 | cvB (e:TypeId) (x:AX)
 | cvT (x:AX)
 | clr (z:List AV) (x:AX)
 | ix1 (l:Nat) (x i:AX)
 | lk (z:AV) (ok:Bool) (x k:AX)
 | up (x k v:AX)
 | lkA (n:Nat) (z:AV) (ok:Bool) (x k:AX)
 | upA (n:Nat) (x k v:AX)
 | mkS (e:TypeId) (n:Nat) (z:List AV) (l c:AX)
 | sl (n:Nat) (x:AX) (lo hi mx:Option AX)
 | slS (x:AX) (lo hi:Option AX)
 | app (e:TypeId) (n:Nat) (x y:AX)
 | mm (max:Bool) (xs:List AX)
 | mkM
 | rng (x:AX)
 | nxt (x:AX)
 | eqA (n:Nat) (neg:Bool) (x y:AX)
 | ta (ts:List Nat) (x:AX)
def semV (s:Sem Value) (c:AV→Prop):Prop :=
 match s with
 | .pure (.int k n)=>forceI n fun n=>c (.int k n)
 | .pure (.bool b)=>forceB b fun b=>c (.bool b)
 | _=>False
def eqI:Int→Int→Bool
 | .ofNat x,.ofNat y=>Nat.beq x y
 | .negSucc x,.negSucc y=>Nat.beq x y
 | _,_=>false
def ltI:Int→Int→Bool
 | .ofNat x,.ofNat y=>Nat.blt x y
 | .negSucc x,.negSucc y=>Nat.blt y x
 | .negSucc _,.ofNat _=>true
 | .ofNat _,.negSucc _=>false
def wrapK (k:IntKind) (n:Int) (c:AV→Prop):Prop :=
 match k,n with
 | .i64,.ofNat m=>Bool.rec (motive:=fun _=>Prop) (forceI (IntKind.wrap .i64 (.ofNat m)) fun n=>c (.int .i64 n)) (forceN m fun m=>c (.int .i64 (.ofNat m))) (Nat.blt m 9223372036854775808)
 | k,n=>forceI (k.wrap n) fun n=>c (.int k n)
def arI (op:BinOp) (k k':IntKind) (a b:Int) (c:AV→Prop):Prop :=
 match op with
 | .add=>Bool.rec (motive:=fun _=>Prop) False (wrapK k (Int.add a b) c) (decide (k=k'))
 | .sub=>Bool.rec (motive:=fun _=>Prop) False (wrapK k (Int.sub a b) c) (decide (k=k'))
 | .mul=>Bool.rec (motive:=fun _=>Prop) False (wrapK k (Int.mul a b) c) (decide (k=k'))
 | .eql=>Bool.rec (motive:=fun _=>Prop) False (forceB (eqI a b) fun x=>c (.bool x)) (decide (k=k'))
 | .neq=>Bool.rec (motive:=fun _=>Prop) False (forceB (!eqI a b) fun x=>c (.bool x)) (decide (k=k'))
 | .lss=>Bool.rec (motive:=fun _=>Prop) False (forceB (ltI a b) fun x=>c (.bool x)) (decide (k=k'))
 | .leq=>Bool.rec (motive:=fun _=>Prop) False (forceB (!ltI b a) fun x=>c (.bool x)) (decide (k=k'))
 | .gtr=>Bool.rec (motive:=fun _=>Prop) False (forceB (ltI b a) fun x=>c (.bool x)) (decide (k=k'))
 | .geq=>Bool.rec (motive:=fun _=>Prop) False (forceB (!ltI a b) fun x=>c (.bool x)) (decide (k=k'))
 | .quo | .rem=>Bool.rec (motive:=fun _=>Prop) False (semV (Op.intDiv op k a b) c) (decide (k=k'))
 | .and | .or | .xor | .andNot=>Bool.rec (motive:=fun _=>Prop) False (semV (Op.intBits op k a b) c) (decide (k=k'))
 | .shl | .shr=>semV (Op.shift op k a k' b) c
def eqN:List Nat→List Nat→Bool
 | [],[]=>true
 | a :: x,b :: y=>Nat.beq a b&&eqN x y
 | _,_=>false
def ltN:List Nat→List Nat→Bool
 | _,[]=>false
 | [],_ :: _=>true
 | a :: x,b :: y=>Nat.blt a b||(Nat.beq a b&&ltN x y)
def arS (op:BinOp) (a b:List Nat) (c:AV→Prop):Prop :=
 match op with
 | .add=>Bool.rec (motive:=fun _=>Prop) False (forceL (a ++ b) fun s=>c (.str s)) (Nat.ble (a.length+b.length) 1000000000)
 | .eql=>forceB (eqN a b) fun x=>c (.bool x)
 | .neq=>forceB (!eqN a b) fun x=>c (.bool x)
 | .lss=>forceB (ltN a b) fun x=>c (.bool x)
 | _=>False
def eqK (ek:EK) (h:T AO) (a b:AV) (c:Bool→Prop):Prop :=
 match ek,a,b with
 | .b,.bool x,.bool y=>forceB (x == y) c
 | .p,.nilp,.nilp=>c true
 | .p,.nilp,.ptr _ _=>c false
 | .p,.ptr _ _,.nilp=>c false
 | .p,.ptr k o,.ptr k' o'=>h.getK k fun x=>match x with
  | .cells _ _=>h.getK k' fun y=>match y with
   | .cells _ _=>forceB (eqP k k'&&Nat.beq o o') c
   | _=>False
  | _=>False
 | .s,.nils,.nils=>c true
 | .s,.nils,.sl _ _ _ _ _=>c false
 | .s,.sl _ _ _ _ _,.nils=>c false
 | .s,.nils,.slz _ _ _=>c false
 | .s,.slz _ _ _,.nils=>c false
 | .m,.nilm,.nilm=>c true
 | .m,.nilm,.map _=>c false
 | .m,.map _,.nilm=>c false
 | .f,.nilf,.nilf=>c true
 | .f,.nilf,.fn _ _ _=>c false
 | .f,.fn _ _ _,.nilf=>c false
 | .i,.nili,.nili=>c true
 | .i,.nili,.iface _ _=>c false
 | .i,.iface _ _,.nili=>c false
 | _,_,_=>False
def bdK (tm:S) (x:Option AX) (d n:Nat) (c:Nat→Prop):Prop :=
 match x with
 | none=>c d
 | some x=>evK tm x fun v=>match v with
  | .int _ (.ofNat j)=>Bool.rec (motive:=fun _=>Prop) False (c j) (Nat.ble j n)
  | _=>False
def mmK (max:Bool) (k:IntKind):List AV→Int→(AV→Prop)→Prop
 | [],n,c=>c (.int k n)
 | .int _ m :: l,n,c=>forceB (bif max then ltI n m else ltI m n) fun b=>Bool.rec (motive:=fun _=>Prop) (mmK max k l n c) (mmK max k l m c) b
 | _,_,_=>False
def zerosL (z:List AV):Nat→List AV
 | 0=>[]
 | n+1=>z ++ zerosL z n
def fillK (tm:S):List (Nat × Nat × AX)→List AV→(List AV→Prop)→Prop :=
 fun l=>List.rec (motive:=fun _=>List AV→(List AV→Prop)→Prop) (fun z c=>c z)
  (fun p _ ih z c=>evK tm p.2.2 fun v=>forceB (Nat.beq (cellsA v).length p.2.1&&Nat.ble (p.1+p.2.1) z.length) fun b =>
   Bool.rec (motive:=fun _=>Prop) False (ih (putL z p.1 (cellsA v)) c) b) l
def atK (i:AV) (n:Nat) (c:Nat→Prop):Prop :=
 match i with
 | .int _ (.ofNat j)=>Bool.rec (motive:=fun _=>Prop) False (c j) (Nat.blt j n)
 | _=>False
theorem atK_spec {i:AV} {n:Nat} {c:Nat→Prop} (h:atK i n c):∃ k j,i=.int k (Int.ofNat j)∧j<n∧c j:=by
 unfold atK at h
 split at h
 ·rename_i k j
  cases hb:Nat.blt j n with
  | false=>rw [hb] at h; exact h.elim
  | true=>rw [hb] at h; exact ⟨k,j,rfl,by simpa [Nat.blt_eq] using hb,h⟩
 ·exact h.elim
def srcK (h:T AO) (n:Nat) (b:AV) (c:Nat→List AV→Prop):Prop :=
 match b with
 | .nils=>c 0 []
 | .slz _ _ _=>c 0 []
 | .sl k o l _ _=>h.getK k fun x=>match x with
  | .cells vs _=>Bool.rec (motive:=fun _=>Prop) False (forceL ((vs.drop o).take (l*n)) fun us=>c l us) (Nat.ble (o+l*n) vs.length)
  | .frz vs _=>Bool.rec (motive:=fun _=>Prop) False (forceL ((vs.drop o).take (l*n)) fun us=>c l us) (Nat.ble (o+l*n) vs.length)
  | _=>False
 | .str s=>Bool.rec (motive:=fun _=>Prop) False (forceL (s.map fun b=>AV.int .u8 (.ofNat b)) fun us=>forceN s.length fun m=>c m us) (Nat.beq n 1)
 | _=>False
def appK (h:T AO) (nx:Pt) (e:TypeId) (n:Nat) (a b:AV) (K:AV→T AO→Pt→Prop):Prop :=
 srcK h n b fun m us=>match a with
  | .nils=>Bool.rec (motive:=fun _=>Prop) (Bool.rec (motive:=fun _=>Prop) False (h.setK (.cells us e) nx fun h'=>succK nx fun n'=>K (.sl nx 0 m m true) h' n') (Nat.ble m 1048576)) (K .nils h nx) (Nat.beq m 0)
  | .sl k o l c op=>h.getK k fun x=>match x with
   | .cells vs e'=>Bool.rec (motive:=fun _=>Prop)
     (Bool.rec (motive:=fun _=>Prop)
      (Bool.rec (motive:=fun _=>Prop) False (forceL ((vs.drop o).take (l*n) ++ us) fun ws=>h.setK (.cells ws e) nx fun h'=>succK nx fun n'=>forceN (l+m) fun l=>K (.sl nx 0 l l true) h' n') (Nat.ble (o+l*n) vs.length&&Nat.ble (l+m) 1048576))
      (Bool.rec (motive:=fun _=>Prop) False (forceL (vs ++ us) fun ws=>(h.del k).setK (.cells ws e) nx fun h'=>succK nx fun n'=>forceN (l+m) fun l=>K (.sl nx 0 l l true) h' n') (Nat.beq o 0&&Nat.beq l c&&Nat.beq (l*n) vs.length&&Nat.beq e e'&&flatB us&&Nat.ble (l+m) 1048576)) op)
     (Bool.rec (motive:=fun _=>Prop) False (forceL (putL vs (o+l*n) us) fun ws=>h.setK (.cells ws e') k fun h'=>forceN (l+m) fun l=>K (.sl k o l c op) h' nx) (Nat.ble (o+c*n) vs.length&&flatB us))
     (Nat.ble (l+m) c)
   | .frz vs e'=>Bool.rec (motive:=fun _=>Prop) False (forceL (vs ++ us) fun ws=>(h.del k).setK (.frz ws e) nx fun h'=>succK nx fun n'=>forceN (l+m) fun l=>K (.sl nx 0 l l true) h' n')
     (op&&Nat.blt c (l+m)&&Nat.beq o 0&&Nat.beq l c&&Nat.beq (l*n) vs.length&&Nat.beq e e'&&flatB us&&Nat.ble (l+m) 1048576)
   | _=>False
  | _=>False
def oMv (x:AX) (tm:S) (h:T AO) (nx:Pt) (K:AV→T AO→Pt→Prop):Prop :=
 evK tm x fun v=>K v h nx
def oPick (c:AX) (a:AX) (b:AX) (tm:S) (h:T AO) (nx:Pt) (K:AV→T AO→Pt→Prop):Prop :=
 evK tm c fun c=>match c with
  | .bool true=>evK tm a fun v=>K v h nx
  | .bool false=>evK tm b fun v=>K v h nx
  | _=>False
def oNew (vs:List AV) (e:TypeId) (_:S) (h:T AO) (nx:Pt) (K:AV→T AO→Pt→Prop):Prop :=
 h.setK (.cells vs e) nx fun h'=>succK nx fun n'=>K (.ptr nx 0) h' n'
def oBox (e:TypeId) (x:AX) (tm:S) (h:T AO) (nx:Pt) (K:AV→T AO→Pt→Prop):Prop :=
 evK tm x fun v=>h.setK (.cells (cellsA v) e) nx fun h'=>succK nx fun n'=>K (.ptr nx 0) h' n'
def oBuild (z:List AV) (ps:List (Nat × Nat × AX)) (tm:S) (h:T AO) (nx:Pt) (K:AV→T AO→Pt→Prop):Prop :=
 fillK tm ps z fun vs=>forceL vs fun vs=>K (.agg vs) h nx
def oBuildS (e:TypeId) (n:Nat) (z:List AV) (ps:List (Nat × Nat × AX)) (tm:S) (h:T AO) (nx:Pt) (K:AV→T AO→Pt→Prop):Prop :=
 fillK tm ps z fun vs=>forceL vs fun vs=>h.setK (.cells vs e) nx fun h'=>succK nx fun n'=>K (.sl nx 0 n n false) h' n'
def oLd1 (x:AX) (tm:S) (h:T AO) (nx:Pt) (K:AV→T AO→Pt→Prop):Prop :=
 evK tm x fun v=>match v with
  | .ptr k o=>h.getK k fun b=>match b with
   | .cells vs _=>match vs[o]? with
    | some u=>K u h nx
    | none=>False
   | .frz vs _=>match vs[o]? with
    | some u=>K u h nx
    | none=>False
   | _=>False
  | _=>False
def oLdN (n:Nat) (x:AX) (tm:S) (h:T AO) (nx:Pt) (K:AV→T AO→Pt→Prop):Prop :=
 evK tm x fun v=>match v with
  | .ptr k o=>h.getK k fun b=>match b with
   | .cells vs _=>Bool.rec (motive:=fun _=>Prop) False (forceL ((vs.drop o).take n) fun us=>K (.agg us) h nx) (Nat.ble (o+n) vs.length)
   | _=>False
  | _=>False
def oSt (n:Nat) (a:AX) (x:AX) (tm:S) (h:T AO) (nx:Pt) (K:AV→T AO→Pt→Prop):Prop :=
 evK tm a fun a=>match a with
  | .ptr k o=>evK tm x fun x=>h.getK k fun b=>match b with
   | .cells vs e=>Bool.rec (motive:=fun _=>Prop) False (forceL (putL vs o (cellsA x)) fun us=>h.setK (.cells us e) k fun h'=>K (.tup []) h' nx) (Nat.beq (cellsA x).length n&&Nat.ble (o+n) vs.length&&flatB (cellsA x))
   | _=>False
  | _=>False
def oNchk (x:AX) (tm:S) (h:T AO) (nx:Pt) (K:AV→T AO→Pt→Prop):Prop :=
 evK tm x fun v=>match v with
  | .nilp=>False
  | .nili=>False
  | .nilf=>False
  | .fn (.func f) a b=>K (.fn (.func f) a b) h nx
  | .fn _ _ _=>False
  | v=>K v h nx
def oFa (d:Nat) (x:AX) (tm:S) (h:T AO) (nx:Pt) (K:AV→T AO→Pt→Prop):Prop :=
 evK tm x fun v=>match v with
  | .ptr k o=>forceN (o+d) fun o=>K (.ptr k o) h nx
  | _=>False
def oFld (n:Nat) (o:Nat) (x:AX) (tm:S) (h:T AO) (nx:Pt) (K:AV→T AO→Pt→Prop):Prop :=
 evK tm x fun v=>match v with
  | .agg vs=>forceL ((vs.drop o).take n) fun us=>K (.agg us) h nx
  | _=>False
def oFld1 (o:Nat) (x:AX) (tm:S) (h:T AO) (nx:Pt) (K:AV→T AO→Pt→Prop):Prop :=
 evK tm x fun v=>match v with
  | .agg vs=>match vs[o]? with
   | some u=>K u h nx
   | none=>False
  | _=>False
def oIa (n:Nat) (x:AX) (i:AX) (tm:S) (h:T AO) (nx:Pt) (K:AV→T AO→Pt→Prop):Prop :=
 evK tm x fun v=>match v with
  | .sl k o l _ _=>evK tm i fun i=>atK i l fun j=>forceN (o+j*n) fun o=>K (.ptr k o) h nx
  | _=>False
def oIaA (len:Nat) (n:Nat) (x:AX) (i:AX) (tm:S) (h:T AO) (nx:Pt) (K:AV→T AO→Pt→Prop):Prop :=
 evK tm x fun v=>match v with
  | .ptr k o=>evK tm i fun i=>atK i len fun j=>forceN (o+j*n) fun o=>K (.ptr k o) h nx
  | _=>False
def oExt (x:AX) (i:Nat) (tm:S) (h:T AO) (nx:Pt) (K:AV→T AO→Pt→Prop):Prop :=
 evK tm x fun v=>match v with
  | .tup vs=>match vs[i]? with
   | some u=>K u h nx
   | none=>False
  | _=>False
def oMkf (f:FuncId) (a:List AX) (b:List AX) (tm:S) (h:T AO) (nx:Pt) (K:AV→T AO→Pt→Prop):Prop :=
 evsK tm a fun a=>evsK tm b fun b=>K (.fn (.func f) a b) h nx
def oMki (t:TypeId) (x:AX) (tm:S) (h:T AO) (nx:Pt) (K:AV→T AO→Pt→Prop):Prop :=
 evK tm x fun v=>K (.iface t v) h nx
def oAr (op:BinOp) (x:AX) (y:AX) (tm:S) (h:T AO) (nx:Pt) (K:AV→T AO→Pt→Prop):Prop :=
 evK tm x fun a=>evK tm y fun b=>match a,b with
  | .int k a,.int k' b=>arI op k k' a b fun v=>K v h nx
  | .str a,.str b=>arS op a b fun v=>K v h nx
  | _,_=>False
def oEq (ek:EK) (neg:Bool) (x:AX) (y:AX) (tm:S) (h:T AO) (nx:Pt) (K:AV→T AO→Pt→Prop):Prop :=
 evK tm x fun a=>evK tm y fun b=>eqK ek h a b fun x=>forceB (neg != x) fun x=>K (.bool x) h nx
def oUn (op:UnOp) (x:AX) (tm:S) (h:T AO) (nx:Pt) (K:AV→T AO→Pt→Prop):Prop :=
 evK tm x fun a=>match op,a with
  | .not,.bool b=>forceB (!b) fun b=>K (.bool b) h nx
  | .neg,.int k n=>wrapK k (Int.sub 0 n) fun v=>K v h nx
  | .xor,.int k n=>semV (Op.intBits .xor k (if k.signed then -1 else k.max) n) fun v=>K v h nx
  | _,_=>False
def oCvI (k:IntKind) (x:AX) (tm:S) (h:T AO) (nx:Pt) (K:AV→T AO→Pt→Prop):Prop :=
 evK tm x fun a=>match a with
  | .int _ n=>wrapK k n fun v=>K v h nx
  | _=>False
def oCvS (x:AX) (tm:S) (h:T AO) (nx:Pt) (K:AV→T AO→Pt→Prop):Prop :=
 evK tm x fun a=>match a with
  | .str s=>K (.str s) h nx
  | .int _ (.ofNat n)=>Bool.rec (motive:=fun _=>Prop) False (K (.str [n]) h nx) (Nat.blt n 128)
  | _=>False
def oLenS (x:AX) (tm:S) (h:T AO) (nx:Pt) (K:AV→T AO→Pt→Prop):Prop :=
 evK tm x fun a=>match a with
  | .str s=>forceN s.length fun n=>K (.int .i64 (.ofNat n)) h nx
  | _=>False
def oLen (x:AX) (tm:S) (h:T AO) (nx:Pt) (K:AV→T AO→Pt→Prop):Prop :=
 evK tm x fun a=>match a with
  | .nils=>K (.int .i64 (.ofNat 0)) h nx
  | .sl _ _ l _ _=>K (.int .i64 (.ofNat l)) h nx
  | .slz _ _ _=>K (.int .i64 (.ofNat 0)) h nx
  | _=>False
def oLenM (x:AX) (tm:S) (h:T AO) (nx:Pt) (K:AV→T AO→Pt→Prop):Prop :=
 evK tm x fun a=>match a with
  | .nilm=>K (.int .i64 (.ofNat 0)) h nx
  | .map k=>h.getK k fun b=>match b with
   | .map es _=>forceN es.length fun n=>K (.int .i64 (.ofNat n)) h nx
   | _=>False
  | _=>False
def oLenC (x:AX) (tm:S) (h:T AO) (nx:Pt) (K:AV→T AO→Pt→Prop):Prop :=
 evK tm x fun a=>match a with
  | .nilc=>K (.int .i64 (.ofNat 0)) h nx
  | .chan k=>h.getK k fun b=>match b with
   | .chan _ buf=>forceN buf.length fun n=>K (.int .i64 (.ofNat n)) h nx
   | _=>False
  | _=>False
def oMkC (x:AX) (tm:S) (h:T AO) (nx:Pt) (K:AV→T AO→Pt→Prop):Prop :=
 evK tm x fun a=>match a with
  | .int _ (.ofNat n)=>Bool.rec (motive:=fun _=>Prop) False (h.setK (.chan n []) nx fun h'=>succK nx fun n'=>K (.chan nx) h' n') (Nat.ble n 100000)
  | _=>False
def oIxS (x:AX) (i:AX) (tm:S) (h:T AO) (nx:Pt) (K:AV→T AO→Pt→Prop):Prop :=
 evK tm x fun a=>match a with
  | .str s=>evK tm i fun i=>atK i s.length fun j=>match s[j]? with
   | some b=>forceN (b % 256) fun b=>K (.int .u8 (.ofNat b)) h nx
   | none=>False
  | _=>False
def oCvB (e:TypeId) (x:AX) (tm:S) (h:T AO) (nx:Pt) (K:AV→T AO→Pt→Prop):Prop :=
 evK tm x fun a=>match a with
  | .str s=>forceL (s.map fun b=>AV.int .u8 (.ofNat b)) fun us=>h.setK (.frz us e) nx fun h'=>succK nx fun n'=>forceN s.length fun m=>K (.sl nx 0 m m true) h' n'
  | _=>False
def bsK (l:List AV) (c:List Nat→Prop):Prop :=
 List.rec (motive:=fun _=>(List Nat→Prop)→Prop) (fun c=>c []) (fun v _ ih c=>match v with
  | .int .u8 (.ofNat b)=>Bool.rec (motive:=fun _=>Prop) False (ih fun l=>c (b :: l)) (Nat.blt b 256)
  | _=>False) l c
def oCvT (x:AX) (tm:S) (h:T AO) (nx:Pt) (K:AV→T AO→Pt→Prop):Prop :=
 evK tm x fun a=>match a with
  | .nils=>K (.str []) h nx
  | .sl k o l _ _=>h.getK k fun b=>match b with
   | .cells vs _=>Bool.rec (motive:=fun _=>Prop) False (bsK ((vs.drop o).take l) fun s=>K (.str s) h nx) (Nat.ble (o+l) vs.length)
   | .frz vs _=>Bool.rec (motive:=fun _=>Prop) False (bsK ((vs.drop o).take l) fun s=>K (.str s) h nx) (Nat.ble (o+l) vs.length)
   | _=>False
  | _=>False
def oClr (z:List AV) (x:AX) (tm:S) (h:T AO) (nx:Pt) (K:AV→T AO→Pt→Prop):Prop :=
 evK tm x fun a=>match a with
  | .nils=>K (.tup []) h nx
  | .slz _ _ _=>K (.tup []) h nx
  | .sl k o l _ _=>match l with
   | 0=>K (.tup []) h nx
   | l+1=>h.getK k fun b=>match b with
    | .cells vs e=>Bool.rec (motive:=fun _=>Prop) False (forceL (putL vs o (zerosL z (l+1))) fun us=>h.setK (.cells us e) k fun h'=>K (.tup []) h' nx) (Nat.ble (o+(zerosL z (l+1)).length) vs.length&&flatB (zerosL z (l+1)))
    | _=>False
  | _=>False
def oIx1 (l:Nat) (x:AX) (i:AX) (tm:S) (h:T AO) (nx:Pt) (K:AV→T AO→Pt→Prop):Prop :=
 evK tm x fun a=>match a with
  | .agg vs=>evK tm i fun i=>atK i l fun j=>match vs[j]? with
   | some v=>K v h nx
   | none=>False
  | _=>False
def lkE (s:List Nat) (es:List (AV × AV × Nat)) (c:Option AV→Prop):Prop :=
 List.rec (motive:=fun _=>Prop) (c none) (fun e _ ih=>match e.1 with
  | .str s'=>Bool.rec (motive:=fun _=>Prop) ih (c (some e.2.1)) (eqN s s')
  | _=>False) es
def lkR (z:AV) (ok:Bool) (v:Option AV) (c:AV→Prop):Prop:=match v with
 | some v=>Bool.rec (motive:=fun _=>Prop) (c v) (c (.tup [v,.bool true])) ok
 | none=>Bool.rec (motive:=fun _=>Prop) (c z) (c (.tup [z,.bool false])) ok
def oLk (z:AV) (ok:Bool) (x k:AX) (tm:S) (h:T AO) (nx:Pt) (K:AV→T AO→Pt→Prop):Prop :=
 evK tm k fun k=>match k with
  | .str s=>evK tm x fun a=>match a with
   | .nilm=>lkR z ok none fun v=>K v h nx
   | .map m=>h.getK m fun b=>match b with
    | .map es _=>lkE s es fun v=>lkR z ok v fun v=>K v h nx
    | _=>False
   | _=>False
  | _=>False
def upE (s:List Nat) (v:AV) (es:List (AV × AV × Nat)) (c:Option (List (AV × AV × Nat))→Prop):Prop :=
 List.rec (motive:=fun _=>(Option (List (AV × AV × Nat))→Prop)→Prop) (fun c=>c none) (fun e l ih c=>match e.1 with
  | .str s'=>Bool.rec (motive:=fun _=>Prop) (ih fun r=>match r with
   | some r=>c (some (e :: r))
   | none=>c none) (c (some ((.str s,v,e.2.2) :: l))) (eqN s s')
  | _=>False) es c
def oUp (x k v:AX) (tm:S) (h:T AO) (nx:Pt) (K:AV→T AO→Pt→Prop):Prop :=
 evK tm k fun k=>match k with
  | .str s=>evK tm x fun a=>match a with
   | .map m=>evK tm v fun v=>h.getK m fun b=>match b with
    | .map es n=>upE s v es fun r=>match r with
     | some es'=>h.setK (.map es' n) m fun h=>K (.tup []) h nx
     | none=>forceL (es ++ [(.str s,v,n)]) fun es'=>forceN (n+1) fun n'=>h.setK (.map es' n') m fun h=>K (.tup []) h nx
    | _=>False
   | _=>False
  | _=>False
def kiK (vs:List AV) (c:List Int→Prop):Prop :=
 List.rec (motive:=fun _=>(List Int→Prop)→Prop) (fun c=>c []) (fun v _ ih c=>match v with
  | .int .i64 m=>Bool.rec (motive:=fun _=>Prop) False (ih fun l=>c (m :: l)) (inI m)
  | _=>False) vs c
def eqIs:List Int→List Int→Bool
 | [],[]=>true
 | a :: x,b :: y=>eqI a b&&eqIs x y
 | _,_=>false
def lkI0 (s:List Int) (c:Option AV→Prop) (o:Option (List Int × AV)):Prop :=
 Option.rec (motive:=fun _=>Prop) (c none) (fun y=>Bool.rec (motive:=fun _=>Prop) False (c (some y.2)) (eqIs s y.1)) o
def lkI (s:List Int) (ix:T (List Int × AV)) (c:Option AV→Prop):Prop :=
 forceN (codeI s) fun m=>forceP (ptN 64 m) fun p=>ix.lookK p fun o=>lkI0 s c o
def oLkA (n:Nat) (z:AV) (ok:Bool) (x k:AX) (tm:S) (h:T AO) (nx:Pt) (K:AV→T AO→Pt→Prop):Prop :=
 evK tm k fun k=>match k with
  | .agg vs=>kiK vs fun s=>Bool.rec (motive:=fun _=>Prop) False (evK tm x fun a=>match a with
   | .nilm=>lkR z ok none fun v=>K v h nx
   | .map m=>h.getK m fun b=>match b with
    | .map es _=>match es with
     | []=>lkR z ok none fun v=>K v h nx
     | _ :: _=>False
    | .mapK n' es=>Bool.rec (motive:=fun _=>Prop) False (lkI s es fun v=>lkR z ok v fun v=>K v h nx) (Nat.beq n n')
    | _=>False
   | _=>False) (Nat.beq s.length n)
  | _=>False
def upI0 (s:List Int) (d:Prop) (o:Option (List Int × AV)):Prop :=
 Option.rec (motive:=fun _=>Prop) d (fun y=>Bool.rec (motive:=fun _=>Prop) False d (eqIs s y.1)) o
def upI (s:List Int) (v:AV) (ix:T (List Int × AV)) (c:T (List Int × AV)→Prop):Prop :=
 forceN (codeI s) fun m=>forceP (ptN 64 m) fun p=>ix.lookK p fun o=>upI0 s (ix.setK (s,v) p c) o
def oUpA (n:Nat) (x k v:AX) (tm:S) (h:T AO) (nx:Pt) (K:AV→T AO→Pt→Prop):Prop :=
 evK tm k fun k=>match k with
  | .agg vs=>kiK vs fun s=>Bool.rec (motive:=fun _=>Prop) False (evK tm x fun a=>match a with
   | .map m=>evK tm v fun v=>h.getK m fun b=>match b with
    | .map es _=>match es with
     | []=>upI s v .l fun es'=>h.setK (.mapK n es') m fun h=>K (.tup []) h nx
     | _ :: _=>False
    | .mapK n' es=>Bool.rec (motive:=fun _=>Prop) False (upI s v es fun es'=>h.setK (.mapK n es') m fun h=>K (.tup []) h nx) (Nat.beq n n')
    | _=>False
   | _=>False) (Nat.beq s.length n)
  | _=>False
def oMkS (e:TypeId) (n:Nat) (z:List AV) (l:AX) (c:AX) (tm:S) (h:T AO) (nx:Pt) (K:AV→T AO→Pt→Prop):Prop :=
 evK tm l fun l=>evK tm c fun c=>match l,c with
  | .int _ (.ofNat l),.int _ (.ofNat c)=>Bool.rec (motive:=fun _=>Prop) False (forceL (zerosL z c) fun vs=>h.setK (.cells vs e) nx fun h'=>succK nx fun n'=>K (.sl nx 0 l c false) h' n') (Nat.ble l c&&Nat.ble (n*c) 16777216)
  | _,_=>False
def oSl (n:Nat) (x:AX) (lo:Option AX) (hi:Option AX) (mx:Option AX) (tm:S) (h:T AO) (nx:Pt) (K:AV→T AO→Pt→Prop):Prop :=
 evK tm x fun a=>match a with
  | .nils=>bdK tm mx 0 0 fun _=>bdK tm hi 0 0 fun _=>bdK tm lo 0 0 fun _=>K .nils h nx
  | .slz k o p=>match mx with
   | none=>bdK tm hi 0 0 fun _=>bdK tm lo 0 0 fun _=>K (.slz k o p) h nx
   | some _=>False
  | .sl k o l c op=>match mx with
   | none=>bdK tm hi l c fun q=>bdK tm lo 0 q fun p=>Bool.rec (motive:=fun _=>Prop)
     (Bool.rec (motive:=fun _=>Prop) False (forceN (o+p*n) fun o=>forceN (q - p) fun l=>forceN (c - p) fun c=>K (.sl k o l c op) h nx) (Nat.blt p c))
     (Bool.rec (motive:=fun _=>Prop) (forceN (q - p) fun l=>K (.sl k o l 0 false) h nx) (Bool.rec (motive:=fun _=>Prop) False (forceN (o+p*n) fun o'=>K (.slz k o o') h nx) (Nat.beq q p)) op) (Nat.beq c p)
   | some mx=>bdK tm (some mx) c c fun m=>bdK tm hi l m fun q=>bdK tm lo 0 q fun p=>Bool.rec (motive:=fun _=>Prop) (forceN (o+p*n) fun o=>forceN (q - p) fun l=>forceN (m - p) fun c=>K (.sl k o l c false) h nx) (forceN (q - p) fun l=>K (.sl k o l 0 false) h nx) (Nat.beq m p)
  | _=>False
def oSlS (x:AX) (lo:Option AX) (hi:Option AX) (tm:S) (h:T AO) (nx:Pt) (K:AV→T AO→Pt→Prop):Prop :=
 evK tm x fun a=>match a with
  | .str s=>bdK tm hi s.length s.length fun q=>bdK tm lo 0 q fun p=>forceL ((s.drop p).take (q - p)) fun s=>K (.str s) h nx
  | _=>False
def oApp (e:TypeId) (n:Nat) (x:AX) (y:AX) (tm:S) (h:T AO) (nx:Pt) (K:AV→T AO→Pt→Prop):Prop :=
 evK tm x fun a=>evK tm y fun b=>appK h nx e n a b K
def oMm (max:Bool) (xs:List AX) (tm:S) (h:T AO) (nx:Pt) (K:AV→T AO→Pt→Prop):Prop :=
 evsK tm xs fun vs=>match vs with
  | .int k n :: l=>mmK max k l n fun v=>K v h nx
  | _=>False
def oMkM (_:S) (h:T AO) (nx:Pt) (K:AV→T AO→Pt→Prop):Prop :=
 h.setK (.map [] 0) nx fun h'=>succK nx fun n'=>K (.map nx) h' n'
def amongN:List Nat→Nat→Bool
 | [],_=>false
 | a :: l,t=>Nat.beq a t||amongN l t
def oTa (ts:List Nat) (x:AX) (tm:S) (h:T AO) (nx:Pt) (K:AV→T AO→Pt→Prop):Prop :=
 evK tm x fun a=>match a with
  | .iface t u=>Bool.rec (motive:=fun _=>Prop) False (K (.tup [.iface t u,.bool true]) h nx) (amongN ts t)
  | _=>False
def oEqA (n:Nat) (neg:Bool) (x y:AX) (tm:S) (h:T AO) (nx:Pt) (K:AV→T AO→Pt→Prop):Prop :=
 evK tm x fun a=>evK tm y fun b=>match a,b with
  | .agg vs,.agg us=>kiK vs fun s=>kiK us fun s'=>Bool.rec (motive:=fun _=>Prop) False (forceB (neg != eqIs s s') fun z=>K (.bool z) h nx) (Nat.beq s.length n&&Nat.beq s'.length n)
  | _,_=>False
def oRng (x:AX) (tm:S) (h:T AO) (nx:Pt) (K:AV→T AO→Pt→Prop):Prop :=
 evK tm x fun a=>match a with
  | .str s=>h.setK (.iter s s 0) nx fun h'=>succK nx fun n'=>K (.ptr nx 0) h' n'
  | _=>False
def oNxt (x:AX) (tm:S) (h:T AO) (nx:Pt) (K:AV→T AO→Pt→Prop):Prop :=
 evK tm x fun a=>match a with
  | .ptr k o=>Bool.rec (motive:=fun _=>Prop) False (h.getK k fun b=>match b with
   | .iter s rest pos=>match rest with
    | []=>K (.tup [.bool false]) h nx
    | c :: rest=>Bool.rec (motive:=fun _=>Prop) False (forceN (Nat.succ pos) fun pos'=>h.setK (.iter s rest pos') k fun h'=>K (.tup [.bool true,.int .i64 (.ofNat pos),.int .i32 (.ofNat c)]) h' nx) (Nat.ble (Nat.succ c) 128)
   | _=>False) (Nat.beq o 0)
  | _=>False
def stepV (o:AOp) (tm:S) (h:T AO) (nx:Pt) (K:AV→T AO→Pt→Prop):Prop :=
 match o with
 | .mv x=>oMv x tm h nx K
 | .pick c a b=>oPick c a b tm h nx K
 | .new vs e=>oNew vs e tm h nx K
 | .box e x=>oBox e x tm h nx K
 | .build z ps=>oBuild z ps tm h nx K
 | .buildS e n z ps=>oBuildS e n z ps tm h nx K
 | .ld1 x=>oLd1 x tm h nx K
 | .ldN n x=>oLdN n x tm h nx K
 | .st n a x=>oSt n a x tm h nx K
 | .nchk x=>oNchk x tm h nx K
 | .fa d x=>oFa d x tm h nx K
 | .fld n o x=>oFld n o x tm h nx K
 | .fld1 o x=>oFld1 o x tm h nx K
 | .ia n x i=>oIa n x i tm h nx K
 | .iaA len n x i=>oIaA len n x i tm h nx K
 | .ext x i=>oExt x i tm h nx K
 | .mkf f a b=>oMkf f a b tm h nx K
 | .mki t x=>oMki t x tm h nx K
 | .ar op x y=>oAr op x y tm h nx K
 | .eq ek neg x y=>oEq ek neg x y tm h nx K
 | .un op x=>oUn op x tm h nx K
 | .cvI k x=>oCvI k x tm h nx K
 | .cvS x=>oCvS x tm h nx K
 | .lenS x=>oLenS x tm h nx K
 | .len x=>oLen x tm h nx K
 | .lenM x=>oLenM x tm h nx K
 | .lenC x=>oLenC x tm h nx K
 | .mkC x=>oMkC x tm h nx K
 | .ixS x i=>oIxS x i tm h nx K
 | .cvB e x=>oCvB e x tm h nx K
 | .cvT x=>oCvT x tm h nx K
 | .clr z x=>oClr z x tm h nx K
 | .ix1 l x i=>oIx1 l x i tm h nx K
 | .lk z ok x k=>oLk z ok x k tm h nx K
 | .up x k v=>oUp x k v tm h nx K
 | .lkA n z ok x k=>oLkA n z ok x k tm h nx K
 | .upA n x k v=>oUpA n x k v tm h nx K
 | .mkS e n z l c=>oMkS e n z l c tm h nx K
 | .sl n x lo hi mx=>oSl n x lo hi mx tm h nx K
 | .slS x lo hi=>oSlS x lo hi tm h nx K
 | .app e n x y=>oApp e n x y tm h nx K
 | .mm max xs=>oMm max xs tm h nx K
 | .mkM=>oMkM tm h nx K
 | .rng x=>oRng x tm h nx K
 | .nxt x=>oNxt x tm h nx K
 | .eqA n neg x y=>oEqA n neg x y tm h nx K
 | .ta ts x=>oTa ts x tm h nx K
end Go.Proofs.YtidggaoacldgkaaGreatDoor.X
