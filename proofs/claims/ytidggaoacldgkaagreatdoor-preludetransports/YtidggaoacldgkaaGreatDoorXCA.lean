/- An executor for closed calls, 15: what is made out of an operation stands for it. -/
import Derived.Test.YtidggaoacldgkaaGreatDoorXN
import Derived.RangeFuncNested
import Derived.OrdersIn
namespace Go.Proofs.YtidggaoacldgkaaGreatDoor.X
open Go.RowKit
theorem zinfo {P:Program} {t:TypeId} {i:TypeInfo} {z:Value} {v:AV} (h:zeroA P t=some (i,z,v)):P.info? t=some i:=(zeroA_spec h).1
theorem zzero {P:Program} {t:TypeId} {i:TypeInfo} {z:Value} {v:AV} (h:zeroA P t=some (i,z,v)):i.zero=some z:=(zeroA_spec h).2.1
theorem zlone {P:Program} {t:TypeId} {i:TypeInfo} {z:Value} {v:AV} (h:zeroA P t=some (i,z,v)):Lone v z:=(zeroA_spec h).2.2
theorem Co.buildS' {P:Program} {t e:TypeId} {n:Nat} {j:TypeInfo} {z:Value} {v:AV} {ps:Array (Nat × Operand)} {qs:List (Nat × Nat × AX)} (h1:P.underlying t=some (.slice e)) (h2:zeroA P e=some (j,z,v)) (hn:¬ n=0) (h3:(cellsA v).length=j.size∧0<j.size∧n*j.size≤2 ^ 24) (h4:cps (fun i=>some (i*j.size,j.size)) ps.toList=some qs):Co P (.buildSlice t n ps) (.buildS e n (zerosL (cellsA v) n) qs):=by
  obtain ⟨e1,e2,e3⟩:=zeroA_spec h2
  refine Co.buildS h1 e1 e2 h3.2.2 (Nat.mul_pos (by omega) h3.2.1) (fun _=>okL_zeros (okL_cells (e3.2 _)) n) (fun r=>?_) e3 (cps_spec h4)
  rw [← h3.1]
  exact zeros_real e3 (by omega) n
theorem compOp_spec {P:Program} {op:Op} {op':AOp} (h:compOp P op=some op'):Co P op op':=by
  unfold compOp at h
  split at h
  all_goals (repeat' split at h)
  all_goals first
    | (cases h; done)
    | (cases h
       first
         | exact Co.mv (cx_spec ‹_›)
         | exact Co.asg (cx_spec ‹_›)
         | exact Co.pick (cx_spec ‹_›) (cx_spec ‹_›) (cx_spec ‹_›)
         | exact Co.new (zinfo ‹_›) (zzero ‹_›) (zlone ‹_›)
         | exact Co.box (cx_spec ‹_›)
         | exact Co.build (zinfo ‹_›) (zzero ‹_›) (zlone ‹_›) ‹_› (placesA_spec ‹_›) (cps_spec ‹_›)
         | exact Co.buildA (zinfo ‹_›) (zzero ‹_›) (zlone ‹_›) ‹_› ‹_› (cps_spec ‹_›)
         | exact Co.buildS' ‹_› ‹_› ‹_› ‹_› ‹_›
         | (subst_vars; exact Co.buildE ‹_› (zinfo ‹_›))
         | exact Co.ldN ‹_› ‹_› ‹_› (cx_spec ‹_›)
         | exact Co.ld1 ‹_› (Bool.eq_false_iff.2 ‹_›) (cx_spec ‹_›)
         | exact Co.st ‹_› (cx_spec ‹_›) (cx_spec ‹_›)
         | exact Co.nchk (cx_spec ‹_›)
         | exact Co.fa ‹_› ‹_› ‹_› ‹_› (cx_spec ‹_›)
         | exact Co.fld ‹_› ‹_› ‹_› ‹_› ‹_› (cx_spec ‹_›)
         | exact Co.fld1 ‹_› ‹_› ‹_› (Bool.eq_false_iff.2 ‹_›) (cx_spec ‹_›)
         | exact Co.ia ‹_› ‹_› (cx_spec ‹_›) (cx_spec ‹_›)
         | exact Co.iaA ‹_› ‹_› (cx_spec ‹_›) (cx_spec ‹_›)
         | exact Co.ext (cx_spec ‹_›)
         | exact Co.mkf (cxs_spec ‹_›) (cxs_spec ‹_›)
         | exact Co.mki ‹_› (by intro m hm; subst hm; simp_all) (cx_spec ‹_›)
         | exact Co.eq (.inl ⟨rfl,rfl⟩) ‹_› (eqT_spec ‹_›) (cx_spec ‹_›) (cx_spec ‹_›)
         | exact Co.eq (.inr ⟨rfl,rfl⟩) ‹_› (eqT_spec ‹_›) (cx_spec ‹_›) (cx_spec ‹_›)
         | exact Co.eqA (eaN_spec ‹_› ‹_›) (.inl ⟨rfl,rfl⟩) (cx_spec ‹_›) (cx_spec ‹_›)
         | exact Co.eqA (eaN_spec ‹_› ‹_›) (.inr ⟨rfl,rfl⟩) (cx_spec ‹_›) (cx_spec ‹_›)
         | exact Co.ar (cx_spec ‹_›) (cx_spec ‹_›)
         | exact Co.un (cx_spec ‹_›)
         | exact Co.ta (taL_spec ‹_› _) (cx_spec ‹_›)
         | exact Co.cvI ‹_› ‹_› (cx_spec ‹_›)
         | exact Co.clr ‹_› (zinfo ‹_›) (zzero ‹_›) (zlone ‹_›) ‹_› (cx_spec ‹_›)
         | exact Co.cvT ‹_› ‹_› ‹_› (cx_spec ‹_›)
         | exact Co.cvB ‹_› ‹_› ‹_› ‹_› ‹_› (cx_spec ‹_›)
         | exact Co.cvS ‹_› ‹_› (cx_spec ‹_›)
         | exact Co.lenS ‹_› (cx_spec ‹_›)
         | exact Co.len ‹_› (cx_spec ‹_›)
         | exact Co.lenM ‹_› (cx_spec ‹_›)
         | exact Co.lenC ‹_› (cx_spec ‹_›)
         | exact Co.mkC ‹_› ‹_› ‹_› (cx_spec ‹_›)
         | exact Co.app ‹_› (.inr ⟨_,‹_›⟩) (zinfo ‹_›) (zzero ‹_›) (zlone ‹_›) (And.left ‹_∧_›) (And.left (And.right ‹_∧_›)) (And.right (And.right ‹_∧_›)) (cx_spec ‹_›) (cx_spec ‹_›)
         | exact Co.app ‹_› (.inl ‹_›) (zinfo ‹_›) (zzero ‹_›) (zlone ‹_›) (And.left ‹_∧_›) (And.left (And.right ‹_∧_›)) (And.right (And.right ‹_∧_›)) (cx_spec ‹_›) (cx_spec ‹_›)
         | exact Co.max (cxs_spec ‹_›)
         | exact Co.min (cxs_spec ‹_›)
         | exact Co.ix1 ‹_› ‹_› (And.left ‹_∧_›) ‹_› (And.right ‹_∧_›) (cx_spec ‹_›) (cx_spec ‹_›)
         | exact Co.lk ‹_› ‹_› (zinfo ‹_›) (zzero ‹_›) (zlone ‹_›) (cx_spec ‹_›) (cx_spec ‹_›)
         | exact Co.up ‹_› ‹_› (cx_spec ‹_›) (cx_spec ‹_›) (cx_spec ‹_›)
         | exact Co.ins ‹_› ‹_› (cx_spec ‹_›) (cx_spec ‹_›) (cx_spec ‹_›)
         | exact Co.lkA ‹_› (sk_of ‹_›) (zinfo ‹_›) (zzero ‹_›) (zlone ‹_›) (cx_spec ‹_›) (cx_spec ‹_›)
         | exact Co.upA ‹_› (sk_of ‹_›) (cx_spec ‹_›) (cx_spec ‹_›) (cx_spec ‹_›)
         | exact Co.ixS ‹_› (cx_spec ‹_›) (cx_spec ‹_›)
         | exact Co.mkS ‹_› (zinfo ‹_›) (zzero ‹_›) (zlone ‹_›) (And.left ‹_∧_›) (And.left (And.right ‹_∧_›)) (And.right (And.right ‹_∧_›)) (cx_spec ‹_›) (cx_spec ‹_›)
         | exact Co.sl ‹_› ‹_› (cx_spec ‹_›) (cxo_spec ‹_›) (cxo_spec ‹_›) (cxo_spec ‹_›) (by intro h1 h2; simp_all)
         | exact Co.slS ‹_› (cx_spec ‹_›) (cxo_spec ‹_›) (cxo_spec ‹_›)
         | exact Co.rng ‹_› (cx_spec ‹_›)
         | exact Co.nxt (cx_spec ‹_›)
         | exact Co.mkM)
end Go.Proofs.YtidggaoacldgkaaGreatDoor.X

/- An executor for closed calls, 15: operations of a region; a script for a region that draws its order. -/
namespace Go.Proofs.YtidggaoacldgkaaGreatDoor.X
open Go.RowKit
def compK (P:Program) (op:Op):Option AK :=
 match op with
 | .call ⟨.value (.func f),args,_⟩=>match mapO cx args.toList with
  | some xs=>some (.call (Pt.ofNat f) xs)
  | none=>none
 | .call ⟨.value x,args,_⟩=>match cx x,mapO cx args.toList with
  | some x,some xs=>some (.callv x xs)
  | _,_=>none
 | .send c x=>match cx c,cx x with
  | some c,some x=>some (.snd c x)
  | _,_=>none
 | .select ⟨[⟨c,none,e⟩]⟩ false=>match cx c,zeroA P e with
  | some x,some (_,_,v)=>some (.sel x v)
  | _,_=>none
 | .select ⟨[⟨c,some y,e⟩]⟩ false=>match cx c,cx y,zeroA P e with
  | some x,some y,some _=>some (.sls x y)
  | _,_,_=>none
 | .panic x=>match cx x with
  | some x=>some (.pan x)
  | none=>none
 | op=>match compOp P op with
  | some o=>some (.v o)
  | none=>none
def compD (m:Nat):Option Tmp→Option (Option Sl)
 | none=>some none
 | some t=>if t<m then some (some (Sl.ofNat t)) else none
def compG (ops:Array Oper):Option (Nat × Bool)→Option (Option (Sl × Bool))
 | none=>some none
 | some (j,b)=>match (ops[j]?).bind (·.dst) with
  | some t=>some (some (Sl.ofNat t,b))
  | none=>none
def compOper (P:Program) (m:Nat) (ops:Array Oper) (o:Oper):Option AOper :=
 match compK P o.op,compD m o.dst,compG ops o.guard with
 | some k,some d,some g=>some ⟨d,k,g⟩
 | _,_,_=>none
def heapX (x:AOper):Bool:=match x.op with
 | .v (.ld1 _) | .v (.ldN _ _) | .v (.lenM _) | .v (.lenC _) | .v (.lk _ _ _ _) | .v (.lkA _ _ _ _ _) | .v (.cvT _) | .v (.eq _ _ _ _)=>true
 | _=>false
def inP (p:Sl):List Sl→Bool
 | []=>false
 | q :: l=>eqS p q||inP p l
def inD (d:Option Sl) (l:List Sl):Bool:=match d with
 | some p=>inP p l
 | none=>false
def sameD (d d':Option Sl):Bool:=match d,d' with
 | some p,some q=>eqS p q
 | _,_=>false
def mask1 (acc:List Nat):List Edge→Nat
 | []=>0
 | e :: l=>match Region.binds .any e with
  | true=>Nat.lor (Nat.lor (2 ^ e.on) (acc.getD e.on 0)) (mask1 acc l)
  | false=>mask1 acc l
def masks:List Oper→List Nat→List Nat
 | [],acc=>acc
 | o :: l,acc=>masks l (acc ++ [mask1 acc o.after.toList])
def MB (ms:List Nat) (i j:Nat):Bool:=(ms.getD i 0).testBit j
def oldRead (ms:List Nat) (p:Sl) (j:Nat):List AOper→Nat→Bool
 | [],_=>false
 | y :: l,k=>(inP p (rdX y)&&!(MB ms k j))||oldRead ms p j l (k+1)
def kE (ms:List Nat) (xs:List AOper) (j:Nat) (x:AOper):Bool:=match x.dst,x.op with
 | some p,.v op=>match quietB op,op,x.guard with
  | true,_,_=>oldRead ms p j xs 0
  | false,.new _ _,none=>oldRead ms p j xs 0
  | false,.box _ _,none=>oldRead ms p j xs 0
  | false,.buildS _ _ _ _,none=>oldRead ms p j xs 0
  | false,.mkM,none=>oldRead ms p j xs 0
  | false,.mkS _ _ _ _ _,none=>oldRead ms p j xs 0
  | false,.cvB _ _,none=>oldRead ms p j xs 0
  | _,_,_=>true
 | _,_=>true
structure Rw where
 i:Nat
 e:Bool
 need:Nat
def rows (ms:List Nat) (xs:List AOper):List Oper→List AOper→Nat→List Rw
 | o :: os,x :: ys,k=>⟨k,kE ms xs k x,mask1 [] o.after.toList⟩ :: rows ms xs os ys (k+1)
 | _,_,_=>[]
def pickR (d:Nat) (e:Bool):List Rw→Option (Nat × List Rw)
 | []=>none
 | r :: l=>match (Nat.beq (Nat.land r.need d) r.need)&&(r.e == e) with
  | true=>some (r.i,l)
  | false=>match pickR d e l with
   | some (i,l)=>some (i,r :: l)
   | none=>none
def ordOf:Nat→Nat→List Rw→List Nat
 | 0,_,_=>[]
 | f+1,d,l=>match pickR d false l with
  | some (i,l)=>i :: ordOf f (Nat.lor d (2 ^ i)) l
  | none=>match pickR d true l with
   | some (i,l)=>i :: ordOf f (Nat.lor d (2 ^ i)) l
   | none=>[]
def rcOf (ms:List Nat) (i:Nat) (pre:List It):List (Sl × AOper):=pre.filterMap fun it=>match it with
 | .n j _ p y=>match heapX y&&quietX y&&!(MB ms i j) with
  | true=>some (p,y)
  | false=>none
 | _=>none
def abOf (ms:List Nat) (i:Nat) (pre:List It):List Nat:=pre.filterMap fun it=>match it with
 | .a j _ _=>match MB ms i j with
  | true=>some j
  | false=>none
 | _=>none
def srcOf:Nat→List It→Sl→List Nat
 | 0,_,_=>[]
 | f+1,l,p=>l.flatMap fun it=>match it with
  | .a j q _=>match eqS q p with
   | true=>[j]
   | false=>[]
  | .n _ _ q y=>match eqS q p,y.op with
   | true,.v (.mv (.t x))=>srcOf f l x
   | true,.v (.ia _ (.t x) _)=>srcOf f l x
   | true,.v (.iaA _ _ (.t x) _)=>srcOf f l x
   | true,.v (.fa _ (.t x))=>srcOf f l x
   | true,.v (.nchk (.t x))=>srcOf f l x
   | true,.v (.sl _ (.t x) _ _ _)=>srcOf f l x
   | _,_=>[]
  | _=>[]
def abN (ms:List Nat) (i:Nat) (op:AOp) (pre:List It):List Nat:=match op with
 | .ld1 (.t p)=>(srcOf pre.length pre p).filter fun j=>MB ms i j
 | .ldN _ (.t p)=>(srcOf pre.length pre p).filter fun j=>MB ms i j
 | _=>[]
def leanB (ms:List Nat) (i:Nat):It→Bool
 | .n j [] _ _=>true||MB ms i j
 | .n j (_ :: _) _ _=>MB ms i j
 | _=>true
def mkIt (ms:List Nat) (xs:List AOper) (pre:List It) (j:Nat):Option It:=match xs[j]? with
 | none=>none
 | some x=>match kE ms xs j x with
  | true=>some (.e j (abOf ms j pre) (rcOf ms j pre) x)
  | false=>match x with
   | ⟨some p,.v op,g⟩=>match quietB op,g with
    | true,g=>some (.n j (abN ms j op pre) p ⟨some p,.v op,g⟩)
    | false,none=>some (.a j p op)
    | false,some _=>none
   | _=>none
def mkAll (ms:List Nat) (xs:List AOper):List Nat→List It→Option (List It)
 | [],pre=>some pre
 | j :: js,pre=>match mkIt ms xs pre j with
  | some it=>mkAll ms xs js (pre ++ [it])
  | none=>none
def splitsB (f:List It→It→List It→Bool):List It→List It→Bool
 | _,[]=>true
 | pre,x :: post=>f pre x post&&splitsB f (pre ++ [x]) post
def hasI (i:Nat):List It→Bool
 | []=>false
 | y :: l=>Nat.beq y.i i||hasI i l
def planB (ops:Array Oper) (ms:List Nat) (pre:List It) (x:It) (post:List It):Bool :=
 (match ops[x.i]? with
  | some o=>o.after.toList.all fun e=>!(Region.binds .any e)||hasI e.on pre
  | none=>false) &&
 (!x.isE||post.all fun y=>MB ms y.i x.i) &&
 (post.all fun y=>!(sameD x.dst y.dst)&&!(Nat.beq x.i y.i)) &&
 (x.isE||!(inD x.dst x.rd)) &&
 (pre.all fun y=>y.isE||!(inD y.dst x.rd)||MB ms x.i y.i) &&
 (post.all fun y=>y.isE||!(inD y.dst x.rd)) &&
 (!x.isE||pre.all fun y=>y.isE||!(inD x.dst y.rd)||MB ms x.i y.i) &&
 (!x.isE||pre.all fun y=>leanB ms x.i y)
def coverB (l:List It):Nat→Bool
 | 0=>true
 | n+1=>hasI n l&&coverB l n
def plan (P:Program) (m:Nat) (ops:Array Oper):Option (List It):=match mapO (compOper P m ops) ops.toList with
 | none=>none
 | some xs=>match mkAll (masks ops.toList []) xs (ordOf ops.size 0 (rows (masks ops.toList []) xs ops.toList xs 0)) [] with
  | none=>none
  | some l=>match splitsB (planB ops (masks ops.toList [])) [] l&&Nat.beq l.length ops.size&&coverB l ops.size with
   | true=>some l
   | false=>none
def preB (n0:Nat):List Oper→Nat→Bool
 | [],_=>true
 | o :: l,i=>(o.after.toList.all fun e=>!(Region.binds .any e)||Nat.blt e.on i)&&(match o.guard with | none=>true | some (j,_)=>Nat.blt j n0)&&preB n0 l (i+1)
def allB (n:Nat) (o:Oper):Bool:=Nat.rec (motive:=fun _=>Bool) true (fun j ih=>(o.after.toList.any fun e=>Region.binds .any e&&Nat.beq e.on j)&&ih) n
def ltB (n:Nat) (o:Oper):Bool:=o.after.toList.all fun e=>!(Region.binds .any e)||Nat.blt e.on n
def hitB (n:Nat) (o:Oper):Bool:=o.after.toList.any fun e=>Region.binds .any e&&Nat.beq e.on n
def tailB (ops:Array Oper) (n0:Nat):Bool :=
 Nat.beq ops.size (n0+3)&&preB n0 (ops.toList.take n0) 0&&(match ops[n0]?,ops[n0+1]?,ops[n0+2]? with
  | some q,some s1,some s2=>allB n0 q&&allB n0 s1&&allB n0 s2&&ltB n0 q&&ltB (n0+1) s1&&hitB n0 s1&&ltB n0 s2
  | _,_,_=>false)
def ops1 (ops:Array Oper) (n0:Nat):Array Oper:=(ops.toList.take n0).toArray
end Go.Proofs.YtidggaoacldgkaaGreatDoor.X

/- An executor for closed calls, 15b: code in frames of calls and of rounds (none that begins a package). -/
namespace Go.Proofs.YtidggaoacldgkaaGreatDoor.X
open Go.RowKit
def Wr (ro:Option Nat):Fence:={ Fence.wide with round:=ro }
section
variable {P:Program} {ro:Option Nat} {Q:Exit→Act→World→Prop} {a:Act} {w:World}
theorem wr_calm {m:Machine}:m.fenced P (Wr ro):=fenced_wide P m
theorem wr_room (n:Nat):(Wr ro).room n:=fun d hd=>by simp [Wr,Fence.wide] at hd
def WpN (P:Program) (ro:Option Nat) (c:Code) (Q:Exit→Act→World→Prop) (a:Act) (w:World):Prop :=
 ∀ (b:Frame) (k:List Item) (cs:List Frame),(b.kind == CallKind.early)=false→b.roundOf=ro→∃ e a' w',Q e a' w'∧ArrivesIn (Machine.fenced P (Wr ro)) P (lone (b.atR a (.code c :: k)) cs w) b k cs e a' w'
theorem WpN.of {c:Code} (h:c.wpIn (Wr ro) 0 P Q a w):WpN P ro c Q a w:=fun b k cs _ hb=>h b k cs hb trivial (wr_room _)
theorem arrives_by {m m':Machine} {b:Frame} {x:Item} {k:List Item} {cs:List Frame} {e:Exit} (hx:x.plain=true) (hs:step P m=.next m') (he:e≠.normal) (h:ArrivesIn (Machine.fenced P (Wr ro)) P m' b (x :: k) cs e a w):ArrivesIn (Machine.fenced P (Wr ro)) P m b k cs e a w :=
 .of_steps (.one wr_calm hs) (.pass hx (fun _ _=>.inl he) h)
theorem WpN.seq {x y:Code} (h:WpN P ro x (Exit.then (WpN P ro y Q) Q) a w):WpN P ro (.seq x y) Q a w:=fun b k cs hk hb=>by
 obtain ⟨e,a₁,w₁,hq,harr⟩:=h b (.code y :: k) cs hk hb
 by_cases he:e=.normal
 ·subst he
  obtain ⟨e₂,a₂,w₂,q₂,r₂⟩:=hq b k cs hk hb
  exact ⟨e₂,a₂,w₂,q₂,.of_steps (.head wr_calm stepR_seq harr) r₂⟩
 ·refine ⟨e,a₁,w₁,?_,arrives_by (x:=.code y) rfl stepR_seq he harr⟩
  cases e <;> first | exact hq | exact absurd rfl he
theorem WpN.cond {c:Operand} {x y:Code} {t:Bool} (hc:a.eval c=.bool t) (h:WpN P ro (if t then x else y) Q a w):WpN P ro (.cond c x y) Q a w:=fun b k cs hk hb=>by
 obtain ⟨e,a',w',q,r⟩:=h b k cs hk hb
 exact ⟨e,a',w',q,.of_steps (.one wr_calm (stepR_cond hc)) r⟩
theorem WpN.block {id:Nat} {c:Code} (h:WpN P ro c (Exit.inBlock id Q) a w):WpN P ro (.block id c) Q a w:=fun b k cs hk hb=>by
 obtain ⟨e,a₁,w₁,hq,harr⟩:=h b (.inBlock id :: k) cs hk hb
 have g0:∀ l,gotoIn l (.inBlock id :: k)=gotoIn l k:=fun l=>by simp [gotoIn]
 cases e with
 | normal=>exact ⟨.normal,a₁,w₁,hq,.head wr_calm stepR_block (StepsIn.trans harr (.one wr_calm stepR_inBlock))⟩
 | exit j =>
  by_cases e:j=id
  ·subst e
   simp only [Exit.inBlock,if_true] at hq
   exact ⟨.normal,a₁,w₁,hq,.head wr_calm stepR_block (harr.1 k (by simp [exitTo]))⟩
  ·simp only [Exit.inBlock,e,if_false] at hq
   have hx:exitTo j (.inBlock id :: k)=exitTo j k:=by
    have:(id == j)=false:=by simpa using fun h:id=j=>e h.symm
    simp [exitTo,this]
   refine ⟨.exit j,a₁,w₁,hq,fun k' hk'=>.head wr_calm stepR_block (harr.1 k' (hx.trans hk')),fun hr hk'=>?_⟩
   obtain ⟨k₁,h1,h2⟩:=harr.2 hr (hx.trans hk')
   exact ⟨k₁,h1,.head wr_calm stepR_block h2⟩
 | goto l =>
  refine ⟨.goto l,a₁,w₁,hq,fun k' hk'=>.head wr_calm stepR_block (harr.1 k' ((g0 l).trans hk')),fun hr hk'=>?_⟩
  obtain ⟨k₁,h1,h2⟩:=harr.2 hr ((g0 l).trans hk')
  exact ⟨k₁,h1,.head wr_calm stepR_block h2⟩
 | ret=>exact ⟨_,a₁,w₁,hq,.of_steps (.one wr_calm stepR_block) harr⟩
 | panic ch=>exact ⟨_,a₁,w₁,hq,.of_steps (.one wr_calm stepR_block) harr⟩
 | outgrown=>exact ⟨_,a₁,w₁,hq,.of_steps (.one wr_calm stepR_block) harr⟩
theorem callsN {f:FuncId} {fn:Func} {c:Code} {args:Array Value} {R:Ending→World→Prop} (hf:P.funcs[f]?=some fn) (hb:fn.body=some c)
  (h:WpN P none c (bodyPostM (Wr none) 0 P fn R) { tmps:=args ++ Array.replicate (fn.ntmps - args.size) undef,defers:=[] } w):CallsIn (Wr none) 0 P f args w R:=by
 refine ⟨trivial,fun cs _=>?_⟩
 let b:Frame:={ (default:Frame) with fn:=f,kind:=.normal,roundOf:=none }
 have hent:Frame.enter P f args .normal=b.atR { tmps:=args ++ Array.replicate (fn.ntmps - args.size) undef,defers:=[] } [.code c]:=by simp [Frame.enter,Frame.atR,hf,hb,b]
 obtain ⟨e,a',w',hq,harr⟩:=h b [] cs rfl rfl
 rw [← hent] at harr
 have out:∀ (u:FrameMode) (todo:List Item),StepsIn (Machine.fenced P (Wr none)) P (lone (Frame.enter P f args .normal) cs w) (lone { b.atR a' todo with mode:=u } cs w')→LeavesInM (Wr none) 0 P fn a'.tmps R a'.defers u w' →
   ∃ e w'' fr,R e w''∧ComesIn (Machine.fenced P (Wr none)) P (lone (Frame.enter P f args .normal) cs w) (lone fr cs w'') e∧fr.fn=f∧fr.leaving P w'' e:=fun u todo hs hl=>by
  obtain ⟨e',w'',fr',g1,g2,g3,g4⟩:=leaves_stepsInM a'.defers u w' { b.atR a' todo with mode:=u } cs rfl rfl rfl hf rfl trivial (wr_room _) hl
  exact ⟨e',w'',fr',g1,ComesIn.of_steps hs g2,g3,g4⟩
 cases e with
 | normal=>exact out .returning [] (StepsIn.trans harr (.one wr_calm (stepR_end rfl))) hq
 | ret=>obtain ⟨todo,hs⟩:=harr.1 rfl; exact out .returning todo hs hq
 | panic ch=>obtain ⟨todo,hs⟩:=harr; exact out (.panicking ch) todo hs hq
 | exit id=>exact hq.elim
 | goto l=>exact hq.elim
 | outgrown=>exact ⟨.outgrown,w',b,hq,harr.resolve_left (by simp [b]),rfl,trivial⟩
theorem roundN {l:Nat} {f:FuncId} {tmps:Array Value} {assign body:Code} {R:Ending→World→Prop}
  (h:WpN P (some l) assign (Exit.then (fun a₁ w₁=>∃ w₂,(Instr.beginRound l).run P w₁=.ok () w₂∧WpN P (some l) body (roundPost P l R) a₁ w₂) (fun _ _ _=>False)) { tmps:=tmps,defers:=[] } w) :
  RoundIn Fence.wide 0 P l f tmps assign body w R:=by
 refine ⟨trivial,fun c cs _=>?_⟩
 let b:Frame:={ (default:Frame) with fn:=f,kind:=.normal,roundOf:=some l }
 have h0:Frame.round l f tmps assign body .normal=b.atR { tmps:=tmps,defers:=[] } [.code assign,.beginRound,.code body]:=by simp [Frame.round,Frame.atR,b]
 obtain ⟨e,a₁,w₁,hq,harr⟩:=h b [.beginRound,.code body] (c :: cs) rfl rfl
 rw [← h0] at harr
 cases e with
 | normal =>
  obtain ⟨w₂,hbr,hbody⟩:=hq
  have s1:StepsIn (Machine.fenced P (Wr (some l))) P (lone (b.atR a₁ [.beginRound,.code body]) (c :: cs) w₁) (lone (b.atR a₁ [.code body]) (c :: cs) w₂):=.one wr_calm (stepR_beginRound rfl hbr)
  have s2:=StepsIn.trans harr s1
  obtain ⟨e₂,a₂,w₃,hq₂,harr₂⟩:=hbody b [] (c :: cs) rfl rfl
  cases e₂ with
  | normal =>
   obtain ⟨v,w₄,hend,hR⟩:=hq₂
   exact ⟨.returned v,w₄,hR,StepsIn.trans s2 (StepsIn.trans harr₂ (.one wr_calm (stepR_round_end rfl rfl hend)))⟩
  | ret =>
   obtain ⟨v,w₄,hend,hR⟩:=hq₂
   obtain ⟨k₁,hs⟩:=harr₂.2 rfl
   exact ⟨.returned v,w₄,hR,StepsIn.trans s2 (StepsIn.trans hs (.one wr_calm (stepR_round_ret rfl rfl hend)))⟩
  | exit id =>
   obtain ⟨v,w₄,hend,hR⟩:=hq₂
   obtain ⟨k₁,hk,hs⟩:=harr₂.2 rfl rfl
   exact ⟨.returned v,w₄,hR,StepsIn.trans s2 (StepsIn.trans hs (.one wr_calm (stepR_round_exit rfl rfl hk hend)))⟩
  | goto t =>
   obtain ⟨v,w₄,hend,hR⟩:=hq₂
   obtain ⟨k₁,hk,hs⟩:=harr₂.2 rfl rfl
   exact ⟨.returned v,w₄,hR,StepsIn.trans s2 (StepsIn.trans hs (.one wr_calm (stepR_round_goto rfl rfl hk hend)))⟩
  | panic ch=>exact hq₂.elim
  | outgrown=>exact hq₂.elim
 | _=>exact hq.elim
end
end Go.Proofs.YtidggaoacldgkaaGreatDoor.X

/- An executor for closed calls, 15c: channels of one goroutine: sending where there is room, asking where nothing waits or something does. -/
namespace Go.Proofs.YtidggaoacldgkaaGreatDoor.X
open Go.RowKit
variable {P:Program}
abbrev gone:Goroutine:={ frame:=(default:Goroutine).frame,callers:=(default:Goroutine).callers,status:=.finished,dying:=(default:Goroutine).dying,offers:=(default:Goroutine).offers }
theorem step_lone_comm {fr fr':Frame} {cs:List Frame} {w w':World} {g':Goroutine} {cases:Array CommCase} {blocking:Bool} {shape:CommShape} {es:Array Event}
  (hs:stepG P true { frame:=fr,callers:=cs,status:=.running,dying:=none } w=.comm g' cases blocking shape w es)
  (hc:(communicate P { timers:=#[],alone:=none,slice:=none } #[gone] 0 g' cases blocking shape w).1=.next (lone fr' cs w')) :
  step P (lone fr cs w)=.next (lone fr' cs w'):=by
 rw [step,stepT,move_lone]
 simp [runT,lone,Array.swapAt!, hs]
 exact hc
theorem comm_send {fr:Frame} {cs:List Frame} {w:World} {r cap sent rcvd:Nat} {buf:Array Value} {tm:Bool} {v z:Value} (hh:w.heap[r]?=some (.chan cap buf false sent rcvd tm)) (hroom:buf.size<cap) :
  (communicate P { timers:=#[],alone:=none,slice:=none } #[gone] 0 { frame:=fr,callers:=cs,status:=.running,dying:=none } #[{ chan:=.chan (some r),send:=some v,zero:=z }] true .send w).1 =
   .next (lone (fr.finish undef) cs { w with heap:=w.heap.setIfInBounds r (.chan cap (buf.push v) false (sent+1) rcvd tm) }):=by
 have hp:partners #[gone] r false=[]:=by
  unfold partners
  simp [gone]
 unfold communicate
 simp [hh,ways,hp,hroom,choose,Question.forced,Sem.run,lone,Goroutine.finishComm,commResult,go_sem]
theorem comm_recv {fr:Frame} {cs:List Frame} {w:World} {r cap sent rcvd:Nat} {buf:Array Value} {tm:Bool} {z:Value} (hh:w.heap[r]?=some (.chan cap buf false sent rcvd tm)) (hroom:0<buf.size) :
  (communicate P { timers:=#[],alone:=none,slice:=none } #[gone] 0 { frame:=fr,callers:=cs,status:=.running,dying:=none } #[{ chan:=.chan (some r),send:=none,zero:=z }] false .select w).1 =
   .next (lone (fr.finish (.tuple #[.int .i64 0,.bool true,buf.getD 0 undef])) cs { w with heap:=w.heap.setIfInBounds r (.chan cap (buf.extract 1 buf.size) false sent (rcvd+1) tm) }):=by
 have hp:partners #[gone] r true=[]:=by
  unfold partners
  simp [gone]
 unfold communicate
 simp [hh,ways,hp,hroom,choose,Question.forced,Sem.run,lone,Goroutine.finishComm,commResult,go_sem]
theorem comm_none {fr:Frame} {cs:List Frame} {w:World} {r cap sent rcvd:Nat} {tm:Bool} {z:Value} (hh:w.heap[r]?=some (.chan cap #[] false sent rcvd tm)) :
  (communicate P { timers:=#[],alone:=none,slice:=none } #[gone] 0 { frame:=fr,callers:=cs,status:=.running,dying:=none } #[{ chan:=.chan (some r),send:=none,zero:=z }] false .select w).1 =
   .next (lone (fr.finish (.tuple #[.int .i64 (-1),.bool false,z])) cs w):=by
 have hp:partners #[gone] r true=[]:=by
  unfold partners
  simp [gone]
 unfold communicate
 simp [hh,ways,hp,lone,Goroutine.finishComm,commResult,go_sem]
theorem comm_put {fr:Frame} {cs:List Frame} {w:World} {r cap sent rcvd:Nat} {buf:Array Value} {tm:Bool} {v z:Value} (hh:w.heap[r]?=some (.chan cap buf false sent rcvd tm)) (hroom:buf.size<cap) :
  (communicate P { timers:=#[],alone:=none,slice:=none } #[gone] 0 { frame:=fr,callers:=cs,status:=.running,dying:=none } #[{ chan:=.chan (some r),send:=some v,zero:=z }] false .select w).1 =
   .next (lone (fr.finish (.tuple #[.int .i64 0,.bool false])) cs { w with heap:=w.heap.setIfInBounds r (.chan cap (buf.push v) false (sent+1) rcvd tm) }):=by
 have hp:partners #[gone] r false=[]:=by
  unfold partners
  simp [gone]
 unfold communicate
 simp [hh,ways,hp,hroom,choose,Question.forced,Sem.run,lone,Goroutine.finishComm,commResult,go_sem]
theorem comm_full {fr:Frame} {cs:List Frame} {w:World} {r cap sent rcvd:Nat} {buf:Array Value} {tm:Bool} {v z:Value} (hh:w.heap[r]?=some (.chan cap buf false sent rcvd tm)) (hroom:¬ buf.size<cap) :
  (communicate P { timers:=#[],alone:=none,slice:=none } #[gone] 0 { frame:=fr,callers:=cs,status:=.running,dying:=none } #[{ chan:=.chan (some r),send:=some v,zero:=z }] false .select w).1 =
   .next (lone (fr.finish (.tuple #[.int .i64 (-1),.bool false])) cs w):=by
 have hp:partners #[gone] r false=[]:=by
  unfold partners
  simp [gone]
 unfold communicate
 simp [hh,ways,hp,hroom,lone,Goroutine.finishComm,commResult,go_sem]
section
variable {b:Frame} {a:Act} {k:List Item} {cs:List Frame} {w w':World} {ops:Array Oper} {i:Nat} {rest:List Nat} {o:Oper}
theorem step_value {v:Value} (ho:ops[i]?=some o) (hw:Region.wanted o (yielded ops a.tmps)=true) (hr:(o.semAt b.roundOf a.eval).run P w=.ok (.value v) w') :
  step P (lone (b.atR a (.inRegion ops (i :: rest) :: k)) cs w)=.next (lone (b.atR (a.put o.dst v) (.inRegion ops rest :: k)) cs w'):=by
 have hf:=Frame.finish_atR b a ops i rest k v
 rw [ho] at hf
 simp only [Option.bind_some] at hf
 rw [← hf]
 refine step_lone_go ?_
 rw [stepGR_op ho hw]
 simp [stepG.apply,Sem.runT_eq,hr,GStep.bare_after]
theorem step_skipped (ho:ops[i]?=some o) (hw:Region.wanted o (yielded ops a.tmps)=true) (hr:(o.semAt b.roundOf a.eval).run P w=.ok .skip w') :
  step P (lone (b.atR a (.inRegion ops (i :: rest) :: k)) cs w)=.next (lone (b.atR (a.put o.dst undef) (.inRegion ops rest :: k)) cs w'):=by
 have hf:=Frame.finish_atR b a ops i rest k undef
 rw [ho] at hf
 simp only [Option.bind_some] at hf
 rw [← hf]
 refine step_lone_go ?_
 rw [stepGR_op ho hw]
 simp [stepG.apply,Sem.runT_eq,hr,GStep.bare_after]
theorem step_comm {cases:Array CommCase} {blocking:Bool} {shape:CommShape} {v:Value} (hk:(b.kind == CallKind.early)=false) (ho:ops[i]?=some o) (hw:Region.wanted o (yielded ops a.tmps)=true) (hr:(o.semAt b.roundOf a.eval).run P w=.ok (.comm cases blocking shape) w)
  (hc:∀ fr:Frame,(communicate P { timers:=#[],alone:=none,slice:=none } #[gone] 0 { frame:=fr,callers:=cs,status:=.running,dying:=none } cases blocking shape w).1=.next (lone (fr.finish v) cs w')) :
  step P (lone (b.atR a (.inRegion ops (i :: rest) :: k)) cs w)=.next (lone (b.atR (a.put o.dst v) (.inRegion ops rest :: k)) cs w'):=by
 have hf:=Frame.finish_atR b a ops i rest k v
 rw [ho] at hf
 simp only [Option.bind_some] at hf
 rw [← hf]
 have hs:=stepGR_op (P:=P) (b:=b) (a:=a) (k:=k) (cs:=cs) (w:=w) (rest:=rest) ho hw
 have hs2:∃ es,stepG.apply P true (b.atR a (.inRegion ops (i :: rest) :: k)) cs none (o.semAt b.roundOf a.eval) w=.comm { frame:=b.atR a (.inRegion ops (i :: rest) :: k),callers:=cs,status:=.running,dying:=none } cases blocking shape w es:=by
  have hk':(b.kind == CallKind.early)=false:=hk
  simp [stepG.apply,hr,Frame.atR,hk',GStep.after]
 obtain ⟨es,hs2⟩:=hs2
 exact step_lone_comm (hs.trans hs2) (hc _)
end
end Go.Proofs.YtidggaoacldgkaaGreatDoor.X
