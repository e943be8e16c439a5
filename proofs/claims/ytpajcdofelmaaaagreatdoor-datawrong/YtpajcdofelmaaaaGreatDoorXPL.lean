/- An executor for closed calls, 15: what is made out of an operation stands for it. -/
import Derived.Test.YtpajcdofelmaaaaGreatDoorXN
namespace Go.Proofs.YtpajcdofelmaaaaGreatDoor.X
open Go.RowKit
theorem zinfo {P:Program} {t:TypeId} {i:TypeInfo} {z:Value} {v:AV} (h:zeroA P t=some (i,z,v)):P.info? t=some i:=(zeroA_spec h).1
theorem zzero {P:Program} {t:TypeId} {i:TypeInfo} {z:Value} {v:AV} (h:zeroA P t=some (i,z,v)):i.zero=some z:=(zeroA_spec h).2.1
theorem zlone {P:Program} {t:TypeId} {i:TypeInfo} {z:Value} {v:AV} (h:zeroA P t=some (i,z,v)):Lone v z:=(zeroA_spec h).2.2
theorem Co.buildS' {P:Program} {t e:TypeId} {n:Nat} {j:TypeInfo} {z:Value} {v:AV} {ps:Array (Nat × Operand)} {qs:List (Nat × Nat × AX)} (h1:P.underlying t=some (.slice e)) (h2:zeroA P e=some (j,z,v)) (hn:¬ n=0) (h3:(cellsA v).length=j.size∧0<j.size∧n*j.size≤2 ^ 24) (h4:cps (fun i=>some (i*j.size,j.size)) ps.toList=some qs):Co P (.buildSlice t n ps) (.buildS e n (zerosL (cellsA v) n) qs):=by
  obtain ⟨e1,e2,e3⟩:=zeroA_spec h2
  refine Co.buildS h1 e1 e2 h3.2.2 (Nat.mul_pos (by omega) h3.2.1) (fun _=>okL_zeros (okL_cells (e3.2 _)) n) (fun r=>?_) e3 (cps_spec h4)
  rw [← h3.1]
  exact zeros_real e3 (by omega) n
theorem compOp_spec {P:Program} {op:Op} {op':AOp} (h:compOp P op=some op'):Co P op op':=by
  unfold compOp at h
  split at h
  all_goals (repeat' split at h)
  all_goals first
    | (cases h; done)
    | (cases h
       first
         | exact Co.mv (cx_spec ‹_›)
         | exact Co.asg (cx_spec ‹_›)
         | exact Co.pick (cx_spec ‹_›) (cx_spec ‹_›) (cx_spec ‹_›)
         | exact Co.new (zinfo ‹_›) (zzero ‹_›) (zlone ‹_›)
         | exact Co.box (cx_spec ‹_›)
         | exact Co.build (zinfo ‹_›) (zzero ‹_›) (zlone ‹_›) ‹_› (placesA_spec ‹_›) (cps_spec ‹_›)
         | exact Co.buildA (zinfo ‹_›) (zzero ‹_›) (zlone ‹_›) ‹_› ‹_› (cps_spec ‹_›)
         | exact Co.buildS' ‹_› ‹_› ‹_› ‹_› ‹_›
         | (subst_vars; exact Co.buildE ‹_› (zinfo ‹_›))
         | exact Co.ldN ‹_› ‹_› ‹_› (cx_spec ‹_›)
         | exact Co.ld1 ‹_› (Bool.eq_false_iff.2 ‹_›) (cx_spec ‹_›)
         | exact Co.st ‹_› (cx_spec ‹_›) (cx_spec ‹_›)
         | exact Co.nchk (cx_spec ‹_›)
         | exact Co.fa ‹_› ‹_› ‹_› ‹_› (cx_spec ‹_›)
         | exact Co.fld ‹_› ‹_› ‹_› ‹_› ‹_› (cx_spec ‹_›)
         | exact Co.fld1 ‹_› ‹_› ‹_› (Bool.eq_false_iff.2 ‹_›) (cx_spec ‹_›)
         | exact Co.ia ‹_› ‹_› (cx_spec ‹_›) (cx_spec ‹_›)
         | exact Co.iaA ‹_› ‹_› (cx_spec ‹_›) (cx_spec ‹_›)
         | exact Co.ext (cx_spec ‹_›)
         | exact Co.mkf (cxs_spec ‹_›) (cxs_spec ‹_›)
         | exact Co.mki ‹_› (by intro m hm; subst hm; simp_all) (cx_spec ‹_›)
         | exact Co.eq (.inl ⟨rfl,rfl⟩) ‹_› (eqT_spec ‹_›) (cx_spec ‹_›) (cx_spec ‹_›)
         | exact Co.eq (.inr ⟨rfl,rfl⟩) ‹_› (eqT_spec ‹_›) (cx_spec ‹_›) (cx_spec ‹_›)
         | exact Co.eqA (eaN_spec ‹_› ‹_›) (.inl ⟨rfl,rfl⟩) (cx_spec ‹_›) (cx_spec ‹_›)
         | exact Co.eqA (eaN_spec ‹_› ‹_›) (.inr ⟨rfl,rfl⟩) (cx_spec ‹_›) (cx_spec ‹_›)
         | exact Co.ar (cx_spec ‹_›) (cx_spec ‹_›)
         | exact Co.un (cx_spec ‹_›)
         | exact Co.ta (taL_spec ‹_› _) (cx_spec ‹_›)
         | exact Co.cvI ‹_› ‹_› (cx_spec ‹_›)
         | exact Co.clr ‹_› (zinfo ‹_›) (zzero ‹_›) (zlone ‹_›) ‹_› (cx_spec ‹_›)
         | exact Co.cvT ‹_› ‹_› ‹_› (cx_spec ‹_›)
         | exact Co.cvB ‹_› ‹_› ‹_› ‹_› ‹_› (cx_spec ‹_›)
         | exact Co.cvS ‹_› ‹_› (cx_spec ‹_›)
         | exact Co.lenS ‹_› (cx_spec ‹_›)
         | exact Co.len ‹_› (cx_spec ‹_›)
         | exact Co.lenM ‹_› (cx_spec ‹_›)
         | exact Co.lenC ‹_› (cx_spec ‹_›)
         | exact Co.mkC ‹_› ‹_› ‹_› (cx_spec ‹_›)
         | exact Co.app ‹_› (.inr ⟨_,‹_›⟩) (zinfo ‹_›) (zzero ‹_›) (zlone ‹_›) (And.left ‹_∧_›) (And.left (And.right ‹_∧_›)) (And.right (And.right ‹_∧_›)) (cx_spec ‹_›) (cx_spec ‹_›)
         | exact Co.app ‹_› (.inl ‹_›) (zinfo ‹_›) (zzero ‹_›) (zlone ‹_›) (And.left ‹_∧_›) (And.left (And.right ‹_∧_›)) (And.right (And.right ‹_∧_›)) (cx_spec ‹_›) (cx_spec ‹_›)
         | exact Co.max (cxs_spec ‹_›)
         | exact Co.min (cxs_spec ‹_›)
         | exact Co.ix1 ‹_› ‹_› (And.left ‹_∧_›) ‹_› (And.right ‹_∧_›) (cx_spec ‹_›) (cx_spec ‹_›)
         | exact Co.lk ‹_› ‹_› (zinfo ‹_›) (zzero ‹_›) (zlone ‹_›) (cx_spec ‹_›) (cx_spec ‹_›)
         | exact Co.up ‹_› ‹_› (cx_spec ‹_›) (cx_spec ‹_›) (cx_spec ‹_›)
         | exact Co.ins ‹_› ‹_› (cx_spec ‹_›) (cx_spec ‹_›) (cx_spec ‹_›)
         | exact Co.lkA ‹_› (sk_of ‹_›) (zinfo ‹_›) (zzero ‹_›) (zlone ‹_›) (cx_spec ‹_›) (cx_spec ‹_›)
         | exact Co.upA ‹_› (sk_of ‹_›) (cx_spec ‹_›) (cx_spec ‹_›) (cx_spec ‹_›)
         | exact Co.ixS ‹_› (cx_spec ‹_›) (cx_spec ‹_›)
         | exact Co.mkS ‹_› (zinfo ‹_›) (zzero ‹_›) (zlone ‹_›) (And.left ‹_∧_›) (And.left (And.right ‹_∧_›)) (And.right (And.right ‹_∧_›)) (cx_spec ‹_›) (cx_spec ‹_›)
         | exact Co.sl ‹_› ‹_› (cx_spec ‹_›) (cxo_spec ‹_›) (cxo_spec ‹_›) (cxo_spec ‹_›) (by intro h1 h2; simp_all)
         | exact Co.slS ‹_› (cx_spec ‹_›) (cxo_spec ‹_›) (cxo_spec ‹_›)
         | exact Co.rng ‹_› (cx_spec ‹_›)
         | exact Co.nxt (cx_spec ‹_›)
         | exact Co.mkM)
end Go.Proofs.YtpajcdofelmaaaaGreatDoor.X

/- An executor for closed calls, 15: operations of a region; a script for a region that draws its order. -/
namespace Go.Proofs.YtpajcdofelmaaaaGreatDoor.X
open Go.RowKit
def compK (P:Program) (op:Op):Option AK :=
 match op with
 | .call ⟨.value (.func f),args,_⟩=>match mapO cx args.toList with
  | some xs=>some (.call (Pt.ofNat f) xs)
  | none=>none
 | .call ⟨.value x,args,_⟩=>match cx x,mapO cx args.toList with
  | some x,some xs=>some (.callv x xs)
  | _,_=>none
 | .send c x=>match cx c,cx x with
  | some c,some x=>some (.snd c x)
  | _,_=>none
 | .select ⟨[⟨c,none,e⟩]⟩ false=>match cx c,zeroA P e with
  | some x,some (_,_,v)=>some (.sel x v)
  | _,_=>none
 | .select ⟨[⟨c,some y,e⟩]⟩ false=>match cx c,cx y,zeroA P e with
  | some x,some y,some _=>some (.sls x y)
  | _,_,_=>none
 | .panic x=>match cx x with
  | some x=>some (.pan x)
  | none=>none
 | op=>match compOp P op with
  | some o=>some (.v o)
  | none=>none
def compD (m:Nat):Option Tmp→Option (Option Sl)
 | none=>some none
 | some t=>if t<m then some (some (Sl.ofNat t)) else none
def compG (ops:Array Oper):Option (Nat × Bool)→Option (Option (Sl × Bool))
 | none=>some none
 | some (j,b)=>match (ops[j]?).bind (·.dst) with
  | some t=>some (some (Sl.ofNat t,b))
  | none=>none
def compOper (P:Program) (m:Nat) (ops:Array Oper) (o:Oper):Option AOper :=
 match compK P o.op,compD m o.dst,compG ops o.guard with
 | some k,some d,some g=>some ⟨d,k,g⟩
 | _,_,_=>none
def heapX (x:AOper):Bool:=match x.op with
 | .v (.ld1 _) | .v (.ldN _ _) | .v (.lenM _) | .v (.lenC _) | .v (.lk _ _ _ _) | .v (.lkA _ _ _ _ _) | .v (.cvT _) | .v (.eq _ _ _ _)=>true
 | _=>false
def inP (p:Sl):List Sl→Bool
 | []=>false
 | q :: l=>eqS p q||inP p l
def inD (d:Option Sl) (l:List Sl):Bool:=match d with
 | some p=>inP p l
 | none=>false
def sameD (d d':Option Sl):Bool:=match d,d' with
 | some p,some q=>eqS p q
 | _,_=>false
def mask1 (acc:List Nat):List Edge→Nat
 | []=>0
 | e :: l=>match Region.binds .any e with
  | true=>Nat.lor (Nat.lor (2 ^ e.on) (acc.getD e.on 0)) (mask1 acc l)
  | false=>mask1 acc l
def masks:List Oper→List Nat→List Nat
 | [],acc=>acc
 | o :: l,acc=>masks l (acc ++ [mask1 acc o.after.toList])
def MB (ms:List Nat) (i j:Nat):Bool:=(ms.getD i 0).testBit j
def oldRead (ms:List Nat) (p:Sl) (j:Nat):List AOper→Nat→Bool
 | [],_=>false
 | y :: l,k=>(inP p (rdX y)&&!(MB ms k j))||oldRead ms p j l (k+1)
def kE (ms:List Nat) (xs:List AOper) (j:Nat) (x:AOper):Bool:=match x.dst,x.op with
 | some p,.v op=>match quietB op,op,x.guard with
  | true,_,_=>oldRead ms p j xs 0
  | false,.new _ _,none=>oldRead ms p j xs 0
  | false,.box _ _,none=>oldRead ms p j xs 0
  | false,.buildS _ _ _ _,none=>oldRead ms p j xs 0
  | false,.mkM,none=>oldRead ms p j xs 0
  | false,.mkS _ _ _ _ _,none=>oldRead ms p j xs 0
  | false,.cvB _ _,none=>oldRead ms p j xs 0
  | _,_,_=>true
 | _,_=>true
structure Rw where
 i:Nat
 e:Bool
 need:Nat
def rows (ms:List Nat) (xs:List AOper):List Oper→List AOper→Nat→List Rw
 | o :: os,x :: ys,k=>⟨k,kE ms xs k x,mask1 [] o.after.toList⟩ :: rows ms xs os ys (k+1)
 | _,_,_=>[]
def pickR (d:Nat) (e:Bool):List Rw→Option (Nat × List Rw)
 | []=>none
 | r :: l=>match (Nat.beq (Nat.land r.need d) r.need)&&(r.e == e) with
  | true=>some (r.i,l)
  | false=>match pickR d e l with
   | some (i,l)=>some (i,r :: l)
   | none=>none
def ordOf:Nat→Nat→List Rw→List Nat
 | 0,_,_=>[]
 | f+1,d,l=>match pickR d false l with
  | some (i,l)=>i :: ordOf f (Nat.lor d (2 ^ i)) l
  | none=>match pickR d true l with
   | some (i,l)=>i :: ordOf f (Nat.lor d (2 ^ i)) l
   | none=>[]
def rcOf (ms:List Nat) (i:Nat) (pre:List It):List (Sl × AOper):=pre.filterMap fun it=>match it with
 | .n j _ p y=>match heapX y&&quietX y&&!(MB ms i j) with
  | true=>some (p,y)
  | false=>none
 | _=>none
def abOf (ms:List Nat) (i:Nat) (pre:List It):List Nat:=pre.filterMap fun it=>match it with
 | .a j _ _=>match MB ms i j with
  | true=>some j
  | false=>none
 | _=>none
def srcOf:Nat→List It→Sl→List Nat
 | 0,_,_=>[]
 | f+1,l,p=>l.flatMap fun it=>match it with
  | .a j q _=>match eqS q p with
   | true=>[j]
   | false=>[]
  | .n _ _ q y=>match eqS q p,y.op with
   | true,.v (.mv (.t x))=>srcOf f l x
   | true,.v (.ia _ (.t x) _)=>srcOf f l x
   | true,.v (.iaA _ _ (.t x) _)=>srcOf f l x
   | true,.v (.fa _ (.t x))=>srcOf f l x
   | true,.v (.nchk (.t x))=>srcOf f l x
   | true,.v (.sl _ (.t x) _ _ _)=>srcOf f l x
   | _,_=>[]
  | _=>[]
def abN (ms:List Nat) (i:Nat) (op:AOp) (pre:List It):List Nat:=match op with
 | .ld1 (.t p)=>(srcOf pre.length pre p).filter fun j=>MB ms i j
 | .ldN _ (.t p)=>(srcOf pre.length pre p).filter fun j=>MB ms i j
 | _=>[]
def leanB (ms:List Nat) (i:Nat):It→Bool
 | .n j [] _ _=>true||MB ms i j
 | .n j (_ :: _) _ _=>MB ms i j
 | _=>true
def mkIt (ms:List Nat) (xs:List AOper) (pre:List It) (j:Nat):Option It:=match xs[j]? with
 | none=>none
 | some x=>match kE ms xs j x with
  | true=>some (.e j (abOf ms j pre) (rcOf ms j pre) x)
  | false=>match x with
   | ⟨some p,.v op,g⟩=>match quietB op,g with
    | true,g=>some (.n j (abN ms j op pre) p ⟨some p,.v op,g⟩)
    | false,none=>some (.a j p op)
    | false,some _=>none
   | _=>none
def mkAll (ms:List Nat) (xs:List AOper):List Nat→List It→Option (List It)
 | [],pre=>some pre
 | j :: js,pre=>match mkIt ms xs pre j with
  | some it=>mkAll ms xs js (pre ++ [it])
  | none=>none
def splitsB (f:List It→It→List It→Bool):List It→List It→Bool
 | _,[]=>true
 | pre,x :: post=>f pre x post&&splitsB f (pre ++ [x]) post
def hasI (i:Nat):List It→Bool
 | []=>false
 | y :: l=>Nat.beq y.i i||hasI i l
def planB (ops:Array Oper) (ms:List Nat) (pre:List It) (x:It) (post:List It):Bool :=
 (match ops[x.i]? with
  | some o=>o.after.toList.all fun e=>!(Region.binds .any e)||hasI e.on pre
  | none=>false) &&
 (!x.isE||post.all fun y=>MB ms y.i x.i) &&
 (post.all fun y=>!(sameD x.dst y.dst)&&!(Nat.beq x.i y.i)) &&
 (x.isE||!(inD x.dst x.rd)) &&
 (pre.all fun y=>y.isE||!(inD y.dst x.rd)||MB ms x.i y.i) &&
 (post.all fun y=>y.isE||!(inD y.dst x.rd)) &&
 (!x.isE||pre.all fun y=>y.isE||!(inD x.dst y.rd)||MB ms x.i y.i) &&
 (!x.isE||pre.all fun y=>leanB ms x.i y)
def coverB (l:List It):Nat→Bool
 | 0=>true
 | n+1=>hasI n l&&coverB l n
def plan (P:Program) (m:Nat) (ops:Array Oper):Option (List It):=match mapO (compOper P m ops) ops.toList with
 | none=>none
 | some xs=>match mkAll (masks ops.toList []) xs (ordOf ops.size 0 (rows (masks ops.toList []) xs ops.toList xs 0)) [] with
  | none=>none
  | some l=>match splitsB (planB ops (masks ops.toList [])) [] l&&Nat.beq l.length ops.size&&coverB l ops.size with
   | true=>some l
   | false=>none
def preB (n0:Nat):List Oper→Nat→Bool
 | [],_=>true
 | o :: l,i=>(o.after.toList.all fun e=>!(Region.binds .any e)||Nat.blt e.on i)&&(match o.guard with | none=>true | some (j,_)=>Nat.blt j n0)&&preB n0 l (i+1)
def allB (n:Nat) (o:Oper):Bool:=Nat.rec (motive:=fun _=>Bool) true (fun j ih=>(o.after.toList.any fun e=>Region.binds .any e&&Nat.beq e.on j)&&ih) n
def ltB (n:Nat) (o:Oper):Bool:=o.after.toList.all fun e=>!(Region.binds .any e)||Nat.blt e.on n
def hitB (n:Nat) (o:Oper):Bool:=o.after.toList.any fun e=>Region.binds .any e&&Nat.beq e.on n
def tailB (ops:Array Oper) (n0:Nat):Bool :=
 Nat.beq ops.size (n0+3)&&preB n0 (ops.toList.take n0) 0&&(match ops[n0]?,ops[n0+1]?,ops[n0+2]? with
  | some q,some s1,some s2=>allB n0 q&&allB n0 s1&&allB n0 s2&&ltB n0 q&&ltB (n0+1) s1&&hitB n0 s1&&ltB n0 s2
  | _,_,_=>false)
def ops1 (ops:Array Oper) (n0:Nat):Array Oper:=(ops.toList.take n0).toArray
end Go.Proofs.YtpajcdofelmaaaaGreatDoor.X
