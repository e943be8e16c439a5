/- An executor for closed calls, 15: what is made out of an operation stands for it. -/
import Derived.Test.YtfnehpgefcnjgaaXN
import Derived.RangeFuncNested
import Derived.OrdersIn
namespace Go.Proofs.Ytfnehpgefcnjgaa.X
open Go.RowKit

theorem zinfo {P : Program} {t : TypeId} {i : TypeInfo} {z : Value} {v : AV} (h : zeroA P t = some (i, z, v)) : P.info? t = some i := (zeroA_spec h).1
theorem zzero {P : Program} {t : TypeId} {i : TypeInfo} {z : Value} {v : AV} (h : zeroA P t = some (i, z, v)) : i.zero = some z := (zeroA_spec h).2.1
theorem zlone {P : Program} {t : TypeId} {i : TypeInfo} {z : Value} {v : AV} (h : zeroA P t = some (i, z, v)) : Lone v z := (zeroA_spec h).2.2

theorem Co.buildS' {P : Program} {t e : TypeId} {n : Nat} {j : TypeInfo} {z : Value} {v : AV} {ps : Array (Nat × Operand)} {qs : List (Nat × Nat × AX)} (h1 : P.underlying t = some (.slice e)) (h2 : zeroA P e = some (j, z, v)) (hn : ¬ n = 0) (h3 : (cellsA v).length = j.size ∧ 0 < j.size ∧ n * j.size ≤ 2 ^ 24) (h4 : cps (fun i => some (i * j.size, j.size)) ps.toList = some qs) : Co P (.buildSlice t n ps) (.buildS e n (zerosL (cellsA v) n) qs) := by
  obtain ⟨e1, e2, e3⟩ := zeroA_spec h2
  refine Co.buildS h1 e1 e2 h3.2.2 (Nat.mul_pos (by omega) h3.2.1) (fun _ => okL_zeros (okL_cells (e3.2 _)) n) (fun r => ?_) e3 (cps_spec h4)
  rw [← h3.1]
  exact zeros_real e3 (by omega) n

theorem compOp_spec {P : Program} {op : Op} {op' : AOp} (h : compOp P op = some op') : Co P op op' := by
  unfold compOp at h
  split at h
  all_goals (repeat' split at h)
  all_goals first
    | (cases h; done)
    | (cases h
       first
         | exact Co.mv (cx_spec ‹_›)
         | exact Co.asg (cx_spec ‹_›)
         | exact Co.pick (cx_spec ‹_›) (cx_spec ‹_›) (cx_spec ‹_›)
         | exact Co.new (zinfo ‹_›) (zzero ‹_›) (zlone ‹_›)
         | exact Co.box (cx_spec ‹_›)
         | exact Co.build (zinfo ‹_›) (zzero ‹_›) (zlone ‹_›) ‹_› (placesA_spec ‹_›) (cps_spec ‹_›)
         | exact Co.buildA (zinfo ‹_›) (zzero ‹_›) (zlone ‹_›) ‹_› ‹_› (cps_spec ‹_›)
         | exact Co.buildS' ‹_› ‹_› ‹_› ‹_› ‹_›
         | (subst_vars; exact Co.buildE ‹_› (zinfo ‹_›))
         | exact Co.ldN ‹_› ‹_› ‹_› (cx_spec ‹_›)
         | exact Co.ld1 ‹_› (Bool.eq_false_iff.2 ‹_›) (cx_spec ‹_›)
         | exact Co.st ‹_› (cx_spec ‹_›) (cx_spec ‹_›)
         | exact Co.nchk (cx_spec ‹_›)
         | exact Co.fa ‹_› ‹_› ‹_› ‹_› (cx_spec ‹_›)
         | exact Co.fld ‹_› ‹_› ‹_› ‹_› ‹_› (cx_spec ‹_›)
         | exact Co.fld1 ‹_› ‹_› ‹_› (Bool.eq_false_iff.2 ‹_›) (cx_spec ‹_›)
         | exact Co.ia ‹_› ‹_› (cx_spec ‹_›) (cx_spec ‹_›)
         | exact Co.iaA ‹_› ‹_› (cx_spec ‹_›) (cx_spec ‹_›)
         | exact Co.ext (cx_spec ‹_›)
         | exact Co.mkf (cxs_spec ‹_›) (cxs_spec ‹_›)
         | exact Co.mki ‹_› (by intro m hm; subst hm; simp_all) (cx_spec ‹_›)
         | exact Co.eq (.inl ⟨rfl, rfl⟩) ‹_› (eqT_spec ‹_›) (cx_spec ‹_›) (cx_spec ‹_›)
         | exact Co.eq (.inr ⟨rfl, rfl⟩) ‹_› (eqT_spec ‹_›) (cx_spec ‹_›) (cx_spec ‹_›)
         | exact Co.ar (cx_spec ‹_›) (cx_spec ‹_›)
         | exact Co.un (cx_spec ‹_›)
         | exact Co.cvI ‹_› ‹_› (cx_spec ‹_›)
         | exact Co.clr ‹_› (zinfo ‹_›) (zzero ‹_›) (zlone ‹_›) ‹_› (cx_spec ‹_›)
         | exact Co.cvT ‹_› ‹_› ‹_› (cx_spec ‹_›)
         | exact Co.cvB ‹_› ‹_› ‹_› ‹_› ‹_› (cx_spec ‹_›)
         | exact Co.cvS ‹_› ‹_› (cx_spec ‹_›)
         | exact Co.lenS ‹_› (cx_spec ‹_›)
         | exact Co.len ‹_› (cx_spec ‹_›)
         | exact Co.lenM ‹_› (cx_spec ‹_›)
         | exact Co.lenC ‹_› (cx_spec ‹_›)
         | exact Co.mkC ‹_› ‹_› ‹_› (cx_spec ‹_›)
         | exact Co.app ‹_› (.inr ⟨_, ‹_›⟩) (zinfo ‹_›) (zzero ‹_›) (zlone ‹_›) (And.left ‹_ ∧ _›) (And.left (And.right ‹_ ∧ _›)) (And.right (And.right ‹_ ∧ _›)) (cx_spec ‹_›) (cx_spec ‹_›)
         | exact Co.app ‹_› (.inl ‹_›) (zinfo ‹_›) (zzero ‹_›) (zlone ‹_›) (And.left ‹_ ∧ _›) (And.left (And.right ‹_ ∧ _›)) (And.right (And.right ‹_ ∧ _›)) (cx_spec ‹_›) (cx_spec ‹_›)
         | exact Co.max (cxs_spec ‹_›)
         | exact Co.min (cxs_spec ‹_›)
         | exact Co.ix1 ‹_› ‹_› (And.left ‹_ ∧ _›) ‹_› (And.right ‹_ ∧ _›) (cx_spec ‹_›) (cx_spec ‹_›)
         | exact Co.lk ‹_› ‹_› (zinfo ‹_›) (zzero ‹_›) (zlone ‹_›) (cx_spec ‹_›) (cx_spec ‹_›)
         | exact Co.up ‹_› ‹_› (cx_spec ‹_›) (cx_spec ‹_›) (cx_spec ‹_›)
         | exact Co.ixS ‹_› (cx_spec ‹_›) (cx_spec ‹_›)
         | exact Co.mkS ‹_› (zinfo ‹_›) (zzero ‹_›) (zlone ‹_›) (And.left ‹_ ∧ _›) (And.left (And.right ‹_ ∧ _›)) (And.right (And.right ‹_ ∧ _›)) (cx_spec ‹_›) (cx_spec ‹_›)
         | exact Co.sl ‹_› ‹_› (cx_spec ‹_›) (cxo_spec ‹_›) (cxo_spec ‹_›) (cxo_spec ‹_›) (by intro h1 h2; simp_all)
         | exact Co.slS ‹_› (cx_spec ‹_›) (cxo_spec ‹_›) (cxo_spec ‹_›)
         | exact Co.mkM)

end Go.Proofs.Ytfnehpgefcnjgaa.X

/- An executor for closed calls, 15: operations of a region; a script for a region that draws its order. -/
namespace Go.Proofs.Ytfnehpgefcnjgaa.X
open Go.RowKit

def compK (P : Program) (op : Op) : Option AK :=
  match op with
  | .call ⟨.value (.func f), args, _⟩ => match mapO cx args.toList with
    | some xs => some (.call (Pt.ofNat f) xs)
    | none => none
  | .call ⟨.value x, args, _⟩ => match cx x, mapO cx args.toList with
    | some x, some xs => some (.callv x xs)
    | _, _ => none
  | .send c x => match cx c, cx x with
    | some c, some x => some (.snd c x)
    | _, _ => none
  | .select ⟨[⟨c, none, e⟩]⟩ false => match cx c, zeroA P e with
    | some x, some (_, _, v) => some (.sel x v)
    | _, _ => none
  | op => match compOp P op with
    | some o => some (.v o)
    | none => none

def compD (m : Nat) : Option Tmp → Option (Option Pt)
  | none => some none
  | some t => if t < m then some (some (Pt.ofNat t)) else none

def compG (ops : Array Oper) : Option (Nat × Bool) → Option (Option (Pt × Bool))
  | none => some none
  | some (j, b) => match (ops[j]?).bind (·.dst) with
    | some t => some (some (Pt.ofNat t, b))
    | none => none

def compOper (P : Program) (m : Nat) (ops : Array Oper) (o : Oper) : Option AOper :=
  match compK P o.op, compD m o.dst, compG ops o.guard with
  | some k, some d, some g => some ⟨d, k, g⟩
  | _, _, _ => none

/-- does it look at memory? -/
def heapX (x : AOper) : Bool := match x.op with
  | .v (.ld1 _) | .v (.ldN _ _) | .v (.lenM _) | .v (.lenC _) | .v (.lk _ _ _ _) | .v (.cvT _) | .v (.eq _ _ _ _) => true
  | _ => false


def inP (p : Pt) : List Pt → Bool
  | [] => false
  | q :: l => eqP p q || inP p l

def inD (d : Option Pt) (l : List Pt) : Bool := match d with
  | some p => inP p l
  | none => false

def sameD (d d' : Option Pt) : Bool := match d, d' with
  | some p, some q => eqP p q
  | _, _ => false

/-- what an operation waits for, as bits -/
def mask1 (acc : List Nat) : List Edge → Nat
  | [] => 0
  | e :: l => match Region.binds .any e with
    | true => Nat.lor (Nat.lor (2 ^ e.on) (acc.getD e.on 0)) (mask1 acc l)
    | false => mask1 acc l

def masks : List Oper → List Nat → List Nat
  | [], acc => acc
  | o :: l, acc => masks l (acc ++ [mask1 acc o.after.toList])

def MB (ms : List Nat) (i j : Nat) : Bool := (ms.getD i 0).testBit j

def oldRead (ms : List Nat) (p : Pt) (j : Nat) : List AOper → Nat → Bool
  | [], _ => false
  | y :: l, k => (inP p (rdX y) && !(MB ms k j)) || oldRead ms p j l (k + 1)

/-- does it act? -/
def kE (ms : List Nat) (xs : List AOper) (j : Nat) (x : AOper) : Bool := match x.dst, x.op with
  | some p, .v op => match quietB op, op, x.guard with
    | true, _, _ => oldRead ms p j xs 0
    | false, .new _ _, none => oldRead ms p j xs 0
    | false, .box _ _, none => oldRead ms p j xs 0
    | false, .buildS _ _ _ _, none => oldRead ms p j xs 0
    | false, .mkM, none => oldRead ms p j xs 0
    | false, .cvB _ _, none => oldRead ms p j xs 0
    | _, _, _ => true
  | _, _ => true

structure Rw where
  i : Nat
  e : Bool
  need : Nat

def rows (ms : List Nat) (xs : List AOper) : List Oper → List AOper → Nat → List Rw
  | o :: os, x :: ys, k => ⟨k, kE ms xs k x, mask1 [] o.after.toList⟩ :: rows ms xs os ys (k + 1)
  | _, _, _ => []

def pickR (d : Nat) (e : Bool) : List Rw → Option (Nat × List Rw)
  | [] => none
  | r :: l => match (Nat.beq (Nat.land r.need d) r.need) && (r.e == e) with
    | true => some (r.i, l)
    | false => match pickR d e l with
      | some (i, l) => some (i, r :: l)
      | none => none

def ordOf : Nat → Nat → List Rw → List Nat
  | 0, _, _ => []
  | f + 1, d, l => match pickR d false l with
    | some (i, l) => i :: ordOf f (Nat.lor d (2 ^ i)) l
    | none => match pickR d true l with
      | some (i, l) => i :: ordOf f (Nat.lor d (2 ^ i)) l
      | none => []

def rcOf (ms : List Nat) (i : Nat) (pre : List It) : List (Pt × AOper) := pre.filterMap fun it => match it with
  | .n j p y => match heapX y && quietX y && !(MB ms i j) with
    | true => some (p, y)
    | false => none
  | _ => none

def abOf (ms : List Nat) (i : Nat) (pre : List It) : List Nat := pre.filterMap fun it => match it with
  | .a j _ _ => match MB ms i j with
    | true => some j
    | false => none
  | _ => none

def mkIt (ms : List Nat) (xs : List AOper) (pre : List It) (j : Nat) : Option It := match xs[j]? with
  | none => none
  | some x => match kE ms xs j x with
    | true => some (.e j (abOf ms j pre) (rcOf ms j pre) x)
    | false => match x with
      | ⟨some p, .v op, g⟩ => match quietB op, g with
        | true, g => some (.n j p ⟨some p, .v op, g⟩)
        | false, none => some (.a j p op)
        | false, some _ => none
      | _ => none

def mkAll (ms : List Nat) (xs : List AOper) : List Nat → List It → Option (List It)
  | [], pre => some pre
  | j :: js, pre => match mkIt ms xs pre j with
    | some it => mkAll ms xs js (pre ++ [it])
    | none => none

def splitsB (f : List It → It → List It → Bool) : List It → List It → Bool
  | _, [] => true
  | pre, x :: post => f pre x post && splitsB f (pre ++ [x]) post

def hasI (i : Nat) : List It → Bool
  | [] => false
  | y :: l => Nat.beq y.i i || hasI i l

def planB (ops : Array Oper) (ms : List Nat) (pre : List It) (x : It) (post : List It) : Bool :=
  (match ops[x.i]? with
    | some o => o.after.toList.all fun e => !(Region.binds .any e) || hasI e.on pre
    | none => false) &&
  (!x.isE || post.all fun y => MB ms y.i x.i) &&
  (post.all fun y => !(sameD x.dst y.dst) && !(Nat.beq x.i y.i)) &&
  (x.isE || !(inD x.dst x.rd)) &&
  (pre.all fun y => y.isE || !(inD y.dst x.rd) || MB ms x.i y.i) &&
  (post.all fun y => y.isE || !(inD y.dst x.rd)) &&
  (!x.isE || pre.all fun y => y.isE || !(inD x.dst y.rd) || MB ms x.i y.i)

def coverB (l : List It) : Nat → Bool
  | 0 => true
  | n + 1 => hasI n l && coverB l n

def plan (P : Program) (m : Nat) (ops : Array Oper) : Option (List It) := match mapO (compOper P m ops) ops.toList with
  | none => none
  | some xs => match mkAll (masks ops.toList []) xs (ordOf ops.size 0 (rows (masks ops.toList []) xs ops.toList xs 0)) [] with
    | none => none
    | some l => match splitsB (planB ops (masks ops.toList [])) [] l && Nat.beq l.length ops.size && coverB l ops.size with
      | true => some l
      | false => none

def preB (n0 : Nat) : List Oper → Nat → Bool
  | [], _ => true
  | o :: l, i => (o.after.toList.all fun e => !(Region.binds .any e) || Nat.blt e.on i) && (match o.guard with | none => true | some (j, _) => Nat.blt j n0) && preB n0 l (i + 1)

def allB (n : Nat) (o : Oper) : Bool := Nat.rec (motive := fun _ => Bool) true (fun j ih => (o.after.toList.any fun e => Region.binds .any e && Nat.beq e.on j) && ih) n

def ltB (n : Nat) (o : Oper) : Bool := o.after.toList.all fun e => !(Region.binds .any e) || Nat.blt e.on n

def hitB (n : Nat) (o : Oper) : Bool := o.after.toList.any fun e => Region.binds .any e && Nat.beq e.on n

def tailB (ops : Array Oper) (n0 : Nat) : Bool :=
  Nat.beq ops.size (n0 + 3) && preB n0 (ops.toList.take n0) 0 && (match ops[n0]?, ops[n0 + 1]?, ops[n0 + 2]? with
    | some q, some s1, some s2 => allB n0 q && allB n0 s1 && allB n0 s2 && ltB n0 q && ltB (n0 + 1) s1 && hitB n0 s1 && ltB n0 s2
    | _, _, _ => false)

def ops1 (ops : Array Oper) (n0 : Nat) : Array Oper := (ops.toList.take n0).toArray

end Go.Proofs.Ytfnehpgefcnjgaa.X

/- An executor for closed calls, 15b: code in frames of calls and of rounds (none that begins a package). -/
namespace Go.Proofs.Ytfnehpgefcnjgaa.X
open Go.RowKit

/-- frames of a round, or of none -/
def Wr (ro : Option Nat) : Fence := { Fence.wide with round := ro }

section
variable {P : Program} {ro : Option Nat} {Q : Exit → Act → World → Prop} {a : Act} {w : World}

theorem wr_calm {m : Machine} : m.fenced P (Wr ro) := fenced_wide P m

theorem wr_room (n : Nat) : (Wr ro).room n := fun d hd => by simp [Wr, Fence.wide] at hd

/-- what code comes to, in a frame of a call or of a round -/
def WpN (P : Program) (ro : Option Nat) (c : Code) (Q : Exit → Act → World → Prop) (a : Act) (w : World) : Prop :=
  ∀ (b : Frame) (k : List Item) (cs : List Frame), b.kind = .normal → b.roundOf = ro → ∃ e a' w', Q e a' w' ∧ ArrivesIn (Machine.fenced P (Wr ro)) P (lone (b.atR a (.code c :: k)) cs w) b k cs e a' w'

theorem WpN.of {c : Code} (h : c.wpIn (Wr ro) 0 P Q a w) : WpN P ro c Q a w := fun b k cs _ hb => h b k cs hb trivial (wr_room _)

/-- an item that no jump minds is passed by -/
theorem arrives_by {m m' : Machine} {b : Frame} {x : Item} {k : List Item} {cs : List Frame} {e : Exit} (hx : x.plain = true) (hs : step P m = .next m') (he : e ≠ .normal) (h : ArrivesIn (Machine.fenced P (Wr ro)) P m' b (x :: k) cs e a w) : ArrivesIn (Machine.fenced P (Wr ro)) P m b k cs e a w :=
  .of_steps (.one wr_calm hs) (.pass hx (fun _ _ => .inl he) h)

theorem WpN.seq {x y : Code} (h : WpN P ro x (Exit.then (WpN P ro y Q) Q) a w) : WpN P ro (.seq x y) Q a w := fun b k cs hk hb => by
  obtain ⟨e, a₁, w₁, hq, harr⟩ := h b (.code y :: k) cs hk hb
  by_cases he : e = .normal
  · subst he
    obtain ⟨e₂, a₂, w₂, q₂, r₂⟩ := hq b k cs hk hb
    exact ⟨e₂, a₂, w₂, q₂, .of_steps (.head wr_calm stepR_seq harr) r₂⟩
  · refine ⟨e, a₁, w₁, ?_, arrives_by (x := .code y) rfl stepR_seq he harr⟩
    cases e <;> first | exact hq | exact absurd rfl he

theorem WpN.cond {c : Operand} {x y : Code} {t : Bool} (hc : a.eval c = .bool t) (h : WpN P ro (if t then x else y) Q a w) : WpN P ro (.cond c x y) Q a w := fun b k cs hk hb => by
  obtain ⟨e, a', w', q, r⟩ := h b k cs hk hb
  exact ⟨e, a', w', q, .of_steps (.one wr_calm (stepR_cond hc)) r⟩

theorem WpN.block {id : Nat} {c : Code} (h : WpN P ro c (Exit.inBlock id Q) a w) : WpN P ro (.block id c) Q a w := fun b k cs hk hb => by
  obtain ⟨e, a₁, w₁, hq, harr⟩ := h b (.inBlock id :: k) cs hk hb
  have g0 : ∀ l, gotoIn l (.inBlock id :: k) = gotoIn l k := fun l => by simp [gotoIn]
  cases e with
  | normal => exact ⟨.normal, a₁, w₁, hq, .head wr_calm stepR_block (StepsIn.trans harr (.one wr_calm stepR_inBlock))⟩
  | exit j =>
    by_cases e : j = id
    · subst e
      simp only [Exit.inBlock, if_true] at hq
      exact ⟨.normal, a₁, w₁, hq, .head wr_calm stepR_block (harr.1 k (by simp [exitTo]))⟩
    · simp only [Exit.inBlock, e, if_false] at hq
      have hx : exitTo j (.inBlock id :: k) = exitTo j k := by
        have : (id == j) = false := by simpa using fun h : id = j => e h.symm
        simp [exitTo, this]
      refine ⟨.exit j, a₁, w₁, hq, fun k' hk' => .head wr_calm stepR_block (harr.1 k' (hx.trans hk')), fun hr hk' => ?_⟩
      obtain ⟨k₁, h1, h2⟩ := harr.2 hr (hx.trans hk')
      exact ⟨k₁, h1, .head wr_calm stepR_block h2⟩
  | goto l =>
    refine ⟨.goto l, a₁, w₁, hq, fun k' hk' => .head wr_calm stepR_block (harr.1 k' ((g0 l).trans hk')), fun hr hk' => ?_⟩
    obtain ⟨k₁, h1, h2⟩ := harr.2 hr ((g0 l).trans hk')
    exact ⟨k₁, h1, .head wr_calm stepR_block h2⟩
  | ret => exact ⟨_, a₁, w₁, hq, .of_steps (.one wr_calm stepR_block) harr⟩
  | panic ch => exact ⟨_, a₁, w₁, hq, .of_steps (.one wr_calm stepR_block) harr⟩
  | outgrown => exact ⟨_, a₁, w₁, hq, .of_steps (.one wr_calm stepR_block) harr⟩

/-- a function's contract out of its body -/
theorem callsN {f : FuncId} {fn : Func} {c : Code} {args : Array Value} {R : Ending → World → Prop} (hf : P.funcs[f]? = some fn) (hb : fn.body = some c)
    (h : WpN P none c (bodyPostM (Wr none) 0 P fn R) { tmps := args ++ Array.replicate (fn.ntmps - args.size) undef, defers := [] } w) : CallsIn (Wr none) 0 P f args w R := by
  refine ⟨trivial, fun cs _ => ?_⟩
  let b : Frame := { (default : Frame) with fn := f, kind := .normal, roundOf := none }
  have hent : Frame.enter P f args .normal = b.atR { tmps := args ++ Array.replicate (fn.ntmps - args.size) undef, defers := [] } [.code c] := by simp [Frame.enter, Frame.atR, hf, hb, b]
  obtain ⟨e, a', w', hq, harr⟩ := h b [] cs rfl rfl
  rw [← hent] at harr
  have out : ∀ (u : FrameMode) (todo : List Item), StepsIn (Machine.fenced P (Wr none)) P (lone (Frame.enter P f args .normal) cs w) (lone { b.atR a' todo with mode := u } cs w') → LeavesInM (Wr none) 0 P fn a'.tmps R a'.defers u w' →
      ∃ e w'' fr, R e w'' ∧ ComesIn (Machine.fenced P (Wr none)) P (lone (Frame.enter P f args .normal) cs w) (lone fr cs w'') e ∧ fr.fn = f ∧ fr.leaving P w'' e := fun u todo hs hl => by
    obtain ⟨e', w'', fr', g1, g2, g3, g4⟩ := leaves_stepsInM a'.defers u w' { b.atR a' todo with mode := u } cs rfl rfl rfl hf rfl trivial (wr_room _) hl
    exact ⟨e', w'', fr', g1, ComesIn.of_steps hs g2, g3, g4⟩
  cases e with
  | normal => exact out .returning [] (StepsIn.trans harr (.one wr_calm (stepR_end rfl))) hq
  | ret => obtain ⟨todo, hs⟩ := harr.1 rfl; exact out .returning todo hs hq
  | panic ch => obtain ⟨todo, hs⟩ := harr; exact out (.panicking ch) todo hs hq
  | exit id => exact hq.elim
  | goto l => exact hq.elim
  | outgrown => exact ⟨.outgrown, w', b, hq, harr.resolve_left (by simp [b]), rfl, trivial⟩

/-- a round out of its body -/
theorem roundN {l : Nat} {f : FuncId} {tmps : Array Value} {assign body : Code} {R : Ending → World → Prop}
    (h : WpN P (some l) assign (Exit.then (fun a₁ w₁ => ∃ w₂, (Instr.beginRound l).run P w₁ = .ok () w₂ ∧ WpN P (some l) body (roundPost P l R) a₁ w₂) (fun _ _ _ => False)) { tmps := tmps, defers := [] } w) :
    RoundIn Fence.wide 0 P l f tmps assign body w R := by
  refine ⟨trivial, fun c cs _ => ?_⟩
  let b : Frame := { (default : Frame) with fn := f, kind := .normal, roundOf := some l }
  have h0 : Frame.round l f tmps assign body .normal = b.atR { tmps := tmps, defers := [] } [.code assign, .beginRound, .code body] := by simp [Frame.round, Frame.atR, b]
  obtain ⟨e, a₁, w₁, hq, harr⟩ := h b [.beginRound, .code body] (c :: cs) rfl rfl
  rw [← h0] at harr
  cases e with
  | normal =>
    obtain ⟨w₂, hbr, hbody⟩ := hq
    have s1 : StepsIn (Machine.fenced P (Wr (some l))) P (lone (b.atR a₁ [.beginRound, .code body]) (c :: cs) w₁) (lone (b.atR a₁ [.code body]) (c :: cs) w₂) := .one wr_calm (stepR_beginRound rfl hbr)
    have s2 := StepsIn.trans harr s1
    obtain ⟨e₂, a₂, w₃, hq₂, harr₂⟩ := hbody b [] (c :: cs) rfl rfl
    cases e₂ with
    | normal =>
      obtain ⟨v, w₄, hend, hR⟩ := hq₂
      exact ⟨.returned v, w₄, hR, StepsIn.trans s2 (StepsIn.trans harr₂ (.one wr_calm (stepR_round_end rfl rfl hend)))⟩
    | ret =>
      obtain ⟨v, w₄, hend, hR⟩ := hq₂
      obtain ⟨k₁, hs⟩ := harr₂.2 rfl
      exact ⟨.returned v, w₄, hR, StepsIn.trans s2 (StepsIn.trans hs (.one wr_calm (stepR_round_ret rfl rfl hend)))⟩
    | exit id =>
      obtain ⟨v, w₄, hend, hR⟩ := hq₂
      obtain ⟨k₁, hk, hs⟩ := harr₂.2 rfl rfl
      exact ⟨.returned v, w₄, hR, StepsIn.trans s2 (StepsIn.trans hs (.one wr_calm (stepR_round_exit rfl rfl hk hend)))⟩
    | goto t =>
      obtain ⟨v, w₄, hend, hR⟩ := hq₂
      obtain ⟨k₁, hk, hs⟩ := harr₂.2 rfl rfl
      exact ⟨.returned v, w₄, hR, StepsIn.trans s2 (StepsIn.trans hs (.one wr_calm (stepR_round_goto rfl rfl hk hend)))⟩
    | panic ch => exact hq₂.elim
    | outgrown => exact hq₂.elim
  | _ => exact hq.elim

end
end Go.Proofs.Ytfnehpgefcnjgaa.X

/- An executor for closed calls, 15c: channels of one goroutine: sending where there is room, asking where nothing waits or something does. -/
namespace Go.Proofs.Ytfnehpgefcnjgaa.X
open Go.RowKit
variable {P : Program}

abbrev gone : Goroutine := { frame := (default : Goroutine).frame, callers := (default : Goroutine).callers, status := .finished, dying := (default : Goroutine).dying, offers := (default : Goroutine).offers }

theorem step_lone_comm {fr fr' : Frame} {cs : List Frame} {w w' : World} {g' : Goroutine} {cases : Array CommCase} {blocking : Bool} {shape : CommShape} {es : Array Event}
    (hs : stepG P true { frame := fr, callers := cs, status := .running, dying := none } w = .comm g' cases blocking shape w es)
    (hc : (communicate P { timers := #[], alone := none, slice := none } #[gone] 0 g' cases blocking shape w).1 = .next (lone fr' cs w')) :
    step P (lone fr cs w) = .next (lone fr' cs w') := by
  rw [step, stepT, move_lone]
  simp [runT, lone, Array.swapAt!, hs]
  exact hc

theorem comm_send {fr : Frame} {cs : List Frame} {w : World} {r cap sent rcvd : Nat} {buf : Array Value} {tm : Bool} {v z : Value} (hh : w.heap[r]? = some (.chan cap buf false sent rcvd tm)) (hroom : buf.size < cap) :
    (communicate P { timers := #[], alone := none, slice := none } #[gone] 0 { frame := fr, callers := cs, status := .running, dying := none } #[{ chan := .chan (some r), send := some v, zero := z }] true .send w).1 =
      .next (lone (fr.finish undef) cs { w with heap := w.heap.setIfInBounds r (.chan cap (buf.push v) false (sent + 1) rcvd tm) }) := by
  have hp : partners #[gone] r false = [] := by
    unfold partners
    simp [gone]
  unfold communicate
  simp [hh, ways, hp, hroom, choose, Question.forced, Sem.run, lone, Goroutine.finishComm, commResult, go_sem]

theorem comm_recv {fr : Frame} {cs : List Frame} {w : World} {r cap sent rcvd : Nat} {buf : Array Value} {tm : Bool} {z : Value} (hh : w.heap[r]? = some (.chan cap buf false sent rcvd tm)) (hroom : 0 < buf.size) :
    (communicate P { timers := #[], alone := none, slice := none } #[gone] 0 { frame := fr, callers := cs, status := .running, dying := none } #[{ chan := .chan (some r), send := none, zero := z }] false .select w).1 =
      .next (lone (fr.finish (.tuple #[.int .i64 0, .bool true, buf.getD 0 undef])) cs { w with heap := w.heap.setIfInBounds r (.chan cap (buf.extract 1 buf.size) false sent (rcvd + 1) tm) }) := by
  have hp : partners #[gone] r true = [] := by
    unfold partners
    simp [gone]
  unfold communicate
  simp [hh, ways, hp, hroom, choose, Question.forced, Sem.run, lone, Goroutine.finishComm, commResult, go_sem]

theorem comm_none {fr : Frame} {cs : List Frame} {w : World} {r cap sent rcvd : Nat} {tm : Bool} {z : Value} (hh : w.heap[r]? = some (.chan cap #[] false sent rcvd tm)) :
    (communicate P { timers := #[], alone := none, slice := none } #[gone] 0 { frame := fr, callers := cs, status := .running, dying := none } #[{ chan := .chan (some r), send := none, zero := z }] false .select w).1 =
      .next (lone (fr.finish (.tuple #[.int .i64 (-1), .bool false, z])) cs w) := by
  have hp : partners #[gone] r true = [] := by
    unfold partners
    simp [gone]
  unfold communicate
  simp [hh, ways, hp, lone, Goroutine.finishComm, commResult, go_sem]
section
variable {b : Frame} {a : Act} {k : List Item} {cs : List Frame} {w w' : World} {ops : Array Oper} {i : Nat} {rest : List Nat} {o : Oper}

/-- an operation that gives a value -/
theorem step_value {v : Value} (ho : ops[i]? = some o) (hw : Region.wanted o (yielded ops a.tmps) = true) (hr : (o.semAt b.roundOf a.eval).run P w = .ok (.value v) w') :
    step P (lone (b.atR a (.inRegion ops (i :: rest) :: k)) cs w) = .next (lone (b.atR (a.put o.dst v) (.inRegion ops rest :: k)) cs w') := by
  have hf := Frame.finish_atR b a ops i rest k v
  rw [ho] at hf
  simp only [Option.bind_some] at hf
  rw [← hf]
  refine step_lone_go ?_
  rw [stepGR_op ho hw]
  simp [stepG.apply, Sem.runT_eq, hr, GStep.bare_after]

theorem step_skipped (ho : ops[i]? = some o) (hw : Region.wanted o (yielded ops a.tmps) = true) (hr : (o.semAt b.roundOf a.eval).run P w = .ok .skip w') :
    step P (lone (b.atR a (.inRegion ops (i :: rest) :: k)) cs w) = .next (lone (b.atR (a.put o.dst undef) (.inRegion ops rest :: k)) cs w') := by
  have hf := Frame.finish_atR b a ops i rest k undef
  rw [ho] at hf
  simp only [Option.bind_some] at hf
  rw [← hf]
  refine step_lone_go ?_
  rw [stepGR_op ho hw]
  simp [stepG.apply, Sem.runT_eq, hr, GStep.bare_after]

/-- a communication -/
theorem step_comm {cases : Array CommCase} {blocking : Bool} {shape : CommShape} {v : Value} (hk : b.kind = .normal) (ho : ops[i]? = some o) (hw : Region.wanted o (yielded ops a.tmps) = true) (hr : (o.semAt b.roundOf a.eval).run P w = .ok (.comm cases blocking shape) w)
    (hc : ∀ fr : Frame, (communicate P { timers := #[], alone := none, slice := none } #[gone] 0 { frame := fr, callers := cs, status := .running, dying := none } cases blocking shape w).1 = .next (lone (fr.finish v) cs w')) :
    step P (lone (b.atR a (.inRegion ops (i :: rest) :: k)) cs w) = .next (lone (b.atR (a.put o.dst v) (.inRegion ops rest :: k)) cs w') := by
  have hf := Frame.finish_atR b a ops i rest k v
  rw [ho] at hf
  simp only [Option.bind_some] at hf
  rw [← hf]
  have hs := stepGR_op (P := P) (b := b) (a := a) (k := k) (cs := cs) (w := w) (rest := rest) ho hw
  have hs2 : ∃ es, stepG.apply P true (b.atR a (.inRegion ops (i :: rest) :: k)) cs none (o.semAt b.roundOf a.eval) w = .comm { frame := b.atR a (.inRegion ops (i :: rest) :: k), callers := cs, status := .running, dying := none } cases blocking shape w es := by
    have hk' : (b.kind == CallKind.early) = false := by rw [hk]; rfl
    simp [stepG.apply, hr, Frame.atR, hk', GStep.after]
  obtain ⟨es, hs2⟩ := hs2
  exact step_lone_comm (hs.trans hs2) (hc _)

end
end Go.Proofs.Ytfnehpgefcnjgaa.X

/- An executor for closed calls, 16: code and functions made out of the program's; what they come to is what the program comes to. -/
namespace Go.Proofs.Ytfnehpgefcnjgaa.X
open Go.RowKit

def compPs (m : Nat) (l : List Nat) : Option (List Pt) := mapO (fun t => if t < m then some (Pt.ofNat t) else none) l

def eqX : AX → AX → Bool
  | .t p, .t q => eqP p q
  | _, _ => false

/-- a region whose last three operations are a look and two writes -/
def plan2 (P : Program) (m : Nat) (ops : Array Oper) : Option AC :=
  match ops[ops.size - 3]?, ops[ops.size - 3 + 1]?, ops[ops.size - 3 + 2]? with
  | some q, some s1, some s2 => match compOper P m ops q, compOper P m ops s1, compOper P m ops s2 with
    | some ⟨some pq, .v (.ia nq xq iq), none⟩, some ⟨none, .v (.st n1 a1 x1), none⟩, some ⟨none, .v (.st n2 (.t p2) x2), none⟩ =>
      match tailB ops (ops.size - 3) && eqX a1 (.t pq) && !(eqP p2 pq) && !(eqX x2 (.t pq)) with
      | true => match plan P m (ops1 ops (ops.size - 3)) with
        | some l => some (.draw2 l pq nq xq iq n1 x1 p2 n2 x2)
        | none => none
      | false => none
    | _, _, _ => none
  | _, _, _ => none

def compC (P : Program) (m : Nat) : Code → Option AC
  | .skip => some .skip
  | .region _ ops false => match mapO (compOper P m ops) ops.toList with
    | some l => bif anyC l then (bif allP l then some (.comm l) else none) else some (.ops l)
    | none => none
  | .region _ ops true => match plan P m ops with
    | some l => some (.draw l)
    | none => plan2 P m ops
  | .seq a b => match compC P m a, compC P m b with
    | some a, some b => some (.seq a b)
    | _, _ => none
  | .cond c a b => match cx c, compC P m a, compC P m b with
    | some c, some a, some b => some (.cond c a b)
    | _, _, _ => none
  | .block id b => match compC P m b with
    | some b => some (.block id b)
    | none => none
  | .loop b => match compC P m b with
    | some b => some (.loop b)
    | none => none
  | .exit id => some (.exit id)
  | .ret => some .ret
  | .scope b => compC P m b
  | .label _ => some .skip
  | .goto _ => some .no
  | .rangeFunc g ps a b => match cx g, compPs m ps.toList, compC P m a, compC P m b with
    | some g, some ps, some a, some b => some (.range g ps a b)
    | _, _, _, _ => none
  | _ => none

def compR (P : Program) : ResultVar → Option AR
  | .tmp t => some (.t (Pt.ofNat t))
  | .cell a t => match P.underlying t, P.info? t with
    | some d, some i => if aggD d = true then some (.cN (Pt.ofNat a) i.size) else some (.c1 (Pt.ofNat a))
    | _, _ => none

/-- a function of the table is the program's of that number -/
def FunOk (P : Program) (f : Nat) (af : AF) : Prop := ∃ fn c, P.funcs[f]? = some fn ∧ (fn.name == "runtime.NumGoroutine") = false ∧ fn.body = some c ∧ (∃ ac, compC P fn.ntmps c = some ac ∧ af.code = den ac) ∧ mapO (compR P) fn.results.toList = some af.res

/-- what a frame is: its slots, where memory ended when it began, in whose round it is, the calls that it has put off -/
structure FR where
  m : Nat
  B : Nat
  ro : Option Nat
  base : List Deferred

/-- a round does what the loop's record asks -/
def RSok (P : Program) (w0 : World) (k : Pt) (rs : RS) (r : Rho) : Prop :=
  ∀ (args : List AV) (h : T AO) (nx : Pt) (K : AV → T AO → Pt → Prop) (w : World) (R : Ending → World → Prop), rs args h nx K → WR P w0 r h nx w → okL r.has args →
    (∀ v h' nx' r' w', K v h' nx' → WR P w0 r' h' nx' w' → Ev r h w r' h' w' → okV r'.has v → R (.returned (conc r' v)) w') →
    ∃ f tmps assign body, (Instr.yield (r.blk k) (concL r args).toArray).run P w = .ok (.round (r.blk k) f tmps assign body) w ∧ RoundIn Fence.wide 0 P (r.blk k) f tmps assign body w R

def EnvOk (P : Program) (w0 : World) (loops : T RS) (r : Rho) : Prop := ∀ k rs, loops.find k = some rs → r.has k ∧ ∀ r', r.Le r' → RSok P w0 k rs r'

theorem EnvOk.le {P : Program} {w0 : World} {loops : T RS} {r r' : Rho} (e : r.Le r') (h : EnvOk P w0 loops r) : EnvOk P w0 loops r' :=
  fun k rs hk => ⟨e.has k (h k rs hk).1, fun r'' e' => (h k rs hk).2 r'' (e.trans e')⟩

def CurOk (ro : Option Nat) (cur : Option Pt) (r : Rho) : Prop := match cur with
  | none => ro = none
  | some k => r.has k ∧ ro = some (r.blk k)

theorem CurOk.le {ro : Option Nat} {cur : Option Pt} {r r' : Rho} (e : r.Le r') (h : CurOk ro cur r) : CurOk ro cur r' := by
  cases cur with
  | none => exact h
  | some k => exact ⟨e.has k h.1, by rw [e.blk k h.1]; exact h.2⟩

def DefOk (F : FR) (r : Rho) (h : T AO) (w : World) (l : List Deferred) : Prop := ∃ ds, l = ds ++ F.base ∧ Marks F.B r h w ds ∧ (F.ro ≠ none → ds = [])

theorem DefOk.ev {F : FR} {r r' : Rho} {h h' : T AO} {w w' : World} {l : List Deferred} (e : Ev r h w r' h' w') (d : DefOk F r h w l) : DefOk F r' h' w' l :=
  let ⟨ds, h1, h2, h3⟩ := d; ⟨ds, h1, h2.ev e, h3⟩

/-- a state -/
structure St (P : Program) (w0 : World) (F : FR) (ch : CH) (r : Rho) (tm : T AV) (h : T AO) (nx : Pt) (a : Act) (w : World) : Prop where
  wr : WR P w0 r h nx w
  tr : TR r tm a.tmps
  size : F.m ≤ a.tmps.size
  defers : DefOk F r h w a.defers
  env : EnvOk P w0 ch.loops r
  cur : CurOk F.ro ch.cur r
  bnd : F.B ≤ w.heap.size

theorem St.on {P : Program} {w0 : World} {F : FR} {ch : CH} {r r' : Rho} {tm tm' : T AV} {h h' : T AO} {nx nx' : Pt} {a a' : Act} {w w' : World} (s : St P w0 F ch r tm h nx a w)
    (wr : WR P w0 r' h' nx' w') (e : Ev r h w r' h' w') (tr : TR r' tm' a'.tmps) (size : F.m ≤ a'.tmps.size) (hd : a'.defers = a.defers) : St P w0 F ch r' tm' h' nx' a' w' :=
  ⟨wr, tr, size, by rw [hd]; exact s.defers.ev e, s.env.le e.le, s.cur.le e.le, Nat.le_trans s.bnd e.size⟩

def toExit : AE → Exit
  | .nrm => .normal
  | .exit id => .exit id
  | .ret => .ret

def Good (P : Program) (w0 : World) (F : FR) (ch : CH) (r : Rho) (h : T AO) (w : World) (K : EK4) (Q : Exit → Act → World → Prop) : Prop :=
  ∀ e tm' h' nx' r' a' w', K e tm' h' nx' → St P w0 F ch r' tm' h' nx' a' w' → Ev r h w r' h' w' → Q (toExit e) a' w'

section
variable {P : Program} {w0 : World} {F : FR} {ch : CH} {r : Rho} {h : T AO} {nx : Pt} {w : World} {tm : T AV} {a : Act}

theorem Good.ev {r1 : Rho} {h1 : T AO} {w1 : World} {K : EK4} {Q : Exit → Act → World → Prop} (g : Good P w0 F ch r h w K Q) (e : Ev r h w r1 h1 w1) : Good P w0 F ch r1 h1 w1 K Q :=
  fun x tm' h' nx' r' a' w' hK hs he => g x tm' h' nx' r' a' w' hK hs (e.trans he)

theorem putD_spec {d : Option Pt} {t : Option Tmp} {v : AV} {K : T AV → Prop} (hd : compD F.m t = some d) (hs : St P w0 F ch r tm h nx a w) (hv : okV r.has v) (hk : putD d v tm K) : ∃ tm', K tm' ∧ St P w0 F ch r tm' h nx (a.put t (conc r v)) w := by
  cases t with
  | none =>
    simp only [compD] at hd
    cases hd
    exact ⟨tm, hk, hs⟩
  | some t =>
    simp only [compD] at hd
    split at hd
    · rename_i ht
      cases hd
      simp only [putD] at hk
      rw [T.setK_iff] at hk
      have hp : (Pt.ofNat t).toNat = t := Pt.toNat_ofNat t
      have hlt : (Pt.ofNat t).toNat < a.tmps.size := by rw [hp]; exact Nat.lt_of_lt_of_le ht hs.size
      refine ⟨_, hk, hs.on hs.wr (.refl r h w) ?_ ?_ rfl⟩
      · have := hs.tr.put hlt hv
        rw [hp] at this
        exact this
      · simp [Act.put]; exact hs.size
    · cases hd

theorem conc_undef : conc r (.tup []) = undef := by simp [conc, concL, undef]

theorem wantK_spec {ops : Array Oper} {o : Oper} {p : Pt} {b : Bool} {yes no : Prop} (hg : compG ops o.guard = some (some (p, b))) (ht : TR r tm a.tmps) (hk : wantK p b tm yes no) : (Region.wanted o (yielded ops a.tmps) = true ∧ yes) ∨ (Region.wanted o (yielded ops a.tmps) = false ∧ no) := by
  cases hog : o.guard with
  | none => rw [hog] at hg; cases hg
  | some jb =>
    obtain ⟨j, b'⟩ := jb
    rw [hog] at hg
    simp only [compG] at hg
    split at hg
    · rename_i t hj
      cases hg
      simp only [wantK] at hk
      obtain ⟨v, hv, hk⟩ := (T.getK_iff _ _ _).1 hk
      obtain ⟨g1, -⟩ := ht _ v hv
      rw [Pt.toNat_ofNat] at g1
      have hy : yielded ops a.tmps j = match conc r v with | .bool b => some b | _ => none := by
        unfold yielded
        rw [hj]
        simp only [Option.bind_some, g1]
        cases conc r v <;> rfl
      have hw : Region.wanted o (yielded ops a.tmps) = (yielded ops a.tmps j == some b) := by simp [Region.wanted, hog]
      rw [hw, hy]
      cases v with
      | bool c =>
        simp only [conc] at hk ⊢
        cases hcb : (c == b) with
        | false => rw [hcb] at hk; exact .inr ⟨by simpa using hcb, hk⟩
        | true => rw [hcb] at hk; exact .inl ⟨by simpa using hcb, hk⟩
      | _ => exact .inr ⟨by simp [conc], hk⟩
    · cases hg

theorem wanted_none {ops : Array Oper} {o : Oper} {ts : Array Value} (hg : compG ops o.guard = some none) : Region.wanted o (yielded ops ts) = true := by
  cases hog : o.guard with
  | none => simp [Region.wanted, hog]
  | some jb =>
    obtain ⟨j, b⟩ := jb
    rw [hog] at hg
    simp only [compG] at hg
    split at hg <;> cases hg

/-- what calls is right -/
def CHok (P : Program) (w0 : World) (call : CF) : Prop :=
  ∀ (loops : T RS) (p : Pt) (args : List AV) (h : T AO) (nx : Pt) (K : AV → T AO → Pt → Prop) (r : Rho) (w : World) (R : Ending → World → Prop), call loops p args h nx K → EnvOk P w0 loops r → WR P w0 r h nx w → okL r.has args →
    (∀ v h' nx' r' w', K v h' nx' → WR P w0 r' h' nx' w' → Ev r h w r' h' w' → okV r'.has v → R (.returned (conc r' v)) w') →
    (∃ fn c, P.funcs[p.toNat]? = some fn ∧ (fn.name == "runtime.NumGoroutine") = false ∧ fn.body = some c) ∧ Calls P p.toNat (concL r args).toArray w R

/-- a function of the table does what the program's of that number does: made out of its code, or told by hand -/
def FunSem (P : Program) (f : Nat) (af : AF) : Prop :=
  ∀ (w0 : World) (ch : CH), ch.cur = none → CHok P w0 ch.call → ∀ (args : List AV) (h : T AO) (nx : Pt) (K : AV → T AO → Pt → Prop) (r : Rho) (w : World) (R : Ending → World → Prop), (argsK args .e .l fun tm => af.code ch tm h nx (retK af.res K)) → EnvOk P w0 ch.loops r → WR P w0 r h nx w → okL r.has args →
    (∀ v h' nx' r' w', K v h' nx' → WR P w0 r' h' nx' w' → Ev r h w r' h' w' → okV r'.has v → R (.returned (conc r' v)) w') →
    (∃ fn c, P.funcs[f]? = some fn ∧ (fn.name == "runtime.NumGoroutine") = false ∧ fn.body = some c) ∧ Calls P f (concL r args).toArray w R

def FunsOk (P : Program) (funs : T AF) : Prop := ∀ p af, funs.find p = some af → FunSem P p.toNat af

/-- code is right -/
def Dok (P : Program) (w0 : World) (F : FR) (ch : CH) (c : Code) (d : D) : Prop :=
  ∀ (tm : T AV) (h : T AO) (nx : Pt) (K : EK4) (a : Act) (w : World) (r : Rho) (Q : Exit → Act → World → Prop),
    d ch tm h nx K → St P w0 F ch r tm h nx a w → Good P w0 F ch r h w K Q → WpN P F.ro c Q a w

theorem argsK_spec {args : List AV} : ∀ {p : Pt} {tm : T AV} {c : T AV → Prop}, argsK args p tm c → ∃ tm', c tm' ∧ ∀ q v, tm'.find q = some v → tm.find q = some v ∨ ∃ i, q.toNat = p.toNat + i ∧ args[i]? = some v := by
  induction args with
  | nil => intro p tm c hk; exact ⟨tm, hk, fun q v hq => .inl hq⟩
  | cons x l ih =>
    intro p tm c hk
    have hk : tm.setK x p fun tm => forceP p.succ fun p => argsK l p tm c := hk
    rw [T.setK_iff, forceP_iff] at hk
    obtain ⟨tm', h1, h2⟩ := ih hk
    refine ⟨tm', h1, fun q v hq => ?_⟩
    rcases h2 q v hq with h3 | ⟨i, h3, h4⟩
    · by_cases e : q = p
      · subst e
        rw [T.find_set] at h3; cases h3
        exact .inr ⟨0, rfl, rfl⟩
      · rw [T.find_set_ne _ _ _ _ e] at h3; exact .inl h3
    · exact .inr ⟨i + 1, by rw [h3, Pt.toNat_succ]; omega, by simpa using h4⟩

def resS (ts : Array Value) : ResultVar → Sem Value
  | .tmp t => pure (ts.getD t undef)
  | .cell b t => do loadVar t (← asAddr (ts.getD b undef))

theorem resK_spec (H : WR P w0 r h nx w) (ht : TR r tm a.tmps) : ∀ {rs : List ResultVar} {res : List AR} {c : List AV → Prop}, mapO (compR P) rs = some res → resK tm h res c →
    ∃ vs, c vs ∧ okL r.has vs ∧ ∀ w, WR P w0 r h nx w → (rs.mapM (resS a.tmps) : Sem (List Value)).run P w = .ok (concL r vs) w := by
  intro rs
  induction rs with
  | nil => intro res c hc hk; cases hc; exact ⟨[], hk, by simp [okL], fun w _ => by simp only [concL]; rfl⟩
  | cons x rs ih =>
    intro res c hc hk
    obtain ⟨y, ys, h1, h2, rfl⟩ := mapO_cons hc
    have fin : ∀ (v : AV), okV r.has v → (resK tm h ys fun vs => c (v :: vs)) → (∀ w, WR P w0 r h nx w → (resS a.tmps x).run P w = .ok (conc r v) w) → ∃ vs, c vs ∧ okL r.has vs ∧ ∀ w, WR P w0 r h nx w → ((x :: rs).mapM (resS a.tmps) : Sem (List Value)).run P w = .ok (concL r vs) w := by
      intro v hv hr hx
      obtain ⟨vs, g1, g2, g3⟩ := ih h2 hr
      refine ⟨v :: vs, g1, by simp only [okL]; exact ⟨hv, g2⟩, fun w H => ?_⟩
      rw [List.mapM_cons, run_ok_bind (hx w H), run_ok_bind (g3 w H)]
      simp only [concL]; rfl
    cases x with
    | tmp t =>
      cases h1
      obtain ⟨v, hv, hk⟩ := (T.getK_iff _ _ _).1 (show tm.getK (Pt.ofNat t) _ from hk)
      obtain ⟨g1, g2⟩ := ht _ v hv
      rw [Pt.toNat_ofNat] at g1
      refine fin v g2 hk fun w H => ?_
      show Result.ok (a.tmps.getD t undef) w = _
      simp [g1]
    | cell b t =>
      simp only [compR] at h1
      split at h1
      · rename_i d i hd hi
        split at h1
        · rename_i hag
          cases h1
          obtain ⟨v, hv, hk⟩ := (T.getK_iff _ _ _).1 (show tm.getK (Pt.ofNat b) _ from hk)
          obtain ⟨g1, g2⟩ := ht _ v hv
          rw [Pt.toNat_ofNat] at g1
          split at hk
          · rename_i k q
            obtain ⟨x, hx, hk⟩ := (T.getK_iff _ _ _).1 hk
            split at hk
            · rename_i us e
              obtain ⟨hle, hk⟩ := brec hk
              rw [forceL_iff] at hk
              refine fin _ (by simp only [okV]; exact okL_take (okL_drop ((H.has k _ hx).2.2.1 : okL r.has us) q) i.size) hk fun w H => ?_
              simp only [resS, Array.getD_eq_getD_getElem?, g1, Option.getD_some, conc, asAddr]
              rw [run_ok_bind (run_pure P _ w), loadVar, run_ok_bind (run_isAgg hd), hag]
              simp only [if_true]
              rw [run_ok_bind (run_sizeOf hi), run_ok_bind (H.loadCells hx _ _ (Nat.le_of_ble_eq_true hle))]
              rfl
            · exact hk.elim
          · exact hk.elim
        · rename_i hag
          cases h1
          obtain ⟨v, hv, hk⟩ := (T.getK_iff _ _ _).1 (show tm.getK (Pt.ofNat b) _ from hk)
          obtain ⟨g1, g2⟩ := ht _ v hv
          rw [Pt.toNat_ofNat] at g1
          split at hk
          · rename_i k q
            obtain ⟨x, hx, hk⟩ := (T.getK_iff _ _ _).1 hk
            split at hk
            · rename_i us e
              split at hk
              · rename_i u hu
                refine fin u (((H.has k _ hx).2.2.1 : okL r.has us).get hu) hk fun w H => ?_
                simp only [resS, Array.getD_eq_getD_getElem?, g1, Option.getD_some, conc, asAddr]
                rw [run_ok_bind (run_pure P _ w), loadVar, run_ok_bind (run_isAgg hd), Bool.eq_false_iff.2 hag]
                simp only [Bool.false_eq_true, if_false]
                exact H.loadOne hx hu
              · exact hk.elim
            · exact hk.elim
          · exact hk.elim
      · cases h1

theorem run_results {fn : Func} {ts : Array Value} {vs : List AV} (hr : (fn.results.toList.mapM (resS ts) : Sem (List Value)).run P w = .ok (concL r vs) w) : (results fn ts).run P w = .ok (conc r (oneV vs)) w := by
  have e : results fn ts = (do let vs ← fn.results.mapM (resS ts); pure (if h : vs.size = 1 then vs[0] else .tuple vs)) := by
    unfold results
    congr 1
  rw [e, Array.mapM_eq_mapM_toList, map_eq_pure_bind]
  have h1 : ((do let a ← fn.results.toList.mapM (resS ts); pure a.toArray) : Sem (Array Value)).run P w = .ok (concL r vs).toArray w := by
    rw [run_ok_bind hr]; rfl
  rw [run_ok_bind h1, run_pure]
  congr 1
  match vs with
  | [] => simp [oneV, conc, concL]
  | [v] => simp [oneV, concL]
  | v :: u :: vs => simp [oneV, conc, concL]

theorem okV_one {n : Pt → Prop} {vs : List AV} (h : okL n vs) : okV n (oneV vs) := by
  match vs with
  | [] => simp [oneV, okV, okL]
  | [v] => simp only [okL] at h; exact h.1
  | v :: u :: vs => simp only [oneV, okV]; exact h

/-- marks are come to: no call was put off in a round -/
theorem leaves_marks {fn : Func} {tmps : Array Value} {vs : List AV} {R : Ending → World → Prop} (hr : ∀ w', WR P w0 r h nx w' → (results fn tmps).run P w' = .ok (conc r (oneV vs)) w') {re : Rho} {he : T AO} {we : World} : ∀ (ds : List Deferred) (w : World),
    Marks we.heap.size r h w ds → WR P w0 r h nx w → Ev re he we r h w → w0.heap.size ≤ we.heap.size → (∀ w', WR P w0 r h nx w' → Ev re he we r h w' → R (.returned (conc r (oneV vs))) w') →
    LeavesInM (Wr none) 0 P fn tmps R ds .returning w
  | [], w, _, H, e, _, hR => ⟨_, hr w H, hR w H e⟩
  | d :: ds, w, hm, H, e, h0, hR => by
    obtain ⟨⟨b, rfl, h2, h3, h4, h5⟩, g⟩ := hm
    refine ⟨by simp, .inl ⟨b, _, rfl, run_takeDeferred h3, ?_⟩⟩
    refine leaves_marks hr ds _ ?_ (H.other (Nat.le_trans h0 h2) h4 _) (e.other h2 _) h0 hR
    clear hR e H hr h3
    induction ds with
    | nil => trivial
    | cons d' ds ih =>
      obtain ⟨⟨b', rfl, k2, k3, k4, k5⟩, g⟩ := g
      refine ⟨⟨b', rfl, k2, ?_, k4, k5⟩, ih g (fun d hd => h5 d (List.mem_cons_of_mem _ hd))⟩
      have hne : b' ≠ b := fun e => h5 _ (List.mem_cons_self ..) (by rw [e])
      exact (World.putObj_heap_other hne).trans k3

/-- a call of the table -/
theorem call_sound {f : Nat} {af : AF} (hcur : ch.cur = none) (hf : FunOk P f af) (hS : ∀ (F : FR) c ac, compC P F.m c = some ac → Dok P w0 F ch c (den ac)) {args : List AV} {K : AV → T AO → Pt → Prop} {R : Ending → World → Prop} (hE : EnvOk P w0 ch.loops r) (H : WR P w0 r h nx w) (ha : okL r.has args) (hk : argsK args .e .l fun tm => af.code ch tm h nx (retK af.res K))
    (hR : ∀ v h' nx' r' w', K v h' nx' → WR P w0 r' h' nx' w' → Ev r h w r' h' w' → okV r'.has v → R (.returned (conc r' v)) w') :
    (∃ fn c, P.funcs[f]? = some fn ∧ (fn.name == "runtime.NumGoroutine") = false ∧ fn.body = some c) ∧ Calls P f (concL r args).toArray w R := by
  obtain ⟨fn, c, e1, e2, e3, ⟨ac, e4, e6⟩, e5⟩ := hf
  refine ⟨⟨fn, c, e1, e2, e3⟩, ?_⟩
  obtain ⟨tm, hk, htm⟩ := argsK_spec hk
  rw [e6] at hk
  refine (callsIn_wide (n := 0)).1 (callsN e1 e3 ?_)
  refine hS ⟨fn.ntmps, w.heap.size, none, []⟩ c ac e4 tm h nx _ _ w r _ hk ⟨H, fun q v hq => ?_, ?_, ⟨[], rfl, trivial, fun e => (e rfl).elim⟩, hE, by rw [hcur]; exact rfl, Nat.le_refl _⟩ ?_
  · rcases htm q v hq with h1 | ⟨i, h1, h2⟩
    · rw [T.find_l] at h1; cases h1
    · have hi : i < args.length := (List.getElem?_eq_some_iff.1 h2).1
      have h1 : q.toNat = i := by rw [h1]; show 0 + i = i; omega
      refine ⟨?_, ha.get h2⟩
      rw [h1, Array.getElem?_append_left (by simp [concL_length]; exact hi)]
      rw [List.getElem?_toArray, concL_get, h2]; rfl
  · simp [concL_length]; omega
  · intro e tm' h' nx' r' a' w' hK hs hev
    have key : (resK tm' h' af.res fun vs => K (oneV vs) h' nx') → LeavesInM (Wr none) 0 P fn a'.tmps R a'.defers .returning w' := by
      intro hK
      obtain ⟨vs, g1, g2, g3⟩ := resK_spec hs.wr hs.tr e5 hK
      obtain ⟨ds, d1, d2, -⟩ := hs.defers
      have d1 : a'.defers = ds := by rw [d1]; simp
      rw [d1]
      exact leaves_marks (fun w' H' => run_results (g3 w' H')) ds w' d2 hs.wr hev H.below.size (fun w'' H'' e'' => hR _ _ _ _ _ g1 H'' e'' (okV_one g2))
    cases e with
    | nrm => exact key hK
    | ret => exact key hK
    | exit id => exact hK.elim

theorem run_callFunc {f : Nat} {fn : Func} {c : Code} {args : Array Value} (h1 : P.funcs[f]? = some fn) (h2 : (fn.name == "runtime.NumGoroutine") = false) (h3 : fn.body = some c) : (callFunc f args).run P w = .ok (.enter f args) w := by
  show Sem.run P (Sem.program fun p => _) w = _
  simp only [Sem.run, Sem.bind]
  rw [h1]
  simp only [h2, h3, Bool.false_eq_true, if_false, Option.isNone_some]
  rfl

theorem wr_calls {ro : Option Nat} {f : Nat} {args : Array Value} {R : Ending → World → Prop} (hc : Calls P f args w R) : CallsIn (Wr ro) (0 - 1) P f args w R := (callsIn_wide (n := 0)).2 hc

theorem compK_defer {o : Op} {k : AK} (hck : compK P o = some k) : ∀ c, o ≠ .defer c := by
  intro c e
  rw [e] at hck
  simp [compK, compOp] at hck

/-- an operation that acts, not guarded -/
theorem eK0_sound {ro : Option Nat} (hch : CHok P w0 ch.call) (hE : EnvOk P w0 ch.loops r) {o : Oper} {k : AK} {c : AV → T AO → Pt → Prop} {Q : Exit → Act → World → Prop} {next : Act → World → Prop}
    (hck : compK P o.op = some k) (H : WR P w0 r h nx w) (ht : TR r tm a.tmps) (hk : eK0 k ch tm h nx c)
    (hn : ∀ v h' nx' r' w', c v h' nx' → WR P w0 r' h' nx' w' → Ev r h w r' h' w' → okV r'.has v → next (a.put o.dst (conc r' v)) w') : o.wpIn (Wr ro) 0 P a w next Q := by
  refine ⟨fun _ _ => trivial, ?_⟩
  rw [Oper.semAt_eq _ _ _ (compK_defer hck)]
  have call : ∀ (p : Pt) (args : List AV), okL r.has args → (execOp a.eval o) = callFunc p.toNat (concL r args).toArray → ch.go p args h nx c → o.uponIn (Wr ro) 0 P a next Q ((execOp a.eval o).run P w) := by
    intro p args hok he hc
    obtain ⟨⟨fn, cd, f1, f2, f3⟩, hcall⟩ := hch ch.loops p args h nx _ r w (fun | .returned v, w'' => next (a.put o.dst v) w'' | .panicked chain, w'' => Q (.panic chain) a w'' | .outgrown, _ => LetsOut Q) hc hE H hok (fun v h' nx' r' w' c1 c2 c3 c4 => hn v h' nx' r' w' c1 c2 c3 c4)
    rw [he, run_callFunc f1 f2 f3, Oper.uponIn_enter]
    exact ⟨fun e => by simp [Wr, Fence.wide] at e, wr_calls hcall⟩
  unfold compK at hck
  split at hck
  · rename_i f args ts hop
    split at hck
    · rename_i xs hxs
      cases hck
      obtain ⟨vs, k1, k2, k3⟩ := evsK_spec ht (cxs_spec hxs) hk
      refine call _ vs k3 ?_ k1
      rw [Pt.toNat_ofNat]
      have e1 : args.map a.eval = (concL r vs).toArray := by rw [← k2]; apply Array.ext'; simp
      simp only [execOp, hop, resolve, e1]
      show callFunc f (((#[] : Array Value) ++ (concL r vs).toArray) ++ #[]) = _
      simp
    · cases hck
  · rename_i y args ts hny hop
    split at hck
    · rename_i y' xs hy hxs
      cases hck
      obtain ⟨vf, k1, k2, k3⟩ := evK_spec (cx_spec hy) ht hk
      obtain ⟨vs, k4, k5, k6⟩ := evsK_spec ht (cxs_spec hxs) k1
      have e1 : args.map a.eval = (concL r vs).toArray := by rw [← k5]; apply Array.ext'; simp
      unfold cvK at k4
      split at k4
      · rename_i k
        obtain ⟨rs, hrs, k4⟩ := (T.getK_iff _ _ _).1 k4
        obtain ⟨f, tmps, assign, body, y1, y2⟩ := (hE k rs hrs).2 r (.refl r) vs h nx c w (fun | .returned v, w'' => next (a.put o.dst v) w'' | .panicked chain, w'' => Q (.panic chain) a w'' | .outgrown, _ => LetsOut Q) k4 H k6 (fun v h' nx' r' w' c1 c2 c3 c4 => hn v h' nx' r' w' c1 c2 c3 c4)
        have e2 : execOp a.eval o = Instr.yield (r.blk k) (concL r vs).toArray := by
          simp only [execOp, hop, resolve, e1, k2, conc]
          show Instr.yield (r.blk k) (((#[] : Array Value) ++ (concL r vs).toArray) ++ #[]) = _
          simp
        rw [e2, y1, Oper.uponIn_round]
        exact ⟨fun e => by simp [Wr, Fence.wide] at e, y2⟩
      · unfold fnK at k4
        split at k4
        · rename_i f first caps _
          rw [forceP_iff] at k4
          obtain ⟨hpf, k4⟩ := brec k4
          have hpf := Nat.eq_of_beq_eq_true hpf
          rw [forceL_iff] at k4
          simp only [okV] at k3
          refine call _ _ (okL_append.2 ⟨okL_append.2 ⟨k3.1, k6⟩, k3.2⟩) ?_ k4
          rw [hpf]
          simp only [execOp, hop, resolve, e1, k2, conc]
          show callFunc f (((concL r first).toArray ++ (concL r vs).toArray) ++ (concL r caps).toArray) = _
          simp [concL_append]
        · exact k4.elim
    · cases hck
  · split at hck
    · cases hck; exact hk.elim
    · cases hck
  · split at hck
    · cases hck; exact hk.elim
    · cases hck
  · split at hck
    · rename_i o' ho
      cases hck
      obtain ⟨r', h', nx', w', v, n, y1, y2, y3, y4, y5, y6⟩ := step_sound H ht rfl (compOp_spec ho) hk
      have hnx := hn v h' nx' r' w' y1 y4 y5 y6
      rw [y2]
      rcases y3 with rfl | ⟨rfl, hu⟩
      · exact hnx
      · rw [hu] at hnx; exact hnx
    · cases hck

/-- an operation that is wanted -/
theorem opk_sound (hch : CHok P w0 ch.call) {o : Oper} {k : AK} {d : Option Pt} {rest : DO} {K : T AV → T AO → Pt → Prop} {Q : Exit → Act → World → Prop} {next : Act → World → Prop}
    (hck : compK P o.op = some k) (hnc : commK k = false) (hcd : compD F.m o.dst = some d) (hs : St P w0 F ch r tm h nx a w) (hk : denK d k rest ch tm h nx K)
    (hn : ∀ tm' h' nx' r' a' w', rest ch tm' h' nx' K → St P w0 F ch r' tm' h' nx' a' w' → Ev r h w r' h' w' → next a' w') : o.wpIn (Wr F.ro) 0 P a w next Q := by
  have hk : eK0 k ch tm h nx fun v h nx => putD d v tm fun tm => rest ch tm h nx K := by
    cases k with
    | snd x v => cases hnc
    | sel x z => cases hnc
    | _ => cases d <;> exact hk
  refine eK0_sound hch hs.env hck hs.wr hs.tr hk fun v h' nx' r' w' c1 c2 c3 c4 => ?_
  have hs' : St P w0 F ch r' tm h' nx' a w' := hs.on c2 c3 (hs.tr.le c3.le) hs.size rfl
  obtain ⟨tm', z1, z2⟩ := putD_spec hcd hs' c4 c1
  exact hn tm' h' nx' r' _ w' z1 z2 c3

/-- one operation of a region -/
theorem op_sound (hch : CHok P w0 ch.call) {ops : Array Oper} {o : Oper} {i : Nat} {x : AOper} {rest : DO} {K : T AV → T AO → Pt → Prop} {Q : Exit → Act → World → Prop} {next : Act → World → Prop}
    (hi : ops[i]? = some o) (hc : compOper P F.m ops o = some x) (hnc : commK x.op = false) (hs : St P w0 F ch r tm h nx a w) (hk : denO x rest ch tm h nx K)
    (hn : ∀ tm' h' nx' r' a' w', rest ch tm' h' nx' K → St P w0 F ch r' tm' h' nx' a' w' → Ev r h w r' h' w' → next a' w') : wpOpIn (Wr F.ro) 0 P ops Q i next a w := by
  unfold compOper at hc
  split at hc
  · rename_i k d g hck hcd hcg
    cases hc
    simp only [wpOpIn, hi]
    cases g with
    | none =>
      rw [if_pos (wanted_none hcg)]
      exact (opk_sound hch hck hnc hcd hs hk hn)
    | some pb =>
      obtain ⟨p, b⟩ := pb
      have hk : wantK p b tm (denK d k rest ch tm h nx K) (putD d (.tup []) tm fun tm => rest ch tm h nx K) := hk
      rcases wantK_spec hcg hs.tr hk with ⟨hw, hk⟩ | ⟨hw, hk⟩
      · rw [if_pos hw]
        exact (opk_sound hch hck hnc hcd hs hk hn)
      · rw [if_neg (by rw [hw]; simp)]
        obtain ⟨tm', z1, z2⟩ := putD_spec hcd hs (by simp [okV, okL]) hk
        rw [conc_undef] at z2
        exact ⟨fun _ _ => trivial, hn tm' h nx r _ w z1 z2 (.refl r h w)⟩
  · cases hc

end
end Go.Proofs.Ytfnehpgefcnjgaa.X

/- An executor for closed calls, 18: what an operation looks at; operations that only look. -/
namespace Go.Proofs.Ytfnehpgefcnjgaa.X
open Go.RowKit

def valX (tm : T AV) : AX → Option AV
  | .t p => tm.find p
  | .c v => some v

theorem evK_iff {tm : T AV} {x : AX} {c : AV → Prop} : evK tm x c ↔ ∃ v, valX tm x = some v ∧ c v := by
  cases x with
  | t p => exact T.getK_iff c tm p
  | c v => exact ⟨fun h => ⟨v, rfl, h⟩, fun ⟨u, h1, h2⟩ => by cases h1; exact h2⟩

theorem evK_congr {tm tm' : T AV} {x : AX} {c : AV → Prop} (h : valX tm' x = valX tm x) (hk : evK tm x c) : evK tm' x c := by
  rw [evK_iff] at hk ⊢; rw [h]; exact hk

theorem evK_imp {tm : T AV} {x : AX} {c c' : AV → Prop} (h : ∀ v, c v → c' v) (hk : evK tm x c) : evK tm x c' := by
  rw [evK_iff] at hk ⊢
  obtain ⟨v, h1, h2⟩ := hk
  exact ⟨v, h1, h v h2⟩

theorem evsK_imp {tm tm' : T AV} : ∀ {xs : List AX} {c c' : List AV → Prop}, (∀ x ∈ xs, valX tm' x = valX tm x) → (∀ v, c v → c' v) → evsK tm xs c → evsK tm' xs c'
  | [], _, _, _, h, hk => h _ hk
  | x :: xs, c, c', hx, h, hk => by
    have hk : evK tm x fun v => evsK tm xs fun vs => c (v :: vs) := hk
    show evK tm' x fun v => evsK tm' xs fun vs => c' (v :: vs)
    exact evK_congr (hx x (List.mem_cons_self ..)) (evK_imp (fun v hv => evsK_imp (fun y hy => hx y (List.mem_cons_of_mem _ hy)) (fun vs => h _) hv) hk)

theorem fillK_imp {tm tm' : T AV} : ∀ {ps : List (Nat × Nat × AX)} {z : List AV} {c : List AV → Prop}, (∀ q ∈ ps, valX tm' q.2.2 = valX tm q.2.2) → fillK tm ps z c → fillK tm' ps z c
  | [], _, _, _, hk => hk
  | q :: ps, z, c, hx, hk => by
    have hk : evK tm q.2.2 fun v => forceB (Nat.beq (cellsA v).length q.2.1 && Nat.ble (q.1 + q.2.1) z.length) fun b =>
      Bool.rec (motive := fun _ => Prop) False (fillK tm ps (putL z q.1 (cellsA v)) c) b := hk
    show evK tm' q.2.2 fun v => forceB (Nat.beq (cellsA v).length q.2.1 && Nat.ble (q.1 + q.2.1) z.length) fun b =>
      Bool.rec (motive := fun _ => Prop) False (fillK tm' ps (putL z q.1 (cellsA v)) c) b
    refine evK_congr (hx q (List.mem_cons_self ..)) (evK_imp (fun v hv => ?_) hk)
    rw [forceB_iff] at hv ⊢
    cases hb : (Nat.beq (cellsA v).length q.2.1 && Nat.ble (q.1 + q.2.1) z.length) with
    | false => rw [hb] at hv; exact hv
    | true => rw [hb] at hv; exact fillK_imp (fun y hy => hx y (List.mem_cons_of_mem _ hy)) hv

theorem bdK_imp {tm tm' : T AV} {x : Option AX} {d n : Nat} {c c' : Nat → Prop} (hx : ∀ y ∈ x.toList, valX tm' y = valX tm y) (h : ∀ v, c v → c' v) (hk : bdK tm x d n c) : bdK tm' x d n c' := by
  cases x with
  | none => exact h _ hk
  | some x =>
    refine evK_congr (hx x (by simp)) (evK_imp (fun v hv => ?_) hk)
    split at hv
    · obtain ⟨h1, h2⟩ := brec hv
      rw [h1]; exact h _ h2
    · exact hv.elim

/-- an operation looks at its operands alone -/
theorem stepV_congr {tm tm' : T AV} {op : AOp} {h : T AO} {nx : Pt} {K : AV → T AO → Pt → Prop} (H : ∀ x ∈ opX op, valX tm' x = valX tm x) (hk : stepV op tm h nx K) : stepV op tm' h nx K := by
  cases op with
  | mv x => exact evK_congr (H x (by simp [opX])) hk
  | pick c x y =>
    refine evK_congr (H c (by simp [opX])) (evK_imp (fun v hv => ?_) hk)
    split at hv
    · exact evK_congr (H x (by simp [opX])) hv
    · exact evK_congr (H y (by simp [opX])) hv
    · exact hv.elim
  | new vs e => exact hk
  | box e x => exact evK_congr (H x (by simp [opX])) hk
  | build z ps => exact fillK_imp (fun q hq => H _ (List.mem_map.2 ⟨q, hq, rfl⟩)) hk
  | buildS e n z ps => exact fillK_imp (fun q hq => H _ (List.mem_map.2 ⟨q, hq, rfl⟩)) hk
  | ld1 x => exact evK_congr (H x (by simp [opX])) hk
  | ldN n x => exact evK_congr (H x (by simp [opX])) hk
  | st n x y =>
    refine evK_congr (H x (by simp [opX])) (evK_imp (fun v hv => ?_) hk)
    split at hv
    · exact evK_congr (H y (by simp [opX])) hv
    · exact hv.elim
  | nchk x => exact evK_congr (H x (by simp [opX])) hk
  | fa d x => exact evK_congr (H x (by simp [opX])) hk
  | fld n d x => exact evK_congr (H x (by simp [opX])) hk
  | fld1 d x => exact evK_congr (H x (by simp [opX])) hk
  | ia n x i =>
    refine evK_congr (H x (by simp [opX])) (evK_imp (fun v hv => ?_) hk)
    split at hv
    · exact evK_congr (H i (by simp [opX])) hv
    · exact hv.elim
  | iaA l n x i =>
    refine evK_congr (H x (by simp [opX])) (evK_imp (fun v hv => ?_) hk)
    split at hv
    · exact evK_congr (H i (by simp [opX])) hv
    · exact hv.elim
  | ext x i => exact evK_congr (H x (by simp [opX])) hk
  | mkf f x y => exact evsK_imp (fun z hz => H z (by simp [opX, hz])) (fun vs hv => evsK_imp (fun z hz => H z (by simp [opX, hz])) (fun _ h => h) hv) hk
  | mki t x => exact evK_congr (H x (by simp [opX])) hk
  | ar op x y => exact evK_congr (H x (by simp [opX])) (evK_imp (fun v hv => evK_congr (H y (by simp [opX])) hv) hk)
  | eq ek neg x y => exact evK_congr (H x (by simp [opX])) (evK_imp (fun v hv => evK_congr (H y (by simp [opX])) hv) hk)
  | un op x => exact evK_congr (H x (by simp [opX])) hk
  | cvI k x => exact evK_congr (H x (by simp [opX])) hk
  | cvS x => exact evK_congr (H x (by simp [opX])) hk
  | lenS x => exact evK_congr (H x (by simp [opX])) hk
  | len x => exact evK_congr (H x (by simp [opX])) hk
  | lenM x => exact evK_congr (H x (by simp [opX])) hk
  | lenC x => exact evK_congr (H x (by simp [opX])) hk
  | mkC x => exact evK_congr (H x (by simp [opX])) hk
  | cvB e x => exact evK_congr (H x (by simp [opX])) hk
  | cvT x => exact evK_congr (H x (by simp [opX])) hk
  | clr z x => exact evK_congr (H x (by simp [opX])) hk
  | ix1 l x i =>
    refine evK_congr (H x (by simp [opX])) (evK_imp (fun v hv => ?_) hk)
    split at hv
    · exact evK_congr (H i (by simp [opX])) hv
    · exact hv.elim
  | lk z ok x k =>
    refine evK_congr (H k (by simp [opX])) (evK_imp (fun v hv => ?_) hk)
    split at hv
    · exact evK_congr (H x (by simp [opX])) hv
    · exact hv.elim
  | up x k v =>
    refine evK_congr (H k (by simp [opX])) (evK_imp (fun u hu => ?_) hk)
    split at hu
    · refine evK_congr (H x (by simp [opX])) (evK_imp (fun y hy => ?_) hu)
      split at hy
      · exact evK_congr (H v (by simp [opX])) hy
      · exact hy.elim
    · exact hu.elim
  | ixS x i =>
    refine evK_congr (H x (by simp [opX])) (evK_imp (fun v hv => ?_) hk)
    split at hv
    · exact evK_congr (H i (by simp [opX])) hv
    · exact hv.elim
  | mkS e n z l c => exact evK_congr (H l (by simp [opX])) (evK_imp (fun v hv => evK_congr (H c (by simp [opX])) hv) hk)
  | sl n x lo hi mx =>
    have A : ∀ y ∈ lo.toList, valX tm' y = valX tm y := fun y hy => H y (by simp only [opX, List.mem_cons, List.mem_append]; exact .inr (.inl (.inl hy)))
    have B : ∀ y ∈ hi.toList, valX tm' y = valX tm y := fun y hy => H y (by simp only [opX, List.mem_cons, List.mem_append]; exact .inr (.inl (.inr hy)))
    have C : ∀ y ∈ mx.toList, valX tm' y = valX tm y := fun y hy => H y (by simp only [opX, List.mem_cons, List.mem_append]; exact .inr (.inr hy))
    refine evK_congr (H x (by simp [opX])) (evK_imp (fun v hv => ?_) hk)
    split at hv
    · exact bdK_imp C (fun _ hv => bdK_imp B (fun _ hv => bdK_imp A (fun _ hv => hv) hv) hv) hv
    · split at hv
      · exact bdK_imp B (fun _ hv => bdK_imp A (fun _ hv => hv) hv) hv
      · exact hv.elim
    · split at hv
      · exact bdK_imp B (fun _ hv => bdK_imp A (fun _ hv => hv) hv) hv
      · exact bdK_imp C (fun _ hv => bdK_imp B (fun _ hv => bdK_imp A (fun _ hv => hv) hv) hv) hv
    · exact hv.elim
  | slS x lo hi =>
    have A : ∀ y ∈ lo.toList, valX tm' y = valX tm y := fun y hy => H y (by simp only [opX, List.mem_cons, List.mem_append]; exact .inr (.inl hy))
    have B : ∀ y ∈ hi.toList, valX tm' y = valX tm y := fun y hy => H y (by simp only [opX, List.mem_cons, List.mem_append]; exact .inr (.inr hy))
    refine evK_congr (H x (by simp [opX])) (evK_imp (fun v hv => ?_) hk)
    split at hv
    · exact bdK_imp B (fun _ hv => bdK_imp A (fun _ hv => hv) hv) hv
    · exact hv.elim
  | app e n x y => exact evK_congr (H x (by simp [opX])) (evK_imp (fun v hv => evK_congr (H y (by simp [opX])) hv) hk)
  | mm mx xs => exact evsK_imp (fun z hz => H z (by simp [opX, hz])) (fun _ h => h) hk
  | mkM => exact hk

end Go.Proofs.Ytfnehpgefcnjgaa.X

/- An executor for closed calls, 19: an operation that only looks gives one value, and the same one in every greater memory. -/
namespace Go.Proofs.Ytfnehpgefcnjgaa.X
open Go.RowKit

def Fn (F : (AV → Prop) → Prop) : Prop := ∃ o : Option AV, ∀ C, F C ↔ ∃ v, o = some v ∧ C v

theorem fn_const (v : AV) : Fn fun C => C v := ⟨some v, fun C => ⟨fun h => ⟨v, rfl, h⟩, fun ⟨u, h1, h2⟩ => by cases h1; exact h2⟩⟩

theorem fn_false : Fn fun _ => False := ⟨none, fun C => ⟨fun h => h.elim, fun ⟨_, h, _⟩ => by cases h⟩⟩

theorem fn_congr {F G : (AV → Prop) → Prop} (h : ∀ C, F C ↔ G C) (g : Fn G) : Fn F := by
  obtain ⟨o, ho⟩ := g
  exact ⟨o, fun C => (h C).trans (ho C)⟩

theorem fn_ev {tm : T AV} {x : AX} {F : AV → (AV → Prop) → Prop} (h : ∀ v, Fn (F v)) : Fn fun C => evK tm x fun v => F v C := by
  cases hv : valX tm x with
  | none => exact ⟨none, fun C => by show evK tm x _ ↔ _; rw [evK_iff, hv]; exact ⟨fun ⟨v, h, _⟩ => (by cases h), fun ⟨v, h, _⟩ => (by cases h)⟩⟩
  | some v =>
    obtain ⟨o, ho⟩ := h v
    refine ⟨o, fun C => ?_⟩
    show evK tm x _ ↔ _
    rw [evK_iff, hv, ← ho C]
    exact ⟨fun ⟨u, h1, h2⟩ => by cases h1; exact h2, fun h2 => ⟨v, rfl, h2⟩⟩

theorem fn_evs {tm : T AV} : ∀ {xs : List AX} {F : List AV → (AV → Prop) → Prop}, (∀ vs, Fn (F vs)) → Fn fun C => evsK tm xs fun vs => F vs C
  | [], _, h => h []
  | x :: _, _, h => fn_ev (tm := tm) (x := x) fun v => fn_evs fun vs => h (v :: vs)

theorem fn_fill {tm : T AV} : ∀ {ps : List (Nat × Nat × AX)} {z : List AV} {F : List AV → (AV → Prop) → Prop}, (∀ vs, Fn (F vs)) → Fn fun C => fillK tm ps z fun vs => F vs C
  | [], z, _, h => h z
  | q :: ps, z, F, h => by
    show Fn fun C => evK tm q.2.2 fun v => forceB (Nat.beq (cellsA v).length q.2.1 && Nat.ble (q.1 + q.2.1) z.length) fun b =>
      Bool.rec (motive := fun _ => Prop) False (fillK tm ps (putL z q.1 (cellsA v)) fun vs => F vs C) b
    refine fn_ev fun v => fn_congr (fun C => forceB_iff _ _) ?_
    cases (Nat.beq (cellsA v).length q.2.1 && Nat.ble (q.1 + q.2.1) z.length) with
    | false => exact fn_false
    | true => exact fn_fill h

theorem fn_b {b : Bool} {F G : (AV → Prop) → Prop} (hf : Fn F) (hg : Fn G) : Fn fun C => Bool.rec (motive := fun _ => Prop) (F C) (G C) b := by
  cases b with
  | false => exact hf
  | true => exact hg

theorem fn_n {n : Nat} {F : Nat → (AV → Prop) → Prop} (h : Fn (F n)) : Fn fun C => forceN n fun n => F n C := fn_congr (fun C => forceN_iff n fun n => F n C) h
theorem fn_i {n : Int} {F : Int → (AV → Prop) → Prop} (h : Fn (F n)) : Fn fun C => forceI n fun n => F n C := fn_congr (fun C => forceI_iff n fun n => F n C) h
theorem fn_bo {n : Bool} {F : Bool → (AV → Prop) → Prop} (h : Fn (F n)) : Fn fun C => forceB n fun n => F n C := fn_congr (fun C => forceB_iff n fun n => F n C) h
theorem fn_l {α : Type} {n : List α} {F : List α → (AV → Prop) → Prop} (h : Fn (F n)) : Fn fun C => forceL n fun n => F n C := fn_congr (fun C => forceL_iff n fun n => F n C) h

theorem fn_get {h : T AO} {k : Pt} {F : AO → (AV → Prop) → Prop} (hf : ∀ o, Fn (F o)) : Fn fun C => h.getK k fun o => F o C := by
  cases hv : h.find k with
  | none => exact ⟨none, fun C => by show h.getK k _ ↔ _; rw [T.getK_iff, hv]; exact ⟨fun ⟨v, h, _⟩ => (by cases h), fun ⟨v, h, _⟩ => (by cases h)⟩⟩
  | some v =>
    obtain ⟨o, ho⟩ := hf v
    refine ⟨o, fun C => ?_⟩
    show h.getK k _ ↔ _
    rw [T.getK_iff, hv, ← ho C]
    exact ⟨fun ⟨u, h1, h2⟩ => by cases h1; exact h2, fun h2 => ⟨v, rfl, h2⟩⟩

theorem fn_wrap {k : IntKind} {n : Int} : Fn fun C => wrapK k n C := by
  unfold wrapK
  split
  · exact fn_b (fn_i (fn_const _)) (fn_n (fn_const _))
  · exact fn_i (fn_const _)

theorem fn_sem {s : Sem Value} : Fn fun C => semV s C := by
  unfold semV
  split
  · exact fn_i (fn_const _)
  · exact fn_bo (fn_const _)
  · exact fn_false

theorem fn_arI {op : BinOp} {k k' : IntKind} {a b : Int} : Fn fun C => arI op k k' a b C := by
  unfold arI
  cases op <;> first | exact fn_b fn_false fn_wrap | exact fn_b fn_false (fn_bo (fn_const _)) | exact fn_b fn_false fn_sem | exact fn_sem

theorem fn_arS {op : BinOp} {a b : List Nat} : Fn fun C => arS op a b C := by
  unfold arS
  cases op <;> first | exact fn_false | exact fn_bo (fn_const _) | exact fn_b fn_false (fn_l (fn_const _))

theorem fn_bs : ∀ {l : List AV} {F : List Nat → AV}, Fn fun C => bsK l fun s => C (F s)
  | [], F => fn_const (F [])
  | v :: l, F => by
    show Fn fun C => match v with
      | .int .u8 (.ofNat b) => Bool.rec (motive := fun _ => Prop) False (bsK l fun s => C (F (b :: s))) (Nat.blt b 256)
      | _ => False
    split
    · rename_i b
      exact fn_b fn_false (fn_bs (F := fun s => F (b :: s)))
    · exact fn_false

theorem fn_lkR {z : AV} {ok : Bool} {v : Option AV} : Fn fun C => lkR z ok v C := by
  cases v with
  | none => exact fn_b (fn_const _) (fn_const _)
  | some v => exact fn_b (fn_const _) (fn_const _)

theorem fn_lk {z : AV} {ok : Bool} {s : List Nat} : ∀ {es : List (AV × AV × Nat)}, Fn fun C => lkE s es fun v => lkR z ok v C
  | [] => fn_lkR (z := z) (ok := ok) (v := none)
  | e :: es => by
    show Fn fun C => match e.1 with
      | .str s' => Bool.rec (motive := fun _ => Prop) (lkE s es fun v => lkR z ok v C) (lkR z ok (some e.2.1) C) (eqN s s')
      | _ => False
    split
    · exact fn_b fn_lk fn_lkR
    · exact fn_false

theorem fn_at {i : AV} {n : Nat} {F : Nat → (AV → Prop) → Prop} (h : ∀ j, Fn (F j)) : Fn fun C => atK i n fun j => F j C := by
  unfold atK
  split
  · exact fn_b fn_false (h _)
  · exact fn_false

theorem fn_bd {tm : T AV} {x : Option AX} {d n : Nat} {F : Nat → (AV → Prop) → Prop} (h : ∀ j, Fn (F j)) : Fn fun C => bdK tm x d n fun j => F j C := by
  cases x with
  | none => exact h d
  | some x =>
    refine fn_ev fun v => ?_
    split
    · exact fn_b fn_false (h _)
    · exact fn_false

theorem fn_mm {mx : Bool} {k : IntKind} : ∀ {l : List AV} {n : Int}, Fn fun C => mmK mx k l n C
  | [], n => fn_const _
  | v :: l, n => by
    cases v with
    | int k' m =>
      simp only [mmK]
      exact fn_bo (fn_b fn_mm fn_mm)
    | _ => exact fn_false

theorem fn_eqK {ek : EK} {h : T AO} {a b : AV} {F : Bool → (AV → Prop) → Prop} (hf : ∀ x, Fn (F x)) : Fn fun C => eqK ek h a b fun x => F x C := by
  unfold eqK
  split
  all_goals first
    | exact hf _
    | exact fn_false
    | exact fn_bo (hf _)
    | (refine fn_get fun o => ?_
       split
       · refine fn_get fun o => ?_
         split
         · exact fn_bo (hf _)
         · exact fn_false
       · exact fn_false)

/-- an operation that only looks gives one value -/
theorem step_fn {op : AOp} (hq : quietB op = true) (tm : T AV) (h : T AO) (nx : Pt) : Fn fun C => stepV op tm h nx fun v _ _ => C v := by
  cases op with
  | mv x => exact fn_ev fun v => fn_const v
  | pick c x y =>
    refine fn_ev fun v => ?_
    split
    · exact fn_ev fun v => fn_const v
    · exact fn_ev fun v => fn_const v
    · exact fn_false
  | build z ps => exact fn_fill fun vs => fn_l (fn_const _)
  | ld1 x =>
    refine fn_ev fun v => ?_
    split
    · refine fn_get fun o => ?_
      split
      · split
        · exact fn_const _
        · exact fn_false
      · exact fn_false
    · exact fn_false
  | ldN n x =>
    refine fn_ev fun v => ?_
    split
    · refine fn_get fun o => ?_
      split
      · exact fn_b fn_false (fn_l (fn_const _))
      · exact fn_false
    · exact fn_false
  | nchk x =>
    refine fn_ev fun v => ?_
    split
    all_goals first | exact fn_false | exact fn_const _
  | fa d x =>
    refine fn_ev fun v => ?_
    split
    · exact fn_n (fn_const _)
    · exact fn_false
  | fld n d x =>
    refine fn_ev fun v => ?_
    split
    · exact fn_l (fn_const _)
    · exact fn_false
  | fld1 d x =>
    refine fn_ev fun v => ?_
    split
    · split
      · exact fn_const _
      · exact fn_false
    · exact fn_false
  | ia n x i =>
    refine fn_ev fun v => ?_
    split
    · exact fn_ev fun i => fn_at fun j => fn_n (fn_const _)
    · exact fn_false
  | iaA l n x i =>
    refine fn_ev fun v => ?_
    split
    · exact fn_ev fun i => fn_at fun j => fn_n (fn_const _)
    · exact fn_false
  | ext x i =>
    refine fn_ev fun v => ?_
    split
    · split
      · exact fn_const _
      · exact fn_false
    · exact fn_false
  | mkf f x y => exact fn_evs fun a => fn_evs fun b => fn_const _
  | mki t x => exact fn_ev fun v => fn_const _
  | ar op x y =>
    refine fn_ev fun a => fn_ev fun b => ?_
    split
    · exact fn_arI
    · exact fn_arS
    · exact fn_false
  | eq ek neg x y => exact fn_ev fun a => fn_ev fun b => fn_eqK fun x => fn_bo (fn_const _)
  | un op x =>
    refine fn_ev fun a => ?_
    split
    · exact fn_bo (fn_const _)
    · exact fn_wrap
    · exact fn_sem
    · exact fn_false
  | cvI k x =>
    refine fn_ev fun a => ?_
    split
    · exact fn_wrap
    · exact fn_false
  | cvS x =>
    refine fn_ev fun a => ?_
    split
    · exact fn_const _
    · exact fn_false
  | lenS x =>
    refine fn_ev fun a => ?_
    split
    · exact fn_n (fn_const _)
    · exact fn_false
  | len x =>
    refine fn_ev fun a => ?_
    split
    all_goals first | exact fn_const _ | exact fn_false
  | lenM x =>
    refine fn_ev fun a => ?_
    split
    · exact fn_const _
    · refine fn_get fun o => ?_
      split
      · exact fn_n (fn_const _)
      · exact fn_false
    · exact fn_false
  | lenC x =>
    refine fn_ev fun a => ?_
    split
    · exact fn_const _
    · refine fn_get fun o => ?_
      split
      · exact fn_n (fn_const _)
      · exact fn_false
    · exact fn_false
  | mkC x => cases hq
  | cvB e x => cases hq
  | clr z x => cases hq
  | cvT x =>
    refine fn_ev fun a => ?_
    split
    · exact fn_const _
    · refine fn_get fun o => ?_
      split
      · exact fn_b fn_false fn_bs
      · exact fn_false
    · exact fn_false
  | ix1 l x i =>
    refine fn_ev fun a => ?_
    split
    · refine fn_ev fun i => fn_at fun j => ?_
      split
      · exact fn_const _
      · exact fn_false
    · exact fn_false
  | lk z ok x k =>
    refine fn_ev fun a => ?_
    split
    · refine fn_ev fun b => ?_
      split
      · exact fn_lkR
      · refine fn_get fun o => ?_
        split
        · exact fn_lk
        · exact fn_false
      · exact fn_false
    · exact fn_false
  | up x k v => cases hq
  | ixS x i =>
    refine fn_ev fun a => ?_
    split
    · refine fn_ev fun i => fn_at fun j => ?_
      split
      · exact fn_n (fn_const _)
      · exact fn_false
    · exact fn_false
  | sl n x lo hi mx =>
    refine fn_ev fun a => ?_
    split
    · exact fn_bd fun _ => fn_bd fun _ => fn_bd fun _ => fn_const _
    · split
      · exact fn_bd fun _ => fn_bd fun _ => fn_const _
      · exact fn_false
    · split
      · exact fn_bd fun q => fn_bd fun p => fn_b (fn_b fn_false (fn_n (fn_n (fn_n (fn_const _))))) (fn_b (fn_n (fn_const _)) (fn_b fn_false (fn_n (fn_const _))))
      · exact fn_bd fun m => fn_bd fun q => fn_bd fun p => fn_b (fn_n (fn_n (fn_n (fn_const _)))) (fn_n (fn_const _))
    · exact fn_false
  | slS x lo hi =>
    refine fn_ev fun a => ?_
    split
    · exact fn_bd fun q => fn_bd fun p => fn_l (fn_const _)
    · exact fn_false
  | mm mx xs =>
    refine fn_evs fun vs => ?_
    split
    · exact fn_mm
    · exact fn_false
  | new vs e => cases hq
  | box e x => cases hq
  | buildS e n z ps => cases hq
  | st n x y => cases hq
  | mkS e n z l c => cases hq
  | app e n x y => cases hq
  | mkM => cases hq

/-- ... and the same one where there is more -/
theorem step_heap {op : AOp} (hq : quietB op = true) {tm : T AV} {h h2 : T AO} {nx nx2 : Pt} {C : AV → Prop} (hh : ∀ k o, h.find k = some o → h2.find k = some o) (hk : stepV op tm h nx fun v _ _ => C v) : stepV op tm h2 nx2 fun v _ _ => C v := by
  have G : ∀ {k : Pt} {c c' : AO → Prop}, (∀ o, c o → c' o) → h.getK k c → h2.getK k c' := fun hc hg => by
    obtain ⟨o, h1, h3⟩ := (T.getK_iff _ _ _).1 hg
    exact (T.getK_iff _ _ _).2 ⟨o, hh _ _ h1, hc o h3⟩
  cases op with
  | ld1 x =>
    refine evK_imp (fun v hv => ?_) hk
    split at hv
    · exact G (fun o ho => ho) hv
    · exact hv.elim
  | ldN n x =>
    refine evK_imp (fun v hv => ?_) hk
    split at hv
    · exact G (fun o ho => ho) hv
    · exact hv.elim
  | lk z ok x k =>
    refine evK_imp (fun v hv => ?_) hk
    split at hv
    · refine evK_imp (fun u hu => ?_) hv
      split at hu
      · exact hu
      · exact G (fun o ho => ho) hu
      · exact hu.elim
    · exact hv.elim
  | up x k v => cases hq
  | cvB e x => cases hq
  | clr z x => cases hq
  | cvT x =>
    refine evK_imp (fun v hv => ?_) hk
    split at hv
    · exact hv
    · exact G (fun o ho => ho) hv
    · exact hv.elim
  | lenM x =>
    refine evK_imp (fun v hv => ?_) hk
    split at hv
    · exact hv
    · exact G (fun o ho => ho) hv
    · exact hv.elim
  | lenC x =>
    refine evK_imp (fun v hv => ?_) hk
    split at hv
    · exact hv
    · exact G (fun o ho => ho) hv
    · exact hv.elim
  | mkC x => cases hq
  | eq ek neg x y =>
    refine evK_imp (fun a ha => evK_imp (fun b hb => ?_) ha) hk
    unfold eqK at hb ⊢
    split at hb
    all_goals first
      | exact hb
      | (refine G (fun o ho => ?_) hb
         split at ho
         · exact G (fun o ho => ho) ho
         · exact ho.elim)
  | new vs e => cases hq
  | box e x => cases hq
  | buildS e n z ps => cases hq
  | st n x y => cases hq
  | mkS e n z l c => cases hq
  | app e n x y => cases hq
  | mkM => cases hq
  | _ => exact hk

end Go.Proofs.Ytfnehpgefcnjgaa.X

/- An executor for closed calls, 20: what a region that draws its order is made of: operations that look, that make a block, that act. -/
namespace Go.Proofs.Ytfnehpgefcnjgaa.X
open Go.RowKit

section
variable {P : Program} {w0 : World} {r : Rho} {tm : T AV} {a : Act} {o : Oper}

/-- what the making of a block comes to -/
def Floats (P : Program) (r : Rho) (n : Pt) (w : World) (s : Sem Next) (c : AV → AO → Prop) : Prop :=
  ∃ v ob obj x d, c v ob ∧ s.run P w = .ok (.value (conc (r.more n w.heap.size x) v)) { w with drawn := d, heap := w.heap.push obj } ∧ BR P (r.more n w.heap.size x) n ob (some obj) ∧ okO (r.more n w.heap.size x).has ob ∧ okV (r.more n w.heap.size x).has v

theorem Floats.row {n : Pt} (hn : ¬ r.has n) {w : World} {vs : List AV} {e : TypeId} {s : Sem Next} {c : AV → AO → Prop} {v : AV} (hv : okL r.has vs) (hc : c v (.cells vs e)) (hok : okV (r.more n w.heap.size 0).has v)
    (hs : ∀ x w', (newRow e (concL r vs).toArray).run P w = .ok x w' → ∃ y, s.run P w = .ok (.value y) w' ∧ (x = ⟨w.heap.size, 0, none⟩ → y = conc (r.more n w.heap.size 0) v)) : Floats P r n w s c := by
  have hle := Rho.le_more hn w.heap.size 0
  obtain ⟨y, h1, h2⟩ := hs ⟨w.heap.size, 0, none⟩ { w with heap := w.heap.push (.cells (concL r vs).toArray e (0, 0)) } rfl
  refine ⟨v, .cells vs e, .cells (concL r vs).toArray e (0, 0), 0, w.drawn, hc, by rw [h1, h2 rfl], ⟨[], ?_, ?_⟩, okL.mono hle.has hv, hok⟩
  · rw [concL_le hle hv]; simp
  · rw [r.more_ext]; simp

theorem float_sound (ht : TR r tm a.tmps) {op : Op} {op' : AOp} {n : Pt} {w : World} {c : AV → AO → Prop} (hn : ¬ r.has n) (hop : o.op = op) (hc : Co P op op') (hk : floatK op' tm n c) : Floats P r n w (execOp a.eval o) c := by
  have hptr : okV (r.more n w.heap.size 0).has (.ptr n 0) := by simp only [okV]; exact Or.inl rfl
  have hsl : ∀ k l, okV (r.more n w.heap.size 0).has (.sl n 0 k l false) := fun k l => by simp only [okV]; exact Or.inl rfl
  have ep : ∀ x : Addr, x = ⟨w.heap.size, 0, none⟩ → Value.pointer (some x) = conc (r.more n w.heap.size 0) (.ptr n 0) := fun x hx => by simp only [conc, r.more_blk, hx]
  have es : ∀ (x : Addr) (k l : Nat), x = ⟨w.heap.size, 0, none⟩ → Value.slice (some x) k l = conc (r.more n w.heap.size 0) (.sl n 0 k l false) := fun x k l hx => by simp [conc, r.more_blk, hx]
  cases hc with
  | new hi hz hv =>
    refine Floats.row hn (okL_cells (hv.2 _)) hk hptr fun x w' hx => ⟨_, ?_, ep x⟩
    simp only [execOp, hop]
    refine run_value ?_
    unfold Instr.alloc
    rw [run_ok_bind (run_zeroValue hi hz)]
    simp only []
    rename_i e i z v
    have : (newVar e z).run P w = .ok x w' := by rw [newVar, ← hv.1 r, conc_cells]; exact hx
    rw [run_ok_bind this]; rfl
  | box hx =>
    obtain ⟨v, h1, h2, h3⟩ := evK_spec hx ht hk
    refine Floats.row hn (okL_cells h3) h1 hptr fun x w' hx => ⟨_, ?_, ep x⟩
    simp only [execOp, hop, h2]
    refine run_value ?_
    rename_i e _ _ _
    have : (newVar e (conc r v)).run P w = .ok x w' := by rw [newVar, conc_cells]; exact hx
    unfold Instr.box
    rw [run_ok_bind this]; rfl
  | buildS hu hj hz hm h0 hok hzs hv hps =>
    obtain ⟨vs, h1, h2, h3⟩ := fillK_spec ht hps (hok _) hk
    rw [forceL_iff] at h1
    refine Floats.row hn h2 h1 (hsl _ _) fun x w' hx => ⟨_, ?_, es x _ _⟩
    simp only [execOp, hop]
    refine run_value ?_
    unfold Instr.buildSlice
    rw [run_ok_bind (run_underlying hu)]
    simp only []
    rw [run_ok_bind (run_sizeOf hj), if_neg (by omega)]
    rw [if_neg (by omega), run_ok_bind (run_zeroValue hj hz), run_ok_bind (run_pure P _ w)]
    rw [← hzs r, toList_parts, h3]
    simp only []
    rw [run_ok_bind hx]; rfl
  | buildE hu hj =>
    have h1 : c (.sl n 0 0 0 false) (.cells [] _) := hk
    refine Floats.row hn (vs := []) (by simp [okL]) h1 (hsl _ _) fun x w' hx => ⟨_, ?_, es x _ _⟩
    simp only [execOp, hop]
    refine run_value ?_
    unfold Instr.buildSlice
    rw [run_ok_bind (run_underlying hu)]
    simp only []
    rw [run_ok_bind (run_sizeOf hj), if_neg (by omega)]
    rw [if_pos (by omega), run_ok_bind (run_pure P _ w)]
    simp only [Nat.zero_mul]
    simp only [concL] at hx
    rename_i t e j
    have : (newRow e #[]).run P w = .ok x w' := hx
    rw [show (Array.map (fun x : Nat × Operand => (x.fst, a.eval x.snd)) #[]).toList = [] by simp, show ∀ f : Nat → Value, (Array.range 0).map f = #[] from fun f => by rw [show (Array.range 0) = #[] from rfl]; exact Array.map_empty]
    simp only [Instr.fill]
    rw [run_ok_bind this]; rfl
  | cvB hs hd he hj h1j hx =>
    rename_i src dst e d j x x'
    obtain ⟨v, g1, h2, h3⟩ := evK_spec hx ht hk
    split at g1
    · rename_i s
      simp only [okV] at h3
      rw [forceL_iff, forceN_iff] at g1
      let ex := w.tape w.drawn (.appendCap (bytesOf s).size 0 e) % (2 ^ 63 - (bytesOf s).size)
      have hle := Rho.le_more hn w.heap.size ex
      have hu8 : ((bytesOf s).data.map fun b => Value.int .u8 b.toNat).toList = concL r (s.map fun b => AV.int .u8 (.ofNat b)) := by
        simp only [concL_map, List.map_map, bytesOf]
        simp only [List.map_toArray, List.map_map]
        refine List.map_congr_left fun b hb => ?_
        simp only [Function.comp, conc, UInt8.toNat_ofNat']
        rw [Nat.mod_eq_of_lt (by have := h3 b hb; simpa using this)]
        rfl
      let c := concL r (s.map fun b => AV.int .u8 (.ofNat b)) ++ List.replicate ex (Value.int .u8 0)
      have hok : okL r.has (s.map fun b => AV.int .u8 (.ofNat b)) := okL_u8 s
      refine ⟨.sl n 0 s.length s.length true, .frz (s.map fun b => AV.int .u8 (.ofNat b)) e, .cells c.toArray e (c.length, c.length + 1), ex, w.drawn + 1, g1, ?_, ⟨List.replicate ex (Value.int .u8 0), (c.length, c.length + 1), by rw [concL_le hle hok], by
        rw [r.more_ext, sizeT_of hj, h1j]; simp⟩, okL.mono hle.has hok, by simp only [okV]; exact Or.inl rfl⟩
      simp only [execOp, hop]
      refine run_value ?_
      unfold convert
      rw [run_ok_bind (run_underlying hs), run_ok_bind (run_underlying hd), h2]
      simp only [conc]
      show Sem.run P (underlying e >>= _) w = _
      rw [run_ok_bind (run_underlying he)]
      simp only []
      unfold Conv.stringToBytes
      show Sem.run P (Sem.choose (.appendCap (bytesOf s).size 0 e) fun n => _) w = _
      rw [show ∀ (k : Nat → Sem Value), Sem.run P (Sem.choose (.appendCap (bytesOf s).size 0 e) k) w = (k ((bytesOf s).size + ex)).run P { w with drawn := w.drawn + 1 } from fun _ => rfl]
      have hc : (bytesOf s).data.map (fun b => Value.int .u8 b.toNat) ++ Array.replicate ex (Value.int .u8 0) = c.toArray := by
        apply Array.ext'
        rw [Array.toList_append, hu8]
        simp [c]
      show Sem.run P (newRow e ((bytesOf s).data.map (fun b => Value.int .u8 b.toNat) ++ Array.replicate ((bytesOf s).size + ex - (bytesOf s).size) (Value.int .u8 0)) >>= fun a => _) _ = _
      rw [Nat.add_sub_cancel_left, hc, run_ok_bind (show (newRow e c.toArray).run P { w with drawn := w.drawn + 1 } = .ok ⟨w.heap.size, 0, none⟩ { w with drawn := w.drawn + 1, heap := w.heap.push (.cells c.toArray e (0, 0)) } from rfl)]
      have hm : (markStringish ⟨w.heap.size, 0, none⟩).run P { w with drawn := w.drawn + 1, heap := w.heap.push (.cells c.toArray e (0, 0)) } = .ok () { w with drawn := w.drawn + 1, heap := w.heap.push (.cells c.toArray e (c.length, c.length + 1)) } := by
        unfold markStringish
        have S : ∀ {α : Type} (w : World) (x : Nat) (f : Option (TypeId × Nat) → Sem α), (shape x >>= f).run P w = (f (w.shape? x)).run P w := fun _ _ _ => rfl
        rw [S]
        simp only [World.shape?, Array.getElem?_push_size]
        show Result.ok () (World.freeze _ _ 1) = _
        congr 1
        unfold World.freeze
        rw [if_neg (by decide)]
        congr 1
        apply Array.ext_getElem?
        intro i
        rw [Array.getElem?_modify]
        by_cases hi : w.heap.size = i
        · subst hi; simp
        · rw [if_neg hi]
          rw [Array.getElem?_push, Array.getElem?_push, if_neg (fun e => hi e.symm), if_neg (fun e => hi e.symm)]
      rw [run_ok_bind hm]
      simp only [run_pure, bytes_size, r.more_blk, r.more_ext, if_true]
    · exact g1.elim
  | mkM =>
    have hle := Rho.le_more hn w.heap.size 0
    refine ⟨.map n, .map [] 0, .map #[] 0, 0, w.drawn, hk, ?_, ⟨[], 0, rfl, .nil, .nil⟩, by simp [okO], by simp only [okV]; exact Or.inl rfl⟩
    simp only [execOp, hop]
    refine run_value ?_
    simp only [conc, r.more_blk]; rfl
  | _ => exact hk.elim

end

section
variable {P : Program} {w0 : World} {m : Nat} {r : Rho} {h : T AO} {nx : Pt} {w : World} {tm : T AV} {a : Act}

theorem eK_sound {ro : Option Nat} {ch : CH} (hch : CHok P w0 ch.call) (hE : EnvOk P w0 ch.loops r) {ops : Array Oper} {o : Oper} {i : Nat} {x : AOper} {c : AV → T AO → Pt → Prop} {Q : Exit → Act → World → Prop} {next : Act → World → Prop}
    (hi : ops[i]? = some o) (hc : compOper P m ops o = some x) (H : WR P w0 r h nx w) (ht : TR r tm a.tmps) (hk : eK x ch tm h nx c)
    (hn : ∀ v h' nx' r' w', c v h' nx' → WR P w0 r' h' nx' w' → Ev r h w r' h' w' → okV r'.has v → next (a.put o.dst (conc r' v)) w') : wpOpIn (Wr ro) 0 P ops Q i next a w := by
  unfold compOper at hc
  split at hc
  · rename_i k d g hck hcd hcg
    cases hc
    simp only [wpOpIn, hi]
    cases g with
    | none =>
      rw [if_pos (wanted_none hcg)]
      exact (eK0_sound hch hE hck H ht hk hn)
    | some pb =>
      obtain ⟨p, b⟩ := pb
      have hk : wantK p b tm (eK0 k ch tm h nx c) (c (.tup []) h nx) := hk
      rcases wantK_spec hcg ht hk with ⟨hw, hk⟩ | ⟨hw, hk⟩
      · rw [if_pos hw]
        exact (eK0_sound hch hE hck H ht hk hn)
      · rw [if_neg (by rw [hw]; simp)]
        have := hn (.tup []) h nx r w hk H (.refl r h w) (by simp [okV, okL])
        rw [conc_undef] at this
        exact ⟨fun _ _ => trivial, this⟩
  · cases hc

end
end Go.Proofs.Ytfnehpgefcnjgaa.X

/- An executor for closed calls, 21: a region that draws its order, as a script: operations that look and those that make blocks come as early as they can, those that act in their one order. -/
namespace Go.Proofs.Ytfnehpgefcnjgaa.X
open Go.RowKit

theorem valX_of {tm tm' : T AV} {x : AX} (h : ∀ p ∈ axP x, tm'.find p = tm.find p) : valX tm' x = valX tm x := by
  cases x with
  | t p => exact h p (by simp [axP])
  | c v => rfl

theorem wantK_congr {g : Pt} {b : Bool} {tm tm' : T AV} {y n y' n' : Prop} (hg : tm'.find g = tm.find g) (hy : y → y') (hn : n → n') (hk : wantK g b tm y n) : wantK g b tm' y' n' := by
  unfold wantK at hk ⊢
  rw [T.getK_iff] at hk ⊢
  obtain ⟨v, h1, h2⟩ := hk
  refine ⟨v, by rw [hg]; exact h1, ?_⟩
  split at h2
  · rename_i c
    cases hb : (c == b) with
    | false => rw [hb] at h2; exact hn h2
    | true => rw [hb] at h2; exact hy h2
  · exact hn h2

theorem rd_op {x : AOper} {o : AOp} (ho : x.op = .v o) {tm tm' : T AV} (h : ∀ p ∈ rdX x, tm'.find p = tm.find p) : ∀ y ∈ opX o, valX tm' y = valX tm y := fun y hy => valX_of fun p hp => h p (by
  unfold rdX
  rw [ho]
  exact List.mem_append.2 (.inr (List.mem_flatMap.2 ⟨y, hy, hp⟩)))

theorem rd_guard {x : AOper} {g : Pt} {b : Bool} (hg : x.guard = some (g, b)) {tm tm' : T AV} (h : ∀ p ∈ rdX x, tm'.find p = tm.find p) : tm'.find g = tm.find g := h g (by
  unfold rdX
  rw [hg]
  exact List.mem_append.2 (.inl (by simp)))

theorem nK_congr {x : AOper} {tm tm' : T AV} {h : T AO} {nx : Pt} {c : AV → Prop} (hr : ∀ p ∈ rdX x, tm'.find p = tm.find p) (hk : nK x tm h nx c) : nK x tm' h nx c := by
  unfold nK at hk ⊢
  split
  · rename_i o ho
    simp only [ho] at hk
    split
    · rename_i hg
      simp only [hg] at hk
      exact stepV_congr (rd_op ho hr) hk
    · rename_i g b hg
      simp only [hg] at hk
      exact wantK_congr (rd_guard hg hr) (stepV_congr (rd_op ho hr)) id hk
  · rename_i hne
    split at hk
    · rename_i o ho; exact absurd ho (hne o)
    · exact hk

theorem nK_heap {x : AOper} (hq : quietX x = true) {tm : T AV} {h h2 : T AO} {nx nx2 : Pt} {c : AV → Prop} (hh : ∀ k o, h.find k = some o → h2.find k = some o) (hk : nK x tm h nx c) : nK x tm h2 nx2 c := by
  unfold nK at hk ⊢
  unfold quietX at hq
  split
  · rename_i o ho
    simp only [ho] at hk hq
    split
    · rename_i hg
      simp only [hg] at hk
      exact step_heap hq hh hk
    · rename_i g b hg
      simp only [hg] at hk
      exact wantK_congr rfl (step_heap hq hh) id hk
  · rename_i hne
    split at hk
    · rename_i o ho; exact absurd ho (hne o)
    · exact hk

theorem fn_want {v : AV} {b : Bool} {F G : (AV → Prop) → Prop} (hf : Fn F) (hg : Fn G) : Fn fun C => match v with | .bool b' => Bool.rec (motive := fun _ => Prop) (F C) (G C) (b' == b) | _ => F C := by
  cases v with
  | bool b' => exact fn_b hf hg
  | _ => exact hf

theorem nK_fn {x : AOper} (hq : quietX x = true) (tm : T AV) (h : T AO) (nx : Pt) : Fn (nK x tm h nx) := by
  unfold quietX at hq
  cases ho : x.op with
  | v o =>
    simp only [ho] at hq
    cases hg : x.guard with
    | none => exact fn_congr (fun C => by unfold nK; simp only [ho, hg]) (step_fn hq tm h nx)
    | some gb =>
      obtain ⟨g, b⟩ := gb
      refine fn_congr (G := fun C => wantK g b tm (stepV o tm h nx fun v _ _ => C v) (C (.tup []))) (fun C => by unfold nK; simp only [ho, hg]) ?_
      unfold wantK
      cases hv : tm.find g with
      | none => exact ⟨none, fun C => by show tm.getK g _ ↔ _; rw [T.getK_iff, hv]; exact ⟨fun ⟨v, h, _⟩ => (by cases h), fun ⟨v, h, _⟩ => (by cases h)⟩⟩
      | some v =>
        refine fn_congr (fun C => ?_) (fn_want (v := v) (b := b) (fn_const (.tup [])) (step_fn hq tm h nx))
        show tm.getK g _ ↔ _
        rw [T.getK_iff, hv]
        exact ⟨fun ⟨u, h1, h2⟩ => by cases h1; exact h2, fun h2 => ⟨v, rfl, h2⟩⟩
  | call f xs => simp [ho] at hq
  | callv y xs => simp [ho] at hq
  | snd y v => simp [ho] at hq
  | sel y z => simp [ho] at hq

/-- what looks gives a value; and it is the one -/
theorem nK_val {x : AOper} (hq : quietX x = true) {tm : T AV} {h : T AO} {nx : Pt} {c : AV → Prop} (hk : nK x tm h nx c) : ∃ v, c v ∧ nK x tm h nx fun v' => v' = v := by
  obtain ⟨o, ho⟩ := nK_fn hq tm h nx
  obtain ⟨v, h1, h2⟩ := (ho c).1 hk
  exact ⟨v, h2, (ho _).2 ⟨v, h1, rfl⟩⟩

theorem nK_imp {x : AOper} (hq : quietX x = true) {tm : T AV} {h : T AO} {nx : Pt} {c c' : AV → Prop} (hc : ∀ v, c v → c' v) (hk : nK x tm h nx c) : nK x tm h nx c' := by
  obtain ⟨o, ho⟩ := nK_fn hq tm h nx
  obtain ⟨v, h1, h2⟩ := (ho c).1 hk
  exact (ho _).2 ⟨v, h1, hc v h2⟩

theorem quiet_same {o : AOp} (hq : quietB o = true) {tm : T AV} {h : T AO} {nx : Pt} {K : AV → T AO → Pt → Prop} (hk : stepV o tm h nx fun v _ _ => K v h nx) : stepV o tm h nx K := by
  cases o with
  | new vs e => cases hq
  | box e x => cases hq
  | buildS e n z ps => cases hq
  | st n x y => cases hq
  | mkS e n z l c => cases hq
  | app e n x y => cases hq
  | up x k v => cases hq
  | cvB e x => cases hq
  | clr z x => cases hq
  | mkC x => cases hq
  | mkM => cases hq
  | _ => exact hk

theorem nK_eK {x : AOper} (hq : quietX x = true) {ch : CH} {tm : T AV} {h : T AO} {nx : Pt} {c : AV → Prop} (hk : nK x tm h nx c) : eK x ch tm h nx fun v h' nx' => c v ∧ h' = h ∧ nx' = nx := by
  have hk := nK_imp hq (c' := fun v => c v ∧ h = h ∧ nx = nx) (fun v hv => ⟨hv, rfl, rfl⟩) hk
  unfold nK at hk
  unfold quietX at hq
  unfold eK
  split at hk
  · rename_i o ho
    simp only [ho] at hq
    split at hk
    · rename_i hg
      simp only [ho, eK0]
      exact quiet_same hq hk
    · rename_i g b hg
      simp only [ho, eK0]
      exact wantK_congr rfl (quiet_same hq) (fun h => ⟨h.1, trivial, trivial⟩) hk
  · exact hk.elim

theorem floatK_congr {op : AOp} {tm tm' : T AV} {n : Pt} {c : AV → AO → Prop} (hr : ∀ x ∈ opX op, valX tm' x = valX tm x) (hk : floatK op tm n c) : floatK op tm' n c := by
  cases op with
  | box e x => exact evK_congr (hr _ (by simp [opX])) hk
  | cvB e x => exact evK_congr (hr _ (by simp [opX])) hk
  | buildS e k z ps => exact fillK_imp (fun q hq => hr _ (by simp only [opX]; exact List.mem_map.2 ⟨q, hq, rfl⟩)) hk
  | _ => exact hk

theorem fillK_val {tm : T AV} : ∀ {ps : List (Nat × Nat × AX)} {z : List AV} {c : List AV → Prop}, fillK tm ps z c → ∃ vs, c vs ∧ ∀ c', c' vs → fillK tm ps z c'
  | [], z, c, hk => ⟨z, hk, fun _ h => h⟩
  | q :: ps, z, c, hk => by
    have hk : evK tm q.2.2 fun v => forceB (Nat.beq (cellsA v).length q.2.1 && Nat.ble (q.1 + q.2.1) z.length) fun b =>
      Bool.rec (motive := fun _ => Prop) False (fillK tm ps (putL z q.1 (cellsA v)) c) b := hk
    rw [evK_iff] at hk
    obtain ⟨v, h1, h2⟩ := hk
    rw [forceB_iff] at h2
    obtain ⟨hb, h2⟩ := brec h2
    obtain ⟨vs, g1, g2⟩ := fillK_val h2
    refine ⟨vs, g1, fun c' hc' => ?_⟩
    show evK tm q.2.2 fun v => forceB (Nat.beq (cellsA v).length q.2.1 && Nat.ble (q.1 + q.2.1) z.length) fun b =>
      Bool.rec (motive := fun _ => Prop) False (fillK tm ps (putL z q.1 (cellsA v)) c') b
    rw [evK_iff]
    refine ⟨v, h1, ?_⟩
    rw [forceB_iff, hb]
    exact g2 c' hc'

theorem floatK_val {op : AOp} {tm : T AV} {n : Pt} {c : AV → AO → Prop} (hk : floatK op tm n c) : ∃ v ob, c v ob ∧ floatK op tm n fun v' ob' => v' = v ∧ ob' = ob := by
  unfold floatK at hk ⊢
  split at hk
  · exact ⟨_, _, hk, rfl, rfl⟩
  · rw [evK_iff] at hk
    obtain ⟨v, h1, h2⟩ := hk
    exact ⟨_, _, h2, by rw [evK_iff]; exact ⟨v, h1, rfl, rfl⟩⟩
  · obtain ⟨vs, g1, g2⟩ := fillK_val hk
    rw [forceL_iff] at g1
    exact ⟨_, _, g1, g2 _ ((forceL_iff _ _).2 ⟨rfl, rfl⟩)⟩
  · exact ⟨_, _, hk, rfl, rfl⟩
  · rw [evK_iff] at hk
    obtain ⟨v, h1, h2⟩ := hk
    split at h2
    · rename_i s
      rw [forceL_iff, forceN_iff] at h2
      refine ⟨_, _, h2, ?_⟩
      rw [evK_iff]
      refine ⟨_, h1, ?_⟩
      show forceL _ _
      rw [forceL_iff, forceN_iff]
      exact ⟨rfl, rfl⟩
    · exact h2.elim
  · exact hk.elim

theorem eK_congr {x : AOper} {ch : CH} {tm tm' : T AV} {h : T AO} {nx : Pt} {c : AV → T AO → Pt → Prop} (hr : ∀ p ∈ rdX x, tm'.find p = tm.find p) (hk : eK x ch tm h nx c) : eK x ch tm' h nx c := by
  have hv : ∀ y ∈ kX x.op, valX tm' y = valX tm y := fun y hy => valX_of fun p hp => hr p (by
    unfold rdX
    exact List.mem_append.2 (.inr (List.mem_flatMap.2 ⟨y, hy, hp⟩)))
  have key : eK0 x.op ch tm h nx c → eK0 x.op ch tm' h nx c := fun hk => by
    unfold eK0 at hk ⊢
    split
    · rename_i o ho
      simp only [ho] at hk
      exact stepV_congr (fun y hy => hv y (by rw [ho]; exact hy)) hk
    · rename_i f xs ho
      simp only [ho] at hk
      exact evsK_imp (fun y hy => hv y (by rw [ho]; exact hy)) (fun _ h => h) hk
    · rename_i y xs ho
      simp only [ho] at hk
      exact evK_congr (hv y (by rw [ho]; simp [kX])) (evK_imp (fun v hv' => evsK_imp (fun z hz => hv z (by rw [ho]; simp [kX, hz])) (fun _ h => h) hv') hk)
    · rename_i y v ho
      simp only [ho] at hk
    · rename_i y z ho
      simp only [ho] at hk
  unfold eK at hk ⊢
  split
  · rename_i hg
    simp only [hg] at hk
    exact key hk
  · rename_i g b hg
    simp only [hg] at hk
    exact wantK_congr (rd_guard hg hr) key id hk

theorem eqN_eq : ∀ {a b : List Nat}, eqN a b = true → a = b
  | [], [], _ => rfl
  | [], _ :: _, h => by cases h
  | _ :: _, [], h => by cases h
  | x :: a, y :: b, h => by
    simp only [eqN, Bool.and_eq_true] at h
    rw [Nat.eq_of_beq_eq_true h.1, eqN_eq h.2]

mutual
theorem eqV_eq : ∀ {a b : AV}, eqV a b = true → a = b
  | .bool a, b, h => by cases b <;> simp [eqV] at h <;> rw [h]
  | .int k a, b, h => by
    cases b <;> simp [eqV] at h
    obtain ⟨rfl, h⟩ := h
    rw [eqI_spec] at h
    rw [eq_of_beq h]
  | .str a, b, h => by cases b <;> simp [eqV] at h; rw [eqN_eq h]
  | .nilp, b, h => by cases b <;> simp [eqV] at h; rfl
  | .ptr k o, b, h => by
    cases b <;> simp [eqV] at h
    rw [eqP_spec h.1, h.2]
  | .nils, b, h => by cases b <;> simp [eqV] at h; rfl
  | .sl k o l c op, b, h => by
    cases b <;> simp [eqV] at h
    obtain ⟨⟨⟨⟨h1, h2⟩, h3⟩, h4⟩, h5⟩ := h
    rw [eqP_spec h1, h2, h3, h4, h5]
  | .slz k o p, b, h => by cases b <;> simp [eqV] at h
  | .nilm, b, h => by cases b <;> simp [eqV] at h; rfl
  | .map k, b, h => by cases b <;> simp [eqV] at h; rw [eqP_spec h]
  | .fn f x y, b, h => by
    cases b <;> try (simp [eqV] at h; done)
    rename_i g x' y'
    cases f <;> cases g <;> simp [eqV] at h
    obtain ⟨⟨rfl, h1⟩, h2⟩ := h
    rw [eqVs_eq h1, eqVs_eq h2]
  | .yld k, b, h => by cases b <;> simp [eqV] at h; rw [eqP_spec h]
  | .chan k, b, h => by cases b <;> simp [eqV] at h; rw [eqP_spec h]
  | .nilc, b, h => by cases b <;> simp [eqV] at h; rfl
  | .nilf, b, h => by cases b <;> simp [eqV] at h; rfl
  | .iface t v, b, h => by
    cases b <;> simp [eqV] at h
    obtain ⟨rfl, h⟩ := h
    rw [eqV_eq h]
  | .nili, b, h => by cases b <;> simp [eqV] at h; rfl
  | .agg x, b, h => by cases b <;> simp [eqV] at h; rw [eqVs_eq h]
  | .tup x, b, h => by cases b <;> simp [eqV] at h; rw [eqVs_eq h]
theorem eqVs_eq : ∀ {a b : List AV}, eqVs a b = true → a = b
  | [], [], _ => rfl
  | [], _ :: _, h => by simp [eqVs] at h
  | _ :: _, [], h => by simp [eqVs] at h
  | x :: a, y :: b, h => by
    simp only [eqVs, Bool.and_eq_true] at h
    rw [eqV_eq h.1, eqVs_eq h.2]
end

end Go.Proofs.Ytfnehpgefcnjgaa.X
