/- An executor for closed calls, 13: every operation is right; regions, control, calls. -/
import Derived.Test.YtkcpnbfhoamlfaaGreatDoorXLC
import Derived.DeepKeys4
namespace Go.Proofs.YtkcpnbfhoamlfaaGreatDoor.X
open Go.RowKit

section
variable {P : Program} {w0 : World} {r : Rho} {h : T AO} {nx : Pt} {w : World} {K : AV → T AO → Pt → Prop} {tm : T AV} {a : Act} {o : Oper}

theorem step_sound (H : WR P w0 r h nx w) (ht : TR r tm a.tmps) {op : Op} {op' : AOp} (hop : o.op = op) (hc : Co P op op') (hk : stepV op' tm h nx K) : Yields P w0 r h w (execOp a.eval o) K := by
  cases hc with
  | mv hx => exact s_mv H ht hx (.inl hop) hk
  | asg hx => exact s_mv H ht hx (.inr hop) hk
  | pick hx hy hz => exact s_pick H ht hx hy hz hop hk
  | new h1 h2 h3 => exact s_new H h1 h2 h3 hop hk
  | box hx => exact s_box H ht hx hop hk
  | build h1 h2 h3 h4 h5 h6 => exact s_build H ht h1 h2 h3 h4 h5 h6 hop hk
  | buildA h1 h2 h3 h4 h5 h6 => exact s_buildA H ht h1 h2 h3 h4 h5 h6 hop hk
  | buildS h1 h2 h3 h4 h5 h6 h7 h8 h9 => exact s_buildS H ht h1 h2 h3 h4 h5 h6 h7 h9 hop hk
  | buildE h1 h2 => exact s_buildE H h1 h2 hop hk
  | ld1 h1 h2 hx => exact s_ld1 H ht h1 h2 hx hop hk
  | ldN h1 h2 h3 hx => exact s_ldN H ht h1 h2 h3 hx hop hk
  | st h1 hx hy => exact s_st H ht h1 hx hy hop hk
  | nchk hx => exact s_nchk H ht hx hop hk
  | fa h1 h2 h3 h4 hx => exact s_fa H ht h1 h2 h3 h4 hx hop hk
  | fld h1 h2 h3 h4 h5 hx => exact s_fld H ht h1 h2 h3 h4 h5 hx hop hk
  | fld1 h1 h2 h3 h4 hx => exact s_fld1 H ht h1 h2 h3 h4 hx hop hk
  | ia h1 h2 hx hi => exact s_ia H ht h1 h2 hx hi hop hk
  | iaA h1 h2 hx hi => exact s_iaA H ht h1 h2 hx hi hop hk
  | ext hx => exact s_ext H ht hx hop hk
  | mkf hx hy => exact s_mkf H ht hx hy hop hk
  | mki h1 h2 hx => exact s_mki H ht h1 h2 hx hop hk
  | ar hx hy => exact s_ar H ht hx hy hop hk
  | eq h1 h2 h3 hx hy => exact s_eq H ht h1 h2 h3 hx hy hop hk
  | un hx => exact s_un H ht hx hop hk
  | cvI h1 h2 hx => exact s_cvI H ht h1 h2 hx hop hk
  | cvS h1 h2 hx => exact s_cvS H ht h1 h2 hx hop hk
  | lenS h1 hx => exact s_lenS H ht h1 hx hop hk
  | len h1 hx => exact s_len H ht h1 hx hop hk
  | lenM h1 hx => exact s_lenM H ht h1 hx hop hk
  | ixS h1 hx hi => exact s_ixS H ht h1 hx hi hop hk
  | cvB h1 h2 h3 h4 h5 hx => exact s_cvB H ht h1 h2 h3 h4 h5 hx hop hk
  | cvT h1 h2 h3 hx => exact s_cvT H ht h1 h2 h3 hx hop hk
  | clr h1 h2 h3 h4 h5 hx => exact s_clr H ht h1 h2 h3 h4 h5 hx hop hk
  | ix1 h1 h2 h3 h4 h5 hx hi => exact s_ix1 H ht h1 h2 h3 h4 h5 hx hi hop hk
  | lk h1 h2 h3 h4 h5 hx hi => exact s_lk H ht h1 h2 h3 h4 h5 hx hi hop hk
  | up h1 h2 hx hi hv => exact s_up H ht h1 h2 hx hi hv hop hk
  | lkA h1 h2 h3 h4 h5 hx hi => exact s_lkA H ht h1 h2 h3 h4 h5 hx hi hop hk
  | upA h1 h2 hx hi hv => exact s_upA H ht h1 h2 hx hi hv hop hk
  | mkS h1 h2 h3 h4 h5 h6 h7 hx hy => exact s_mkS H ht h1 h2 h3 h4 h5 h6 h7 hx hy hop hk
  | sl h1 h2 hx h3 h4 h5 h6 => exact s_sl H ht h1 h2 hx h3 h4 h5 h6 hop hk
  | slS h1 hx h3 h4 => exact s_slS H ht h1 hx h3 h4 hop hk
  | app h1 h2 h3 h4 h5 h6 h7 h8 hx hy => exact s_app H ht h1 h2 h3 h4 h5 h6 h8 hx hy hop hk
  | max hx => exact s_mm (mx := true) H ht hx hop hk
  | min hx => exact s_mm (mx := false) H ht hx hop hk
  | lenC h1 hx => exact s_lenC H ht h1 hx hop hk
  | mkC h1 h2 h3 hx => exact s_mkC H ht h1 h2 h3 hx hop hk
  | mkM => exact s_mkM H hop hk

end

/-- what an operation of a region does -/
inductive AK where
  | v (o : AOp)
  | call (f : Pt) (args : List AX)
  | callv (x : AX) (args : List AX)
  | snd (x v : AX)
  | sel (x : AX) (z : AV)
  | pan (x : AX)

structure AOper where
  dst : Option Pt
  op : AK
  guard : Option (Pt × Bool)

/-- a block that has been made, and that nothing has acted on yet -/
structure Fl where
  i : Nat
  n : Pt
  ob : AO

/-- a step of a script -/
inductive It where
  | n (i : Nat) (p : Pt) (x : AOper)
  | a (i : Nat) (p : Pt) (op : AOp)
  | e (i : Nat) (ab : List Nat) (rc : List (Pt × AOper)) (x : AOper)

/-- the executor's code -/
inductive AC where
  | skip
  | ops (l : List AOper)
  | comm (l : List AOper)
  | draw (l : List It)
  | draw2 (l : List It) (pq : Pt) (nq : Nat) (xq iq : AX) (n1 : Nat) (x1 : AX) (p2 : Pt) (n2 : Nat) (x2 : AX)
  | seq (a b : AC)
  | cond (c : AX) (a b : AC)
  | block (id : Nat) (b : AC)
  | loop (b : AC)
  | exit (id : Nat)
  | ret
  | no
  | range (g : AX) (ps : List Pt) (a b : AC)

/-- a result: a slot, or a variable of that many cells (0: one cell that is no row) behind a slot -/
inductive AR where
  | t (p : Pt)
  | c1 (p : Pt)
  | cN (p : Pt) (n : Nat)

abbrev EK4 := AE → T AV → T AO → Pt → Prop
/-- what a round of a range over a function comes to -/
abbrev RS := List AV → T AO → Pt → (AV → T AO → Pt → Prop) → Prop
/-- what calls, with the loops that are under way -/
abbrev CF := T RS → Pt → List AV → T AO → Pt → (AV → T AO → Pt → Prop) → (AV → T AO → Pt → Prop) → Prop
/-- where code is run: what calls, the loop of whose round it is, the loops that are under way, what comes behind a panic -/
structure CH where
  call : CF
  cur : Option Pt
  loops : T RS
  pan : T AV → AV → T AO → Pt → Prop

def CH.go (ch : CH) (tm : T AV) (p : Pt) (args : List AV) (h : T AO) (nx : Pt) (K : AV → T AO → Pt → Prop) : Prop := ch.call ch.loops p args h nx K (ch.pan tm)

/-- nothing panics -/
def noP : AV → T AO → Pt → Prop := fun _ _ _ => False

/-- where nothing may panic -/
def CH.calm (ch : CH) : CH := ⟨ch.call, ch.cur, ch.loops, fun _ => noP⟩
/-- what code comes to -/
abbrev D := CH → T AV → T AO → Pt → EK4 → Prop
/-- what operations come to -/
abbrev DO := CH → T AV → T AO → Pt → (T AV → T AO → Pt → Prop) → Prop
/-- what an operation gives -/
abbrev VO := T AV → T AO → Pt → (AV → T AO → Pt → Prop) → Prop

structure AF where
  code : D
  res : List AR

def resK (tm : T AV) (h : T AO) : List AR → (List AV → Prop) → Prop :=
  fun l => List.rec (motive := fun _ => (List AV → Prop) → Prop) (fun c => c [])
    (fun x _ ih c => match x with
      | .t p => tm.getK p fun v => ih fun vs => c (v :: vs)
      | .c1 p => tm.getK p fun v => match v with
        | .ptr k o => h.getK k fun b => match b with
          | .cells us _ => match us[o]? with
            | some u => ih fun vs => c (u :: vs)
            | none => False
          | _ => False
        | _ => False
      | .cN p n => tm.getK p fun v => match v with
        | .ptr k o => h.getK k fun b => match b with
          | .cells us _ => Bool.rec (motive := fun _ => Prop) False (forceL ((us.drop o).take n) fun us => ih fun vs => c (.agg us :: vs)) (Nat.ble (o + n) us.length)
          | _ => False
        | _ => False) l

def argsK : List AV → Pt → T AV → (T AV → Prop) → Prop :=
  fun l => List.rec (motive := fun _ => Pt → T AV → (T AV → Prop) → Prop) (fun _ tm c => c tm) (fun v _ ih p tm c => tm.setK v p fun tm => forceP p.succ fun p => ih p tm c) l

def oneV : List AV → AV
  | [v] => v
  | vs => .tup vs

/-- behind a function's body -/
def retK (res : List AR) (K : AV → T AO → Pt → Prop) (e : AE) (tm : T AV) (h : T AO) (nx : Pt) : Prop :=
  match e with
  | .exit _ => False
  | _ => resK tm h res fun vs => K (oneV vs) h nx

/-- calls, so deep -/
def callP (funs : T AF) (n : Nat) : CF :=
  Nat.rec (motive := fun _ => CF) (fun _ _ _ _ _ _ _ => False)
    (fun _ ih loops f args h nx K Kp => funs.getK f fun af => argsK args .e .l fun tm => af.code ⟨ih, none, loops, fun _ => Kp⟩ tm h nx (retK af.res K)) n

def callN (funs : T AF) (n : Nat) (loops : T RS) (f : Pt) (args : List AV) (h : T AO) (nx : Pt) (K : AV → T AO → Pt → Prop) : Prop := callP funs n loops f args h nx K noP

def Pt.ofB : Nat → Nat → Pt
  | 0, _ => .e
  | f + 1, k => match k with
    | 0 => .e
    | k + 1 => bif Nat.beq (k % 2) 0 then .z (Pt.ofB f (k / 2)) else .o (Pt.ofB f (k / 2))

/-- what is to be called through a value -/
def fnK (y : AV) (args : List AV) (c : Pt → List AV → Prop) : Prop :=
  match y with
  | .fn (.func f) first caps => forceP (Pt.ofB 20 f) fun p => Bool.rec (motive := fun _ => Prop) False (forceL (first ++ args ++ caps) fun args => c p args) (Nat.beq p.toNat f)
  | _ => False

/-- a value is called -/
def cvK (ch : CH) (tm : T AV) (y : AV) (args : List AV) (h : T AO) (nx : Pt) (c : AV → T AO → Pt → Prop) : Prop :=
  match y with
  | .yld k => ch.loops.getK k fun rs => rs args h nx c
  | y => fnK y args fun p args => ch.go tm p args h nx c

/-- the slot of a result -/
def putD (d : Option Pt) (v : AV) (tm : T AV) (K : T AV → Prop) : Prop :=
  match d with
  | none => K tm
  | some p => tm.setK v p K

/-- is a guarded operation wanted? -/
def wantK (g : Pt) (want : Bool) (tm : T AV) (yes no : Prop) : Prop :=
  tm.getK g fun v => match v with
    | .bool b => Bool.rec (motive := fun _ => Prop) no yes (b == want)
    | _ => no

def dE : DO := fun _ tm h nx K => K tm h nx
def dV (p : Pt) (f : VO) (rest : DO) : DO := fun ch tm h nx K => f tm h nx fun v h nx => tm.setK v p fun tm => rest ch tm h nx K
def dU (f : VO) (rest : DO) : DO := fun ch tm h nx K => f tm h nx fun _ h nx => rest ch tm h nx K
def dC (d : Option Pt) (f : Pt) (xs : List AX) (rest : DO) : DO := fun ch tm h nx K => evsK tm xs fun args => ch.go tm f args h nx fun v h nx => putD d v tm fun tm => rest ch tm h nx K
def dCv (d : Option Pt) (x : AX) (xs : List AX) (rest : DO) : DO := fun ch tm h nx K => evK tm x fun y => evsK tm xs fun args => cvK ch tm y args h nx fun v h nx => putD d v tm fun tm => rest ch tm h nx K
def dG (g : Pt) (want : Bool) (d : Option Pt) (x : DO → DO) (rest : DO) : DO := fun ch tm h nx K =>
  wantK g want tm (x rest ch tm h nx K) (putD d (.tup []) tm fun tm => rest ch tm h nx K)

def denV (o : AOp) : VO := stepV o

/-- something is sent where there is room -/
def sndK (x v : AX) (tm : T AV) (h : T AO) (nx : Pt) (c : AV → T AO → Pt → Prop) : Prop :=
  evK tm x fun a => evK tm v fun u => match a with
    | .chan k => h.getK k fun b => match b with
      | .chan cap buf => Bool.rec (motive := fun _ => Prop) False (forceL (buf ++ [u]) fun buf => h.setK (.chan cap buf) k fun h => c (.tup []) h nx) (Nat.blt buf.length cap)
      | _ => False
    | _ => False

/-- what waits is taken; z, if nothing does -/
def selK (x : AX) (z : AV) (tm : T AV) (h : T AO) (nx : Pt) (c : AV → T AO → Pt → Prop) : Prop :=
  evK tm x fun a => match a with
    | .chan k => h.getK k fun b => match b with
      | .chan cap buf => match buf with
        | [] => c (.tup [.int .i64 (.negSucc 0), .bool false, z]) h nx
        | u :: buf => h.setK (.chan cap buf) k fun h => c (.tup [.int .i64 (.ofNat 0), .bool true, u]) h nx
      | _ => False
    | _ => False

def dSnd (d : Option Pt) (x v : AX) (rest : DO) : DO := fun ch tm h nx K => sndK x v tm h nx fun u h nx => putD d u tm fun tm => rest ch tm h nx K
def dSel (d : Option Pt) (x : AX) (z : AV) (rest : DO) : DO := fun ch tm h nx K => selK x z tm h nx fun u h nx => putD d u tm fun tm => rest ch tm h nx K

/-- a panic -/
def panK (ch : CH) (x : AX) (tm : T AV) (h : T AO) (nx : Pt) : Prop :=
  evK tm x fun v => match v with
    | .iface t u => ch.pan tm (.iface t u) h nx
    | _ => False

def dPan (x : AX) (_ : DO) : DO := fun ch tm h nx _ => panK ch x tm h nx

def commK : AK → Bool
  | .snd _ _ => true
  | .sel _ _ => true
  | _ => false

def plainK : AK → Bool
  | .call _ _ => false
  | .callv _ _ => false
  | .pan _ => false
  | _ => true

def anyC : List AOper → Bool
  | [] => false
  | x :: l => commK x.op || anyC l

def allP : List AOper → Bool
  | [] => true
  | x :: l => plainK x.op && allP l

def denK (d : Option Pt) (k : AK) (rest : DO) : DO :=
  match k, d with
  | .v o, some p => dV p (denV o) rest
  | .v o, none => dU (denV o) rest
  | .call f xs, d => dC d f xs rest
  | .callv x xs, d => dCv d x xs rest
  | .snd x v, d => dSnd d x v rest
  | .sel x z, d => dSel d x z rest
  | .pan x, _ => dPan x rest

def denO (x : AOper) (rest : DO) : DO :=
  match x.guard with
  | none => denK x.dst x.op rest
  | some (g, b) => dG g b x.dst (denK x.dst x.op) rest

def denL : List AOper → DO
  | [] => dE
  | x :: l => denO x (denL l)

def dSkip : D := fun _ tm h nx K => K .nrm tm h nx
def dOps (x : DO) : D := fun ch tm h nx K => x ch tm h nx (K .nrm)
def seqK (b : D) (ch : CH) (K : EK4) (e : AE) (tm : T AV) (h : T AO) (nx : Pt) : Prop :=
  match e with
  | .nrm => b ch tm h nx K
  | e => K e tm h nx
def dSeq (a b : D) : D := fun ch tm h nx K => a ch tm h nx (seqK b ch K)
def dCond (c : AX) (a b : D) : D := fun ch tm h nx K => evK tm c fun v => match v with
  | .bool x => Bool.rec (motive := fun _ => Prop) (b ch tm h nx K) (a ch tm h nx K) x
  | _ => False
def blockK (id : Nat) (K : EK4) (e : AE) (tm : T AV) (h : T AO) (nx : Pt) : Prop :=
  match e with
  | .exit i => Bool.rec (motive := fun _ => Prop) (K (.exit i) tm h nx) (K .nrm tm h nx) (Nat.beq i id)
  | e => K e tm h nx
def dBlock (id : Nat) (b : D) : D := fun ch tm h nx K => b ch tm h nx (blockK id K)
def loopN (b : D) (ch : CH) (n : Nat) : T AV → T AO → Pt → EK4 → Prop :=
  Nat.rec (motive := fun _ => T AV → T AO → Pt → EK4 → Prop) (fun _ _ _ _ => False)
    (fun _ ih tm h nx K => b ch tm h nx fun e tm h nx => match e with
      | .nrm => ih tm h nx K
      | e => K e tm h nx) n
def dLoop (b : D) : D := fun ch => loopN b ch 1000000
def dExit (id : Nat) : D := fun _ tm h nx K => K (.exit id) tm h nx
/-- code that is not run: a jump -/
def dNo : D := fun _ _ _ _ _ => False
def dRet : D := fun _ tm h nx K => K .ret tm h nx

/-- the parameters of a round -/
def parK : List Pt → List AV → T AV → (T AV → Prop) → Prop :=
  fun l => List.rec (motive := fun _ => List AV → T AV → (T AV → Prop) → Prop) (fun vs tm c => match vs with | [] => c tm | _ => False)
    (fun p _ ih vs tm c => match vs with | [] => False | v :: vs => tm.setK v p fun tm => ih vs tm c) l

/-- a loop's record, in that state and with nothing pending, is turned into another one -/
def turnK (k : Pt) (st st' : LoopState) (pe : Option AE) (h : T AO) (c : T AO → Prop) : Prop :=
  h.getK k fun o => match o with
    | .loop s none => Bool.rec (motive := fun _ => Prop) False (h.setK (.loop st' pe) k c) (match s, st with | .ready, .ready => true | .busy, .busy => true | _, _ => false)
    | _ => False

/-- behind a round's body -/
def endK (k : Pt) (c : AV → T AO → Pt → Prop) (e : AE) (_ : T AV) (h : T AO) (nx : Pt) : Prop :=
  match e with
  | .nrm => turnK k .busy .ready none h fun h => c (.bool true) h nx
  | .ret => turnK k .busy .done (some .ret) h fun h => c (.bool false) h nx
  | .exit id => turnK k .busy .done (some (.exit id)) h fun h => c (.bool false) h nx

/-- is there the record of the loop in whose round this is? -/
def curK (c : Option Pt) (h : T AO) (k : Prop) : Prop :=
  match c with
  | none => k
  | some p => h.getK p fun o => match o with
    | .loop _ _ => k
    | _ => False

/-- a round -/
def roundK (k : Pt) (ps : List Pt) (a b : D) (ch : CH) (tm : T AV) : RS := fun args h nx c =>
  curK (some k) h (parK ps args tm fun tm => a ⟨ch.call, some k, ch.loops, fun _ => noP⟩ tm h nx fun e tm h nx => match e with
    | .nrm => turnK k .ready .busy none h fun h => b ⟨ch.call, some k, ch.loops, fun _ => noP⟩ tm h nx (endK k c)
    | _ => False)

/-- behind the function that is ranged over -/
def behindK (k : Pt) (tm : T AV) (K : EK4) (h : T AO) (nx : Pt) : Prop :=
  h.getK k fun o => match o with
    | .loop .ready none => h.setK (.loop .exhausted none) k fun h => K .nrm tm h nx
    | .loop .done (some .ret) => h.setK (.loop .exhausted (some .ret)) k fun h => K .ret tm h nx
    | .loop .done (some (.exit id)) => h.setK (.loop .exhausted (some (.exit id))) k fun h => K (.exit id) tm h nx
    | _ => False

/-- a range over a function -/
def dRange (g : AX) (ps : List Pt) (a b : D) : D := fun ch tm h nx K => evK tm g fun gv => curK ch.cur h (h.setK (.loop .ready none) nx fun h => forceP nx.succ fun nx' =>
  ch.loops.setK (roundK nx ps a b ch tm) nx fun loops => fnK gv [.yld nx] fun p args => ch.call loops p args h nx' (fun _ h nx'' => behindK nx tm K h nx'') noP)

/-- the operands -/
def opX : AOp → List AX
  | .mv x => [x]
  | .pick c a b => [c, a, b]
  | .new _ _ => []
  | .box _ x => [x]
  | .build _ ps => ps.map (·.2.2)
  | .buildS _ _ _ ps => ps.map (·.2.2)
  | .ld1 x => [x]
  | .ldN _ x => [x]
  | .st _ a x => [a, x]
  | .nchk x => [x]
  | .fa _ x => [x]
  | .fld _ _ x => [x]
  | .fld1 _ x => [x]
  | .ia _ x i => [x, i]
  | .iaA _ _ x i => [x, i]
  | .ext x _ => [x]
  | .mkf _ a b => a ++ b
  | .mki _ x => [x]
  | .ar _ x y => [x, y]
  | .eq _ _ x y => [x, y]
  | .un _ x => [x]
  | .cvI _ x => [x]
  | .cvS x => [x]
  | .lenS x => [x]
  | .len x => [x]
  | .lenM x => [x]
  | .lenC x => [x]
  | .mkC x => [x]
  | .ixS x i => [x, i]
  | .cvB _ x => [x]
  | .cvT x => [x]
  | .clr _ x => [x]
  | .ix1 _ x i => [x, i]
  | .lk _ _ x k => [k, x]
  | .up x k v => [k, x, v]
  | .lkA _ _ _ x k => [k, x]
  | .upA _ x k v => [k, x, v]
  | .mkS _ _ _ l c => [l, c]
  | .sl _ x a b c => x :: (a.toList ++ b.toList ++ c.toList)
  | .slS x a b => x :: (a.toList ++ b.toList)
  | .app _ _ x y => [x, y]
  | .mm _ xs => xs
  | .mkM => []

/-- operations that look at slots, or at memory, and change nothing -/
def quietB : AOp → Bool
  | .new _ _ | .box _ _ | .buildS _ _ _ _ | .st _ _ _ | .mkS _ _ _ _ _ | .app _ _ _ _ | .up _ _ _ | .upA _ _ _ _ | .cvB _ _ | .clr _ _ | .mkC _ | .mkM => false
  | _ => true

/-- an operation that makes a block of the name n: its value, and the block -/
def floatK (op : AOp) (tm : T AV) (n : Pt) (c : AV → AO → Prop) : Prop :=
  match op with
  | .new vs e => c (.ptr n 0) (.cells vs e)
  | .box e x => evK tm x fun v => c (.ptr n 0) (.cells (cellsA v) e)
  | .buildS e k z ps => fillK tm ps z fun vs => forceL vs fun vs => c (.sl n 0 k k false) (.cells vs e)
  | .mkM => c (.map n) (.map [] 0)
  | .cvB e x => evK tm x fun v => match v with
    | .str s => forceL (s.map fun b => AV.int .u8 (.ofNat b)) fun us => forceN s.length fun m => c (.sl n 0 m m true) (.frz us e)
    | _ => False
  | _ => False

/-- an operation that acts, guarded or not -/
def eK0 (k : AK) (ch : CH) (tm : T AV) (h : T AO) (nx : Pt) (c : AV → T AO → Pt → Prop) : Prop :=
  match k with
  | .v o => stepV o tm h nx c
  | .call f xs => evsK tm xs fun args => ch.go tm f args h nx c
  | .callv x xs => evK tm x fun y => evsK tm xs fun args => cvK ch tm y args h nx c
  | .snd _ _ => False
  | .sel _ _ => False
  | .pan x => panK ch x tm h nx

def eK (x : AOper) (ch : CH) (tm : T AV) (h : T AO) (nx : Pt) (c : AV → T AO → Pt → Prop) : Prop :=
  match x.guard with
  | none => eK0 x.op ch tm h nx c
  | some (g, b) => wantK g b tm (eK0 x.op ch tm h nx c) (c (.tup []) h nx)

def It.i : It → Nat
  | .n i _ _ => i
  | .a i _ _ => i
  | .e i _ _ _ => i

def It.dst : It → Option Pt
  | .n _ p _ => some p
  | .a _ p _ => some p
  | .e _ _ _ x => x.dst

def It.isE : It → Bool
  | .e _ _ _ _ => true
  | _ => false

def axP : AX → List Pt
  | .t p => [p]
  | .c _ => []

def kX : AK → List AX
  | .v o => opX o
  | .call _ xs => xs
  | .callv x xs => x :: xs
  | .snd x v => [x, v]
  | .sel x _ => [x]
  | .pan x => [x]

def rdX (x : AOper) : List Pt := (match x.guard with | some (g, _) => [g] | none => []) ++ (kX x.op).flatMap axP

def It.rd : It → List Pt
  | .n _ _ x => rdX x
  | .a _ _ op => (opX op).flatMap axP
  | .e _ _ _ x => rdX x

/-- an operation that looks, guarded or not -/
def nK (x : AOper) (tm : T AV) (h : T AO) (nx : Pt) (c : AV → Prop) : Prop :=
  match x.op with
  | .v o => match x.guard with
    | none => stepV o tm h nx fun v _ _ => c v
    | some (g, b) => wantK g b tm (stepV o tm h nx fun v _ _ => c v) (c (.tup []))
  | _ => False

def quietX (x : AOper) : Bool := match x.op with | .v o => quietB o | _ => false

mutual
/-- the same value -/
def eqV : AV → AV → Bool
  | .bool a, .bool b => a == b
  | .int k a, .int k' b => decide (k = k') && eqI a b
  | .str a, .str b => eqN a b
  | .nilp, .nilp => true
  | .ptr k o, .ptr k' o' => eqP k k' && Nat.beq o o'
  | .nils, .nils => true
  | .sl k o l c op, .sl k' o' l' c' op' => eqP k k' && Nat.beq o o' && Nat.beq l l' && Nat.beq c c' && (op == op')
  | .nilm, .nilm => true
  | .map k, .map k' => eqP k k'
  | .fn (.func f) a b, .fn (.func g) a' b' => Nat.beq f g && eqVs a a' && eqVs b b'
  | .nilf, .nilf => true
  | .yld k, .yld k' => eqP k k'
  | .chan k, .chan k' => eqP k k'
  | .nilc, .nilc => true
  | .iface t v, .iface t' v' => Nat.beq t t' && eqV v v'
  | .nili, .nili => true
  | .agg a, .agg b => eqVs a b
  | .tup a, .tup b => eqVs a b
  | _, _ => false
def eqVs : List AV → List AV → Bool
  | [], [] => true
  | a :: l, b :: m => eqV a b && eqVs l m
  | _, _ => false
end

/-- blocks are laid into memory: those that pr names -/
def absK (pr : Nat → Bool) : List Fl → T AO → List Fl → (List Fl → T AO → Prop) → Prop :=
  fun l => List.rec (motive := fun _ => T AO → List Fl → (List Fl → T AO → Prop) → Prop) (fun h acc c => c acc h)
    (fun f _ ih h acc c => Bool.rec (motive := fun _ => Prop) (ih h (f :: acc) c) (h.setK f.ob f.n fun h => ih h acc c) (pr f.i)) l

/-- what was looked at is still so -/
def rcK (rc : List (Pt × AOper)) (tm : T AV) (h : T AO) (nx : Pt) (k : Prop) : Prop :=
  List.rec (motive := fun _ => Prop) k (fun q _ ih => nK q.2 tm h nx fun v => tm.getK q.1 fun u => Bool.rec (motive := fun _ => Prop) False ih (eqV v u)) rc

def inB : List Nat → Nat → Bool
  | [], _ => false
  | j :: l, i => Nat.beq i j || inB l i

/-- what a script comes to -/
abbrev DS := List Fl → CH → T AV → T AO → Pt → (T AV → T AO → Pt → Prop) → Prop

def sEnd : DS := fun F _ tm h nx K => absK (fun _ => true) F h [] fun _ h => K tm h nx
def sN (p : Pt) (x : AOper) (rest : DS) : DS := fun F ch tm h nx K => nK x tm h nx fun v => tm.setK v p fun tm => rest F ch tm h nx K
def sA (i : Nat) (p : Pt) (op : AOp) (rest : DS) : DS := fun F ch tm h nx K => floatK op tm nx fun v ob => tm.setK v p fun tm => forceP nx.succ fun nx' => rest (⟨i, nx, ob⟩ :: F) ch tm h nx' K
def sE (ab : List Nat) (rc : List (Pt × AOper)) (x : AOper) (rest : DS) : DS := fun F ch tm h nx K =>
  absK (inB ab) F h [] fun F h => eK x ch tm h nx fun v h nx => rcK rc tm h nx (putD x.dst v tm fun tm => rest F ch tm h nx K)

def denS : List It → DS
  | [] => sEnd
  | .n _ p x :: l => sN p x (denS l)
  | .a i p op :: l => sA i p op (denS l)
  | .e _ ab rc x :: l => sE ab rc x (denS l)

/-- a look, then two writes into two blocks, in whatever order -/
def tailK (pq : Pt) (nq : Nat) (xq iq : AX) (n1 : Nat) (x1 : AX) (p2 : Pt) (n2 : Nat) (x2 : AX) (tm : T AV) (h : T AO) (nx : Pt) (K : T AV → T AO → Pt → Prop) : Prop :=
  oIa nq xq iq tm h nx fun v _ _ => tm.setK v pq fun tm => match v with
    | .ptr k1 _ => tm.getK p2 fun v2 => match v2 with
      | .ptr k2 _ => Bool.rec (motive := fun _ => Prop) (oSt n1 (.t pq) x1 tm h nx fun _ h nx => oSt n2 (.t p2) x2 tm h nx fun _ h nx => K tm h nx) False (eqP k1 k2)
      | _ => False
    | _ => False

def dDraw2 (s : DS) (pq : Pt) (nq : Nat) (xq iq : AX) (n1 : Nat) (x1 : AX) (p2 : Pt) (n2 : Nat) (x2 : AX) : D := fun ch tm h nx K => s [] ch.calm tm h nx fun tm h nx => tailK pq nq xq iq n1 x1 p2 n2 x2 tm h nx (K .nrm)

def dDraw (s : DS) : D := fun ch tm h nx K => s [] ch.calm tm h nx (K .nrm)

def den : AC → D
  | .skip => dSkip
  | .ops l => dOps (denL l)
  | .comm l => dOps (denL l)
  | .draw l => dDraw (denS l)
  | .draw2 l pq nq xq iq n1 x1 p2 n2 x2 => dDraw2 (denS l) pq nq xq iq n1 x1 p2 n2 x2
  | .seq a b => dSeq (den a) (den b)
  | .cond c a b => dCond c (den a) (den b)
  | .block id b => dBlock id (den b)
  | .loop b => dLoop (den b)
  | .exit id => dExit id
  | .ret => dRet
  | .no => dNo
  | .range g ps a b => dRange g ps (den a) (den b)

end Go.Proofs.YtkcpnbfhoamlfaaGreatDoor.X

/- An executor for closed calls, 14: the executor's operations made out of the program's. -/
namespace Go.Proofs.YtkcpnbfhoamlfaaGreatDoor.X
open Go.RowKit

/-- is it a type of structs of n integers, that may be a map's key? -/
def skB (P : Program) (key : TypeId) (n : Nat) : Bool :=
  match P.underlying key with
  | some (.struct fs) => P.keyType key && decide (P.types.size + 2 ≤ 10000) && decide (key < P.types.size) && laidOutB P && Nat.beq (P.cellsOf key) n &&
    fs.toList.all (fun f => f.name != "_" && Nat.blt f.offset n && Nat.beq (P.cellsOf f.type) 1 && (match P.underlying f.type with | some (.int .i64) => true | _ => false))
  | _ => false

theorem mapM_some {α β : Type} {f : α → Option β} : ∀ {l : List α}, (∀ x ∈ l, ∃ y, f x = some y) → ∃ ys, l.mapM f = some ys
  | [], _ => ⟨[], rfl⟩
  | x :: l, h => by
    obtain ⟨y, hy⟩ := h x (List.mem_cons_self ..)
    obtain ⟨ys, hys⟩ := mapM_some fun z hz => h z (List.mem_cons_of_mem _ hz)
    exact ⟨y :: ys, by simp [List.mapM_cons, hy, hys]⟩

theorem inI_wf {x : Int} (h : inI x = true) : (Lit.int .i64 x).wf = true := by
  have h1 : IntKind.i64.min = -9223372036854775808 := by decide
  have h2 : IntKind.i64.max = 9223372036854775807 := by decide
  simp only [Lit.wf, h1, h2, Bool.and_eq_true, decide_eq_true_eq]
  cases x with
  | ofNat m =>
    simp only [inI, Nat.blt_eq] at h
    constructor
    · exact Int.le_trans (by decide) (Int.natCast_nonneg m)
    · show (m : Int) ≤ 9223372036854775807
      omega
  | negSucc m =>
    simp only [inI, Nat.blt_eq] at h
    rw [Int.negSucc_eq]
    omega

theorem sk_of {P : Program} {key : TypeId} {n : Nat} (h : skB P key n = true) : SK P key n := by
  unfold skB at h
  split at h
  · rename_i fs hu
    simp only [Bool.and_eq_true, decide_eq_true_eq, List.all_eq_true] at h
    obtain ⟨⟨⟨⟨⟨h1, h2⟩, h3⟩, h4⟩, h5⟩, h6⟩ := h
    have h5 := Nat.eq_of_beq_eq_true h5
    refine ⟨Maps.Keyed.of_law (deep_law_laid h4 (m := P.types.size + 1) h2 h3 h1 (by rw [hu])), fun s hs hsi => ?_⟩
    have hw : ∃ d, P.types.size = d + 1 := ⟨P.types.size - 1, by have h0 : 0 < P.types.size := Nat.lt_of_le_of_lt (Nat.zero_le _) h3; omega⟩
    obtain ⟨d, hd⟩ := hw
    have hcell : (keyI s).cells.toList = s.map (Value.int .i64) := by simp [keyI, Value.cells]
    have hform : (keyI s).formed P key = true := by
      simp only [keyI, Value.formed, hu]
      simp [hs, h5]
    obtain ⟨ys, hys⟩ := mapM_some (f := fun f : Field => P.keyLits (d + 1) f.type (((s.map (Value.int .i64)).drop f.offset).take (P.cellsOf f.type))) (l := fs.toList) fun f hf => by
      obtain ⟨⟨⟨-, e2⟩, e3⟩, e4⟩ := h6 f hf
      have e3 := Nat.eq_of_beq_eq_true e3
      have e2 : f.offset < n := by simpa [Nat.blt_eq] using e2
      split at e4
      · rename_i hk
        have hx : f.offset < (s.map (Value.int .i64)).length := by simp; omega
        have : ((s.map (Value.int .i64)).drop f.offset).take (P.cellsOf f.type) = [Value.int .i64 (s[f.offset]'(by omega))] := by
          rw [e3, List.drop_eq_getElem_cons hx]
          simp
        rw [this]
        refine ⟨[Lit.int .i64 (s[f.offset]'(by omega))], ?_⟩
        simp only [Program.keyLits, hk]
        rw [if_pos ⟨trivial, inI_wf (hsi _ (List.getElem_mem _))⟩]
      · cases e4
    refine ⟨.string (keyBytes ys.flatten), ?_⟩
    unfold keyOf
    simp only [hu, h1, hform, Bool.and_self, if_true, hcell]
    rw [hd]
    have hall : fs.all (·.name != "_") = true := by
      rw [Array.all_eq_true_iff_forall_mem]
      intro f hf
      exact (h6 f (Array.mem_toList_iff.2 hf)).1.1.1
    have hcond : (s.map (Value.int .i64)).length = P.cellsOf key ∧ fs.all (·.name != "_") = true := ⟨by simp [hs, h5], hall⟩
    have : P.keyLits (d + 1 + 1) key (s.map (Value.int .i64)) = some ys.flatten := by
      unfold Program.keyLits
      simp only [hu]
      rw [if_pos hcond, hys]
      rfl
    rw [this]
    rfl
  · cases h

def mapO {α β : Type} (f : α → Option β) : List α → Option (List β)
  | [] => some []
  | x :: l => match f x with
    | some y => match mapO f l with
      | some ys => some (y :: ys)
      | none => none
    | none => none

theorem mapO_cons {α β : Type} {f : α → Option β} {x : α} {l : List α} {r : List β} (h : mapO f (x :: l) = some r) : ∃ y ys, f x = some y ∧ mapO f l = some ys ∧ r = y :: ys := by
  unfold mapO at h
  split at h
  · rename_i y hy
    split at h
    · rename_i ys hys
      cases h; exact ⟨y, ys, hy, hys, rfl⟩
    · cases h
  · cases h

/-- a value without addresses -/
def ofV : Nat → Value → Option AV
  | _, .bool b => some (.bool b)
  | _, .int k n => some (.int k n)
  | _, .string s => some (.str (s.data.toList.map UInt8.toNat))
  | _, .pointer none => some .nilp
  | _, .slice none 0 0 => some .nils
  | _, .map none => some .nilm
  | _, .chan none => some .nilc
  | _, .nilFunc => some .nilf
  | _, .nilIface => some .nili
  | n + 1, .agg cs => match mapO (ofV n) cs.toList with
    | some vs => some (.agg vs)
    | none => none
  | n + 1, .tuple cs => match mapO (ofV n) cs.toList with
    | some vs => some (.tup vs)
    | none => none
  | _, _ => none

theorem ofL_spec {n : Nat} (ih : ∀ x v, ofV n x = some v → Lone v x) : ∀ {l : List Value} {vs : List AV}, mapO (ofV n) l = some vs → (∀ r, concL r vs = l) ∧ ∀ n, okL n vs
  | [], vs, h => by cases h; exact ⟨fun r => by simp [concL], fun n => by simp [okL]⟩
  | x :: l, vs, h => by
    obtain ⟨y, ys, h1, h2, rfl⟩ := mapO_cons h
    obtain ⟨g1, g2⟩ := ih x y h1
    obtain ⟨g3, g4⟩ := ofL_spec ih h2
    exact ⟨fun r => by simp only [concL, g1 r, g3 r], fun n => by simp only [okL]; exact ⟨g2 n, g4 n⟩⟩

theorem lone_str (s : ByteArray) : Lone (.str (s.data.toList.map UInt8.toNat)) (.string s) := by
  refine ⟨fun r => ?_, fun n => ?_⟩
  · simp only [conc, bytesOf]
    congr 1
    apply ByteArray.ext
    have : (UInt8.ofNat ∘ UInt8.toNat) = id := by funext x; simp
    simp [this]
  · simp only [okV, List.mem_map]
    rintro b ⟨x, -, rfl⟩
    exact x.toNat_lt

theorem ofV_flat {n : Nat} {x : Value} {v : AV} (hx : (∀ cs, x ≠ .agg cs) ∧ ∀ cs, x ≠ .tuple cs) (h : ofV n x = some v) : Lone v x := by
  cases x with
  | bool b => simp only [ofV] at h; cases h; exact ⟨fun r => by simp only [conc], fun n => by simp only [okV]⟩
  | int k m => simp only [ofV] at h; cases h; exact ⟨fun r => by simp only [conc], fun n => by simp only [okV]⟩
  | string s => simp only [ofV] at h; cases h; exact lone_str s
  | pointer a =>
    cases a with
    | none => simp only [ofV] at h; cases h; exact ⟨fun r => by simp only [conc], fun n => by simp only [okV]⟩
    | some a => simp [ofV] at h
  | slice a l c =>
    cases a with
    | none =>
      cases l with
      | zero =>
        cases c with
        | zero => simp only [ofV] at h; cases h; exact ⟨fun r => by simp only [conc], fun n => by simp only [okV]⟩
        | succ c => simp [ofV] at h
      | succ l => simp [ofV] at h
    | some a => simp [ofV] at h
  | map m =>
    cases m with
    | none => simp only [ofV] at h; cases h; exact ⟨fun r => by simp only [conc], fun n => by simp only [okV]⟩
    | some a => simp [ofV] at h
  | chan m =>
    cases m with
    | none => simp only [ofV] at h; cases h; exact ⟨fun r => by simp only [conc], fun n => by simp only [okV]⟩
    | some a => simp [ofV] at h
  | nilFunc => simp only [ofV] at h; cases h; exact ⟨fun r => by simp only [conc], fun n => by simp only [okV]⟩
  | nilIface => simp only [ofV] at h; cases h; exact ⟨fun r => by simp only [conc], fun n => by simp only [okV]⟩
  | agg cs => exact absurd rfl (hx.1 cs)
  | tuple cs => exact absurd rfl (hx.2 cs)
  | _ => simp [ofV] at h

theorem ofV_spec : ∀ (n : Nat) (x : Value) (v : AV), ofV n x = some v → Lone v x := by
  intro n
  induction n with
  | zero =>
    intro x v h
    cases x with
    | agg cs => simp [ofV] at h
    | tuple cs => simp [ofV] at h
    | _ => exact ofV_flat ⟨by simp, by simp⟩ h
  | succ n ih =>
    intro x v h
    cases x with
    | agg cs =>
      simp only [ofV] at h
      split at h
      · rename_i vs hvs
        cases h
        obtain ⟨g1, g2⟩ := ofL_spec ih hvs
        exact ⟨fun r => by simp only [conc, g1 r], fun n => by simp only [okV]; exact g2 n⟩
      · cases h
    | tuple cs =>
      simp only [ofV] at h
      split at h
      · rename_i vs hvs
        cases h
        obtain ⟨g1, g2⟩ := ofL_spec ih hvs
        exact ⟨fun r => by simp only [conc, g1 r], fun n => by simp only [okV]; exact g2 n⟩
      · cases h
    | _ => exact ofV_flat ⟨by simp, by simp⟩ h

def cx : Operand → Option AX
  | .tmp t => some (.t (Pt.ofNat t))
  | .const y => match ofV 4 y with
    | some v => some (.c v)
    | none => none
  | .func f => some (.c (.fn (.func f) [] []))
  | .global _ => none

theorem cx_spec {o : Operand} {x : AX} (h : cx o = some x) : Cx o x := by
  cases o with
  | tmp t => cases h; exact ⟨_, rfl, Pt.toNat_ofNat t⟩
  | const y =>
    simp only [cx] at h
    split at h
    · rename_i v hv
      cases h; exact ⟨v, rfl, ofV_spec 4 y v hv⟩
    · cases h
  | func f => cases h; rfl
  | global g => cases h

theorem cxs_spec : ∀ {os : List Operand} {xs : List AX}, mapO cx os = some xs → Cxs os xs
  | [], xs, h => by cases h; trivial
  | o :: os, xs, h => by
    obtain ⟨y, ys, h1, h2, rfl⟩ := mapO_cons h
    exact ⟨cx_spec h1, cxs_spec h2⟩

def cxo : Option Operand → Option (Option AX)
  | none => some none
  | some o => match cx o with
    | some x => some (some x)
    | none => none

theorem cxo_spec {o : Option Operand} {x : Option AX} (h : cxo o = some x) : Cxo o x := by
  cases o with
  | none => cases h; trivial
  | some o =>
    simp only [cxo] at h
    split at h
    · rename_i y hy
      cases h; exact cx_spec hy
    · cases h

def cps (place : Nat → Option (Nat × Nat)) (ps : List (Nat × Operand)) : Option (List (Nat × Nat × AX)) :=
  mapO (fun p => match place p.1, cx p.2 with
    | some (a, b), some x => some (a, b, x)
    | _, _ => none) ps

theorem cps_spec {place : Nat → Option (Nat × Nat)} : ∀ {ps : List (Nat × Operand)} {qs : List (Nat × Nat × AX)}, cps place ps = some qs → Cps place ps qs
  | [], qs, h => by cases h; trivial
  | p :: ps, qs, h => by
    obtain ⟨y, ys, h1, h2, rfl⟩ := mapO_cons h
    split at h1
    · rename_i a b x ha hx
      cases h1
      exact ⟨ha, cx_spec hx, cps_spec h2⟩
    · cases h1

/-- a type's zero -/
def zeroA (P : Program) (t : TypeId) : Option (TypeInfo × Value × AV) :=
  match P.info? t with
  | some i => match i.zero with
    | some z => match ofV 4 z with
      | some v => some (i, z, v)
      | none => none
    | none => none
  | none => none

theorem zeroA_spec {P : Program} {t : TypeId} {i : TypeInfo} {z : Value} {v : AV} (h : zeroA P t = some (i, z, v)) : P.info? t = some i ∧ i.zero = some z ∧ Lone v z := by
  unfold zeroA at h
  split at h
  · rename_i i' hi
    split at h
    · rename_i z' hz
      split at h
      · rename_i v' hv
        cases h; exact ⟨hi, hz, ofV_spec 4 _ _ hv⟩
      · cases h
    · cases h
  · cases h

/-- where a struct's fields lie -/
def placesA (P : Program) (fs : List Field) : Option (List (Nat × Nat)) :=
  mapO (fun f => match P.info? f.type with
    | some j => some (f.offset, j.size)
    | none => none) fs

theorem placesA_spec {P : Program} {fs : Array Field} {l : List (Nat × Nat)} (h : placesA P fs.toList = some l) (w : World) : (fs.mapM (fun f => do pure (f.offset, ← sizeOf f.type)) : Sem (Array (Nat × Nat))).run P w = .ok l.toArray w := by
  have key : ∀ (fs : List Field) (l : List (Nat × Nat)), placesA P fs = some l → (fs.mapM (fun f => do pure (f.offset, ← sizeOf f.type)) : Sem (List (Nat × Nat))).run P w = .ok l w := by
    intro fs
    induction fs with
    | nil => intro l h; cases h; rfl
    | cons f fs ih =>
      intro l h
      obtain ⟨y, ys, h1, h2, rfl⟩ := mapO_cons h
      split at h1
      · rename_i j hj
        cases h1
        rw [List.mapM_cons]
        have e1 : ((do pure (f.offset, ← sizeOf f.type)) : Sem (Nat × Nat)).run P w = .ok (f.offset, j.size) w := by rw [run_ok_bind (run_sizeOf hj)]; rfl
        rw [run_ok_bind e1, run_ok_bind (ih ys h2)]; rfl
      · cases h1
  rw [Array.mapM_eq_mapM_toList]
  show Sem.run P (List.toArray <$> _) w = _
  rw [map_eq_pure_bind, run_ok_bind (key _ _ h)]; rfl

def isConstB : Operand → Bool
  | .const _ => true
  | _ => false

theorem isConstB_spec {o : Operand} (h : isConstB o = true) : isConst o := by
  cases o <;> first | trivial | cases h

/-- at which types eqK tells -/
def eqT (P : Program) (x y : Operand) : TypeDesc → Option EK
  | .bool => some .b
  | .pointer e => match P.info? e with
    | some j => if j.size = 0 then none else some .p
    | none => none
  | .slice _ => some .s
  | .map _ _ => some .m
  | .func _ _ _ => some .f
  | .interface _ => if isConstB x || isConstB y then some .i else none
  | _ => none

theorem eqT_spec {P : Program} {x y : Operand} {d : TypeDesc} {ek : EK} (h : eqT P x y d = some ek) : EqT P x y ek d := by
  cases d with
  | pointer e =>
    simp only [eqT] at h
    split at h
    · rename_i j hj
      split at h
      · cases h
      · rename_i hz
        cases h; exact ⟨j, hj, hz⟩
    · cases h
  | interface m =>
    simp only [eqT] at h
    split at h
    · rename_i hc
      cases h
      simp only [Bool.or_eq_true] at hc
      exact hc.imp isConstB_spec isConstB_spec
    · cases h
  | _ => first | (cases h; trivial) | cases h

def compOp (P : Program) : Op → Option AOp
  | .move x => match cx x with
    | some x => some (.mv x)
    | none => none
  | .assign x => match cx x with
    | some x => some (.mv x)
    | none => none
  | .pick c a b => match cx c, cx a, cx b with
    | some c, some a, some b => some (.pick c a b)
    | _, _, _ => none
  | .alloc e => match zeroA P e with
    | some (_, _, v) => some (.new (cellsA v) e)
    | none => none
  | .box e x => match cx x with
    | some x => some (.box e x)
    | none => none
  | .build t ps => match zeroA P t, P.underlying t with
    | some (_, _, v), some (.struct fields) => match placesA P fields.toList with
      | some pl => match cps (fun i => pl.toArray[i]?) ps.toList with
        | some qs => some (.build (cellsA v) qs)
        | none => none
      | none => none
    | some (_, _, v), some (.array _ e) => match P.info? e with
      | some j => match cps (fun i => some (i * j.size, j.size)) ps.toList with
        | some qs => some (.build (cellsA v) qs)
        | none => none
      | none => none
    | _, _ => none
  | .buildSlice t n ps => match P.underlying t with
    | some (.slice e) => match zeroA P e with
      | some (j, _, v) => if n = 0 then (match ps with
          | ⟨[]⟩ => some (.buildS e 0 [] [])
          | _ => none)
        else if (cellsA v).length = j.size ∧ 0 < j.size ∧ n * j.size ≤ 2 ^ 24 then
          match cps (fun i => some (i * j.size, j.size)) ps.toList with
          | some qs => some (.buildS e n (zerosL (cellsA v) n) qs)
          | none => none
        else none
      | none => none
    | _ => none
  | .load t x => match P.underlying t, P.info? t, cx x with
    | some d, some i, some x => if aggD d = true then some (.ldN i.size x) else some (.ld1 x)
    | _, _, _ => none
  | .store t a x => match P.info? t, cx a, cx x with
    | some i, some a, some x => some (.st i.size a x)
    | _, _, _ => none
  | .nilCheck x => match cx x with
    | some x => some (.nchk x)
    | none => none
  | .fieldAddr s x i => match P.underlying s with
    | some (.struct fields) => match fields[i]? with
      | some f => match P.info? f.type, cx x with
        | some j, some x => if j.size = 0 then none else some (.fa f.offset x)
        | _, _ => none
      | none => none
    | _ => none
  | .field s x i => match P.underlying s with
    | some (.struct fields) => match fields[i]? with
      | some f => match P.underlying f.type, P.info? f.type, cx x with
        | some d, some j, some x => if aggD d = true then some (.fld j.size f.offset x) else some (.fld1 f.offset x)
        | _, _, _ => none
      | none => none
    | _ => none
  | .indexAddr t x i => match P.underlying t with
    | some (.slice e) => match P.info? e, cx x, cx i with
      | some j, some x, some i => some (.ia j.size x i)
      | _, _, _ => none
    | some (.array len e) => match P.info? e, cx x, cx i with
      | some j, some x, some i => some (.iaA len j.size x i)
      | _, _, _ => none
    | _ => none
  | .extract x i => match cx x with
    | some x => some (.ext x i)
    | none => none
  | .makeFunc (.func f) a b => match mapO cx a.toList, mapO cx b.toList with
    | some a, some b => some (.mkf f a b)
    | _, _ => none
  | .makeInterface t x => match P.underlying t, cx x with
    | some (.interface _), _ => none
    | some _, some x => some (.mki t x)
    | _, _ => none
  | .binOp op t x y _ => match cx x, cx y, P.underlying t with
    | some x', some y', some d => match op with
      | .eql => match eqT P x y d with
        | some ek => some (.eq ek false x' y')
        | none => some (.ar .eql x' y')
      | .neq => match eqT P x y d with
        | some ek => some (.eq ek true x' y')
        | none => some (.ar .neq x' y')
      | op => some (.ar op x' y')
    | _, _, _ => none
  | .unOp op _ x => match cx x with
    | some x => some (.un op x)
    | none => none
  | .convert src dst x => match P.underlying src, P.underlying dst, cx x with
    | some _, some (.int k), some x => some (.cvI k x)
    | some (.slice e), some .string, some x => match P.underlying e with
      | some (.int .u8) => some (.cvT x)
      | _ => none
    | some _, some .string, some x => some (.cvS x)
    | some _, some (.slice e), some x => match P.underlying e, P.info? e with
      | some (.int .u8), some j => if j.size = 1 then some (.cvB e x) else none
      | _, _ => none
    | _, _, _ => none
  | .makeChan t x => match P.underlying t, cx x with
    | some (.chan _ e), some x => match P.info? e with
      | some j => if j.bytes ≤ 1048576 then some (.mkC x) else none
      | none => none
    | _, _ => none
  | .call ⟨.builtin .len, ⟨[x]⟩, ⟨[t]⟩⟩ => match P.underlying t, cx x with
    | some .string, some x => some (.lenS x)
    | some (.slice _), some x => some (.len x)
    | some (.map _ _), some x => some (.lenM x)
    | some (.chan _ _), some x => some (.lenC x)
    | _, _ => none
  | .call ⟨.builtin .append, ⟨[x, y]⟩, ⟨[t, u]⟩⟩ => match P.underlying t, P.underlying u, cx x, cx y with
    | some (.slice e), some (.slice _), some x, some y => match zeroA P e with
      | some (j, _, v) => if (cellsA v).length = j.size ∧ 0 < j.size ∧ j.bytes ≤ 1048576 then some (.app e j.size x y) else none
      | none => none
    | some (.slice e), some .string, some x, some y => match zeroA P e with
      | some (j, _, v) => if (cellsA v).length = j.size ∧ 0 < j.size ∧ j.bytes ≤ 1048576 then some (.app e j.size x y) else none
      | none => none
    | _, _, _, _ => none
  | .call ⟨.builtin .clear, ⟨[x]⟩, ⟨[t]⟩⟩ => match P.underlying t, cx x with
    | some (.slice e), some x => match zeroA P e with
      | some (_, _, v) => if 0 < (cellsA v).length then some (.clr (cellsA v) x) else none
      | none => none
    | _, _ => none
  | .call ⟨.builtin .max, xs, _⟩ => match mapO cx xs.toList with
    | some xs => some (.mm true xs)
    | none => none
  | .call ⟨.builtin .min, xs, _⟩ => match mapO cx xs.toList with
    | some xs => some (.mm false xs)
    | none => none
  | .index t x i => match P.underlying t, cx x, cx i with
    | some .string, some x, some i => some (.ixS x i)
    | some (.array l elem), some x, some i => match P.underlying elem, P.info? elem with
      | some d, some j => if aggD d = false ∧ j.size = 1 then some (.ix1 l x i) else none
      | _, _ => none
    | _, _, _ => none
  | .lookup t x k ok => match P.underlying t, cx x, cx k with
    | some (.map key elem), some x, some k => match P.underlying key, zeroA P elem with
      | some .string, some (_, _, v) => some (.lk v ok x k)
      | some (.struct fs), some (_, _, v) => if skB P key fs.size then some (.lkA fs.size v ok x k) else none
      | _, _ => none
    | _, _, _ => none
  | .mapUpdate t x k v => match P.underlying t, cx x, cx k, cx v with
    | some (.map key _), some x, some k, some v => match P.underlying key with
      | some .string => some (.up x k v)
      | some (.struct fs) => if skB P key fs.size then some (.upA fs.size x k v) else none
      | _ => none
    | _, _, _, _ => none
  | .makeSlice t l c => match P.underlying t, cx l, cx c with
    | some (.slice e), some l, some c => match zeroA P e with
      | some (j, _, v) => if (cellsA v).length = j.size ∧ 0 < j.size ∧ j.bytes ≤ 1048576 then some (.mkS e j.size (cellsA v) l c) else none
      | none => none
    | _, _, _ => none
  | .slice t x lo hi mx => match P.underlying t, cx x, cxo lo, cxo hi with
    | some (.slice e), some x, some lo', some hi' => match P.info? e, cxo mx with
      | some j, some mx' => if mx.isNone || hi.isSome then some (.sl j.size x lo' hi' mx') else none
      | _, _ => none
    | some .string, some x, some lo', some hi' => match mx with
      | none => some (.slS x lo' hi')
      | some _ => none
    | _, _, _, _ => none
  | .makeMap _ none => some .mkM
  | _ => none

end Go.Proofs.YtkcpnbfhoamlfaaGreatDoor.X
