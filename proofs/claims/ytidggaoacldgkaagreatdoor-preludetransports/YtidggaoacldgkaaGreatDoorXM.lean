/- An executor for closed calls, 13: every operation is right; regions, control, calls. -/
import Derived.Test.YtidggaoacldgkaaGreatDoorXLC
namespace Go.Proofs.YtidggaoacldgkaaGreatDoor.X
open Go.RowKit
section
variable {P:Program} {w0:World} {r:Rho} {h:T AO} {nx:Pt} {w:World} {K:AV→T AO→Pt→Prop} {tm:S} {a:Act} {o:Oper}
theorem step_sound (H:WR P w0 r h nx w) (ht:TR r tm a.tmps) {op:Op} {op':AOp} (hop:o.op=op) (hc:Co P op op') (hk:stepV op' tm h nx K):Yields P w0 r h w (execOp a.eval o) K:=by
 cases hc with
 | mv hx=>exact s_mv H ht hx (.inl hop) hk
 | asg hx=>exact s_mv H ht hx (.inr hop) hk
 | pick hx hy hz=>exact s_pick H ht hx hy hz hop hk
 | new h1 h2 h3=>exact s_new H h1 h2 h3 hop hk
 | box hx=>exact s_box H ht hx hop hk
 | build h1 h2 h3 h4 h5 h6=>exact s_build H ht h1 h2 h3 h4 h5 h6 hop hk
 | buildA h1 h2 h3 h4 h5 h6=>exact s_buildA H ht h1 h2 h3 h4 h5 h6 hop hk
 | buildS h1 h2 h3 h4 h5 h6 h7 h8 h9=>exact s_buildS H ht h1 h2 h3 h4 h5 h6 h7 h9 hop hk
 | buildE h1 h2=>exact s_buildE H h1 h2 hop hk
 | ld1 h1 h2 hx=>exact s_ld1 H ht h1 h2 hx hop hk
 | ldN h1 h2 h3 hx=>exact s_ldN H ht h1 h2 h3 hx hop hk
 | st h1 hx hy=>exact s_st H ht h1 hx hy hop hk
 | nchk hx=>exact s_nchk H ht hx hop hk
 | fa h1 h2 h3 h4 hx=>exact s_fa H ht h1 h2 h3 h4 hx hop hk
 | fld h1 h2 h3 h4 h5 hx=>exact s_fld H ht h1 h2 h3 h4 h5 hx hop hk
 | fld1 h1 h2 h3 h4 hx=>exact s_fld1 H ht h1 h2 h3 h4 hx hop hk
 | ia h1 h2 hx hi=>exact s_ia H ht h1 h2 hx hi hop hk
 | iaA h1 h2 hx hi=>exact s_iaA H ht h1 h2 hx hi hop hk
 | ext hx=>exact s_ext H ht hx hop hk
 | mkf hx hy=>exact s_mkf H ht hx hy hop hk
 | mki h1 h2 hx=>exact s_mki H ht h1 h2 hx hop hk
 | ar hx hy=>exact s_ar H ht hx hy hop hk
 | eq h1 h2 h3 hx hy=>exact s_eq H ht h1 h2 h3 hx hy hop hk
 | un hx=>exact s_un H ht hx hop hk
 | cvI h1 h2 hx=>exact s_cvI H ht h1 h2 hx hop hk
 | cvS h1 h2 hx=>exact s_cvS H ht h1 h2 hx hop hk
 | lenS h1 hx=>exact s_lenS H ht h1 hx hop hk
 | len h1 hx=>exact s_len H ht h1 hx hop hk
 | lenM h1 hx=>exact s_lenM H ht h1 hx hop hk
 | ixS h1 hx hi=>exact s_ixS H ht h1 hx hi hop hk
 | cvB h1 h2 h3 h4 h5 hx=>exact s_cvB H ht h1 h2 h3 h4 h5 hx hop hk
 | cvT h1 h2 h3 hx=>exact s_cvT H ht h1 h2 h3 hx hop hk
 | clr h1 h2 h3 h4 h5 hx=>exact s_clr H ht h1 h2 h3 h4 h5 hx hop hk
 | ix1 h1 h2 h3 h4 h5 hx hi=>exact s_ix1 H ht h1 h2 h3 h4 h5 hx hi hop hk
 | lk h1 h2 h3 h4 h5 hx hi=>exact s_lk H ht h1 h2 h3 h4 h5 hx hi hop hk
 | up h1 h2 hx hi hv=>exact s_up H ht h1 h2 hx hi hv (.inl hop) hk
 | ins h1 h2 hx hi hv=>exact s_up H ht h1 h2 hx hi hv (.inr hop) hk
 | lkA h1 h2 h3 h4 h5 hx hi=>exact s_lkA H ht h1 h2 h3 h4 h5 hx hi hop hk
 | upA h1 h2 hx hi hv=>exact s_upA H ht h1 h2 hx hi hv hop hk
 | mkS h1 h2 h3 h4 h5 h6 h7 hx hy=>exact s_mkS H ht h1 h2 h3 h4 h5 h6 h7 hx hy hop hk
 | sl h1 h2 hx h3 h4 h5 h6=>exact s_sl H ht h1 h2 hx h3 h4 h5 h6 hop hk
 | slS h1 hx h3 h4=>exact s_slS H ht h1 hx h3 h4 hop hk
 | app h1 h2 h3 h4 h5 h6 h7 h8 hx hy=>exact s_app H ht h1 h2 h3 h4 h5 h6 h8 hx hy hop hk
 | max hx=>exact s_mm (mx:=true) H ht hx hop hk
 | min hx=>exact s_mm (mx:=false) H ht hx hop hk
 | lenC h1 hx=>exact s_lenC H ht h1 hx hop hk
 | mkC h1 h2 h3 hx=>exact s_mkC H ht h1 h2 h3 hx hop hk
 | mkM=>exact s_mkM H hop hk
 | rng h1 hx=>exact s_rng H ht h1 hx hop hk
 | nxt hx=>exact s_nxt H ht hx hop hk
 | eqA h1 h2 hx hy=>exact s_eqA H ht h1 h2 hx hy hop hk
 | ta h1 hx=>exact s_ta H ht h1 hx hop hk
end
inductive AK where
 | v (o:AOp)
 | call (f:Pt) (args:List AX)
 | callv (x:AX) (args:List AX)
 | snd (x v:AX)
 | sel (x:AX) (z:AV)
 | sls (x v:AX)
 | pan (x:AX)
structure AOper where
 dst:Option Sl
 op:AK
 guard:Option (Sl × Bool)
structure Fl where
 i:Nat
 n:Pt
 ob:AO
inductive It where
 | n (i:Nat) (ab:List Nat) (p:Sl) (x:AOper)
 | a (i:Nat) (p:Sl) (op:AOp)
 | e (i:Nat) (ab:List Nat) (rc:List (Sl × AOper)) (x:AOper)
inductive AC where
 | skip
 | ops (l:List AOper)
 | comm (l:List AOper)
 | draw (l:List It)
 | draw2 (l:List It) (pq:Sl) (nq:Nat) (xq iq:AX) (n1:Nat) (x1:AX) (p2:Sl) (n2:Nat) (x2:AX)
 | seq (a b:AC)
 | cond (c:AX) (a b:AC)
 | block (id:Nat) (b:AC)
 | loop (b:AC)
 | exit (id:Nat)
 | ret
 | no
 | label (l:Nat)
 | goto (l:Nat)
 | scope0 (b:AC)
 | scope (l:Nat) (r b:AC)
 | range (g:AX) (ps:List Sl) (a b:AC)
inductive AR where
 | t (p:Sl)
 | c1 (p:Sl)
 | cN (p:Sl) (n:Nat)
abbrev EK4:=AE→S→T AO→Pt→Prop
abbrev RS:=List AV→T AO→Pt→(AV→T AO→Pt→Prop)→Prop
abbrev CF:=T RS→Pt→List AV→T AO→Pt→(AV→T AO→Pt→Prop)→(AV→T AO→Pt→Prop)→Prop
structure CH where
 call:CF
 cur:Option Pt
 loops:T RS
 pan:S→AV→T AO→Pt→Prop
def CH.go (ch:CH) (tm:S) (p:Pt) (args:List AV) (h:T AO) (nx:Pt) (K:AV→T AO→Pt→Prop):Prop:=ch.call ch.loops p args h nx K (ch.pan tm)
def noP:AV→T AO→Pt→Prop:=fun _ _ _=>False
def CH.calm (ch:CH):CH:=⟨ch.call,ch.cur,ch.loops,fun _=>noP⟩
abbrev D:=CH→S→T AO→Pt→EK4→Prop
abbrev DO:=CH→S→T AO→Pt→(S→T AO→Pt→Prop)→Prop
abbrev VO:=S→T AO→Pt→(AV→T AO→Pt→Prop)→Prop
structure AF where
 code:D
 res:List AR
abbrev RSs:=S→T AO→(List AV→Prop)→Prop
def rsN (_:S) (_:T AO) (c:List AV→Prop):Prop:=c []
def rsT (p:Sl) (ih:RSs) (tm:S) (h:T AO) (c:List AV→Prop):Prop:=tm.getK p fun v=>ih tm h fun vs=>c (v :: vs)
def rs1 (p:Sl) (ih:RSs) (tm:S) (h:T AO) (c:List AV→Prop):Prop:=tm.getK p fun v=>match v with
    | .ptr k o=>h.getK k fun b=>match b with
     | .cells us _=>match us[o]? with
      | some u=>ih tm h fun vs=>c (u :: vs)
      | none=>False
     | _=>False
    | _=>False
def rsM (p:Sl) (n:Nat) (ih:RSs) (tm:S) (h:T AO) (c:List AV→Prop):Prop:=tm.getK p fun v=>match v with
    | .ptr k o=>h.getK k fun b=>match b with
     | .cells us _=>Bool.rec (motive:=fun _=>Prop) False (forceL ((us.drop o).take n) fun us=>ih tm h fun vs=>c (.agg us :: vs)) (Nat.ble (o+n) us.length)
     | _=>False
    | _=>False
def rsC (x:AR) (_:List AR) (ih:RSs) (tm:S) (h:T AO) (c:List AV→Prop):Prop:=AR.rec (motive:=fun _=>RSs→S→T AO→(List AV→Prop)→Prop) rsT rs1 rsM x ih tm h c
def resK (tm:S) (h:T AO) (l:List AR) (c:List AV→Prop):Prop:=List.rec (motive:=fun _=>RSs) rsN rsC l tm h c
abbrev ARs:=List Sl→S→(S→Prop)→Prop
def agN (_:List Sl) (tm:S) (c:S→Prop):Prop:=c tm
def agF (_:AV) (_:ARs) (_:S) (_:S→Prop):Prop:=False
def agS (p:Sl) (ps:List Sl) (_:AV→ARs→S→(S→Prop)→Prop) (v:AV) (ih:ARs) (tm:S) (c:S→Prop):Prop:=p.wr v tm fun tm=>ih ps tm c
def agC (v:AV) (_:List AV) (ih:ARs) (ps:List Sl) (tm:S) (c:S→Prop):Prop:=List.rec (motive:=fun _=>AV→ARs→S→(S→Prop)→Prop) agF agS ps v ih tm c
def argsK (l:List AV) (ps:List Sl) (tm:S) (c:S→Prop):Prop:=List.rec (motive:=fun _=>ARs) agN agC l ps tm c
def oneV:List AV→AV
 | [v]=>v
 | vs=>.tup vs
def retK (res:List AR) (K:AV→T AO→Pt→Prop) (e:AE) (tm:S) (h:T AO) (nx:Pt):Prop :=
 match e with
 | .exit _=>False
 | .goto _=>False
 | _=>resK tm h res fun vs=>K (oneV vs) h nx
def callP (funs:T AF) (n:Nat):CF :=
 Nat.rec (motive:=fun _=>CF) (fun _ _ _ _ _ _ _=>False)
  (fun _ ih loops f args h nx K Kp=>funs.getK f fun af=>argsK args slTab .l fun tm=>af.code ⟨ih,none,loops,fun _=>Kp⟩ tm h nx (retK af.res K)) n
def callN (funs:T AF) (n:Nat) (loops:T RS) (f:Pt) (args:List AV) (h:T AO) (nx:Pt) (K:AV→T AO→Pt→Prop):Prop:=callP funs n loops f args h nx K noP
def Pt.ofB:Nat→Nat→Pt
 | 0,_=>.e
 | f+1,k=>match k with
  | 0=>.e
  | k+1=>bif Nat.beq (k % 2) 0 then .z (Pt.ofB f (k / 2)) else .o (Pt.ofB f (k / 2))
def fnK (y:AV) (args:List AV) (c:Pt→List AV→Prop):Prop :=
 match y with
 | .fn (.func f) first caps=>forceP (Pt.ofB 20 f) fun p=>Bool.rec (motive:=fun _=>Prop) False (forceL (first ++ args ++ caps) fun args=>c p args) (Nat.beq p.toNat f)
 | _=>False
def cvK (ch:CH) (tm:S) (y:AV) (args:List AV) (h:T AO) (nx:Pt) (c:AV→T AO→Pt→Prop):Prop :=
 match y with
 | .yld k=>ch.loops.getK k fun rs=>rs args h nx c
 | y=>fnK y args fun p args=>ch.go tm p args h nx c
def putD (d:Option Sl) (v:AV) (tm:S) (K:S→Prop):Prop :=
 match d with
 | none=>K tm
 | some p=>tm.setK v p K
def wantK (g:Sl) (want:Bool) (tm:S) (yes no:Prop):Prop :=
 tm.getK g fun v=>match v with
  | .bool b=>Bool.rec (motive:=fun _=>Prop) no yes (b == want)
  | _=>no
def dE:DO:=fun _ tm h nx K=>K tm h nx
def dV (p:Sl) (f:VO) (rest:DO):DO:=fun ch tm h nx K=>f tm h nx fun v h nx=>tm.setK v p fun tm=>rest ch tm h nx K
def dU (f:VO) (rest:DO):DO:=fun ch tm h nx K=>f tm h nx fun _ h nx=>rest ch tm h nx K
def dC (d:Option Sl) (f:Pt) (xs:List AX) (rest:DO):DO:=fun ch tm h nx K=>evsK tm xs fun args=>ch.go tm f args h nx fun v h nx=>putD d v tm fun tm=>rest ch tm h nx K
def dCv (d:Option Sl) (x:AX) (xs:List AX) (rest:DO):DO:=fun ch tm h nx K=>evK tm x fun y=>evsK tm xs fun args=>cvK ch tm y args h nx fun v h nx=>putD d v tm fun tm=>rest ch tm h nx K
def dG (g:Sl) (want:Bool) (d:Option Sl) (x:DO→DO) (rest:DO):DO:=fun ch tm h nx K =>
 wantK g want tm (x rest ch tm h nx K) (putD d (.tup []) tm fun tm=>rest ch tm h nx K)
def denV (o:AOp):VO:=stepV o
def sndK (x v:AX) (tm:S) (h:T AO) (nx:Pt) (c:AV→T AO→Pt→Prop):Prop :=
 evK tm x fun a=>evK tm v fun u=>match a with
  | .chan k=>h.getK k fun b=>match b with
   | .chan cap buf=>Bool.rec (motive:=fun _=>Prop) False (forceL (buf ++ [u]) fun buf=>h.setK (.chan cap buf) k fun h=>c (.tup []) h nx) (Nat.blt buf.length cap)
   | _=>False
  | _=>False
def selK (x:AX) (z:AV) (tm:S) (h:T AO) (nx:Pt) (c:AV→T AO→Pt→Prop):Prop :=
 evK tm x fun a=>match a with
  | .chan k=>h.getK k fun b=>match b with
   | .chan cap buf=>match buf with
    | []=>c (.tup [.int .i64 (.negSucc 0),.bool false,z]) h nx
    | u :: buf=>h.setK (.chan cap buf) k fun h=>c (.tup [.int .i64 (.ofNat 0),.bool true,u]) h nx
   | _=>False
  | _=>False
def slsK (x v:AX) (tm:S) (h:T AO) (nx:Pt) (c:AV→T AO→Pt→Prop):Prop :=
 evK tm x fun a=>evK tm v fun u=>match a with
  | .chan k=>h.getK k fun b=>match b with
   | .chan cap buf=>Bool.rec (motive:=fun _=>Prop) (c (.tup [.int .i64 (.negSucc 0),.bool false]) h nx) (forceL (buf ++ [u]) fun buf=>h.setK (.chan cap buf) k fun h=>c (.tup [.int .i64 (.ofNat 0),.bool false]) h nx) (Nat.blt buf.length cap)
   | _=>False
  | _=>False
def dSnd (d:Option Sl) (x v:AX) (rest:DO):DO:=fun ch tm h nx K=>sndK x v tm h nx fun u h nx=>putD d u tm fun tm=>rest ch tm h nx K
def dSls (d:Option Sl) (x v:AX) (rest:DO):DO:=fun ch tm h nx K=>slsK x v tm h nx fun u h nx=>putD d u tm fun tm=>rest ch tm h nx K
def dSel (d:Option Sl) (x:AX) (z:AV) (rest:DO):DO:=fun ch tm h nx K=>selK x z tm h nx fun u h nx=>putD d u tm fun tm=>rest ch tm h nx K
def panK (ch:CH) (x:AX) (tm:S) (h:T AO) (nx:Pt):Prop :=
 evK tm x fun v=>match v with
  | .iface t u=>ch.pan tm (.iface t u) h nx
  | _=>False
def dPan (x:AX) (_:DO):DO:=fun ch tm h nx _=>panK ch x tm h nx
def commK:AK→Bool
 | .snd _ _=>true
 | .sel _ _=>true
 | .sls _ _=>true
 | _=>false
def plainK:AK→Bool
 | .call _ _=>false
 | .callv _ _=>false
 | .pan _=>false
 | _=>true
def anyC:List AOper→Bool
 | []=>false
 | x :: l=>commK x.op||anyC l
def allP:List AOper→Bool
 | []=>true
 | x :: l=>plainK x.op&&allP l
def denK (d:Option Sl) (k:AK) (rest:DO):DO :=
 match k,d with
 | .v o,some p=>dV p (denV o) rest
 | .v o,none=>dU (denV o) rest
 | .call f xs,d=>dC d f xs rest
 | .callv x xs,d=>dCv d x xs rest
 | .snd x v,d=>dSnd d x v rest
 | .sel x z,d=>dSel d x z rest
 | .sls x v,d=>dSls d x v rest
 | .pan x,_=>dPan x rest
def denO (x:AOper) (rest:DO):DO :=
 match x.guard with
 | none=>denK x.dst x.op rest
 | some (g,b)=>dG g b x.dst (denK x.dst x.op) rest
def denL:List AOper→DO
 | []=>dE
 | x :: l=>denO x (denL l)
def dSkip:D:=fun _ tm h nx K=>K .nrm tm h nx
def dOps (x:DO):D:=fun ch tm h nx K=>x ch tm h nx (K .nrm)
def seqK (b:D) (ch:CH) (K:EK4) (e:AE) (tm:S) (h:T AO) (nx:Pt):Prop :=
 match e with
 | .nrm=>b ch tm h nx K
 | e=>K e tm h nx
def dSeq (a b:D):D:=fun ch tm h nx K=>a ch tm h nx (seqK b ch K)
def dCond (c:AX) (a b:D):D:=fun ch tm h nx K=>evK tm c fun v=>match v with
 | .bool x=>Bool.rec (motive:=fun _=>Prop) (b ch tm h nx K) (a ch tm h nx K) x
 | _=>False
def blockK (id:Nat) (K:EK4) (e:AE) (tm:S) (h:T AO) (nx:Pt):Prop :=
 match e with
 | .exit i=>Bool.rec (motive:=fun _=>Prop) (K (.exit i) tm h nx) (K .nrm tm h nx) (Nat.beq i id)
 | e=>K e tm h nx
def dBlock (id:Nat) (b:D):D:=fun ch tm h nx K=>b ch tm h nx (blockK id K)
def loopN (b:D) (ch:CH) (n:Nat):S→T AO→Pt→EK4→Prop :=
 Nat.rec (motive:=fun _=>S→T AO→Pt→EK4→Prop) (fun _ _ _ _=>False)
  (fun _ ih tm h nx K=>b ch tm h nx fun e tm h nx=>match e with
   | .nrm=>ih tm h nx K
   | e=>K e tm h nx) n
def dLoop (b:D):D:=fun ch=>loopN b ch 1000000
def dExit (id:Nat):D:=fun _ tm h nx K=>K (.exit id) tm h nx
def dNo:D:=fun _ _ _ _ _=>False
def dRet:D:=fun _ tm h nx K=>K .ret tm h nx
def dGoto (l:Nat):D:=fun _ tm h nx K=>K (.goto l) tm h nx
def inK (K:EK4) (e:AE) (tm:S) (h:T AO) (nx:Pt):Prop :=
 match e with
 | .goto _=>False
 | e=>K e tm h nx
def scopeK (l:Nat) (r:D) (ch:CH) (K:EK4) (e:AE) (tm:S) (h:T AO) (nx:Pt):Prop :=
 match e with
 | .goto i=>Bool.rec (motive:=fun _=>Prop) False (r ch tm h nx (inK K)) (Nat.beq i l)
 | e=>K e tm h nx
def dScope0 (b:D):D:=fun ch tm h nx K=>b ch tm h nx (inK K)
def dScope (l:Nat) (r b:D):D:=fun ch tm h nx K=>b ch tm h nx (scopeK l r ch K)
def parK:List Sl→List AV→S→(S→Prop)→Prop :=
 fun l=>List.rec (motive:=fun _=>List AV→S→(S→Prop)→Prop) (fun vs tm c=>match vs with | []=>c tm | _=>False)
  (fun p _ ih vs tm c=>match vs with | []=>False | v :: vs=>tm.setK v p fun tm=>ih vs tm c) l
def turnK (k:Pt) (st st':LoopState) (pe:Option AE) (h:T AO) (c:T AO→Prop):Prop :=
 h.getK k fun o=>match o with
  | .loop s none=>Bool.rec (motive:=fun _=>Prop) False (h.setK (.loop st' pe) k c) (match s,st with | .ready,.ready=>true | .busy,.busy=>true | _,_=>false)
  | _=>False
def endK (k:Pt) (c:AV→T AO→Pt→Prop) (e:AE) (_:S) (h:T AO) (nx:Pt):Prop :=
 match e with
 | .nrm=>turnK k .busy .ready none h fun h=>c (.bool true) h nx
 | .ret=>turnK k .busy .done (some .ret) h fun h=>c (.bool false) h nx
 | .exit id=>turnK k .busy .done (some (.exit id)) h fun h=>c (.bool false) h nx
 | .goto _=>False
def curK (c:Option Pt) (h:T AO) (k:Prop):Prop :=
 match c with
 | none=>k
 | some p=>h.getK p fun o=>match o with
  | .loop _ _=>k
  | _=>False
def roundK (k:Pt) (ps:List Sl) (a b:D) (ch:CH) (tm:S):RS:=fun args h nx c =>
 curK (some k) h (parK ps args tm fun tm=>a ⟨ch.call,some k,ch.loops,fun _=>noP⟩ tm h nx fun e tm h nx=>match e with
  | .nrm=>turnK k .ready .busy none h fun h=>b ⟨ch.call,some k,ch.loops,fun _=>noP⟩ tm h nx (endK k c)
  | _=>False)
def behindK (k:Pt) (tm:S) (K:EK4) (h:T AO) (nx:Pt):Prop :=
 h.getK k fun o=>match o with
  | .loop .ready none=>h.setK (.loop .exhausted none) k fun h=>K .nrm tm h nx
  | .loop .done (some .ret)=>h.setK (.loop .exhausted (some .ret)) k fun h=>K .ret tm h nx
  | .loop .done (some (.exit id))=>h.setK (.loop .exhausted (some (.exit id))) k fun h=>K (.exit id) tm h nx
  | _=>False
def dRange (g:AX) (ps:List Sl) (a b:D):D:=fun ch tm h nx K=>evK tm g fun gv=>curK ch.cur h (h.setK (.loop .ready none) nx fun h=>succK nx fun nx' =>
 ch.loops.setK (roundK nx ps a b ch tm) nx fun loops=>fnK gv [.yld nx] fun p args=>ch.call loops p args h nx' (fun _ h nx''=>behindK nx tm K h nx'') noP)
def opX:AOp→List AX
 | .mv x=>[x]
 | .pick c a b=>[c,a,b]
 | .new _ _=>[]
 | .box _ x=>[x]
 | .build _ ps=>ps.map (·.2.2)
 | .buildS _ _ _ ps=>ps.map (·.2.2)
 | .ld1 x=>[x]
 | .ldN _ x=>[x]
 | .st _ a x=>[a,x]
 | .nchk x=>[x]
 | .fa _ x=>[x]
 | .fld _ _ x=>[x]
 | .fld1 _ x=>[x]
 | .ia _ x i=>[x,i]
 | .iaA _ _ x i=>[x,i]
 | .ext x _=>[x]
 | .mkf _ a b=>a ++ b
 | .mki _ x=>[x]
 | .ar _ x y=>[x,y]
 | .eq _ _ x y=>[x,y]
 | .un _ x=>[x]
 | .cvI _ x=>[x]
 | .cvS x=>[x]
 | .lenS x=>[x]
 | .len x=>[x]
 | .lenM x=>[x]
 | .lenC x=>[x]
 | .mkC x=>[x]
 | .ixS x i=>[x,i]
 | .cvB _ x=>[x]
 | .cvT x=>[x]
 | .clr _ x=>[x]
 | .ix1 _ x i=>[x,i]
 | .lk _ _ x k=>[k,x]
 | .up x k v=>[k,x,v]
 | .lkA _ _ _ x k=>[k,x]
 | .upA _ x k v=>[k,x,v]
 | .mkS _ _ _ l c=>[l,c]
 | .sl _ x a b c=>x :: (a.toList ++ b.toList ++ c.toList)
 | .slS x a b=>x :: (a.toList ++ b.toList)
 | .app _ _ x y=>[x,y]
 | .mm _ xs=>xs
 | .mkM=>[]
 | .rng x=>[x]
 | .nxt x=>[x]
 | .eqA _ _ x y=>[x,y]
 | .ta _ x=>[x]
def quietB:AOp→Bool
 | .new _ _ | .box _ _ | .buildS _ _ _ _ | .st _ _ _ | .mkS _ _ _ _ _ | .app _ _ _ _ | .up _ _ _ | .upA _ _ _ _ | .cvB _ _ | .clr _ _ | .mkC _ | .mkM | .rng _ | .nxt _=>false
 | _=>true
def floatK (op:AOp) (tm:S) (n:Pt) (c:AV→AO→Prop):Prop :=
 match op with
 | .new vs e=>c (.ptr n 0) (.cells vs e)
 | .box e x=>evK tm x fun v=>c (.ptr n 0) (.cells (cellsA v) e)
 | .buildS e k z ps=>fillK tm ps z fun vs=>forceL vs fun vs=>c (.sl n 0 k k false) (.cells vs e)
 | .mkM=>c (.map n) (.map [] 0)
 | .cvB e x=>evK tm x fun v=>match v with
  | .str s=>forceL (s.map fun b=>AV.int .u8 (.ofNat b)) fun us=>forceN s.length fun m=>c (.sl n 0 m m true) (.frz us e)
  | _=>False
 | .mkS e k z l m=>evK tm l fun l=>evK tm m fun m=>match l,m with
  | .int _ (.ofNat l),.int _ (.ofNat m)=>Bool.rec (motive:=fun _=>Prop) False (forceL (zerosL z m) fun vs=>c (.sl n 0 l m false) (.cells vs e)) (Nat.ble l m&&Nat.ble (k*m) 16777216)
  | _,_=>False
 | _=>False
def eK0 (k:AK) (ch:CH) (tm:S) (h:T AO) (nx:Pt) (c:AV→T AO→Pt→Prop):Prop :=
 match k with
 | .v o=>stepV o tm h nx c
 | .call f xs=>evsK tm xs fun args=>ch.go tm f args h nx c
 | .callv x xs=>evK tm x fun y=>evsK tm xs fun args=>cvK ch tm y args h nx c
 | .snd _ _=>False
 | .sel _ _=>False
 | .sls _ _=>False
 | .pan x=>panK ch x tm h nx
def eK (x:AOper) (ch:CH) (tm:S) (h:T AO) (nx:Pt) (c:AV→T AO→Pt→Prop):Prop :=
 match x.guard with
 | none=>eK0 x.op ch tm h nx c
 | some (g,b)=>wantK g b tm (eK0 x.op ch tm h nx c) (c (.tup []) h nx)
def It.i:It→Nat
 | .n i _ _ _=>i
 | .a i _ _=>i
 | .e i _ _ _=>i
def It.dst:It→Option Sl
 | .n _ _ p _=>some p
 | .a _ p _=>some p
 | .e _ _ _ x=>x.dst
def It.isE:It→Bool
 | .e _ _ _ _=>true
 | _=>false
def axP:AX→List Sl
 | .t p=>[p]
 | .c _=>[]
def kX:AK→List AX
 | .v o=>opX o
 | .call _ xs=>xs
 | .callv x xs=>x :: xs
 | .snd x v=>[x,v]
 | .sel x _=>[x]
 | .sls x v=>[x,v]
 | .pan x=>[x]
def rdX (x:AOper):List Sl:=(match x.guard with | some (g,_)=>[g] | none=>[]) ++ (kX x.op).flatMap axP
def It.rd:It→List Sl
 | .n _ _ _ x=>rdX x
 | .a _ _ op=>(opX op).flatMap axP
 | .e _ _ _ x=>rdX x
def nK (x:AOper) (tm:S) (h:T AO) (nx:Pt) (c:AV→Prop):Prop :=
 match x.op with
 | .v o=>match x.guard with
  | none=>stepV o tm h nx fun v _ _=>c v
  | some (g,b)=>wantK g b tm (stepV o tm h nx fun v _ _=>c v) (c (.tup []))
 | _=>False
def quietX (x:AOper):Bool:=match x.op with | .v o=>quietB o | _=>false
mutual
def eqV:AV→AV→Bool
 | .bool a,.bool b=>a == b
 | .int k a,.int k' b=>decide (k=k')&&eqI a b
 | .str a,.str b=>eqN a b
 | .nilp,.nilp=>true
 | .ptr k o,.ptr k' o'=>eqP k k'&&Nat.beq o o'
 | .nils,.nils=>true
 | .sl k o l c op,.sl k' o' l' c' op'=>eqP k k'&&Nat.beq o o'&&Nat.beq l l'&&Nat.beq c c'&&(op == op')
 | .nilm,.nilm=>true
 | .map k,.map k'=>eqP k k'
 | .fn (.func f) a b,.fn (.func g) a' b'=>Nat.beq f g&&eqVs a a'&&eqVs b b'
 | .nilf,.nilf=>true
 | .yld k,.yld k'=>eqP k k'
 | .chan k,.chan k'=>eqP k k'
 | .nilc,.nilc=>true
 | .iface t v,.iface t' v'=>Nat.beq t t'&&eqV v v'
 | .nili,.nili=>true
 | .agg a,.agg b=>eqVs a b
 | .tup a,.tup b=>eqVs a b
 | _,_=>false
def eqVs:List AV→List AV→Bool
 | [],[]=>true
 | a :: l,b :: m=>eqV a b&&eqVs l m
 | _,_=>false
end
def absK (pr:Nat→Bool):List Fl→T AO→List Fl→(List Fl→T AO→Prop)→Prop :=
 fun l=>List.rec (motive:=fun _=>T AO→List Fl→(List Fl→T AO→Prop)→Prop) (fun h acc c=>c acc h)
  (fun f _ ih h acc c=>Bool.rec (motive:=fun _=>Prop) (ih h (f :: acc) c) (h.setK f.ob f.n fun h=>ih h acc c) (pr f.i)) l
def rcK (rc:List (Sl × AOper)) (tm:S) (h:T AO) (nx:Pt) (k:Prop):Prop :=
 List.rec (motive:=fun _=>Prop) k (fun q _ ih=>nK q.2 tm h nx fun v=>tm.getK q.1 fun u=>Bool.rec (motive:=fun _=>Prop) False ih (eqV v u)) rc
def inB:List Nat→Nat→Bool
 | [],_=>false
 | j :: l,i=>Nat.beq i j||inB l i
abbrev DS:=List Fl→CH→S→T AO→Pt→(S→T AO→Pt→Prop)→Prop
def sEnd:DS:=fun F _ tm h nx K=>absK (fun _=>true) F h [] fun _ h=>K tm h nx
def sN (ab:List Nat) (p:Sl) (x:AOper) (rest:DS):DS:=fun F ch tm h nx K=>match ab with
 | []=>nK x tm h nx fun v=>tm.setK v p fun tm=>rest F ch tm h nx K
 | j :: ab=>absK (inB (j :: ab)) F h [] fun _ h'=>nK x tm h' nx fun v=>tm.setK v p fun tm=>rest F ch tm h nx K
def sA (i:Nat) (p:Sl) (op:AOp) (rest:DS):DS:=fun F ch tm h nx K=>floatK op tm nx fun v ob=>tm.setK v p fun tm=>succK nx fun nx'=>rest (⟨i,nx,ob⟩ :: F) ch tm h nx' K
def sE (ab:List Nat) (rc:List (Sl × AOper)) (x:AOper) (rest:DS):DS:=fun F ch tm h nx K =>
 absK (inB ab) F h [] fun F h=>eK x ch tm h nx fun v h nx=>rcK rc tm h nx (putD x.dst v tm fun tm=>rest F ch tm h nx K)
def denS:List It→DS
 | []=>sEnd
 | .n _ ab p x :: l=>sN ab p x (denS l)
 | .a i p op :: l=>sA i p op (denS l)
 | .e _ ab rc x :: l=>sE ab rc x (denS l)
def tailK (pq:Sl) (nq:Nat) (xq iq:AX) (n1:Nat) (x1:AX) (p2:Sl) (n2:Nat) (x2:AX) (tm:S) (h:T AO) (nx:Pt) (K:S→T AO→Pt→Prop):Prop :=
 oIa nq xq iq tm h nx fun v _ _=>tm.setK v pq fun tm=>match v with
  | .ptr k1 _=>tm.getK p2 fun v2=>match v2 with
   | .ptr k2 _=>Bool.rec (motive:=fun _=>Prop) (oSt n1 (.t pq) x1 tm h nx fun _ h nx=>oSt n2 (.t p2) x2 tm h nx fun _ h nx=>K tm h nx) False (eqP k1 k2)
   | _=>False
  | _=>False
def dDraw2 (s:DS) (pq:Sl) (nq:Nat) (xq iq:AX) (n1:Nat) (x1:AX) (p2:Sl) (n2:Nat) (x2:AX):D:=fun ch tm h nx K=>s [] ch.calm tm h nx fun tm h nx=>tailK pq nq xq iq n1 x1 p2 n2 x2 tm h nx (K .nrm)
def dDraw (s:DS):D:=fun ch tm h nx K=>s [] ch.calm tm h nx (K .nrm)
def den:AC→D
 | .skip=>dSkip
 | .ops l=>dOps (denL l)
 | .comm l=>dOps (denL l)
 | .draw l=>dDraw (denS l)
 | .draw2 l pq nq xq iq n1 x1 p2 n2 x2=>dDraw2 (denS l) pq nq xq iq n1 x1 p2 n2 x2
 | .seq a b=>dSeq (den a) (den b)
 | .cond c a b=>dCond c (den a) (den b)
 | .block id b=>dBlock id (den b)
 | .loop b=>dLoop (den b)
 | .exit id=>dExit id
 | .ret=>dRet
 | .no=>dNo
 | .label _=>dSkip
 | .goto l=>dGoto l
 | .scope0 b=>dScope0 (den b)
 | .scope l r b=>dScope l (den r) (den b)
 | .range g ps a b=>dRange g ps (den a) (den b)
end Go.Proofs.YtidggaoacldgkaaGreatDoor.X
