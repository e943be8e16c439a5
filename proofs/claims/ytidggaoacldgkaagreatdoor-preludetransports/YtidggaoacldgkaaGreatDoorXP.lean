/- An executor for closed calls, 16: code and functions made out of the program's; what they come to is what the program comes to. -/
import Derived.Test.YtidggaoacldgkaaGreatDoorXCA
import Derived.Test.YtidggaoacldgkaaGreatDoorXGW
namespace Go.Proofs.YtidggaoacldgkaaGreatDoor.X
open Go.RowKit
def compPs (m:Nat) (l:List Nat):Option (List Sl):=mapO (fun t=>if t<m then some (Sl.ofNat t) else none) l
def eqX:AX→AX→Bool
 | .t p,.t q=>eqS p q
 | _,_=>false
def plan2 (P:Program) (m:Nat) (ops:Array Oper):Option AC :=
 match ops[ops.size - 3]?,ops[ops.size - 3+1]?,ops[ops.size - 3+2]? with
 | some q,some s1,some s2=>match compOper P m ops q,compOper P m ops s1,compOper P m ops s2 with
  | some ⟨some pq,.v (.ia nq xq iq),none⟩,some ⟨none,.v (.st n1 a1 x1),none⟩,some ⟨none,.v (.st n2 (.t p2) x2),none⟩ =>
   match tailB ops (ops.size - 3)&&eqX a1 (.t pq)&&!(eqS p2 pq)&&!(eqX x2 (.t pq)) with
   | true=>match plan P m (ops1 ops (ops.size - 3)) with
    | some l=>some (.draw2 l pq nq xq iq n1 x1 p2 n2 x2)
    | none=>none
   | false=>none
  | _,_,_=>none
 | _,_,_=>none
def firstL:AC→Option Nat
 | .seq a b=>match firstL a with
  | some l=>some l
  | none=>firstL b
 | .label l=>some l
 | _=>none
def behindL:AC→Nat→Option AC
 | .seq a b,l=>match behindL a l with
  | some r=>some (.seq r b)
  | none=>behindL b l
 | .label i,l=>if i == l then some .skip else none
 | _,_=>none
def scopeA (b:AC):AC:=match firstL b with
 | some l=>match behindL b l with
  | some r=>.scope l r b
  | none=>.scope0 b
 | none=>.scope0 b
def compC (P:Program) (m:Nat):Code→Option AC
 | .skip=>some .skip
 | .region _ ops false=>match mapO (compOper P m ops) ops.toList with
  | some l=>bif anyC l then (bif allP l then some (.comm l) else none) else some (.ops l)
  | none=>none
 | .region _ ops true=>match plan P m ops with
  | some l=>some (.draw l)
  | none=>plan2 P m ops
 | .seq a b=>match compC P m a,compC P m b with
  | some a,some b=>some (.seq a b)
  | _,_=>none
 | .cond c a b=>match cx c,compC P m a,compC P m b with
  | some c,some a,some b=>some (.cond c a b)
  | _,_,_=>none
 | .block id b=>match compC P m b with
  | some b=>some (.block id b)
  | none=>none
 | .loop b=>match compC P m b with
  | some b=>some (.loop b)
  | none=>none
 | .exit id=>some (.exit id)
 | .ret=>some .ret
 | .scope b=>match compC P m b with
  | some b=>some (scopeA b)
  | none=>none
 | .label l=>some (.label l)
 | .goto l=>some (.goto l)
 | .rangeFunc g ps a b=>match cx g,compPs m ps.toList,compC P m a,compC P m b with
  | some g,some ps,some a,some b=>some (.range g ps a b)
  | _,_,_,_=>none
 | _=>none
def compR (P:Program):ResultVar→Option AR
 | .tmp t=>some (.t (Sl.ofNat t))
 | .cell a t=>match P.underlying t,P.info? t with
  | some d,some i=>if aggD d=true then some (.cN (Sl.ofNat a) i.size) else some (.c1 (Sl.ofNat a))
  | _,_=>none
def FunOk (P:Program) (f:Nat) (af:AF):Prop:=∃ fn c,P.funcs[f]?=some fn∧(fn.name == "runtime.NumGoroutine")=false∧fn.body=some c∧(∃ ac,compC P fn.ntmps c=some ac∧af.code=den ac)∧mapO (compR P) fn.results.toList=some af.res
structure FR where
 m:Nat
 B:Nat
 ro:Option Nat
 base:List Deferred
def RSok (P:Program) (w0:World) (k:Pt) (rs:RS) (r:Rho):Prop :=
 ∀ (args:List AV) (h:T AO) (nx:Pt) (K:AV→T AO→Pt→Prop) (w:World) (R:Ending→World→Prop),rs args h nx K→WR P w0 r h nx w→okL r.has args →
  (∀ v h' nx' r' w',K v h' nx'→WR P w0 r' h' nx' w'→Ev r h w r' h' w'→okV r'.has v→R (.returned (conc r' v)) w') →
  ∃ f tmps assign body,(Instr.yield (r.blk k) (concL r args).toArray).run P w=.ok (.round (r.blk k) f tmps assign body) w∧RoundIn Fence.wide 0 P (r.blk k) f tmps assign body w R
def EnvOk (P:Program) (w0:World) (loops:T RS) (r:Rho):Prop:=GW w0∧∀ k rs,loops.find k=some rs→r.has k∧∀ r',r.Le r'→RSok P w0 k rs r'
theorem EnvOk.le {P:Program} {w0:World} {loops:T RS} {r r':Rho} (e:r.Le r') (h:EnvOk P w0 loops r):EnvOk P w0 loops r' :=
 ⟨h.1,fun k rs hk=>⟨e.has k (h.2 k rs hk).1,fun r'' e'=>(h.2 k rs hk).2 r'' (e.trans e')⟩⟩
def CurOk (ro:Option Nat) (cur:Option Pt) (r:Rho):Prop:=match cur with
 | none=>ro=none
 | some k=>r.has k∧ro=some (r.blk k)
theorem CurOk.le {ro:Option Nat} {cur:Option Pt} {r r':Rho} (e:r.Le r') (h:CurOk ro cur r):CurOk ro cur r':=by
 cases cur with
 | none=>exact h
 | some k=>exact ⟨e.has k h.1,by rw [e.blk k h.1]; exact h.2⟩
def DefOk (F:FR) (r:Rho) (h:T AO) (w:World) (l:List Deferred):Prop:=∃ ds,l=ds ++ F.base∧Marks F.B r h w ds∧(F.ro≠none→ds=[])
theorem DefOk.ev {F:FR} {r r':Rho} {h h':T AO} {w w':World} {l:List Deferred} (e:Ev r h w r' h' w') (d:DefOk F r h w l):DefOk F r' h' w' l :=
 let ⟨ds,h1,h2,h3⟩:=d; ⟨ds,h1,h2.ev e,h3⟩
structure St (P:Program) (w0:World) (F:FR) (ch:CH) (r:Rho) (tm:S) (h:T AO) (nx:Pt) (a:Act) (w:World):Prop where
 wr:WR P w0 r h nx w
 tr:TR r tm a.tmps
 size:F.m≤a.tmps.size
 defers:DefOk F r h w a.defers
 env:EnvOk P w0 ch.loops r
 cur:CurOk F.ro ch.cur r
 bnd:F.B≤w.heap.size
theorem St.on {P:Program} {w0:World} {F:FR} {ch:CH} {r r':Rho} {tm tm':S} {h h':T AO} {nx nx':Pt} {a a':Act} {w w':World} (s:St P w0 F ch r tm h nx a w)
  (wr:WR P w0 r' h' nx' w') (e:Ev r h w r' h' w') (tr:TR r' tm' a'.tmps) (size:F.m≤a'.tmps.size) (hd:a'.defers=a.defers):St P w0 F ch r' tm' h' nx' a' w' :=
 ⟨wr,tr,size,by rw [hd]; exact s.defers.ev e,s.env.le e.le,s.cur.le e.le,Nat.le_trans s.bnd e.size⟩
def toExit:AE→Exit
 | .nrm=>.normal
 | .exit id=>.exit id
 | .ret=>.ret
 | .goto l=>.goto l
def Good (P:Program) (w0:World) (F:FR) (ch:CH) (r:Rho) (h:T AO) (w:World) (K:EK4) (Q:Exit→Act→World→Prop):Prop :=
 ∀ e tm' h' nx' r' a' w',K e tm' h' nx'→St P w0 F ch r' tm' h' nx' a' w'→Ev r h w r' h' w'→Q (toExit e) a' w'
section
variable {P:Program} {w0:World} {F:FR} {ch:CH} {r:Rho} {h:T AO} {nx:Pt} {w:World} {tm:S} {a:Act}
theorem Good.ev {r1:Rho} {h1:T AO} {w1:World} {K:EK4} {Q:Exit→Act→World→Prop} (g:Good P w0 F ch r h w K Q) (e:Ev r h w r1 h1 w1):Good P w0 F ch r1 h1 w1 K Q :=
 fun x tm' h' nx' r' a' w' hK hs he=>g x tm' h' nx' r' a' w' hK hs (e.trans he)
theorem putD_spec {d:Option Sl} {t:Option Tmp} {v:AV} {K:S→Prop} (hd:compD F.m t=some d) (hs:St P w0 F ch r tm h nx a w) (hv:okV r.has v) (hk:putD d v tm K):∃ tm',K tm'∧St P w0 F ch r tm' h nx (a.put t (conc r v)) w:=by
 cases t with
 | none =>
  simp only [compD] at hd
  cases hd
  exact ⟨tm,hk,hs⟩
 | some t =>
  simp only [compD] at hd
  split at hd
  ·rename_i ht
   cases hd
   simp only [putD] at hk
   rw [S.setK_iff] at hk
   have hp:(Sl.ofNat t).toNat=t:=Sl.toNat_ofNat t
   have hlt:(Sl.ofNat t).toNat<a.tmps.size:=by rw [hp]; exact Nat.lt_of_lt_of_le ht hs.size
   refine ⟨_,hk,hs.on hs.wr (.refl r h w) ?_ ?_ rfl⟩
   ·have:=hs.tr.put hlt hv
    rw [hp] at this
    exact this
   ·simp [Act.put]; exact hs.size
  ·cases hd
theorem conc_undef:conc r (.tup [])=undef:=by simp [conc,concL,undef]
theorem wantK_spec {ops:Array Oper} {o:Oper} {p:Sl} {b:Bool} {yes no:Prop} (hg:compG ops o.guard=some (some (p,b))) (ht:TR r tm a.tmps) (hk:wantK p b tm yes no):(Region.wanted o (yielded ops a.tmps)=true∧yes)∨(Region.wanted o (yielded ops a.tmps)=false∧no):=by
 cases hog:o.guard with
 | none=>rw [hog] at hg; cases hg
 | some jb =>
  obtain ⟨j,b'⟩:=jb
  rw [hog] at hg
  simp only [compG] at hg
  split at hg
  ·rename_i t hj
   cases hg
   simp only [wantK] at hk
   obtain ⟨v,hv,hk⟩:=(S.getK_iff _ _ _).1 hk
   obtain ⟨g1,-⟩:=ht _ v hv
   rw [Sl.toNat_ofNat] at g1
   have hy:yielded ops a.tmps j=match conc r v with | .bool b=>some b | _=>none:=by
    unfold yielded
    rw [hj]
    simp only [Option.bind_some,g1]
    cases conc r v <;> rfl
   have hw:Region.wanted o (yielded ops a.tmps)=(yielded ops a.tmps j == some b):=by simp [Region.wanted,hog]
   rw [hw,hy]
   cases v with
   | bool c =>
    simp only [conc] at hk ⊢
    cases hcb:(c == b) with
    | false=>rw [hcb] at hk; exact .inr ⟨by simpa using hcb,hk⟩
    | true=>rw [hcb] at hk; exact .inl ⟨by simpa using hcb,hk⟩
   | _=>exact .inr ⟨by simp [conc],hk⟩
  ·cases hg
theorem wanted_none {ops:Array Oper} {o:Oper} {ts:Array Value} (hg:compG ops o.guard=some none):Region.wanted o (yielded ops ts)=true:=by
 cases hog:o.guard with
 | none=>simp [Region.wanted,hog]
 | some jb =>
  obtain ⟨j,b⟩:=jb
  rw [hog] at hg
  simp only [compG] at hg
  split at hg <;> cases hg
def chain (r:Rho) (u:AV):List PanicEntry:=[{ v:=conc r u,recovered:=false }]
def GoodP (P:Program) (w0:World) (F:FR) (ch:CH) (r:Rho) (h:T AO) (w:World) (Q:Exit→Act→World→Prop):Prop :=
 ∀ u tm' h' nx' r' a' w',ch.pan tm' u h' nx'→St P w0 F ch r' tm' h' nx' a' w'→Ev r h w r' h' w'→okV r'.has u→Q (.panic (chain r' u)) a' w'
theorem GoodP.ev {r1:Rho} {h1:T AO} {w1:World} {Q:Exit→Act→World→Prop} (g:GoodP P w0 F ch r h w Q) (e:Ev r h w r1 h1 w1):GoodP P w0 F ch r1 h1 w1 Q :=
 fun u tm' h' nx' r' a' w' k1 k2 k3 k4=>g u tm' h' nx' r' a' w' k1 k2 (e.trans k3) k4
def CHok (P:Program) (w0:World) (call:CF):Prop :=
 ∀ (loops:T RS) (p:Pt) (args:List AV) (h:T AO) (nx:Pt) (K Kp:AV→T AO→Pt→Prop) (r:Rho) (w:World) (R:Ending→World→Prop),call loops p args h nx K Kp→EnvOk P w0 loops r→WR P w0 r h nx w→okL r.has args →
  (∀ v h' nx' r' w',K v h' nx'→WR P w0 r' h' nx' w'→Ev r h w r' h' w'→okV r'.has v→R (.returned (conc r' v)) w') →
  (∀ u h' nx' r' w',Kp u h' nx'→WR P w0 r' h' nx' w'→Ev r h w r' h' w'→okV r'.has u→R (.panicked (chain r' u)) w') →
  (∃ fn c,P.funcs[p.toNat]?=some fn∧(fn.name == "runtime.NumGoroutine")=false∧fn.body=some c)∧Calls P p.toNat (concL r args).toArray w R
structure CHq (P:Program) (w0:World) (ch:CH):Prop where
 call:CHok P w0 ch.call
 calm:∀ tm u h nx,¬ ch.pan tm u h nx
 flat:∀ tm tm',ch.pan tm=ch.pan tm'
theorem CHq.goodP {F:FR} {ch:CH} (hq:CHq P w0 ch) {r:Rho} {h:T AO} {w:World} {Q:Exit→Act→World→Prop}:GoodP P w0 F ch r h w Q:=fun _ _ _ _ _ _ _ hh=>(hq.calm _ _ _ _ hh).elim
theorem St.calm {F:FR} {ch:CH} {r:Rho} {tm:S} {h:T AO} {nx:Pt} {a:Act} {w:World} (s:St P w0 F ch r tm h nx a w):St P w0 F ch.calm r tm h nx a w:=⟨s.wr,s.tr,s.size,s.defers,s.env,s.cur,s.bnd⟩
theorem St.loud {F:FR} {ch:CH} {r:Rho} {tm:S} {h:T AO} {nx:Pt} {a:Act} {w:World} (s:St P w0 F ch.calm r tm h nx a w):St P w0 F ch r tm h nx a w:=⟨s.wr,s.tr,s.size,s.defers,s.env,s.cur,s.bnd⟩
theorem CHq.of {ch:CH} (h:CHok P w0 ch.call):CHq P w0 ch.calm:=⟨h,fun _ _ _ _ h=>h,fun _ _=>rfl⟩
def FunSem (P:Program) (f:Nat) (af:AF):Prop :=
 ∀ (w0:World) (ch:CH),ch.cur=none→CHok P w0 ch.call→∀ (args:List AV) (h:T AO) (nx:Pt) (K:AV→T AO→Pt→Prop) (r:Rho) (w:World) (R:Ending→World→Prop),(argsK args slTab .l fun tm=>af.code ch tm h nx (retK af.res K))→EnvOk P w0 ch.loops r→WR P w0 r h nx w→okL r.has args →
  (∀ v h' nx' r' w',K v h' nx'→WR P w0 r' h' nx' w'→Ev r h w r' h' w'→okV r'.has v→R (.returned (conc r' v)) w') →
  (∀ tm u h' nx' r' w',ch.pan tm u h' nx'→WR P w0 r' h' nx' w'→Ev r h w r' h' w'→okV r'.has u→R (.panicked (chain r' u)) w') →
  (∃ fn c,P.funcs[f]?=some fn∧(fn.name == "runtime.NumGoroutine")=false∧fn.body=some c)∧Calls P f (concL r args).toArray w R
def FunsOk (P:Program) (funs:T AF):Prop:=∀ p af,funs.find p=some af→FunSem P p.toNat af
def Dok (P:Program) (w0:World) (F:FR) (ch:CH) (c:Code) (d:D):Prop :=
 ∀ (tm:S) (h:T AO) (nx:Pt) (K:EK4) (a:Act) (w:World) (r:Rho) (Q:Exit→Act→World→Prop),
  d ch tm h nx K→St P w0 F ch r tm h nx a w→Good P w0 F ch r h w K Q→GoodP P w0 F ch r h w Q→WpN P F.ro c Q a w
theorem slTab_get:∀ {i:Nat} {p:Sl},slTab[i]?=some p→p.toNat=i:=fun {i p} h=>by
 have h1:(slTab.map Sl.n)[i]?=some p.n:=by rw [List.getElem?_map,h]; rfl
 rw [slTab_n] at h1
 obtain ⟨h3,h4⟩:=List.getElem?_eq_some_iff.1 h1
 exact (by simpa using h4.symm:p.n=i)
theorem argsK_from {args:List AV}:∀ {j:Nat} {ps:List Sl} {tm:S} {c:S→Prop},(∀ i p,ps[i]?=some p→p.toNat=j+i)→argsK args ps tm c→∃ tm',c tm'∧∀ q v,tm'.find q=some v→tm.find q=some v∨∃ i,q.toNat=j+i∧args[i]?=some v:=by
 induction args with
 | nil=>intro j ps tm c _ hk; exact ⟨tm,hk,fun q v hq=>.inl hq⟩
 | cons x l ih =>
  intro j ps tm c hps hk
  cases ps with
  | nil=>exact hk.elim
  | cons p ps =>
  have hp:p.toNat=j:=hps 0 p rfl
  have hk:tm.setK x p fun tm=>argsK l ps tm c:=hk
  rw [S.setK_iff] at hk
  obtain ⟨tm',h1,h2⟩:=ih (j:=j+1) (fun i p hi=>by rw [hps (i+1) p hi]; omega) hk
  refine ⟨tm',h1,fun q v hq=>?_⟩
  rcases h2 q v hq with h3 | ⟨i,h3,h4⟩
  ·by_cases e:q=p
   ·subst e
    rw [S.find_set] at h3; cases h3
    exact .inr ⟨0,hp,rfl⟩
   ·rw [S.find_set_ne _ _ _ _ e] at h3; exact .inl h3
  ·exact .inr ⟨i+1,by rw [h3]; omega,by simpa using h4⟩
theorem argsK_spec {args:List AV} {c:S→Prop} (hk:argsK args slTab .l c):∃ tm',c tm'∧∀ q v,tm'.find q=some v→S.l.find q=some v∨∃ i,q.toNat=0+i∧args[i]?=some v :=
 argsK_from (fun i p h=>by rw [slTab_get h]; omega) hk
def resS (ts:Array Value):ResultVar→Sem Value
 | .tmp t=>pure (ts.getD t undef)
 | .cell b t=>do loadVar t (← asAddr (ts.getD b undef))
theorem resK_spec (H:WR P w0 r h nx w) (ht:TR r tm a.tmps):∀ {rs:List ResultVar} {res:List AR} {c:List AV→Prop},mapO (compR P) rs=some res→resK tm h res c →
  ∃ vs,c vs∧okL r.has vs∧∀ w,WR P w0 r h nx w→(rs.mapM (resS a.tmps):Sem (List Value)).run P w=.ok (concL r vs) w:=by
 intro rs
 induction rs with
 | nil=>intro res c hc hk; cases hc; exact ⟨[],hk,by simp [okL],fun w _=>by simp only [concL]; rfl⟩
 | cons x rs ih =>
  intro res c hc hk
  obtain ⟨y,ys,h1,h2,rfl⟩:=mapO_cons hc
  have fin:∀ (v:AV),okV r.has v→(resK tm h ys fun vs=>c (v :: vs))→(∀ w,WR P w0 r h nx w→(resS a.tmps x).run P w=.ok (conc r v) w)→∃ vs,c vs∧okL r.has vs∧∀ w,WR P w0 r h nx w→((x :: rs).mapM (resS a.tmps):Sem (List Value)).run P w=.ok (concL r vs) w:=by
   intro v hv hr hx
   obtain ⟨vs,g1,g2,g3⟩:=ih h2 hr
   refine ⟨v :: vs,g1,by simp only [okL]; exact ⟨hv,g2⟩,fun w H=>?_⟩
   rw [List.mapM_cons,run_ok_bind (hx w H),run_ok_bind (g3 w H)]
   simp only [concL]; rfl
  cases x with
  | tmp t =>
   cases h1
   obtain ⟨v,hv,hk⟩:=(S.getK_iff _ _ _).1 (show tm.getK (Sl.ofNat t) _ from hk)
   obtain ⟨g1,g2⟩:=ht _ v hv
   rw [Sl.toNat_ofNat] at g1
   refine fin v g2 hk fun w H=>?_
   show Result.ok (a.tmps.getD t undef) w=_
   simp [g1]
  | cell b t =>
   simp only [compR] at h1
   split at h1
   ·rename_i d i hd hi
    split at h1
    ·rename_i hag
     cases h1
     obtain ⟨v,hv,hk⟩:=(S.getK_iff _ _ _).1 (show tm.getK (Sl.ofNat b) _ from hk)
     obtain ⟨g1,g2⟩:=ht _ v hv
     rw [Sl.toNat_ofNat] at g1
     split at hk
     ·rename_i k q
      obtain ⟨x,hx,hk⟩:=(T.getK_iff _ _ _).1 hk
      split at hk
      ·rename_i us e
       obtain ⟨hle,hk⟩:=brec hk
       rw [forceL_iff] at hk
       refine fin _ (by simp only [okV]; exact okL_take (okL_drop ((H.has k _ hx).2.2.1:okL r.has us) q) i.size) hk fun w H=>?_
       simp only [resS,Array.getD_eq_getD_getElem?,g1,Option.getD_some,conc,asAddr]
       rw [run_ok_bind (run_pure P _ w),loadVar,run_ok_bind (run_isAgg hd),hag]
       simp only [if_true]
       rw [run_ok_bind (run_sizeOf hi),run_ok_bind (H.loadCells hx _ _ (Nat.le_of_ble_eq_true hle))]
       rfl
      ·exact hk.elim
     ·exact hk.elim
    ·rename_i hag
     cases h1
     obtain ⟨v,hv,hk⟩:=(S.getK_iff _ _ _).1 (show tm.getK (Sl.ofNat b) _ from hk)
     obtain ⟨g1,g2⟩:=ht _ v hv
     rw [Sl.toNat_ofNat] at g1
     split at hk
     ·rename_i k q
      obtain ⟨x,hx,hk⟩:=(T.getK_iff _ _ _).1 hk
      split at hk
      ·rename_i us e
       split at hk
       ·rename_i u hu
        refine fin u (((H.has k _ hx).2.2.1:okL r.has us).get hu) hk fun w H=>?_
        simp only [resS,Array.getD_eq_getD_getElem?,g1,Option.getD_some,conc,asAddr]
        rw [run_ok_bind (run_pure P _ w),loadVar,run_ok_bind (run_isAgg hd),Bool.eq_false_iff.2 hag]
        simp only [Bool.false_eq_true,if_false]
        exact H.loadOne hx hu
       ·exact hk.elim
      ·exact hk.elim
     ·exact hk.elim
   ·cases h1
theorem run_results {fn:Func} {ts:Array Value} {vs:List AV} (hr:(fn.results.toList.mapM (resS ts):Sem (List Value)).run P w=.ok (concL r vs) w):(results fn ts).run P w=.ok (conc r (oneV vs)) w:=by
 have e:results fn ts=(do let vs ← fn.results.mapM (resS ts); pure (if h:vs.size=1 then vs[0] else .tuple vs)):=by
  unfold results
  congr 1
 rw [e,Array.mapM_eq_mapM_toList,map_eq_pure_bind]
 have h1:((do let a ← fn.results.toList.mapM (resS ts); pure a.toArray):Sem (Array Value)).run P w=.ok (concL r vs).toArray w:=by
  rw [run_ok_bind hr]; rfl
 rw [run_ok_bind h1,run_pure]
 congr 1
 match vs with
 | []=>simp [oneV,conc,concL]
 | [v]=>simp [oneV,concL]
 | v :: u :: vs=>simp [oneV,conc,concL]
theorem okV_one {n:Pt→Prop} {vs:List AV} (h:okL n vs):okV n (oneV vs):=by
 match vs with
 | []=>simp [oneV,okV,okL]
 | [v]=>simp only [okL] at h; exact h.1
 | v :: u :: vs=>simp only [oneV,okV]; exact h
theorem leaves_marks {fn:Func} {tmps:Array Value} {vs:List AV} {R:Ending→World→Prop} (hr:∀ w',WR P w0 r h nx w'→(results fn tmps).run P w'=.ok (conc r (oneV vs)) w') {re:Rho} {he:T AO} {we:World}:∀ (ds:List Deferred) (w:World),
  Marks we.heap.size r h w ds→WR P w0 r h nx w→Ev re he we r h w→w0.heap.size≤we.heap.size→(∀ w',WR P w0 r h nx w'→Ev re he we r h w'→R (.returned (conc r (oneV vs))) w') →
  LeavesInM (Wr none) 0 P fn tmps R ds .returning w
 | [],w,_,H,e,_,hR=>⟨_,hr w H,hR w H e⟩
 | d :: ds,w,hm,H,e,h0,hR=>by
  obtain ⟨⟨b,rfl,h2,h3,h4,h5⟩,g⟩:=hm
  refine ⟨by simp,.inl ⟨b,_,rfl,run_takeDeferred h3,?_⟩⟩
  refine leaves_marks hr ds _ ?_ (H.other (Nat.le_trans h0 h2) h4 _) (e.other h2 _) h0 hR
  clear hR e H hr h3
  induction ds with
  | nil=>trivial
  | cons d' ds ih =>
   obtain ⟨⟨b',rfl,k2,k3,k4,k5⟩,g⟩:=g
   refine ⟨⟨b',rfl,k2,?_,k4,k5⟩,ih g (fun d hd=>h5 d (List.mem_cons_of_mem _ hd))⟩
   have hne:b'≠b:=fun e=>h5 _ (List.mem_cons_self ..) (by rw [e])
   exact (World.putObj_heap_other hne).trans k3
theorem leaves_marksP {fn:Func} {tmps:Array Value} {pc:List PanicEntry} {R:Ending→World→Prop} {re:Rho} {he:T AO} {we:World}:∀ (ds:List Deferred) (w:World),
  Marks we.heap.size r h w ds→WR P w0 r h nx w→Ev re he we r h w→w0.heap.size≤we.heap.size→(∀ w',WR P w0 r h nx w'→Ev re he we r h w'→R (.panicked pc) w') →
  LeavesInM (Wr none) 0 P fn tmps R ds (.panicking pc) w
 | [],w,_,H,e,_,hR=>hR w H e
 | d :: ds,w,hm,H,e,h0,hR=>by
  obtain ⟨⟨b,rfl,h2,h3,h4,h5⟩,g⟩:=hm
  refine ⟨by simp,.inl ⟨b,_,rfl,run_takeDeferred h3,?_⟩⟩
  refine leaves_marksP ds _ ?_ (H.other (Nat.le_trans h0 h2) h4 _) (e.other h2 _) h0 hR
  clear hR e H h3
  induction ds with
  | nil=>trivial
  | cons d' ds ih =>
   obtain ⟨⟨b',rfl,k2,k3,k4,k5⟩,g⟩:=g
   refine ⟨⟨b',rfl,k2,?_,k4,k5⟩,ih g (fun d hd=>h5 d (List.mem_cons_of_mem _ hd))⟩
   have hne:b'≠b:=fun e=>h5 _ (List.mem_cons_self ..) (by rw [e])
   exact (World.putObj_heap_other hne).trans k3
theorem call_sound {f:Nat} {af:AF} (hcur:ch.cur=none) (hf:FunOk P f af) (hS:∀ (F:FR) c ac,compC P F.m c=some ac→Dok P w0 F ch c (den ac)) {args:List AV} {K:AV→T AO→Pt→Prop} {R:Ending→World→Prop} (hE:EnvOk P w0 ch.loops r) (H:WR P w0 r h nx w) (ha:okL r.has args) (hk:argsK args slTab .l fun tm=>af.code ch tm h nx (retK af.res K))
  (hR:∀ v h' nx' r' w',K v h' nx'→WR P w0 r' h' nx' w'→Ev r h w r' h' w'→okV r'.has v→R (.returned (conc r' v)) w')
  (hP:∀ tm u h' nx' r' w',ch.pan tm u h' nx'→WR P w0 r' h' nx' w'→Ev r h w r' h' w'→okV r'.has u→R (.panicked (chain r' u)) w') :
  (∃ fn c,P.funcs[f]?=some fn∧(fn.name == "runtime.NumGoroutine")=false∧fn.body=some c)∧Calls P f (concL r args).toArray w R:=by
 obtain ⟨fn,c,e1,e2,e3,⟨ac,e4,e6⟩,e5⟩:=hf
 refine ⟨⟨fn,c,e1,e2,e3⟩,?_⟩
 obtain ⟨tm,hk,htm⟩:=argsK_spec hk
 rw [e6] at hk
 refine (callsIn_wide (n:=0)).1 (callsN e1 e3 ?_)
 refine hS ⟨fn.ntmps,w.heap.size,none,[]⟩ c ac e4 tm h nx _ _ w r _ hk ⟨H,fun q v hq=>?_,?_,⟨[],rfl,trivial,fun e=>(e rfl).elim⟩,hE,by rw [hcur]; exact rfl,Nat.le_refl _⟩ ?_ ?_
 ·rcases htm q v hq with h1 | ⟨i,h1,h2⟩
  ·rw [S.find_l] at h1; cases h1
  ·have hi:i<args.length:=(List.getElem?_eq_some_iff.1 h2).1
   have h1:q.toNat=i:=by rw [h1]; show 0+i=i; omega
   refine ⟨?_,ha.get h2⟩
   rw [h1,Array.getElem?_append_left (by simp [concL_length]; exact hi)]
   rw [List.getElem?_toArray,concL_get,h2]; rfl
 ·simp [concL_length]; omega
 ·intro e tm' h' nx' r' a' w' hK hs hev
  have key:(resK tm' h' af.res fun vs=>K (oneV vs) h' nx')→LeavesInM (Wr none) 0 P fn a'.tmps R a'.defers .returning w':=by
   intro hK
   obtain ⟨vs,g1,g2,g3⟩:=resK_spec hs.wr hs.tr e5 hK
   obtain ⟨ds,d1,d2,-⟩:=hs.defers
   have d1:a'.defers=ds:=by rw [d1]; simp
   rw [d1]
   exact leaves_marks (fun w' H'=>run_results (g3 w' H')) ds w' d2 hs.wr hev H.below.size (fun w'' H'' e''=>hR _ _ _ _ _ g1 H'' e'' (okV_one g2))
  cases e with
  | nrm=>exact key hK
  | ret=>exact key hK
  | exit id=>exact hK.elim
  | goto l=>exact hK.elim
 ·intro u tm' h' nx' r' a' w' hu hs hev ho
  obtain ⟨ds,d1,d2,-⟩:=hs.defers
  have d1:a'.defers=ds:=by rw [d1]; simp
  show LeavesInM (Wr none) 0 P fn a'.tmps R a'.defers (.panicking (chain r' u)) w'
  rw [d1]
  exact leaves_marksP ds w' d2 hs.wr hev H.below.size (fun w'' H'' e''=>hP _ _ _ _ _ _ hu H'' e'' ho)
theorem run_callFunc {f:Nat} {fn:Func} {c:Code} {args:Array Value} (h1:P.funcs[f]?=some fn) (h2:(fn.name == "runtime.NumGoroutine")=false) (h3:fn.body=some c):(callFunc f args).run P w=.ok (.enter f args) w:=by
 show Sem.run P (Sem.program fun p=>_) w=_
 simp only [Sem.run,Sem.bind]
 rw [h1]
 simp only [h2,h3,Bool.false_eq_true,if_false,Option.isNone_some]
 rfl
theorem wr_calls {ro:Option Nat} {f:Nat} {args:Array Value} {R:Ending→World→Prop} (hc:Calls P f args w R):CallsIn (Wr ro) (0 - 1) P f args w R:=(callsIn_wide (n:=0)).2 hc
theorem compK_defer {o:Op} {k:AK} (hck:compK P o=some k):∀ c,o≠.defer c:=by
 intro c e
 rw [e] at hck
 simp [compK,compOp] at hck
theorem eK0_sound {ro:Option Nat} (hch:CHok P w0 ch.call) (hE:EnvOk P w0 ch.loops r) {o:Oper} {k:AK} {c:AV→T AO→Pt→Prop} {Q:Exit→Act→World→Prop} {next:Act→World→Prop}
  (hck:compK P o.op=some k) (H:WR P w0 r h nx w) (ht:TR r tm a.tmps) (hk:eK0 k ch tm h nx c)
  (hn:∀ v h' nx' r' w',c v h' nx'→WR P w0 r' h' nx' w'→Ev r h w r' h' w'→okV r'.has v→next (a.put o.dst (conc r' v)) w')
  (hp:∀ u h' nx' r' w',ch.pan tm u h' nx'→WR P w0 r' h' nx' w'→Ev r h w r' h' w'→okV r'.has u→Q (.panic (chain r' u)) a w'):o.wpIn (Wr ro) 0 P a w next Q:=by
 refine ⟨fun _ _=>trivial,?_⟩
 rw [Oper.semAt_eq _ _ _ (compK_defer hck)]
 have call:∀ (p:Pt) (args:List AV),okL r.has args→(execOp a.eval o)=callFunc p.toNat (concL r args).toArray→ch.go tm p args h nx c→o.uponIn (Wr ro) 0 P a next Q ((execOp a.eval o).run P w):=by
  intro p args hok he hc
  obtain ⟨⟨fn,cd,f1,f2,f3⟩,hcall⟩:=hch ch.loops p args h nx _ _ r w (fun | .returned v,w''=>next (a.put o.dst v) w'' | .panicked chain,w''=>Q (.panic chain) a w'' | .outgrown,_=>LetsOut Q) hc hE H hok (fun v h' nx' r' w' c1 c2 c3 c4=>hn v h' nx' r' w' c1 c2 c3 c4) (fun u h' nx' r' w' c1 c2 c3 c4=>hp u h' nx' r' w' c1 c2 c3 c4)
  rw [he,run_callFunc f1 f2 f3,Oper.uponIn_enter]
  exact ⟨fun e=>by simp [Wr,Fence.wide] at e,wr_calls hcall⟩
 unfold compK at hck
 split at hck
 ·rename_i f args ts hop
  split at hck
  ·rename_i xs hxs
   cases hck
   obtain ⟨vs,k1,k2,k3⟩:=evsK_spec ht (cxs_spec hxs) hk
   refine call _ vs k3 ?_ k1
   rw [Pt.toNat_ofNat]
   have e1:args.map a.eval=(concL r vs).toArray:=by rw [← k2]; apply Array.ext'; simp
   simp only [execOp,hop,resolve,e1]
   show callFunc f (((#[]:Array Value) ++ (concL r vs).toArray) ++ #[])=_
   simp
  ·cases hck
 ·rename_i y args ts hny hop
  split at hck
  ·rename_i y' xs hy hxs
   cases hck
   obtain ⟨vf,k1,k2,k3⟩:=evK_spec (cx_spec hy) ht hk
   obtain ⟨vs,k4,k5,k6⟩:=evsK_spec ht (cxs_spec hxs) k1
   have e1:args.map a.eval=(concL r vs).toArray:=by rw [← k5]; apply Array.ext'; simp
   unfold cvK at k4
   split at k4
   ·rename_i k
    obtain ⟨rs,hrs,k4⟩:=(T.getK_iff _ _ _).1 k4
    obtain ⟨f,tmps,assign,body,y1,y2⟩:=(hE.2 k rs hrs).2 r (.refl r) vs h nx c w (fun | .returned v,w''=>next (a.put o.dst v) w'' | .panicked chain,w''=>Q (.panic chain) a w'' | .outgrown,_=>LetsOut Q) k4 H k6 (fun v h' nx' r' w' c1 c2 c3 c4=>hn v h' nx' r' w' c1 c2 c3 c4)
    have e2:execOp a.eval o=Instr.yield (r.blk k) (concL r vs).toArray:=by
     simp only [execOp,hop,resolve,e1,k2,conc]
     show Instr.yield (r.blk k) (((#[]:Array Value) ++ (concL r vs).toArray) ++ #[])=_
     simp
    rw [e2,y1,Oper.uponIn_round]
    exact ⟨fun e=>by simp [Wr,Fence.wide] at e,y2⟩
   ·unfold fnK at k4
    split at k4
    ·rename_i f first caps _
     rw [forceP_iff] at k4
     obtain ⟨hpf,k4⟩:=brec k4
     have hpf:=Nat.eq_of_beq_eq_true hpf
     rw [forceL_iff] at k4
     simp only [okV] at k3
     refine call _ _ (okL_append.2 ⟨okL_append.2 ⟨k3.1,k6⟩,k3.2⟩) ?_ k4
     rw [hpf]
     simp only [execOp,hop,resolve,e1,k2,conc]
     show callFunc f (((concL r first).toArray ++ (concL r vs).toArray) ++ (concL r caps).toArray)=_
     simp [concL_append]
    ·exact k4.elim
  ·cases hck
 ·split at hck
  ·cases hck; exact hk.elim
  ·cases hck
 ·split at hck
  ·cases hck; exact hk.elim
  ·cases hck
 ·split at hck
  ·cases hck; exact hk.elim
  ·cases hck
 ·rename_i y hop
  split at hck
  ·rename_i y' hy
   cases hck
   obtain ⟨v,k1,k2,k3⟩:=evK_spec (cx_spec hy) ht (show evK tm y' _ from hk)
   split at k1
   ·rename_i t u
    have he:(execOp a.eval o).run P w=.halt (.panic (conc r (.iface t u))) w:=by
     simp only [execOp,hop,k2,conc,Instr.panic]
     rfl
    rw [he]
    exact hp (.iface t u) h nx r w k1 H (.refl r h w) k3
   ·exact k1.elim
  ·cases hck
 ·split at hck
  ·rename_i o' ho
   cases hck
   obtain ⟨r',h',nx',w',v,n,y1,y2,y3,y4,y5,y6⟩:=step_sound H ht rfl (compOp_spec ho) hk
   have hnx:=hn v h' nx' r' w' y1 y4 y5 y6
   rw [y2]
   rcases y3 with rfl | ⟨rfl,hu⟩
   ·exact hnx
   ·rw [hu] at hnx; exact hnx
  ·cases hck
theorem opk_sound (hch:CHok P w0 ch.call) {o:Oper} {k:AK} {d:Option Sl} {rest:DO} {K:S→T AO→Pt→Prop} {Q:Exit→Act→World→Prop} {next:Act→World→Prop}
  (hck:compK P o.op=some k) (hnc:commK k=false) (hcd:compD F.m o.dst=some d) (hs:St P w0 F ch r tm h nx a w) (hk:denK d k rest ch tm h nx K)
  (hn:∀ tm' h' nx' r' a' w',rest ch tm' h' nx' K→St P w0 F ch r' tm' h' nx' a' w'→Ev r h w r' h' w'→next a' w') (hp:GoodP P w0 F ch r h w Q):o.wpIn (Wr F.ro) 0 P a w next Q:=by
 have hk:eK0 k ch tm h nx fun v h nx=>putD d v tm fun tm=>rest ch tm h nx K:=by
  cases k with
  | snd x v=>cases hnc
  | sel x z=>cases hnc
  | sls x v=>cases hnc
  | _=>cases d <;> exact hk
 refine eK0_sound hch hs.env hck hs.wr hs.tr hk (fun v h' nx' r' w' c1 c2 c3 c4=>?_) (fun u h' nx' r' w' c1 c2 c3 c4=>hp u tm h' nx' r' a w' c1 (hs.on c2 c3 (hs.tr.le c3.le) hs.size rfl) c3 c4)
 have hs':St P w0 F ch r' tm h' nx' a w':=hs.on c2 c3 (hs.tr.le c3.le) hs.size rfl
 obtain ⟨tm',z1,z2⟩:=putD_spec hcd hs' c4 c1
 exact hn tm' h' nx' r' _ w' z1 z2 c3
theorem op_sound (hch:CHok P w0 ch.call) {ops:Array Oper} {o:Oper} {i:Nat} {x:AOper} {rest:DO} {K:S→T AO→Pt→Prop} {Q:Exit→Act→World→Prop} {next:Act→World→Prop}
  (hi:ops[i]?=some o) (hc:compOper P F.m ops o=some x) (hnc:commK x.op=false) (hs:St P w0 F ch r tm h nx a w) (hk:denO x rest ch tm h nx K)
  (hn:∀ tm' h' nx' r' a' w',rest ch tm' h' nx' K→St P w0 F ch r' tm' h' nx' a' w'→Ev r h w r' h' w'→next a' w') (hp:GoodP P w0 F ch r h w Q):wpOpIn (Wr F.ro) 0 P ops Q i next a w:=by
 unfold compOper at hc
 split at hc
 ·rename_i k d g hck hcd hcg
  cases hc
  simp only [wpOpIn,hi]
  cases g with
  | none =>
   rw [if_pos (wanted_none hcg)]
   exact (opk_sound hch hck hnc hcd hs hk hn hp)
  | some pb =>
   obtain ⟨p,b⟩:=pb
   have hk:wantK p b tm (denK d k rest ch tm h nx K) (putD d (.tup []) tm fun tm=>rest ch tm h nx K):=hk
   rcases wantK_spec hcg hs.tr hk with ⟨hw,hk⟩ | ⟨hw,hk⟩
   ·rw [if_pos hw]
    exact (opk_sound hch hck hnc hcd hs hk hn hp)
   ·rw [if_neg (by rw [hw]; simp)]
    obtain ⟨tm',z1,z2⟩:=putD_spec hcd hs (by simp [okV,okL]) hk
    rw [conc_undef] at z2
    exact ⟨fun _ _=>trivial,hn tm' h nx r _ w z1 z2 (.refl r h w)⟩
 ·cases hc
end
end Go.Proofs.YtidggaoacldgkaaGreatDoor.X
