/- An executor for closed calls, 17: what the executor comes to, the program comes to. -/
import Derived.Test.YtidggaoacldgkaaGreatDoorXQA
import Derived.Test.YtidggaoacldgkaaGreatDoorXCA
import Derived.Test.YtidggaoacldgkaaGreatDoorXFO
namespace Go.Proofs.YtidggaoacldgkaaGreatDoor.X
open Go.RowKit
section
variable {P:Program} {w0:World} {F:FR}
theorem ops_sound {ch:CH} (hch:CHok P w0 ch.call) {ops:Array Oper} {Q:Exit→Act→World→Prop}:∀ (n i:Nat) (l:List AOper) (r:Rho) (tm:S) (h:T AO) (nx:Pt) (a:Act) (w:World) (K:S→T AO→Pt→Prop),
  i+n=ops.size→mapO (compOper P F.m ops) (ops.toList.drop i)=some l→anyC l=false→St P w0 F ch r tm h nx a w→denL l ch tm h nx K →
  (∀ tm' h' nx' r' a' w',K tm' h' nx'→St P w0 F ch r' tm' h' nx' a' w'→Ev r h w r' h' w'→Q .normal a' w')→GoodP P w0 F ch r h w Q→wpOpsIn (Wr F.ro) 0 P ops Q (List.range' i n) a w
 | 0,i,l,r,tm,h,nx,a,w,K,hn,hl,_,hs,hk,hq,_=>by
  rw [List.drop_eq_nil_of_le (by simp; omega)] at hl
  cases hl
  exact hq tm h nx r a w hk hs (.refl r h w)
 | n+1,i,l,r,tm,h,nx,a,w,K,hn,hl,hna,hs,hk,hq,hp=>by
  have hi:i<ops.toList.length:=by simp; omega
  rw [List.drop_eq_getElem_cons hi] at hl
  obtain ⟨x,l',h1,h2,rfl⟩:=mapO_cons hl
  rw [List.range'_succ,wpOpsIn_cons]
  have hoi:ops[i]?=some ops.toList[i]:=by
   have:i<ops.size:=by simpa using hi
   simp [this]
  simp only [anyC,Bool.or_eq_false_iff] at hna
  refine op_sound hch hoi h1 hna.1 hs hk (fun tm' h' nx' r' a' w' k1 k2 k3=>?_) hp
  exact ops_sound hch n (i+1) l' r' tm' h' nx' a' w' K (by omega) h2 hna.2 k2 k1 (fun tm'' h'' nx'' r'' a'' w'' g1 g2 g3=>hq tm'' h'' nx'' r'' a'' w'' g1 g2 (k3.trans g3)) (hp.ev k3)
def OpsN (P:Program) (ro:Option Nat) (ops:Array Oper) (Q:Exit→Act→World→Prop) (l:List Nat) (a:Act) (w:World):Prop :=
 ∀ (b:Frame) (k:List Item) (cs:List Frame),(b.kind == CallKind.early)=false→b.roundOf=ro→∃ e a' w',Q e a' w'∧ArrivesIn (Machine.fenced P (Wr ro)) P (lone (b.atR a (.inRegion ops l :: k)) cs w) b k cs e a' w'
theorem region_N {ro:Option Nat} {ops:Array Oper} {Q:Exit→Act→World→Prop} {a:Act} {w:World} {id:Nat} (h:OpsN P ro ops Q (List.range ops.size) a w):WpN P ro (.region id ops false) Q a w:=fun b k cs hk hb=>by
 obtain ⟨e,a',w',hq,harr⟩:=h b k cs hk hb
 exact ⟨e,a',w',hq,.of_steps (.one wr_calm stepR_region) harr⟩
theorem OpsN.next {ro:Option Nat} {ops:Array Oper} {Q:Exit→Act→World→Prop} {a a':Act} {w w':World} {i:Nat} {rest:List Nat} (h:OpsN P ro ops Q rest a' w')
  (hs:∀ (b:Frame) (k:List Item) (cs:List Frame),(b.kind == CallKind.early)=false→b.roundOf=ro→step P (lone (b.atR a (.inRegion ops (i :: rest) :: k)) cs w)=.next (lone (b.atR a' (.inRegion ops rest :: k)) cs w')):OpsN P ro ops Q (i :: rest) a w:=fun b k cs hk hb=>by
 obtain ⟨e,a'',w'',hq,harr⟩:=h b k cs hk hb
 exact ⟨e,a'',w'',hq,.of_steps (.one wr_calm (hs b k cs hk hb)) harr⟩
theorem opC_sound {ch:CH} {ops:Array Oper} {o:Oper} {i:Nat} {x:AOper} {rest:List Nat} {K:AV→T AO→Pt→Prop} {r:Rho} {tm:S} {h:T AO} {nx:Pt} {a:Act} {w:World} {Q:Exit→Act→World→Prop}
  (hi:ops[i]?=some o) (hw:Region.wanted o (yielded ops a.tmps)=true) (hck:compK P o.op=some x.op) (hp:plainK x.op=true) (hs:St P w0 F ch r tm h nx a w)
  (hk:match x.op with | .v op=>stepV op tm h nx K | .snd y v=>sndK y v tm h nx K | .sel y z=>selK y z tm h nx K | .sls y v=>slsK y v tm h nx K | _=>False)
  (hn:∀ v h' nx' r' w',K v h' nx'→WR P w0 r' h' nx' w'→Ev r h w r' h' w'→okV r'.has v→OpsN P F.ro ops Q rest (a.put o.dst (conc r' v)) w'):OpsN P F.ro ops Q (i :: rest) a w:=by
 generalize x.op=kk at hck hp hk
 unfold compK at hck
 split at hck
 ·split at hck
  ·cases hck; cases hp
  ·cases hck
 ·split at hck
  ·cases hck; cases hp
  ·cases hck
 ·rename_i c y hop
  split at hck
  ·rename_i c' y' hc hy
   cases hck
   obtain ⟨cv,k1,k2,k3⟩:=evK_spec (cx_spec hc) hs.tr hk
   obtain ⟨u,k4,k5,k6⟩:=evK_spec (cx_spec hy) hs.tr k1
   split at k4
   ·rename_i kc
    obtain ⟨ob,hob,k4⟩:=(T.getK_iff _ _ _).1 k4
    split at k4
    ·rename_i cap buf
     obtain ⟨hlt,k4⟩:=brec k4
     rw [forceL_iff,T.setK_iff] at k4
     obtain ⟨c1,c2,c3,sent,rcvd,c4⟩:=hs.wr.has kc _ hob
     obtain ⟨W,E⟩:=hs.wr.write hob (.chan cap (buf ++ [u])) (.chan cap ((concL r buf).toArray.push (conc r u)) false (sent+1) rcvd false) (okL_append.2 ⟨c3,by simp only [okL,and_true]; exact k6⟩) ⟨sent+1,rcvd,by simp [concL_append,concL]⟩
     have hR:=hn (.tup []) _ nx r _ k4 W E (by simp [okV,okL])
     rw [conc_undef] at hR
     refine hR.next fun b k cs hkd hb=>?_
     refine step_comm hkd hi hw ?_ (fun fr=>comm_send (z:=.tuple #[]) c4 (by simpa [concL_length] using hlt))
     rw [Oper.semAt_eq _ _ _ (fun d=>by rw [hop]; simp)]
     simp only [execOp,hop,k2,k5,conc]
     rfl
    ·exact k4.elim
   ·exact k4.elim
  ·cases hck
 ·rename_i c e hop
  split at hck
  ·rename_i c' j z v hc hz
   cases hck
   obtain ⟨cv,k1,k2,k3⟩:=evK_spec (cx_spec hc) hs.tr hk
   have hz:=zeroA_spec hz
   have hrun:∀ (ro:Option Nat),(∃ kc,cv=.chan kc)→(o.semAt ro a.eval).run P w=.ok (.comm #[{ chan:=conc r cv,send:=none,zero:=z }] false .select) w:=fun ro _=>by
    rw [Oper.semAt_eq _ _ _ (fun d=>by rw [hop]; simp)]
    simp only [execOp,hop]
    have hzr:(zeroValue e).run P w=.ok z w:=run_zeroValue hz.1 hz.2.1
    simp [hzr,Result.andThen]
    exact k2
   split at k1
   ·rename_i kc
    obtain ⟨ob,hob,k1⟩:=(T.getK_iff _ _ _).1 k1
    split at k1
    ·rename_i cap buf
     obtain ⟨c1,c2,c3,sent,rcvd,c4⟩:=hs.wr.has kc _ hob
     split at k1
     ·have hR:=hn _ _ nx r w k1 hs.wr (.refl r h w) (by simp only [okV,okL,and_true,true_and]; exact hz.2.2.2 _)
      refine hR.next fun b k cs hkd hb=>?_
      have hcv:conc r (.tup [.int .i64 (.negSucc 0),.bool false,v])=.tuple #[.int .i64 (-1),.bool false,z]:=by
       simp only [conc,concL,hz.2.2.1 r]; rfl
      rw [hcv]
      refine step_comm hkd hi hw (hrun _ ⟨kc,rfl⟩) (fun fr=>?_)
      simp only [conc]
      exact comm_none (by simpa [concL] using c4)
     ·rename_i u buf
      rw [T.setK_iff] at k1
      have c3:okL r.has (u :: buf):=c3
      simp only [okL] at c3
      have hx:(concL r (u :: buf)).toArray.extract 1 (concL r (u :: buf)).toArray.size=(concL r buf).toArray:=by
       simp [concL]
      obtain ⟨W,E⟩:=hs.wr.write hob (.chan cap buf) (.chan cap ((concL r (u :: buf)).toArray.extract 1 (concL r (u :: buf)).toArray.size) false sent (rcvd+1) false) c3.2 ⟨sent,rcvd+1,by rw [hx]⟩
      have hR:=hn _ _ nx r _ k1 W E (by simp only [okV,okL,and_true,true_and]; exact c3.1)
      refine hR.next fun b k cs hkd hb=>?_
      have hcv:conc r (.tup [.int .i64 (.ofNat 0),.bool true,u])=.tuple #[.int .i64 0,.bool true,(concL r (u :: buf)).toArray.getD 0 undef]:=by
       simp [conc,concL]
      rw [hcv]
      refine step_comm hkd hi hw (hrun _ ⟨kc,rfl⟩) (fun fr=>?_)
      simp only [conc]
      exact comm_recv c4 (by simp [concL])
    ·exact k1.elim
   ·exact k1.elim
  ·cases hck
 ·rename_i c y e hop
  split at hck
  ·rename_i c' y' q hc hy hz
   obtain ⟨j,z,v⟩:=q
   cases hck
   obtain ⟨cv,k1,k2,k3⟩:=evK_spec (cx_spec hc) hs.tr hk
   obtain ⟨u,k4,k5,k6⟩:=evK_spec (cx_spec hy) hs.tr k1
   have hz:=zeroA_spec hz
   have hrun:∀ (ro:Option Nat),(∃ kc,cv=.chan kc)→(o.semAt ro a.eval).run P w=.ok (.comm #[{ chan:=conc r cv,send:=some (conc r u),zero:=z }] false .select) w:=fun ro _=>by
    rw [Oper.semAt_eq _ _ _ (fun d=>by rw [hop]; simp)]
    simp only [execOp,hop]
    have hzr:(zeroValue e).run P w=.ok z w:=run_zeroValue hz.1 hz.2.1
    simp [hzr,Result.andThen]
    exact ⟨k2,k5⟩
   split at k4
   ·rename_i kc
    obtain ⟨ob,hob,k4⟩:=(T.getK_iff _ _ _).1 k4
    split at k4
    ·rename_i cap buf
     obtain ⟨c1,c2,c3,sent,rcvd,c4⟩:=hs.wr.has kc _ hob
     cases hlt:Nat.blt buf.length cap with
     | false =>
      rw [hlt] at k4
      have hR:=hn _ _ nx r w k4 hs.wr (.refl r h w) (by simp [okV,okL])
      refine hR.next fun b k cs hkd hb=>?_
      have hcv:conc r (.tup [.int .i64 (.negSucc 0),.bool false])=.tuple #[.int .i64 (-1),.bool false]:=by
       simp only [conc,concL]; rfl
      rw [hcv]
      refine step_comm hkd hi hw (hrun _ ⟨kc,rfl⟩) (fun fr=>?_)
      simp only [conc]
      refine comm_full c4 ?_
      simp only [List.size_toArray,concL_length]
      intro hh
      have:Nat.blt buf.length cap=true:=by simpa using hh
      rw [hlt] at this; cases this
     | true =>
      rw [hlt] at k4
      have hlt':buf.length<cap:=by simpa using hlt
      replace k4:forceL (buf ++ [u]) _:=k4
      rw [forceL_iff,T.setK_iff] at k4
      obtain ⟨W,E⟩:=hs.wr.write hob (.chan cap (buf ++ [u])) (.chan cap ((concL r buf).toArray.push (conc r u)) false (sent+1) rcvd false) (okL_append.2 ⟨c3,by simp only [okL,and_true]; exact k6⟩) ⟨sent+1,rcvd,by simp [concL_append,concL]⟩
      have hR:=hn _ _ nx r _ k4 W E (by simp [okV,okL])
      refine hR.next fun b k cs hkd hb=>?_
      have hcv:conc r (.tup [.int .i64 (.ofNat 0),.bool false])=.tuple #[.int .i64 0,.bool false]:=by
       simp [conc,concL]
      rw [hcv]
      refine step_comm hkd hi hw (hrun _ ⟨kc,rfl⟩) (fun fr=>?_)
      simp only [conc]
      exact comm_put c4 (by simpa [concL_length] using hlt')
    ·exact k4.elim
   ·exact k4.elim
  ·cases hck
 ·split at hck
  ·cases hck; cases hp
  ·cases hck
 ·split at hck
  ·rename_i o' ho
   cases hck
   obtain ⟨r',h',nx',w',v,n,y1,y2,y3,y4,y5,y6⟩:=step_sound hs.wr hs.tr rfl (compOp_spec ho) hk
   have hR:=hn v h' nx' r' w' y1 y4 y5 y6
   refine hR.next fun b k cs hkd hb=>?_
   have hnd:∀ c,o.op≠.defer c:=fun c e=>by rw [e] at ho; simp [compOp] at ho
   rcases y3 with rfl | ⟨rfl,hu⟩
   ·exact step_value hi hw (by rw [Oper.semAt_eq _ _ _ hnd]; exact y2)
   ·rw [hu]; exact step_skipped hi hw (by rw [Oper.semAt_eq _ _ _ hnd]; exact y2)
  ·cases hck
theorem opsC_sound {ch:CH} {ops:Array Oper} {Q:Exit→Act→World→Prop}:∀ (n i:Nat) (l:List AOper) (r:Rho) (tm:S) (h:T AO) (nx:Pt) (a:Act) (w:World) (K:S→T AO→Pt→Prop),
  i+n=ops.size→mapO (compOper P F.m ops) (ops.toList.drop i)=some l→allP l=true→St P w0 F ch r tm h nx a w→denL l ch tm h nx K →
  (∀ tm' h' nx' r' a' w',K tm' h' nx'→St P w0 F ch r' tm' h' nx' a' w'→Ev r h w r' h' w'→Q .normal a' w')→OpsN P F.ro ops Q (List.range' i n) a w
 | 0,i,l,r,tm,h,nx,a,w,K,hn,hl,_,hs,hk,hq=>by
  rw [List.drop_eq_nil_of_le (by simp; omega)] at hl
  cases hl
  intro b k cs hkd hb
  exact ⟨.normal,a,w,hq tm h nx r a w hk hs (.refl r h w),.one wr_calm stepR_region_end⟩
 | n+1,i,l,r,tm,h,nx,a,w,K,hn,hl,hall,hs,hk,hq=>by
  have hi:i<ops.toList.length:=by simp; omega
  rw [List.drop_eq_getElem_cons hi] at hl
  obtain ⟨x,l',h1,h2,rfl⟩:=mapO_cons hl
  rw [List.range'_succ]
  have hoi:ops[i]?=some ops.toList[i]:=by
   have:i<ops.size:=by simpa using hi
   simp [this]
  simp only [allP,Bool.and_eq_true] at hall
  generalize hoo:ops.toList[i]=o at *
  have next:∀ tm' h' nx' r' a' w',denL l' ch tm' h' nx' K→St P w0 F ch r' tm' h' nx' a' w'→Ev r h w r' h' w'→OpsN P F.ro ops Q (List.range' (i+1) n) a' w':=fun tm' h' nx' r' a' w' k1 k2 k3 =>
   opsC_sound n (i+1) l' r' tm' h' nx' a' w' K (by omega) h2 hall.2 k2 k1 fun tm'' h'' nx'' r'' a'' w'' g1 g2 g3=>hq tm'' h'' nx'' r'' a'' w'' g1 g2 (k3.trans g3)
  unfold compOper at h1
  split at h1
  ·rename_i kk d g hck hcd hcg
   cases h1
   have go:Region.wanted o (yielded ops a.tmps)=true→denK d kk (denL l') ch tm h nx K→OpsN P F.ro ops Q (i :: List.range' (i+1) n) a w:=fun hw hk=>by
    refine opC_sound (x:=⟨d,kk,g⟩) (K:=fun v h nx=>putD d v tm fun tm=>denL l' ch tm h nx K) hoi hw hck hall.1 hs ?_ fun v h' nx' r' w' c1 c2 c3 c4=>?_
    ·cases kk with
     | call f xs=>cases hall.1
     | callv y xs=>cases hall.1
     | pan y=>cases hall.1
     | _=>cases d <;> exact hk
    ·have hs':St P w0 F ch r' tm h' nx' a w':=hs.on c2 c3 (hs.tr.le c3.le) hs.size rfl
     obtain ⟨tm',z1,z2⟩:=putD_spec hcd hs' c4 c1
     exact next tm' h' nx' r' _ w' z1 z2 c3
   cases g with
   | none=>exact go (wanted_none hcg) hk
   | some pb =>
    obtain ⟨p,bb⟩:=pb
    have hk:wantK p bb tm (denK d kk (denL l') ch tm h nx K) (putD d (.tup []) tm fun tm=>denL l' ch tm h nx K):=hk
    rcases wantK_spec hcg hs.tr hk with ⟨hw,hk⟩ | ⟨hw,hk⟩
    ·exact go hw hk
    ·obtain ⟨tm',z1,z2⟩:=putD_spec hcd hs (by simp [okV,okL]) hk
     rw [conc_undef] at z2
     refine (next tm' h nx r _ w z1 z2 (.refl r h w)).next fun b k cs hkd hb=>?_
     have:=stepR_op_skip (P:=P) (b:=b) (a:=a) (k:=k) (cs:=cs) (w:=w) (ops:=ops) (i:=i) (rest:=List.range' (i+1) n) (by rw [hoi]; simpa using hw)
     rw [hoi] at this
     exact this
  ·cases h1
def LoopWp (P:Program) (ro:Option Nat) (c:Code) (Q:Exit→Act→World→Prop) (a:Act) (w:World):Prop :=
 ∀ (b:Frame) (k:List Item) (cs:List Frame),(b.kind == CallKind.early)=false→b.roundOf=ro→∃ e a' w',Q e a' w'∧ArrivesIn (Machine.fenced P (Wr ro)) P (lone (b.atR a (.code c :: .inLoop c :: k)) cs w) b k cs e a' w'
theorem wp_of_loop {ro:Option Nat} {c:Code} {Q:Exit→Act→World→Prop} {a:Act} {w:World} (h:LoopWp P ro c Q a w):WpN P ro (.loop c) Q a w:=fun b k cs hk hb=>by
 obtain ⟨e,a',w',hq,harr⟩:=h b k cs hk hb
 exact ⟨e,a',w',hq,.of_steps (.one wr_calm stepR_loop) harr⟩
theorem loop_round {ro:Option Nat} {c:Code} {Q:Exit→Act→World→Prop} {a:Act} {w:World} (h:WpN P ro c (Exit.then (LoopWp P ro c Q) Q) a w):LoopWp P ro c Q a w:=fun b k cs hk hb=>by
 obtain ⟨e,a₁,w₁,hq,harr⟩:=h b (.inLoop c :: k) cs hk hb
 by_cases he:e=.normal
 ·subst he
  obtain ⟨e₂,a₂,w₂,hq₂,harr₂⟩:=hq b k cs hk hb
  exact ⟨e₂,a₂,w₂,hq₂,.of_steps (StepsIn.trans harr (.one wr_calm stepR_inLoop)) harr₂⟩
 ·refine ⟨e,a₁,w₁,?_,.pass (x:=.inLoop c) rfl (fun _ _=>.inl he) harr⟩
  cases e <;> first | exact hq | exact absurd rfl he
def noGoto (Q:Exit→Act→World→Prop):Exit→Act→World→Prop
 | .goto _,_,_=>False
 | e,a,w=>Q e a w
section
variable {b:Frame} {k:List Item} {cs:List Frame}
theorem step_scopeN {c:Code} {a:Act} {w:World}:step P (lone (b.atR a (.code (.scope c) :: k)) cs w)=.next (lone (b.atR a (.code c :: .inScope c :: k)) cs w):=step_lone_go (by simp [stepG,stepG.exec,Frame.atR])
theorem step_inScopeN {c:Code} {a:Act} {w:World}:step P (lone (b.atR a (.inScope c :: k)) cs w)=.next (lone (b.atR a k) cs w):=step_lone_go (by simp [stepG,stepG.exec,Frame.atR])
theorem scope_leave {ro:Option Nat} {m:Frame} {ms:List Frame} {mw:World} {c:Code} {Q:Exit→Act→World→Prop} {e:Exit} {a₁:Act} {w₁:World} (hq:noGoto Q e a₁ w₁)
  (harr:ArrivesIn (Machine.fenced P (Wr ro)) P (lone m ms mw) b (.inScope c :: k) cs e a₁ w₁):Q e a₁ w₁∧ArrivesIn (Machine.fenced P (Wr ro)) P (lone m ms mw) b k cs e a₁ w₁:=by
 cases e with
 | normal=>exact ⟨hq,StepsIn.trans harr (.one wr_calm step_inScopeN)⟩
 | exit id=>exact ⟨hq,fun k' hk=>harr.1 k' (by simp [exitTo,hk]),fun hr hk=>harr.2 hr (by simp [exitTo,hk])⟩
 | goto l=>exact hq.elim
 | ret=>exact ⟨hq,harr⟩
 | panic ch=>exact ⟨hq,harr⟩
 | outgrown=>exact ⟨hq,harr⟩
end
def jumpN (P:Program) (ro:Option Nat) (l:Nat) (rest:Code) (Q:Exit→Act→World→Prop):Exit→Act→World→Prop
 | .goto i,a,w=>i=l∧WpN P ro rest (noGoto Q) a w
 | e,a,w=>Q e a w
theorem wp_scope {ro:Option Nat} {c:Code} {Q:Exit→Act→World→Prop} {a:Act} {w:World} (h:WpN P ro c (noGoto Q) a w):WpN P ro (.scope c) Q a w:=by
 intro b k cs hk hb
 obtain ⟨e,a₁,w₁,hq,harr⟩:=h b (.inScope c :: k) cs hk hb
 obtain ⟨h1,h2⟩:=scope_leave hq harr
 exact ⟨e,a₁,w₁,h1,.of_steps (.one wr_calm step_scopeN) h2⟩
theorem wp_scopeL {ro:Option Nat} {c rest:Code} {l:Nat} (hf:findLabel c l=some rest) {Q:Exit→Act→World→Prop} {a:Act} {w:World} (h:WpN P ro c (jumpN P ro l rest Q) a w):WpN P ro (.scope c) Q a w:=by
 intro b k cs hk hb
 obtain ⟨e,a₁,w₁,hq,harr⟩:=h b (.inScope c :: k) cs hk hb
 have easy:noGoto Q e a₁ w₁→∃ e a' w',Q e a' w'∧ArrivesIn (Machine.fenced P (Wr ro)) P (lone (b.atR a (.code (.scope c) :: k)) cs w) b k cs e a' w':=fun hq=>by
  obtain ⟨h1,h2⟩:=scope_leave hq harr
  exact ⟨e,a₁,w₁,h1,.of_steps (.one wr_calm step_scopeN) h2⟩
 cases e with
 | goto i =>
  obtain ⟨rfl,hq⟩:=hq
  obtain ⟨e,a₂,w₂,hq,harr₂⟩:=hq b (.inScope c :: k) cs hk hb
  obtain ⟨h1,h2⟩:=scope_leave hq harr₂
  have hg:gotoIn i (.inScope c :: k)=some (.code rest :: .inScope c :: k):=by simp [gotoIn,hf]
  exact ⟨e,a₂,w₂,h1,.of_steps (StepsIn.head wr_calm step_scopeN (harr.1 _ hg)) h2⟩
 | normal=>exact easy hq
 | exit id=>exact easy hq
 | ret=>exact easy hq
 | panic ch=>exact easy hq
 | outgrown=>exact easy hq
theorem findLabel_size:∀ {c rest:Code} {l:Nat},findLabel c l=some rest→SizeOf.sizeOf rest≤SizeOf.sizeOf c
 | .seq a b,rest,l,h=>by
  rw [findLabel] at h
  split at h
  ·rename_i r hr
   cases h
   have:=findLabel_size hr
   simp only [Code.seq.sizeOf_spec]; omega
  ·have:=findLabel_size h
   simp only [Code.seq.sizeOf_spec]; omega
 | .label i,rest,l,h=>by
  rw [findLabel] at h
  split at h
  ·cases h
   simp
  ·cases h
 | .skip,_,_,h | .region _ _ _,_,_,h | .cond _ _ _,_,_,h | .block _ _,_,_,h | .loop _,_,_,h | .exit _,_,_,h | .ret,_,_,h | .rangeFunc _ _ _ _,_,_,h | .scope _,_,_,h | .goto _,_,_,h | .refuse _,_,_,h=>by simp [findLabel] at h
theorem behindL_spec {m:Nat}:∀ {c:Code} {ac:AC} {l:Nat},compC P m c=some ac→(behindL ac l=none→findLabel c l=none)∧∀ r,behindL ac l=some r→∃ rest,findLabel c l=some rest∧compC P m rest=some r
 | .seq a b,ac,l,h=>by
  simp only [compC] at h
  split at h
  ·rename_i a' b' ha hb
   cases h
   have A:=behindL_spec (l:=l) ha
   have B:=behindL_spec (l:=l) hb
   rw [behindL,findLabel]
   cases h1:behindL a' l with
   | some r =>
    obtain ⟨rest,h2,h3⟩:=A.2 r h1
    rw [h2]
    exact ⟨fun e=>(by cases e),fun q hq=>by cases hq; exact ⟨_,rfl,by simp only [compC,h3,hb]⟩⟩
   | none =>
    rw [A.1 h1]
    exact B
  ·cases h
 | .label i,ac,l,h=>by
  simp only [compC] at h
  cases h
  rw [behindL,findLabel]
  by_cases e:(i == l)=true
  ·rw [if_pos e,if_pos e]
   exact ⟨fun e=>(by cases e),fun q hq=>by cases hq; exact ⟨_,rfl,rfl⟩⟩
  ·rw [if_neg e,if_neg e]
   exact ⟨fun _=>rfl,fun q hq=>by cases hq⟩
 | .skip,ac,l,h | .exit _,ac,l,h | .ret,ac,l,h | .goto _,ac,l,h=>by
  simp only [compC] at h
  cases h
  exact ⟨fun _=>rfl,fun q hq=>by cases hq⟩
 | .region _ ops d,ac,l,h=>by
  have key:∀ q,behindL ac l≠some q:=fun q hq=>by
   cases d with
   | false =>
    simp only [compC] at h
    split at h
    ·rename_i x _
     cases h1:anyC x <;> cases h2:allP x <;> rw [h1] at h <;> (try rw [h2] at h) <;> simp at h <;> subst h <;> cases hq
    ·cases h
   | true =>
    simp only [compC] at h
    split at h
    ·cases h; cases hq
    ·unfold plan2 at h
     repeat' split at h
     all_goals first
      | (cases h; cases hq)
      | cases h
  exact ⟨fun _=>rfl,fun q hq=>(key q hq).elim⟩
 | .cond _ _ _,ac,l,h | .block _ _,ac,l,h | .loop _,ac,l,h | .rangeFunc _ _ _ _,ac,l,h=>by
  simp only [compC] at h
  split at h
  ·cases h
   exact ⟨fun _=>rfl,fun q hq=>by cases hq⟩
  ·cases h
 | .scope _,ac,l,h=>by
  simp only [compC] at h
  split at h
  ·cases h
   unfold scopeA
   split
   ·split <;> exact ⟨fun _=>rfl,fun q hq=>by cases hq⟩
   ·exact ⟨fun _=>rfl,fun q hq=>by cases hq⟩
  ·cases h
 | .refuse _,ac,l,h=>by simp [compC] at h
theorem loop_sound {ch:CH} {c:Code} {d:D} (hd:Dok P w0 F ch c d):∀ (n:Nat) (tm:S) (h:T AO) (nx:Pt) (K:EK4) (a:Act) (w:World) (r:Rho) (Q:Exit→Act→World→Prop),
  loopN d ch n tm h nx K→St P w0 F ch r tm h nx a w→Good P w0 F ch r h w K Q→GoodP P w0 F ch r h w Q→LoopWp P F.ro c Q a w
 | 0,_,_,_,_,_,_,_,_,hk,_,_,_=>hk.elim
 | n+1,tm,h,nx,K,a,w,r,Q,hk,hs,hg,hp=>by
  refine loop_round (hd tm h nx _ a w r _ hk hs (fun e tm' h' nx' r' a' w' k1 k2 k3=>?_) fun u tm' h' nx' r' a' w' k1 k2 k3 k4=>hp u tm' h' nx' r' a' w' k1 k2 k3 k4)
  cases e with
  | nrm=>exact loop_sound hd n tm' h' nx' K a' w' r' Q k1 k2 (hg.ev k3) (hp.ev k3)
  | goto l=>exact hg _ _ _ _ _ _ _ k1 k2 k3
  | exit id=>exact hg _ _ _ _ _ _ _ k1 k2 k3
  | ret=>exact hg _ _ _ _ _ _ _ k1 k2 k3
theorem den_soundN (hm:P.follows .mixedOrders=true) (m:Nat):∀ (n:Nat) (c:Code),SizeOf.sizeOf c<n→∀ (ac:AC),compC P m c=some ac→∀ (F:FR) (ch:CH),F.m=m→CHok P w0 ch.call→Dok P w0 F ch c (den ac):=by
 intro n
 induction n with
 | zero=>intro c hlt; omega
 | succ n IH =>
 intro c hlt
 cases c with
 | skip =>
  intro ac hc F ch hF hch tm h nx K a w r Q hk hs hg hp
  simp only [compC] at hc; cases hc
  exact WpN.of (wpIn_skip (hg .nrm tm h nx r a w hk hs (.refl r h w)))
 | region id ops draw =>
  intro ac hc F ch hF hch tm h nx K a w r Q hk hs hg hp
  cases draw with
  | true =>
   simp only [compC] at hc
   split at hc
   ·rename_i l hl
    cases hc
    exact draw_sound hch hm (plan_ok (hF ▸ hl)) id tm h nx K a w r Q hk hs hg hp
   ·exact draw2_sound hch hm (hF ▸ hc) id tm h nx K a w r Q hk hs hg hp
  | false =>
   simp only [compC] at hc
   split at hc
   ·rename_i l hl
    cases hany:anyC l with
    | false =>
     rw [hany] at hc
     cases hc
     refine WpN.of (wpIn_region ?_)
     rw [List.range_eq_range']
     exact ops_sound hch ops.size 0 l r tm h nx a w _ (by omega) (by rw [hF]; simpa using hl) hany hs hk (fun tm' h' nx' r' a' w' k1 k2 k3=>hg .nrm tm' h' nx' r' a' w' k1 k2 k3) hp
    | true =>
     rw [hany] at hc
     cases hall:allP l with
     | false=>rw [hall] at hc; cases hc
     | true =>
      rw [hall] at hc
      cases hc
      refine region_N ?_
      rw [List.range_eq_range']
      exact opsC_sound ops.size 0 l r tm h nx a w _ (by omega) (by rw [hF]; simpa using hl) hall hs hk fun tm' h' nx' r' a' w' k1 k2 k3=>hg .nrm tm' h' nx' r' a' w' k1 k2 k3
   ·cases hc
 | seq x y =>
  have ihx:=IH x (by simp only [Code.seq.sizeOf_spec] at hlt; omega)
  have ihy:=IH y (by simp only [Code.seq.sizeOf_spec] at hlt; omega)
  intro ac hc F ch hF hch tm h nx K a w r Q hk hs hg hp
  simp only [compC] at hc
  split at hc
  ·rename_i x' y' hx hy
   cases hc
   refine WpN.seq (ihx x' hx F ch hF hch tm h nx _ a w r _ hk hs (fun e tm' h' nx' r' a' w' k1 k2 k3=>?_) fun u tm' h' nx' r' a' w' k1 k2 k3 k4=>hp u tm' h' nx' r' a' w' k1 k2 k3 k4)
   cases e with
   | nrm=>exact ihy y' hy F ch hF hch tm' h' nx' K a' w' r' Q k1 k2 (hg.ev k3) (hp.ev k3)
   | goto l=>exact hg _ _ _ _ _ _ _ k1 k2 k3
   | exit id=>exact hg _ _ _ _ _ _ _ k1 k2 k3
   | ret=>exact hg _ _ _ _ _ _ _ k1 k2 k3
  ·cases hc
 | cond c x y =>
  have ihx:=IH x (by simp only [Code.cond.sizeOf_spec] at hlt; omega)
  have ihy:=IH y (by simp only [Code.cond.sizeOf_spec] at hlt; omega)
  intro ac hc F ch hF hch tm h nx K a w r Q hk hs hg hp
  simp only [compC] at hc
  split at hc
  ·rename_i c' x' y' hcx hx hy
   cases hc
   have hk:evK tm c' fun v=>match v with
    | .bool x=>Bool.rec (motive:=fun _=>Prop) (den y' ch tm h nx K) (den x' ch tm h nx K) x
    | _=>False:=hk
   obtain ⟨v,k1,k2,k3⟩:=evK_spec (cx_spec hcx) hs.tr hk
   split at k1
   ·rename_i b
    cases b with
    | true=>exact WpN.cond (t:=true) (by rw [k2]; simp [conc]) (ihx x' hx F ch hF hch tm h nx K a w r Q k1 hs hg hp)
    | false=>exact WpN.cond (t:=false) (by rw [k2]; simp [conc]) (ihy y' hy F ch hF hch tm h nx K a w r Q k1 hs hg hp)
   ·exact k1.elim
  ·cases hc
 | block id b =>
  have ih:=IH b (by simp only [Code.block.sizeOf_spec] at hlt; omega)
  intro ac hc F ch hF hch tm h nx K a w r Q hk hs hg hp
  simp only [compC] at hc
  split at hc
  ·rename_i b' hb
   cases hc
   refine WpN.block (ih b' hb F ch hF hch tm h nx _ a w r _ hk hs (fun e tm' h' nx' r' a' w' k1 k2 k3=>?_) fun u tm' h' nx' r' a' w' k1 k2 k3 k4=>hp u tm' h' nx' r' a' w' k1 k2 k3 k4)
   cases e with
   | nrm=>exact hg .nrm _ _ _ _ _ _ k1 k2 k3
   | ret=>exact hg .ret _ _ _ _ _ _ k1 k2 k3
   | goto l=>exact hg (.goto l) _ _ _ _ _ _ k1 k2 k3
   | exit i =>
    simp only [toExit,Exit.inBlock]
    have k1:Bool.rec (motive:=fun _=>Prop) (K (.exit i) tm' h' nx') (K .nrm tm' h' nx') (Nat.beq i id):=k1
    cases hb:Nat.beq i id with
    | true =>
     rw [hb] at k1
     rw [if_pos (Nat.eq_of_beq_eq_true hb)]
     exact hg .nrm _ _ _ _ _ _ k1 k2 k3
    | false =>
     rw [hb] at k1
     rw [if_neg (fun e=>by rw [e,Nat.beq_refl] at hb; cases hb)]
     exact hg (.exit i) _ _ _ _ _ _ k1 k2 k3
  ·cases hc
 | loop b =>
  have ih:=IH b (by simp only [Code.loop.sizeOf_spec] at hlt; omega)
  intro ac hc F ch hF hch tm h nx K a w r Q hk hs hg hp
  simp only [compC] at hc
  split at hc
  ·rename_i b' hb
   cases hc
   exact wp_of_loop (loop_sound (ih b' hb F ch hF hch) 1000000 tm h nx K a w r Q hk hs hg hp)
  ·cases hc
 | exit id =>
  intro ac hc F ch hF hch tm h nx K a w r Q hk hs hg hp
  simp only [compC] at hc; cases hc
  exact WpN.of (wpIn_exit (hg (.exit id) tm h nx r a w hk hs (.refl r h w)))
 | ret =>
  intro ac hc F ch hF hch tm h nx K a w r Q hk hs hg hp
  simp only [compC] at hc; cases hc
  exact WpN.of (wpIn_ret (hg .ret tm h nx r a w hk hs (.refl r h w)))
 | rangeFunc g ps x y =>
  have ihx:=IH x (by simp only [Code.rangeFunc.sizeOf_spec] at hlt; omega)
  have ihy:=IH y (by simp only [Code.rangeFunc.sizeOf_spec] at hlt; omega)
  intro ac hc F ch hF hch tm h nx K a w r Q hk hs hg hp
  simp only [compC] at hc
  split at hc
  ·rename_i g' ps' x' y' hg' hps hx hy
   cases hc
   exact range_sound hF hch (cx_spec hg') hps (ihx x' hx) (ihy y' hy) tm h nx K a w r Q hk hs hg hp
  ·cases hc
 | scope b =>
  intro ac hc F ch hF hch tm h nx K a w r Q hk hs hg hp
  simp only [compC] at hc
  split at hc
  ·rename_i b' hb
   cases hc
   have hlt':SizeOf.sizeOf b<n:=by simp only [Code.scope.sizeOf_spec] at hlt; omega
   have ih:=IH b hlt' b' hb F ch hF hch
   have plain:den (.scope0 b') ch tm h nx K→WpN P F.ro (.scope b) Q a w:=fun hk=>by
    refine wp_scope (ih tm h nx (inK K) a w r _ hk hs (fun e tm' h' nx' r' a' w' k1 k2 k3=>?_) fun u tm' h' nx' r' a' w' k1 k2 k3 k4=>hp u tm' h' nx' r' a' w' k1 k2 k3 k4)
    cases e with
    | goto l=>exact k1.elim
    | nrm=>exact hg .nrm _ _ _ _ _ _ k1 k2 k3
    | exit id=>exact hg (.exit id) _ _ _ _ _ _ k1 k2 k3
    | ret=>exact hg .ret _ _ _ _ _ _ k1 k2 k3
   unfold scopeA at hk
   split at hk
   ·rename_i l hl
    split at hk
    ·rename_i q hq
     obtain ⟨rest,hf,hcr⟩:=(behindL_spec hb).2 q hq
     have ihr:=IH rest (Nat.lt_of_le_of_lt (findLabel_size hf) hlt') q hcr F ch hF hch
     refine wp_scopeL hf (ih tm h nx (scopeK l (den q) ch K) a w r _ hk hs (fun e tm' h' nx' r' a' w' k1 k2 k3=>?_) fun u tm' h' nx' r' a' w' k1 k2 k3 k4=>hp u tm' h' nx' r' a' w' k1 k2 k3 k4)
     cases e with
     | goto i =>
      have k1:Bool.rec (motive:=fun _=>Prop) False (den q ch tm' h' nx' (inK K)) (Nat.beq i l):=k1
      obtain ⟨hil,k1⟩:=brec k1
      refine ⟨Nat.eq_of_beq_eq_true hil,ihr tm' h' nx' (inK K) a' w' r' _ k1 k2 (fun e tm' h' nx' r' a' w' k4 k5 k6=>?_) fun u tm' h' nx' r' a' w' k4 k5 k6 k7=>hp.ev k3 u tm' h' nx' r' a' w' k4 k5 k6 k7⟩
      cases e with
      | goto l=>exact k4.elim
      | nrm=>exact hg .nrm _ _ _ _ _ _ k4 k5 (k3.trans k6)
      | exit id=>exact hg (.exit id) _ _ _ _ _ _ k4 k5 (k3.trans k6)
      | ret=>exact hg .ret _ _ _ _ _ _ k4 k5 (k3.trans k6)
     | nrm=>exact hg .nrm _ _ _ _ _ _ k1 k2 k3
     | exit id=>exact hg (.exit id) _ _ _ _ _ _ k1 k2 k3
     | ret=>exact hg .ret _ _ _ _ _ _ k1 k2 k3
    ·exact plain hk
   ·exact plain hk
  ·cases hc
 | label l =>
  intro ac hc F ch hF hch tm h nx K a w r Q hk hs hg hp
  simp only [compC] at hc; cases hc
  exact WpN.of (wpIn_label (hg .nrm tm h nx r a w hk hs (.refl r h w)))
 | goto l =>
  intro ac hc F ch hF hch tm h nx K a w r Q hk hs hg hp
  simp only [compC] at hc; cases hc
  exact WpN.of (wpIn_goto (hg (.goto l) tm h nx r a w hk hs (.refl r h w)))
 | refuse=>intro ac hc; simp [compC] at hc
theorem den_sound (hm:P.follows .mixedOrders=true) (m:Nat) (c:Code) (ac:AC) (hc:compC P m c=some ac):∀ (F:FR) (ch:CH),F.m=m→CHok P w0 ch.call→Dok P w0 F ch c (den ac) :=
 den_soundN hm m (SizeOf.sizeOf c+1) c (Nat.lt_succ_self _) ac hc
theorem FunOk.sem {f:Nat} {af:AF} (hm:P.follows .mixedOrders=true) (hf:FunOk P f af):FunSem P f af :=
 fun _ ch hcur hch _ _ _ _ _ _ _ hk hE H ha hR hP=>call_sound hcur hf (fun F c ac hc=>den_sound hm F.m c ac hc F ch rfl hch) hE H ha hk hR hP
theorem call_ok {funs:T AF} (hf:FunsOk P funs):∀ n,CHok P w0 (callP funs n)
 | 0=>fun _ _ _ _ _ _ _ _ _ _ hk=>hk.elim
 | n+1=>fun loops p args h nx K Kp r w R hk hE H ha hR hP=>by
  obtain ⟨af,haf,hk⟩:=(T.getK_iff _ _ _).1 hk
  exact hf p af haf w0 ⟨callP funs n,none,loops,fun _=>Kp⟩ rfl (call_ok hf n) args h nx K r w R hk hE H ha hR fun _=>hP
theorem run_sound {funs:T AF} (hf:FunsOk P funs) {n:Nat} {p:Pt} {args:List AV} {R:Ending→World→Prop} (w:World) (xs:Array Value) (hx:(∀ r,concL r args=xs.toList)∧∀ n,okL n args) {K:AV→T AO→Pt→Prop}
  (hk:callN funs n .l p args .l .e K) (hR:∀ v h nx r w',K v h nx→WR P w r h nx w'→okV r.has v→R (.returned (conc r v)) w') (hG:GW w:=by trivial):Calls P p.toNat xs w R:=by
 have L:Loop:={ state:=.ready,pending:=none,fn:=0,tmps:=#[],params:=#[],assign:=.skip,body:=.skip,defers:=0 }
 have H:WR P w ⟨fun _=>False,fun _=>False,fun _=>0,fun _=>0,fun _=>L⟩ .l .e w:=⟨fun _ e=>e.elim (fun e=>e.elim) (fun e=>e.elim),fun _ e=>e.elim,Below.refl _ _,fun k o hk=>(by rw [T.find_l] at hk; cases hk),fun j k oj ok hj=>(by rw [T.find_l] at hj; cases hj)⟩
 have:=(call_ok hf n .l p args .l .e K noP ⟨fun _=>False,fun _=>False,fun _=>0,fun _=>0,fun _=>L⟩ w R hk ⟨hG,fun k rs hk=>(by rw [T.find_l] at hk; cases hk)⟩ H (hx.2 _) (fun v h' nx' r' w' c1 c2 c3 c4=>hR v h' nx' r' w' c1 c2 c4) fun _ _ _ _ _ hh=>hh.elim).2
 rw [hx.1] at this
 simpa using this
end
end Go.Proofs.YtidggaoacldgkaaGreatDoor.X

/- An executor for closed calls, 28: a table of functions. -/
namespace Go.Proofs.YtidggaoacldgkaaGreatDoor.X
def compF (P:Program) (f:Nat):Option AF:=match P.funcs[f]? with
 | none=>none
 | some fn=>match fn.name == "runtime.NumGoroutine" with
  | true=>none
  | false=>match fn.body with
   | none=>none
   | some c=>match compC P fn.ntmps c with
    | none=>none
    | some ac=>match mapO (compR P) fn.results.toList with
     | none=>none
     | some rs=>some ⟨den ac,rs⟩
theorem FunOk.of {P:Program} {f:Nat} {af:AF} (h:compF P f=some af):FunOk P f af:=by
 unfold compF at h
 split at h
 ·cases h
 ·rename_i fn hfn
  split at h
  ·cases h
  ·rename_i hname
   split at h
   ·cases h
   ·rename_i c hc
    split at h
    ·cases h
    ·rename_i ac hac
     split at h
     ·cases h
     ·rename_i rs hrs
      cases h
      exact ⟨fn,c,hfn,hname,hc,⟨ac,hac,rfl⟩,hrs⟩
theorem FunSem.of {P:Program} {f:Nat} {af:AF} (hm:P.follows .mixedOrders=true) (h:compF P f=some af):FunSem P f af:=(FunOk.of h).sem hm
theorem okF {P:Program} {f:Nat} {g:Ops→AF} (h:FunSem P f (g slowO)):FunSem P f (g fastO):=Eq.mp (congrArg (fun o=>FunSem P f (g o)) fast_slow) h
def TabOk (P:Program) (s:Pt→Pt) (t:T AF):Prop:=∀ p af,t.find p=some af→FunSem P (s p).toNat af
theorem TabOk.l {P:Program} {s:Pt→Pt}:TabOk P s .l:=fun p af h=>by rw [T.find_l] at h; cases h
theorem TabOk.m {P:Program} {s:Pt→Pt} {a b:T AF} (ha:TabOk P (fun p=>s (.z p)) a) (hb:TabOk P (fun p=>s (.o p)) b):TabOk P s (.m a b):=fun p af h=>by
 cases p with
 | e=>cases h
 | z p=>exact ha p af h
 | o p=>exact hb p af h
theorem TabOk.n {P:Program} {s:Pt→Pt} {a b:T AF} {v:AF} (hv:FunSem P (s .e).toNat v) (ha:TabOk P (fun p=>s (.z p)) a) (hb:TabOk P (fun p=>s (.o p)) b):TabOk P s (.n a v b):=fun p af h=>by
 cases p with
 | e=>cases h; exact hv
 | z p=>exact ha p af h
 | o p=>exact hb p af h
theorem TabOk.funs {P:Program} {t:T AF} (h:TabOk P (fun p=>p) t):FunsOk P t:=h
end Go.Proofs.YtidggaoacldgkaaGreatDoor.X
