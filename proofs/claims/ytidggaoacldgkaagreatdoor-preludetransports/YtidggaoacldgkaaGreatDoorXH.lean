/- An executor for closed calls, 8: the operations of numbers, truths and texts are right. -/
import Derived.Test.YtidggaoacldgkaaGreatDoorXG
namespace Go.Proofs.YtidggaoacldgkaaGreatDoor.X
open Go.RowKit
theorem eqI_spec (a b:Int):eqI a b=(a == b):=by
  rw [Bool.eq_iff_iff]
  cases a with
  | ofNat x =>
    cases b with
    | ofNat y=>simp only [eqI,Nat.beq_eq,beq_iff_eq]; exact ⟨fun e=>e ▸ rfl,fun e=>Int.ofNat.inj e⟩
    | negSucc y=>simp only [eqI,beq_iff_eq]; exact ⟨fun e=>(by cases e),fun e=>(by cases e)⟩
  | negSucc x =>
    cases b with
    | ofNat y=>simp only [eqI,beq_iff_eq]; exact ⟨fun e=>(by cases e),fun e=>(by cases e)⟩
    | negSucc y=>simp only [eqI,Nat.beq_eq,beq_iff_eq]; exact ⟨fun e=>e ▸ rfl,fun e=>Int.negSucc.inj e⟩
theorem ltI_spec (a b:Int):ltI a b=decide (a<b):=by
  rw [Bool.eq_iff_iff]
  cases a with
  | ofNat x =>
    cases b with
    | ofNat y=>simp only [ltI,Nat.blt_eq,decide_eq_true_eq,Int.ofNat_eq_natCast]; omega
    | negSucc y=>simp only [ltI,decide_eq_true_eq,Int.ofNat_eq_natCast]; constructor <;> intro e <;> first | cases e | omega
  | negSucc x =>
    cases b with
    | ofNat y=>simp only [ltI,decide_eq_true_eq,Int.ofNat_eq_natCast,true_iff]; omega
    | negSucc y=>simp only [ltI,Nat.blt_eq,decide_eq_true_eq]; omega
theorem wrapK_spec {k:IntKind} {n:Int} {c:AV→Prop} (h:wrapK k n c):c (.int k (k.wrap n)):=by
  unfold wrapK at h
  split at h
  · rename_i m
    cases hb:Nat.blt m 9223372036854775808 with
    | false=>rw [hb] at h; exact (forceI_iff _ (fun n=>c (.int .i64 n))).1 h
    | true =>
      rw [hb] at h
      have hl:m<9223372036854775808:=by simpa [Nat.blt_eq] using hb
      have e:IntKind.i64.wrap (Int.ofNat m)=Int.ofNat m:=by
        have e1:(Int.ofNat m) % (2 ^ 64:Int)=Int.ofNat m:=Int.emod_eq_of_lt (by simp) (by simp; omega)
        have e2:¬ ((Int.ofNat m:Int)≥(2 ^ 63:Int)):=by simp; omega
        show (if (IntKind.i64.signed&&decide ((Int.ofNat m) % (2 ^ 64:Int)≥(2 ^ 63:Int)))=true then (Int.ofNat m) % (2 ^ 64:Int) - (2 ^ 64:Int) else (Int.ofNat m) % (2 ^ 64:Int))=_
        rw [e1]
        simp only [e2,decide_false,Bool.and_false,Bool.false_eq_true,if_false]
      rw [e]
      exact (forceN_iff m (fun m=>c (.int .i64 (.ofNat m)))).1 h
  · exact (forceI_iff _ (fun n=>c (.int _ n))).1 h
theorem semV_spec {s:Sem Value} {c:AV→Prop} (h:semV s c):∃ v,c v∧(∀ r,s=.pure (conc r v))∧∀ n,okV n v:=by
  unfold semV at h
  split at h
  · rename_i k n
    exact ⟨_,(forceI_iff n (fun n=>c (.int k n))).1 h,fun r=>by simp only [conc],fun _=>by simp [okV]⟩
  · rename_i b
    exact ⟨_,(forceB_iff b (fun b=>c (.bool b))).1 h,fun r=>by simp only [conc],fun _=>by simp [okV]⟩
  · exact h.elim
theorem drec {k k':IntKind} {p:Prop} (h:Bool.rec (motive:=fun _=>Prop) False p (decide (k=k'))):k=k'∧p:=by
  cases hb:decide (k=k') with
  | false=>rw [hb] at h; exact h.elim
  | true=>rw [hb] at h; exact ⟨of_decide_eq_true hb,h⟩
theorem arI_spec {op:BinOp} {t:TypeId} {k k':IntKind} {a b:Int} {c:AV→Prop} (h:arI op k k' a b c):∃ v,c v∧(∀ r,binOp op t (.int k a) (.int k' b)=.pure (conc r v))∧∀ n,okV n v:=by
  cases op <;> simp only [arI] at h
  case shl=>obtain ⟨v,h1,h2,h3⟩:=semV_spec h; exact ⟨v,h1,h2,h3⟩
  case shr=>obtain ⟨v,h1,h2,h3⟩:=semV_spec h; exact ⟨v,h1,h2,h3⟩
  all_goals
    obtain ⟨hk,h2⟩:=drec h
    subst hk
    clear h
    have h:=h2
    clear h2
  case add=>exact ⟨_,wrapK_spec h,fun r=>by simp only [binOp,conc]; rw [if_neg (by simp)]; rfl,fun _=>by simp [okV]⟩
  case sub=>exact ⟨_,wrapK_spec h,fun r=>by simp only [binOp,conc]; rw [if_neg (by simp)]; rfl,fun _=>by simp [okV]⟩
  case mul=>exact ⟨_,wrapK_spec h,fun r=>by simp only [binOp,conc]; rw [if_neg (by simp)]; rfl,fun _=>by simp [okV]⟩
  case eql =>
    rw [forceB_iff] at h
    exact ⟨_,h,fun r=>by simp only [binOp,conc]; rw [if_neg (by simp)]; simp only [Op.intCmp,eqI_spec]; rfl,fun _=>by simp [okV]⟩
  case neq =>
    rw [forceB_iff] at h
    exact ⟨_,h,fun r=>by simp only [binOp,conc]; rw [if_neg (by simp)]; simp only [Op.intCmp,eqI_spec,bne]; rfl,fun _=>by simp [okV]⟩
  case lss =>
    rw [forceB_iff] at h
    exact ⟨_,h,fun r=>by simp only [binOp,conc]; rw [if_neg (by simp)]; simp only [Op.intCmp,ltI_spec]; rfl,fun _=>by simp [okV]⟩
  case leq =>
    rw [forceB_iff] at h
    exact ⟨_,h,fun r=>by simp only [binOp,conc]; rw [if_neg (by simp)]; simp only [Op.intCmp,ltI_spec,← decide_not,Int.not_lt]; rfl,fun _=>by simp [okV]⟩
  case gtr =>
    rw [forceB_iff] at h
    exact ⟨_,h,fun r=>by simp only [binOp,conc]; rw [if_neg (by simp)]; simp only [Op.intCmp,ltI_spec]; rfl,fun _=>by simp [okV]⟩
  case geq =>
    rw [forceB_iff] at h
    exact ⟨_,h,fun r=>by simp only [binOp,conc]; rw [if_neg (by simp)]; simp only [Op.intCmp,ltI_spec,← decide_not,Int.not_lt]; rfl,fun _=>by simp [okV]⟩
  all_goals
    obtain ⟨v,h1,h2,h3⟩:=semV_spec h
    exact ⟨v,h1,fun r=>by simp only [binOp]; rw [if_neg (by simp)]; exact h2 r,h3⟩
theorem toList_loop (b:ByteArray):∀ (k i:Nat) (r:List UInt8),b.size - i=k→ByteArray.toList.loop b i r=r.reverse ++ b.data.toList.drop i
  | 0,i,r,h=>by
    rw [ByteArray.toList.loop,if_neg (by omega),List.drop_eq_nil_of_le (by rw [Array.length_toList]; show b.size≤i; omega),List.append_nil]
  | k+1,i,r,h=>by
    have hi:i<b.size:=by omega
    have hi':i<b.data.toList.length:=by rw [Array.length_toList]; exact hi
    rw [ByteArray.toList.loop,if_pos hi,toList_loop b k (i+1) _ (by omega),List.reverse_cons,List.append_assoc,List.drop_eq_getElem_cons hi']
    have e:b.get! i=b.data.toList[i]:=by
      cases b with
      | mk d=>simp only [ByteArray.get!]; rw [Array.getElem_toList]; exact getElem!_pos d i hi
    rw [e]
    rfl
theorem toList_data (b:ByteArray):b.toList=b.data.toList:=by
  rw [ByteArray.toList,toList_loop b _ 0 [] rfl]
  rfl
theorem bytes_toList (s:List Nat):(bytesOf s).toList=s.map UInt8.ofNat:=by
  rw [toList_data]; simp [bytesOf]
theorem bytes_size (s:List Nat):(bytesOf s).size=s.length:=by
  show (bytesOf s).data.size=_
  simp [bytesOf]
theorem u8_inj {a b:Nat} (ha:a<256) (hb:b<256) (h:UInt8.ofNat a=UInt8.ofNat b):a=b:=by
  have:=congrArg UInt8.toNat h
  simp [UInt8.toNat_ofNat'] at this
  omega
theorem eqN_spec:∀ {a b:List Nat},(∀ x ∈ a,x<256)→(∀ x ∈ b,x<256)→eqN a b=(a.map UInt8.ofNat == b.map UInt8.ofNat)
  | [],[],_,_=>rfl
  | [],_ :: _,_,_=>rfl
  | _ :: _,[],_,_=>rfl
  | x :: a,y :: b,ha,hb=>by
    rw [eqN,eqN_spec (fun z hz=>ha z (List.mem_cons_of_mem _ hz)) (fun z hz=>hb z (List.mem_cons_of_mem _ hz))]
    show _=((UInt8.ofNat x == UInt8.ofNat y)&&(a.map UInt8.ofNat == b.map UInt8.ofNat))
    congr 1
    rw [Bool.eq_iff_iff,Nat.beq_eq,beq_iff_eq]
    exact ⟨fun e=>e ▸ rfl,u8_inj (ha x (List.mem_cons_self ..)) (hb y (List.mem_cons_self ..))⟩
theorem ltN_spec:∀ {a b:List Nat},(∀ x ∈ a,x<256)→(∀ x ∈ b,x<256)→ltN a b=Op.bytesLess (a.map UInt8.ofNat) (b.map UInt8.ofNat)
  | [],[],_,_=>rfl
  | [],_ :: _,_,_=>rfl
  | _ :: _,[],_,_=>rfl
  | x :: a,y :: b,ha,hb=>by
    have hx:=ha x (List.mem_cons_self ..)
    have hy:=hb y (List.mem_cons_self ..)
    rw [ltN,ltN_spec (fun z hz=>ha z (List.mem_cons_of_mem _ hz)) (fun z hz=>hb z (List.mem_cons_of_mem _ hz)),List.map_cons,List.map_cons,Op.bytesLess]
    congr 1
    · rw [Bool.eq_iff_iff,Nat.blt_eq,decide_eq_true_eq,UInt8.lt_iff_toNat_lt]
      simp [UInt8.toNat_ofNat']; omega
    · congr 1
      rw [Bool.eq_iff_iff,Nat.beq_eq,beq_iff_eq]
      exact ⟨fun e=>e ▸ rfl,u8_inj hx hy⟩
theorem bytes_append (a b:List Nat):bytesOf a ++ bytesOf b=bytesOf (a ++ b):=by
  apply ByteArray.ext
  rw [ByteArray.data_append]
  simp [bytesOf]
theorem arS_spec {op:BinOp} {t:TypeId} {a b:List Nat} {c:AV→Prop} (ha:∀ x ∈ a,x<256) (hb:∀ x ∈ b,x<256) (h:arS op a b c):∃ v,c v∧(∀ r,binOp op t (.string (bytesOf a)) (.string (bytesOf b))=.pure (conc r v))∧∀ n,okV n v:=by
  cases op <;> simp only [arS] at h
  case add =>
    obtain ⟨hl,h⟩:=brec h
    rw [forceL_iff] at h
    have hl:=Nat.le_of_ble_eq_true hl
    refine ⟨_,h,fun r=>?_,fun n=>?_⟩
    · simp only [binOp,Op.stringOp,conc,bytes_size]
      rw [if_neg (by have:IntKind.i64.max=9223372036854775807:=rfl; rw [this]; omega),bytes_append]; rfl
    · simp only [okV,List.mem_append]
      exact fun x hx=>hx.elim (ha x) (hb x)
  case eql =>
    rw [forceB_iff] at h
    exact ⟨_,h,fun r=>by simp only [binOp,Op.stringOp,conc,bytes_toList,eqN_spec ha hb]; rfl,fun _=>by simp [okV]⟩
  case neq =>
    rw [forceB_iff] at h
    exact ⟨_,h,fun r=>by simp only [binOp,Op.stringOp,conc,bytes_toList,eqN_spec ha hb]; rfl,fun _=>by simp [okV]⟩
  case lss =>
    rw [forceB_iff] at h
    exact ⟨_,h,fun r=>by simp only [binOp,Op.stringOp,conc,bytes_toList,ltN_spec ha hb]; rfl,fun _=>by simp [okV]⟩
section
variable {P:Program} {w0:World} {r:Rho} {h:T AO} {nx:Pt} {w:World} {K:AV→T AO→Pt→Prop} {tm:S} {a:Act} {o:Oper}
theorem run_eqGuard {op:BinOp} {t:TypeId} {x y:Operand} {u v:Value} (h1:∀ cs,u≠.agg cs) (h2:u≠.nilIface∨isConst x∨isConst y):(eqGuard op t x y u v).run P w=.ok () w:=by
  unfold eqGuard
  have key:∀ (b:Bool) (s:Sem Unit),s.run P w=.ok () w→(if b=true then (pure ():Sem Unit) else s).run P w=.ok () w:=by
    intro b s hs; split
    · rfl
    · exact hs
  refine key _ _ ?_
  cases u <;> first
    | rfl
    | exact absurd rfl (h1 _)
    | (cases v <;> first
        | rfl
        | (rcases h2 with h2 | h2 | h2
           · exact absurd rfl h2
           · cases x <;> first | exact h2.elim | rfl
           · cases y <;> first | exact h2.elim | (cases x <;> rfl)))
theorem s_ar (H:WR P w0 r h nx w) (ht:TR r tm a.tmps) {op:BinOp} {t u:TypeId} {x y:Operand} {x' y':AX} (hx:Cx x x') (hy:Cx y y') (hop:o.op=.binOp op t x y u) (hk:stepV (.ar op x' y') tm h nx K):Yields P w0 r h w (execOp a.eval o) K:=by
  simp only [stepV,oAr] at hk
  obtain ⟨v,h1,h2,h3⟩:=evK_spec hx ht hk
  obtain ⟨v',h1,h4,h5⟩:=evK_spec hy ht h1
  simp only [execOp,hop]
  split at h1
  · obtain ⟨z,g1,g2,g3⟩:=arI_spec (t:=t) h1
    refine Yields.pureV H g1 ?_ (g3 _)
    rw [h2,h4]
    simp only [conc]
    rw [run_ok_bind (run_eqGuard (by simp) (.inl (by simp))),g2 r]; rfl
  · simp only [okV] at h3 h5
    obtain ⟨z,g1,g2,g3⟩:=arS_spec (t:=t) h3 h5 h1
    refine Yields.pureV H g1 ?_ (g3 _)
    rw [h2,h4]
    simp only [conc]
    rw [run_ok_bind (run_eqGuard (by simp) (.inl (by simp))),g2 r]; rfl
  · exact h1.elim
theorem s_un (H:WR P w0 r h nx w) (ht:TR r tm a.tmps) {op:UnOp} {t:TypeId} {x:Operand} {x':AX} (hx:Cx x x') (hop:o.op=.unOp op t x) (hk:stepV (.un op x') tm h nx K):Yields P w0 r h w (execOp a.eval o) K:=by
  simp only [stepV,oUn] at hk
  obtain ⟨v,h1,h2,h3⟩:=evK_spec hx ht hk
  simp only [execOp,hop]
  split at h1
  · rw [forceB_iff] at h1
    refine Yields.pureV H h1 ?_ (by simp [okV])
    rw [h2]; simp only [conc,Op.unary]; rfl
  · have:=wrapK_spec h1
    refine Yields.pureV H this ?_ (by simp [okV])
    rw [h2]; simp only [conc,Op.unary,Op.intArith]; rfl
  · obtain ⟨z,g1,g2,g3⟩:=semV_spec h1
    refine Yields.pureV H g1 ?_ (g3 _)
    rw [h2]; simp only [conc,Op.unary]; rw [g2 r]; rfl
  · exact h1.elim
theorem s_cvI (H:WR P w0 r h nx w) (ht:TR r tm a.tmps) {src dst:TypeId} {d:TypeDesc} {k:IntKind} {x:Operand} {x':AX} (hs:P.underlying src=some d) (hd:P.underlying dst=some (.int k)) (hx:Cx x x') (hop:o.op=.convert src dst x) (hk:stepV (.cvI k x') tm h nx K):Yields P w0 r h w (execOp a.eval o) K:=by
  simp only [stepV,oCvI] at hk
  obtain ⟨v,h1,h2,h3⟩:=evK_spec hx ht hk
  simp only [execOp,hop]
  split at h1
  · have:=wrapK_spec h1
    refine Yields.pureV H this ?_ (by simp [okV])
    unfold convert
    rw [run_ok_bind (run_underlying hs),run_ok_bind (run_underlying hd),h2]
    simp only [conc,Conv.intToInt]; rfl
  · exact h1.elim
theorem encode_small (n:Nat) (hn:n<128):Utf8.encode (Int.ofNat n)=bytesOf [n]:=by
  have h:∀ m:Fin 128,Utf8.encode (Int.ofNat m.1)=bytesOf [m.1]:=by decide +kernel
  exact h ⟨n,hn⟩
theorem s_cvS (H:WR P w0 r h nx w) (ht:TR r tm a.tmps) {src dst:TypeId} {d:TypeDesc} {x:Operand} {x':AX} (hs:P.underlying src=some d) (hd:P.underlying dst=some .string) (hx:Cx x x') (hop:o.op=.convert src dst x) (hk:stepV (.cvS x') tm h nx K):Yields P w0 r h w (execOp a.eval o) K:=by
  simp only [stepV,oCvS] at hk
  obtain ⟨v,h1,h2,h3⟩:=evK_spec hx ht hk
  simp only [execOp,hop]
  split at h1
  · refine Yields.pureV H h1 ?_ h3
    unfold convert
    rw [run_ok_bind (run_underlying hs),run_ok_bind (run_underlying hd),h2]
    simp only [conc]; rfl
  · rename_i k n
    obtain ⟨hb,h1⟩:=brec h1
    have hb:n<128:=by have hb:Nat.ble (n+1) 128=true:=hb; have:=Nat.le_of_ble_eq_true hb; omega
    refine Yields.pureV H h1 ?_ (by simp only [okV,List.mem_singleton,forall_eq]; omega)
    unfold convert
    rw [run_ok_bind (run_underlying hs),run_ok_bind (run_underlying hd),h2]
    simp only [conc,Conv.intToString,encode_small n hb]; rfl
  · exact h1.elim
theorem run_builtin {b:Builtin} {xs:Array Operand} {ts:Array TypeId} {w':World} {n:Next} (hop:o.op=.call ⟨.builtin b,xs,ts⟩) (hr:(builtin b ts o.type (xs.map fun | .const _=>true | _=>false) (xs.map a.eval)).run P w=.ok n w'):(execOp a.eval o).run P w=.ok n w':=by
  simp only [execOp,hop]
  exact hr
theorem map_one (x:Operand):(#[x]).map a.eval=#[a.eval x]:=by simp
theorem len_key {x:Operand} {t:TypeId} {v:AV} (H:WR P w0 r h nx w) (hop:o.op=.call ⟨.builtin .len,#[x],#[t]⟩) (h2:a.eval x=conc r v) (n:Nat) (hr:(Builtin.len_ #[t] o.type #[conc r v]).run P w=.ok (.int .i64 n) w) (hK:K (.int .i64 (.ofNat n)) h nx):Yields P w0 r h w (execOp a.eval o) K:=by
  refine Yields.pure H hK (run_builtin hop ?_) (by simp [okV])
  rw [map_one,h2]
  simp only [builtin,conc]
  exact run_value hr
theorem s_lenS (H:WR P w0 r h nx w) (ht:TR r tm a.tmps) {t:TypeId} {x:Operand} {x':AX} (hu:P.underlying t=some .string) (hx:Cx x x') (hop:o.op=.call ⟨.builtin .len,#[x],#[t]⟩) (hk:stepV (.lenS x') tm h nx K):Yields P w0 r h w (execOp a.eval o) K:=by
  simp only [stepV,oLenS] at hk
  obtain ⟨v,h1,h2,h3⟩:=evK_spec hx ht hk
  split at h1
  · rename_i s
    rw [forceN_iff] at h1
    refine len_key H hop h2 _ ?_ h1
    show Sem.run P (do match ← underlying t,conc r (AV.str s) with | _,_=>_) w=_
    rw [run_ok_bind (run_underlying hu)]
    simp only [conc]
    show Result.ok (Value.int .i64 ((bytesOf s).size:Int)) w=_
    rw [bytes_size]
  · exact h1.elim
theorem s_len (H:WR P w0 r h nx w) (ht:TR r tm a.tmps) {t e:TypeId} {x:Operand} {x':AX} (hu:P.underlying t=some (.slice e)) (hx:Cx x x') (hop:o.op=.call ⟨.builtin .len,#[x],#[t]⟩) (hk:stepV (.len x') tm h nx K):Yields P w0 r h w (execOp a.eval o) K:=by
  simp only [stepV,oLen] at hk
  obtain ⟨v,h1,h2,h3⟩:=evK_spec hx ht hk
  split at h1
  · refine len_key H hop h2 _ ?_ h1
    show Sem.run P (do match ← underlying t,conc r AV.nils with | _,_=>_) w=_
    rw [run_ok_bind (run_underlying hu)]
    simp only [conc]; rfl
  · rename_i k q l c op
    refine len_key H hop h2 _ ?_ h1
    show Sem.run P (do match ← underlying t,conc r (AV.sl k q l c op) with | _,_=>_) w=_
    rw [run_ok_bind (run_underlying hu)]
    simp only [conc]; rfl
  · rename_i k q q'
    refine len_key H hop h2 _ ?_ h1
    show Sem.run P (do match ← underlying t,conc r (AV.slz k q q') with | _,_=>_) w=_
    rw [run_ok_bind (run_underlying hu)]
    simp only [conc]; rfl
  · exact h1.elim
theorem run_getObj {α:Type} {b:Nat} {x:Obj} {f:Obj→Sem α} (hb:w.heap[b]?=some x) (hx:∀ c e z,x≠.cells c e z):(getObj b >>= f).run P w=(f x).run P w:=by
  show Sem.run P (Sem.getObj b fun o=>f o) w=_
  cases x with
  | cells c e z=>exact absurd rfl (hx _ _ _)
  | _=>simp only [Sem.run,hb]
theorem s_lenM (H:WR P w0 r h nx w) (ht:TR r tm a.tmps) {t k e:TypeId} {x:Operand} {x':AX} (hu:P.underlying t=some (.map k e)) (hx:Cx x x') (hop:o.op=.call ⟨.builtin .len,#[x],#[t]⟩) (hk:stepV (.lenM x') tm h nx K):Yields P w0 r h w (execOp a.eval o) K:=by
  simp only [stepV,oLenM] at hk
  obtain ⟨v,h1,h2,h3⟩:=evK_spec hx ht hk
  split at h1
  · refine len_key H hop h2 _ ?_ h1
    show Sem.run P (do match ← underlying t,conc r AV.nilm with | _,_=>_) w=_
    rw [run_ok_bind (run_underlying hu)]
    simp only [conc]; rfl
  · rename_i m
    obtain ⟨b,hb,h1⟩:=(T.getK_iff _ _ _).1 h1
    split at h1
    · rename_i es clock
      rw [forceN_iff] at h1
      refine len_key H hop h2 _ ?_ h1
      show Sem.run P (do match ← underlying t,conc r (AV.map m) with | _,_=>_) w=_
      rw [run_ok_bind (run_underlying hu)]
      simp only [conc]
      show Sem.run P (getObj (r.blk m) >>= _) w=_
      obtain ⟨es',c',hb',M,-⟩:=(H.has m _ hb).2.2.2
      have hlen:es'.length=es.length:=by have:=M.perm.length_eq; simpa using this.symm
      rw [run_getObj hb' (by simp)]
      simp only []
      show Result.ok (Value.int .i64 ((es'.map (concE r)).toArray.size:Int)) w=_
      simp [hlen]
    · exact h1.elim
  · exact h1.elim
theorem s_ixS (H:WR P w0 r h nx w) (ht:TR r tm a.tmps) {t:TypeId} {x i:Operand} {x' i':AX} (hu:P.underlying t=some .string) (hx:Cx x x') (hi:Cx i i') (hop:o.op=.index t x i) (hk:stepV (.ixS x' i') tm h nx K):Yields P w0 r h w (execOp a.eval o) K:=by
  simp only [stepV,oIxS] at hk
  obtain ⟨v,h1,h2,h3⟩:=evK_spec hx ht hk
  split at h1
  · rename_i s
    obtain ⟨u,h1,h4,h5⟩:=evK_spec hi ht h1
    obtain ⟨kd,m,rfl,hm,h1⟩:=atK_spec h1
    split at h1
    · rename_i b hb
      rw [forceN_iff] at h1
      simp only [execOp,hop]
      refine Yields.pureV H h1 ?_ (by simp [okV])
      unfold Instr.index
      rw [h4,h2]
      simp only [conc,asIntOf]
      rw [run_ok_bind (run_pure P _ w),run_ok_bind (run_underlying hu)]
      simp only []
      have e:(bytesOf s)[m]?=some (UInt8.ofNat b):=by
        have hm':m<(bytesOf s).size:=by rw [bytes_size]; exact hm
        rw [getElem?_pos (bytesOf s) m hm']
        congr 1
        show (bytesOf s).data[m]=_
        have hb':s[m]=b:=(List.getElem?_eq_some_iff.1 hb).2
        simp [bytesOf,hb']
      rw [if_pos (by simp)]
      show Sem.run P (match (bytesOf s)[m]? with | some b=>_ | none=>_) w=_
      rw [e]
      show Result.ok (Value.int .u8 ((UInt8.ofNat b).toNat:Int)) w=_
      rw [UInt8.toNat_ofNat']; rfl
    · exact h1.elim
  · exact h1.elim
theorem mmK_spec {mx:Bool} {k:IntKind}:∀ {l:List AV} {n:Int} {c:AV→Prop},mmK mx k l n c→∃ m,c (.int k m)∧((concL r l).foldlM (if mx then Builtin.max2 else Builtin.min2) (.int k n):Sem Value)=pure (.int k m)
  | [],n,c,h=>⟨n,h,by simp [concL]⟩
  | v :: l,n,c,h=>by
    cases v with
    | int k' m =>
      simp only [mmK] at h
      rw [forceB_iff] at h
      cases mx with
      | true =>
        simp only [cond_true,ltI_spec] at h
        by_cases e:n<m
        · simp only [e,decide_true] at h
          obtain ⟨z,h1,h2⟩:=mmK_spec h
          refine ⟨z,h1,?_⟩
          simp only [concL,conc,List.foldlM_cons]
          show Sem.bind (Sem.pure (Value.int k (if m>n then m else n))) _=_
          rw [if_pos e]; exact h2
        · simp only [e,decide_false] at h
          obtain ⟨z,h1,h2⟩:=mmK_spec h
          refine ⟨z,h1,?_⟩
          simp only [concL,conc,List.foldlM_cons]
          show Sem.bind (Sem.pure (Value.int k (if m>n then m else n))) _=_
          rw [if_neg e]; exact h2
      | false =>
        simp only [cond_false,ltI_spec] at h
        by_cases e:m<n
        · simp only [e,decide_true] at h
          obtain ⟨z,h1,h2⟩:=mmK_spec h
          refine ⟨z,h1,?_⟩
          simp only [concL,conc,List.foldlM_cons]
          show Sem.bind (Sem.pure (Value.int k (if m<n then m else n))) _=_
          rw [if_pos e]; exact h2
        · simp only [e,decide_false] at h
          obtain ⟨z,h1,h2⟩:=mmK_spec h
          refine ⟨z,h1,?_⟩
          simp only [concL,conc,List.foldlM_cons]
          show Sem.bind (Sem.pure (Value.int k (if m<n then m else n))) _=_
          rw [if_neg e]; exact h2
    | _=>exact h.elim
theorem s_mm (H:WR P w0 r h nx w) (ht:TR r tm a.tmps) {mx:Bool} {ts:Array TypeId} {xs:Array Operand} {xs':List AX} (hx:Cxs xs.toList xs') (hop:o.op=.call ⟨.builtin (if mx then .max else .min),xs,ts⟩) (hk:stepV (.mm mx xs') tm h nx K):Yields P w0 r h w (execOp a.eval o) K:=by
  simp only [stepV,oMm] at hk
  obtain ⟨vs,h1,h2,h3⟩:=evsK_spec ht hx hk
  split at h1
  · rename_i k n l
    obtain ⟨m,g1,g2⟩:=mmK_spec (r:=r) h1
    refine Yields.pure H g1 (run_builtin hop ?_) (by simp [okV])
    have e1:(xs.map a.eval).toList=concL r (.int k n :: l):=by rw [← h2]; simp
    cases mx with
    | true =>
      simp only [if_true,builtin]
      refine run_value ?_
      rw [Builtin.max_,e1]
      simp only [concL,conc]
      rw [show (concL r l).foldlM Builtin.max2 (.int k n)=(pure (.int k m):Sem Value) from g2]; rfl
    | false =>
      simp only [Bool.false_eq_true,if_false,builtin]
      refine run_value ?_
      rw [Builtin.min_,e1]
      simp only [concL,conc]
      rw [show (concL r l).foldlM Builtin.min2 (.int k n)=(pure (.int k m):Sem Value) from g2]; rfl
  · exact h1.elim
end
end Go.Proofs.YtidggaoacldgkaaGreatDoor.X
