/- An executor for closed calls, 20: what a region that draws its order is made of: operations that look, that make a block, that act. -/
import Derived.Test.YtidggaoacldgkaaGreatDoorXS
namespace Go.Proofs.YtidggaoacldgkaaGreatDoor.X
open Go.RowKit
section
variable {P:Program} {w0:World} {r:Rho} {tm:S} {a:Act} {o:Oper}
def Floats (P:Program) (r:Rho) (n:Pt) (w:World) (s:Sem Next) (c:AV→AO→Prop):Prop :=
 ∃ v ob obj x d,c v ob∧s.run P w=.ok (.value (conc (r.more n w.heap.size x) v)) { w with drawn:=d,heap:=w.heap.push obj }∧BR P (r.more n w.heap.size x) n ob (some obj)∧okO (r.more n w.heap.size x).has ob∧okV (r.more n w.heap.size x).has v
theorem Floats.row {n:Pt} (hn:¬ r.has n) {w:World} {vs:List AV} {e:TypeId} {s:Sem Next} {c:AV→AO→Prop} {v:AV} (hv:okL r.has vs) (hc:c v (.cells vs e)) (hok:okV (r.more n w.heap.size 0).has v)
  (hs:∀ x w',(newRow e (concL r vs).toArray).run P w=.ok x w'→∃ y,s.run P w=.ok (.value y) w'∧(x=⟨w.heap.size,0,none⟩→y=conc (r.more n w.heap.size 0) v)):Floats P r n w s c:=by
 have hle:=Rho.le_more hn w.heap.size 0
 obtain ⟨y,h1,h2⟩:=hs ⟨w.heap.size,0,none⟩ { w with heap:=w.heap.push (.cells (concL r vs).toArray e (0,0)) } rfl
 refine ⟨v,.cells vs e,.cells (concL r vs).toArray e (0,0),0,w.drawn,hc,by rw [h1,h2 rfl],⟨[],?_,?_⟩,okL.mono hle.has hv,hok⟩
 ·rw [concL_le hle hv]; simp
 ·rw [r.more_ext]; simp
theorem float_sound (ht:TR r tm a.tmps) {op:Op} {op':AOp} {n:Pt} {w:World} {c:AV→AO→Prop} (hn:¬ r.has n) (hop:o.op=op) (hc:Co P op op') (hk:floatK op' tm n c):Floats P r n w (execOp a.eval o) c:=by
 have hptr:okV (r.more n w.heap.size 0).has (.ptr n 0):=by simp only [okV]; exact Or.inl rfl
 have hsl:∀ k l,okV (r.more n w.heap.size 0).has (.sl n 0 k l false):=fun k l=>by simp only [okV]; exact Or.inl rfl
 have ep:∀ x:Addr,x=⟨w.heap.size,0,none⟩→Value.pointer (some x)=conc (r.more n w.heap.size 0) (.ptr n 0):=fun x hx=>by simp only [conc,r.more_blk,hx]
 have es:∀ (x:Addr) (k l:Nat),x=⟨w.heap.size,0,none⟩→Value.slice (some x) k l=conc (r.more n w.heap.size 0) (.sl n 0 k l false):=fun x k l hx=>by simp [conc,r.more_blk,hx]
 cases hc with
 | new hi hz hv =>
  refine Floats.row hn (okL_cells (hv.2 _)) hk hptr fun x w' hx=>⟨_,?_,ep x⟩
  simp only [execOp,hop]
  refine run_value ?_
  unfold Instr.alloc
  rw [run_ok_bind (run_zeroValue hi hz)]
  simp only []
  rename_i e i z v
  have:(newVar e z).run P w=.ok x w':=by rw [newVar,← hv.1 r,conc_cells]; exact hx
  rw [run_ok_bind this]; rfl
 | box hx =>
  obtain ⟨v,h1,h2,h3⟩:=evK_spec hx ht hk
  refine Floats.row hn (okL_cells h3) h1 hptr fun x w' hx=>⟨_,?_,ep x⟩
  simp only [execOp,hop,h2]
  refine run_value ?_
  rename_i e _ _ _
  have:(newVar e (conc r v)).run P w=.ok x w':=by rw [newVar,conc_cells]; exact hx
  unfold Instr.box
  rw [run_ok_bind this]; rfl
 | buildS hu hj hz hm h0 hok hzs hv hps =>
  obtain ⟨vs,h1,h2,h3⟩:=fillK_spec ht hps (hok _) hk
  rw [forceL_iff] at h1
  refine Floats.row hn h2 h1 (hsl _ _) fun x w' hx=>⟨_,?_,es x _ _⟩
  simp only [execOp,hop]
  refine run_value ?_
  unfold Instr.buildSlice
  rw [run_ok_bind (run_underlying hu)]
  simp only []
  rw [run_ok_bind (run_sizeOf hj),if_neg (by omega)]
  rw [if_neg (by omega),run_ok_bind (run_zeroValue hj hz),run_ok_bind (run_pure P _ w)]
  rw [← hzs r,toList_parts,h3]
  simp only []
  rw [run_ok_bind hx]; rfl
 | buildE hu hj =>
  have h1:c (.sl n 0 0 0 false) (.cells [] _):=hk
  refine Floats.row hn (vs:=[]) (by simp [okL]) h1 (hsl _ _) fun x w' hx=>⟨_,?_,es x _ _⟩
  simp only [execOp,hop]
  refine run_value ?_
  unfold Instr.buildSlice
  rw [run_ok_bind (run_underlying hu)]
  simp only []
  rw [run_ok_bind (run_sizeOf hj),if_neg (by omega)]
  rw [if_pos (by omega),run_ok_bind (run_pure P _ w)]
  simp only [Nat.zero_mul]
  simp only [concL] at hx
  rename_i t e j
  have:(newRow e #[]).run P w=.ok x w':=hx
  rw [show (Array.map (fun x:Nat × Operand=>(x.fst,a.eval x.snd)) #[]).toList=[] by simp,show ∀ f:Nat→Value,(Array.range 0).map f=#[] from fun f=>by rw [show (Array.range 0)=#[] from rfl]; exact Array.map_empty]
  simp only [Instr.fill]
  rw [run_ok_bind this]; rfl
 | mkS hu hj hz hv hl h0 hby hx hy =>
  rename_i t e j z v l c1 l' c'
  have hk:evK _ l' fun l=>evK _ c' fun m=>match l,m with
   | .int _ (.ofNat l),.int _ (.ofNat m)=>Bool.rec (motive:=fun _=>Prop) False (forceL (zerosL (cellsA v) m) fun vs=>c (.sl n 0 l m false) (.cells vs e)) (Nat.ble l m&&Nat.ble (j.size*m) 16777216)
   | _,_=>False:=hk
  obtain ⟨u,h1,h2,h3⟩:=evK_spec hx ht hk
  obtain ⟨u',h1,h4,h5⟩:=evK_spec hy ht h1
  split at h1
  ·rename_i k1 l1 k2 m1 _
   obtain ⟨hb,h1⟩:=brec h1
   rw [forceL_iff] at h1
   simp only [Bool.and_eq_true,Nat.ble_eq] at hb
   have hc:m1≤16777216:=Nat.le_trans (Nat.le_mul_of_pos_left _ h0) hb.2
   refine Floats.row hn (okL_zeros (okL_cells (hv.2 _)) m1) h1 (hsl _ _) fun x w' hx=>⟨_,?_,es x _ _⟩
   simp only [execOp,hop]
   refine run_value ?_
   unfold Instr.makeSlice
   rw [run_ok_bind (run_underlying hu),h2,h4]
   simp only [conc,asInt,asIntOf]
   have I:∀ (k:IntKind) (n:Int),((do Pure.pure (← (Pure.pure (k,n):Sem (IntKind × Int))).2):Sem Int).run P w=.ok n w:=fun _ _=>rfl
   rw [run_ok_bind (I _ _),run_ok_bind (I _ _),run_ok_bind (run_typeInfo hj)]
   rw [wrap_small (n:=l1) (by omega),wrap_small (n:=m1) (by omega)]
   have hbc:(j.bytes:Int)*(Int.ofNat m1)≤2 ^ 48:=by
    have e1:j.bytes*m1≤17592186044416:=Nat.mul_le_mul hby hc
    have e2:((j.bytes*m1:Nat):Int)≤((17592186044416:Nat):Int):=Int.ofNat_le.2 e1
    rw [Int.natCast_mul] at e2
    exact Int.le_trans e2 (by decide)
   rw [if_neg (by
    simp only [Bool.or_eq_true,decide_eq_true_eq,Int.ofNat_eq_natCast,not_or] at hbc ⊢
    refine ⟨⟨?_,?_⟩,?_⟩ <;> omega)]
   rw [run_ok_bind run_askRoom,run_ok_bind (run_sizeOf hj)]
   simp only [Int.toNat_natCast,Int.ofNat_eq_natCast]
   by_cases hn0:m1*j.size=0
   ·have hc0:m1=0:=by rcases Nat.mul_eq_zero.1 hn0 with e | e <;> omega
    subst hc0
    rw [if_pos hn0,run_ok_bind (run_pure P _ w)]
    rw [Nat.zero_mul,show ∀ f:Nat→Value,(Array.range 0).map f=#[] from fun f=>by rw [show (Array.range 0)=#[] from rfl]; exact Array.map_empty]
    have hx:(newRow e #[]).run P w=.ok x w':=by simpa [zerosL,concL] using hx
    rw [run_ok_bind hx]; rfl
   ·rw [if_neg hn0,run_ok_bind (run_zeroValue hj hz),run_ok_bind (run_pure P _ w)]
    rw [← hl,← zeros_real (r:=r) hv (by omega) m1,run_ok_bind hx]; rfl
  ·exact h1.elim
 | cvB hs hd he hj h1j hx =>
  rename_i src dst e d j x x'
  obtain ⟨v,g1,h2,h3⟩:=evK_spec hx ht hk
  split at g1
  ·rename_i s
   simp only [okV] at h3
   rw [forceL_iff,forceN_iff] at g1
   let ex:=w.tape w.drawn (.appendCap (bytesOf s).size 0 e) % (2 ^ 63 - (bytesOf s).size)
   have hle:=Rho.le_more hn w.heap.size ex
   have hu8:((bytesOf s).data.map fun b=>Value.int .u8 b.toNat).toList=concL r (s.map fun b=>AV.int .u8 (.ofNat b)):=by
    simp only [concL_map,List.map_map,bytesOf]
    simp only [List.map_toArray,List.map_map]
    refine List.map_congr_left fun b hb=>?_
    simp only [Function.comp,conc,UInt8.toNat_ofNat']
    rw [Nat.mod_eq_of_lt (by have:=h3 b hb; simpa using this)]
    rfl
   let c:=concL r (s.map fun b=>AV.int .u8 (.ofNat b)) ++ List.replicate ex (Value.int .u8 0)
   have hok:okL r.has (s.map fun b=>AV.int .u8 (.ofNat b)):=okL_u8 s
   refine ⟨.sl n 0 s.length s.length true,.frz (s.map fun b=>AV.int .u8 (.ofNat b)) e,.cells c.toArray e (c.length,c.length+1),ex,w.drawn+1,g1,?_,⟨List.replicate ex (Value.int .u8 0),(c.length,c.length+1),by rw [concL_le hle hok],by
    rw [r.more_ext,sizeT_of hj,h1j]; simp,fun i hi hz=>by
    have h1:c.length=(s.map fun b=>AV.int .u8 (.ofNat b)).length+(List.replicate ex (Value.int .u8 0)).length:=by simp only [c]; rw [List.length_append,concL_length]
    have h2:c.length≤i:=hz.1
    omega⟩,okL.mono hle.has hok,by simp only [okV]; exact Or.inl rfl⟩
   simp only [execOp,hop]
   refine run_value ?_
   unfold convert
   rw [run_ok_bind (run_underlying hs),run_ok_bind (run_underlying hd),h2]
   simp only [conc]
   show Sem.run P (underlying e >>= _) w=_
   rw [run_ok_bind (run_underlying he)]
   simp only []
   unfold Conv.stringToBytes
   show Sem.run P (Sem.choose (.appendCap (bytesOf s).size 0 e) fun n=>_) w=_
   rw [show ∀ (k:Nat→Sem Value),Sem.run P (Sem.choose (.appendCap (bytesOf s).size 0 e) k) w=(k ((bytesOf s).size+ex)).run P { w with drawn:=w.drawn+1 } from fun _=>rfl]
   have hc:(bytesOf s).data.map (fun b=>Value.int .u8 b.toNat) ++ Array.replicate ex (Value.int .u8 0)=c.toArray:=by
    apply Array.ext'
    rw [Array.toList_append,hu8]
    simp [c]
   show Sem.run P (newRow e ((bytesOf s).data.map (fun b=>Value.int .u8 b.toNat) ++ Array.replicate ((bytesOf s).size+ex - (bytesOf s).size) (Value.int .u8 0)) >>= fun a=>_) _=_
   rw [Nat.add_sub_cancel_left,hc,run_ok_bind (show (newRow e c.toArray).run P { w with drawn:=w.drawn+1 }=.ok ⟨w.heap.size,0,none⟩ { w with drawn:=w.drawn+1,heap:=w.heap.push (.cells c.toArray e (0,0)) } from rfl)]
   have hm:(markStringish ⟨w.heap.size,0,none⟩).run P { w with drawn:=w.drawn+1,heap:=w.heap.push (.cells c.toArray e (0,0)) }=.ok () { w with drawn:=w.drawn+1,heap:=w.heap.push (.cells c.toArray e (c.length,c.length+1)) }:=by
    unfold markStringish
    have S:∀ {α:Type} (w:World) (x:Nat) (f:Option (TypeId × Nat)→Sem α),(shape x >>= f).run P w=(f (w.shape? x)).run P w:=fun _ _ _=>rfl
    rw [S]
    simp only [World.shape?,Array.getElem?_push_size]
    show Result.ok () (World.freeze _ _ 1)=_
    congr 1
    unfold World.freeze
    rw [if_neg (by decide)]
    congr 1
    apply Array.ext_getElem?
    intro i
    rw [Array.getElem?_modify]
    by_cases hi:w.heap.size=i
    ·subst hi; simp
    ·rw [if_neg hi]
     rw [Array.getElem?_push,Array.getElem?_push,if_neg (fun e=>hi e.symm),if_neg (fun e=>hi e.symm)]
   rw [run_ok_bind hm]
   simp only [run_pure,bytes_size,r.more_blk,r.more_ext,if_true]
  ·exact g1.elim
 | mkM =>
  have hle:=Rho.le_more hn w.heap.size 0
  refine ⟨.map n,.map [] 0,.map #[] 0,0,w.drawn,hk,?_,⟨[],0,rfl,.nil,.nil⟩,by simp [okO],by simp only [okV]; exact Or.inl rfl⟩
  simp only [execOp,hop]
  refine run_value ?_
  simp only [conc,r.more_blk]; rfl
 | _=>exact hk.elim
end
section
variable {P:Program} {w0:World} {m:Nat} {r:Rho} {h:T AO} {nx:Pt} {w:World} {tm:S} {a:Act}
theorem eK_sound {ro:Option Nat} {ch:CH} (hch:CHq P w0 ch) (hE:EnvOk P w0 ch.loops r) {ops:Array Oper} {o:Oper} {i:Nat} {x:AOper} {c:AV→T AO→Pt→Prop} {Q:Exit→Act→World→Prop} {next:Act→World→Prop}
  (hi:ops[i]?=some o) (hc:compOper P m ops o=some x) (H:WR P w0 r h nx w) (ht:TR r tm a.tmps) (hk:eK x ch tm h nx c)
  (hn:∀ v h' nx' r' w',c v h' nx'→WR P w0 r' h' nx' w'→Ev r h w r' h' w'→okV r'.has v→next (a.put o.dst (conc r' v)) w'):wpOpIn (Wr ro) 0 P ops Q i next a w:=by
 unfold compOper at hc
 split at hc
 ·rename_i k d g hck hcd hcg
  cases hc
  simp only [wpOpIn,hi]
  cases g with
  | none =>
   rw [if_pos (wanted_none hcg)]
   exact (eK0_sound hch.call hE hck H ht hk hn (fun _ _ _ _ _ hh=>(hch.calm _ _ _ _ hh).elim))
  | some pb =>
   obtain ⟨p,b⟩:=pb
   have hk:wantK p b tm (eK0 k ch tm h nx c) (c (.tup []) h nx):=hk
   rcases wantK_spec hcg ht hk with ⟨hw,hk⟩ | ⟨hw,hk⟩
   ·rw [if_pos hw]
    exact (eK0_sound hch.call hE hck H ht hk hn (fun _ _ _ _ _ hh=>(hch.calm _ _ _ _ hh).elim))
   ·rw [if_neg (by rw [hw]; simp)]
    have:=hn (.tup []) h nx r w hk H (.refl r h w) (by simp [okV,okL])
    rw [conc_undef] at this
    exact ⟨fun _ _=>trivial,this⟩
 ·cases hc
end
end Go.Proofs.YtidggaoacldgkaaGreatDoor.X

/- An executor for closed calls, 21: a region that draws its order, as a script: operations that look and those that make blocks come as early as they can, those that act in their one order. -/
namespace Go.Proofs.YtidggaoacldgkaaGreatDoor.X
open Go.RowKit
theorem valX_of {tm tm':S} {x:AX} (h:∀ p ∈ axP x,tm'.find p=tm.find p):valX tm' x=valX tm x:=by
 cases x with
 | t p=>exact h p (by simp [axP])
 | c v=>rfl
theorem wantK_congr {g:Sl} {b:Bool} {tm tm':S} {y n y' n':Prop} (hg:tm'.find g=tm.find g) (hy:y→y') (hn:n→n') (hk:wantK g b tm y n):wantK g b tm' y' n':=by
 unfold wantK at hk ⊢
 rw [S.getK_iff] at hk ⊢
 obtain ⟨v,h1,h2⟩:=hk
 refine ⟨v,by rw [hg]; exact h1,?_⟩
 split at h2
 ·rename_i c
  cases hb:(c == b) with
  | false=>rw [hb] at h2; exact hn h2
  | true=>rw [hb] at h2; exact hy h2
 ·exact hn h2
theorem rd_op {x:AOper} {o:AOp} (ho:x.op=.v o) {tm tm':S} (h:∀ p ∈ rdX x,tm'.find p=tm.find p):∀ y ∈ opX o,valX tm' y=valX tm y:=fun y hy=>valX_of fun p hp=>h p (by
 unfold rdX
 rw [ho]
 exact List.mem_append.2 (.inr (List.mem_flatMap.2 ⟨y,hy,hp⟩)))
theorem rd_guard {x:AOper} {g:Sl} {b:Bool} (hg:x.guard=some (g,b)) {tm tm':S} (h:∀ p ∈ rdX x,tm'.find p=tm.find p):tm'.find g=tm.find g:=h g (by
 unfold rdX
 rw [hg]
 exact List.mem_append.2 (.inl (by simp)))
theorem nK_congr {x:AOper} {tm tm':S} {h:T AO} {nx:Pt} {c:AV→Prop} (hr:∀ p ∈ rdX x,tm'.find p=tm.find p) (hk:nK x tm h nx c):nK x tm' h nx c:=by
 unfold nK at hk ⊢
 split
 ·rename_i o ho
  simp only [ho] at hk
  split
  ·rename_i hg
   simp only [hg] at hk
   exact stepV_congr (rd_op ho hr) hk
  ·rename_i g b hg
   simp only [hg] at hk
   exact wantK_congr (rd_guard hg hr) (stepV_congr (rd_op ho hr)) id hk
 ·rename_i hne
  split at hk
  ·rename_i o ho; exact absurd ho (hne o)
  ·exact hk
theorem nK_heap {x:AOper} (hq:quietX x=true) {tm:S} {h h2:T AO} {nx nx2:Pt} {c:AV→Prop} (hh:∀ k o,h.find k=some o→h2.find k=some o) (hk:nK x tm h nx c):nK x tm h2 nx2 c:=by
 unfold nK at hk ⊢
 unfold quietX at hq
 split
 ·rename_i o ho
  simp only [ho] at hk hq
  split
  ·rename_i hg
   simp only [hg] at hk
   exact step_heap hq hh hk
  ·rename_i g b hg
   simp only [hg] at hk
   exact wantK_congr rfl (step_heap hq hh) id hk
 ·rename_i hne
  split at hk
  ·rename_i o ho; exact absurd ho (hne o)
  ·exact hk
theorem fn_want {v:AV} {b:Bool} {F G:(AV→Prop)→Prop} (hf:Fn F) (hg:Fn G):Fn fun C=>match v with | .bool b'=>Bool.rec (motive:=fun _=>Prop) (F C) (G C) (b' == b) | _=>F C:=by
 cases v with
 | bool b'=>exact fn_b hf hg
 | _=>exact hf
theorem nK_fn {x:AOper} (hq:quietX x=true) (tm:S) (h:T AO) (nx:Pt):Fn (nK x tm h nx):=by
 unfold quietX at hq
 cases ho:x.op with
 | v o =>
  simp only [ho] at hq
  cases hg:x.guard with
  | none=>exact fn_congr (fun C=>by unfold nK; simp only [ho,hg]) (step_fn hq tm h nx)
  | some gb =>
   obtain ⟨g,b⟩:=gb
   refine fn_congr (G:=fun C=>wantK g b tm (stepV o tm h nx fun v _ _=>C v) (C (.tup []))) (fun C=>by unfold nK; simp only [ho,hg]) ?_
   unfold wantK
   cases hv:tm.find g with
   | none=>exact ⟨none,fun C=>by show tm.getK g _↔_; rw [S.getK_iff,hv]; exact ⟨fun ⟨v,h,_⟩=>(by cases h),fun ⟨v,h,_⟩=>(by cases h)⟩⟩
   | some v =>
    refine fn_congr (fun C=>?_) (fn_want (v:=v) (b:=b) (fn_const (.tup [])) (step_fn hq tm h nx))
    show tm.getK g _↔_
    rw [S.getK_iff,hv]
    exact ⟨fun ⟨u,h1,h2⟩=>by cases h1; exact h2,fun h2=>⟨v,rfl,h2⟩⟩
 | call f xs=>simp [ho] at hq
 | callv y xs=>simp [ho] at hq
 | snd y v=>simp [ho] at hq
 | sel y z=>simp [ho] at hq
 | sls y v=>simp [ho] at hq
 | pan y=>simp [ho] at hq
theorem nK_val {x:AOper} (hq:quietX x=true) {tm:S} {h:T AO} {nx:Pt} {c:AV→Prop} (hk:nK x tm h nx c):∃ v,c v∧nK x tm h nx fun v'=>v'=v:=by
 obtain ⟨o,ho⟩:=nK_fn hq tm h nx
 obtain ⟨v,h1,h2⟩:=(ho c).1 hk
 exact ⟨v,h2,(ho _).2 ⟨v,h1,rfl⟩⟩
theorem nK_imp {x:AOper} (hq:quietX x=true) {tm:S} {h:T AO} {nx:Pt} {c c':AV→Prop} (hc:∀ v,c v→c' v) (hk:nK x tm h nx c):nK x tm h nx c':=by
 obtain ⟨o,ho⟩:=nK_fn hq tm h nx
 obtain ⟨v,h1,h2⟩:=(ho c).1 hk
 exact (ho _).2 ⟨v,h1,hc v h2⟩
theorem quiet_same {o:AOp} (hq:quietB o=true) {tm:S} {h:T AO} {nx:Pt} {K:AV→T AO→Pt→Prop} (hk:stepV o tm h nx fun v _ _=>K v h nx):stepV o tm h nx K:=by
 cases o with
 | new vs e=>cases hq
 | box e x=>cases hq
 | buildS e n z ps=>cases hq
 | st n x y=>cases hq
 | mkS e n z l c=>cases hq
 | app e n x y=>cases hq
 | up x k v=>cases hq
 | upA n x k v=>cases hq
 | cvB e x=>cases hq
 | clr z x=>cases hq
 | mkC x=>cases hq
 | mkM=>cases hq
 | rng x=>cases hq
 | nxt x=>cases hq
 | _=>exact hk
theorem nK_eK {x:AOper} (hq:quietX x=true) {ch:CH} {tm:S} {h:T AO} {nx:Pt} {c:AV→Prop} (hk:nK x tm h nx c):eK x ch tm h nx fun v h' nx'=>c v∧h'=h∧nx'=nx:=by
 have hk:=nK_imp hq (c':=fun v=>c v∧h=h∧nx=nx) (fun v hv=>⟨hv,rfl,rfl⟩) hk
 unfold nK at hk
 unfold quietX at hq
 unfold eK
 split at hk
 ·rename_i o ho
  simp only [ho] at hq
  split at hk
  ·rename_i hg
   simp only [ho,eK0]
   exact quiet_same hq hk
  ·rename_i g b hg
   simp only [ho,eK0]
   exact wantK_congr rfl (quiet_same hq) (fun h=>⟨h.1,trivial,trivial⟩) hk
 ·exact hk.elim
theorem floatK_congr {op:AOp} {tm tm':S} {n:Pt} {c:AV→AO→Prop} (hr:∀ x ∈ opX op,valX tm' x=valX tm x) (hk:floatK op tm n c):floatK op tm' n c:=by
 cases op with
 | box e x=>exact evK_congr (hr _ (by simp [opX])) hk
 | cvB e x=>exact evK_congr (hr _ (by simp [opX])) hk
 | buildS e k z ps=>exact fillK_imp (fun q hq=>hr _ (by simp only [opX]; exact List.mem_map.2 ⟨q,hq,rfl⟩)) hk
 | mkS e k z l m=>exact evK_congr (hr _ (by simp [opX])) (evK_imp (fun v hv=>evK_congr (hr _ (by simp [opX])) hv) hk)
 | _=>exact hk
theorem fillK_val {tm:S}:∀ {ps:List (Nat × Nat × AX)} {z:List AV} {c:List AV→Prop},fillK tm ps z c→∃ vs,c vs∧∀ c',c' vs→fillK tm ps z c'
 | [],z,c,hk=>⟨z,hk,fun _ h=>h⟩
 | q :: ps,z,c,hk=>by
  have hk:evK tm q.2.2 fun v=>forceB (Nat.beq (cellsA v).length q.2.1&&Nat.ble (q.1+q.2.1) z.length) fun b =>
   Bool.rec (motive:=fun _=>Prop) False (fillK tm ps (putL z q.1 (cellsA v)) c) b:=hk
  rw [evK_iff] at hk
  obtain ⟨v,h1,h2⟩:=hk
  rw [forceB_iff] at h2
  obtain ⟨hb,h2⟩:=brec h2
  obtain ⟨vs,g1,g2⟩:=fillK_val h2
  refine ⟨vs,g1,fun c' hc'=>?_⟩
  show evK tm q.2.2 fun v=>forceB (Nat.beq (cellsA v).length q.2.1&&Nat.ble (q.1+q.2.1) z.length) fun b =>
   Bool.rec (motive:=fun _=>Prop) False (fillK tm ps (putL z q.1 (cellsA v)) c') b
  rw [evK_iff]
  refine ⟨v,h1,?_⟩
  rw [forceB_iff,hb]
  exact g2 c' hc'
theorem floatK_val {op:AOp} {tm:S} {n:Pt} {c:AV→AO→Prop} (hk:floatK op tm n c):∃ v ob,c v ob∧floatK op tm n fun v' ob'=>v'=v∧ob'=ob:=by
 unfold floatK at hk ⊢
 split at hk
 ·exact ⟨_,_,hk,rfl,rfl⟩
 ·rw [evK_iff] at hk
  obtain ⟨v,h1,h2⟩:=hk
  exact ⟨_,_,h2,by rw [evK_iff]; exact ⟨v,h1,rfl,rfl⟩⟩
 ·obtain ⟨vs,g1,g2⟩:=fillK_val hk
  rw [forceL_iff] at g1
  exact ⟨_,_,g1,g2 _ ((forceL_iff _ _).2 ⟨rfl,rfl⟩)⟩
 ·exact ⟨_,_,hk,rfl,rfl⟩
 ·rw [evK_iff] at hk
  obtain ⟨v,h1,h2⟩:=hk
  split at h2
  ·rename_i s
   rw [forceL_iff,forceN_iff] at h2
   refine ⟨_,_,h2,?_⟩
   rw [evK_iff]
   refine ⟨_,h1,?_⟩
   show forceL _ _
   rw [forceL_iff,forceN_iff]
   exact ⟨rfl,rfl⟩
  ·exact h2.elim
 ·rw [evK_iff] at hk
  obtain ⟨l,h1,h2⟩:=hk
  rw [evK_iff] at h2
  obtain ⟨m,h3,h4⟩:=h2
  split at h4
  ·rename_i k1 l1 k2 m1
   obtain ⟨hb,h4⟩:=brec h4
   rw [forceL_iff] at h4
   refine ⟨_,_,h4,?_⟩
   rw [evK_iff]
   refine ⟨_,h1,?_⟩
   rw [evK_iff]
   refine ⟨_,h3,?_⟩
   show Bool.rec (motive:=fun _=>Prop) False (forceL _ _) (Nat.ble l1 m1&&_)
   rw [hb]
   exact (forceL_iff _ _).2 ⟨rfl,rfl⟩
  ·exact h4.elim
 ·exact hk.elim
theorem eK_congr {x:AOper} {ch:CH} {tm tm':S} {h:T AO} {nx:Pt} {c:AV→T AO→Pt→Prop} (hf:ch.pan tm=ch.pan tm') (hr:∀ p ∈ rdX x,tm'.find p=tm.find p) (hk:eK x ch tm h nx c):eK x ch tm' h nx c:=by
 have hv:∀ y ∈ kX x.op,valX tm' y=valX tm y:=fun y hy=>valX_of fun p hp=>hr p (by
  unfold rdX
  exact List.mem_append.2 (.inr (List.mem_flatMap.2 ⟨y,hy,hp⟩)))
 have key:eK0 x.op ch tm h nx c→eK0 x.op ch tm' h nx c:=fun hk=>by
  unfold eK0 at hk ⊢
  split
  ·rename_i o ho
   simp only [ho] at hk
   exact stepV_congr (fun y hy=>hv y (by rw [ho]; exact hy)) hk
  ·rename_i f xs ho
   simp only [ho] at hk
   have hgo:ch.go tm=ch.go tm':=by unfold CH.go; rw [hf]
   rw [hgo] at hk
   exact evsK_imp (fun y hy=>hv y (by rw [ho]; exact hy)) (fun _ h=>h) hk
  ·rename_i y xs ho
   simp only [ho] at hk
   have hgo:cvK ch tm=cvK ch tm':=by unfold cvK CH.go; rw [hf]
   rw [hgo] at hk
   exact evK_congr (hv y (by rw [ho]; simp [kX])) (evK_imp (fun v hv'=>evsK_imp (fun z hz=>hv z (by rw [ho]; simp [kX,hz])) (fun _ h=>h) hv') hk)
  ·rename_i y v ho
   simp only [ho] at hk
  ·rename_i y z ho
   simp only [ho] at hk
  ·rename_i y v ho
   simp only [ho] at hk
  ·rename_i y ho
   simp only [ho] at hk
   have hgo:panK ch y tm h nx→evK tm y fun v=>match v with
     | .iface t u=>ch.pan tm' (.iface t u) h nx
     | _=>False:=fun hk=>by
    rw [← hf]; exact hk
   exact evK_congr (hv y (by rw [ho]; simp [kX])) (hgo hk)
 unfold eK at hk ⊢
 split
 ·rename_i hg
  simp only [hg] at hk
  exact key hk
 ·rename_i g b hg
  simp only [hg] at hk
  exact wantK_congr (rd_guard hg hr) key id hk
theorem eqN_eq:∀ {a b:List Nat},eqN a b=true→a=b
 | [],[],_=>rfl
 | [],_ :: _,h=>by cases h
 | _ :: _,[],h=>by cases h
 | x :: a,y :: b,h=>by
  simp only [eqN,Bool.and_eq_true] at h
  rw [Nat.eq_of_beq_eq_true h.1,eqN_eq h.2]
mutual
theorem eqV_eq:∀ {a b:AV},eqV a b=true→a=b
 | .bool a,b,h=>by cases b <;> simp [eqV] at h <;> rw [h]
 | .int k a,b,h=>by
  cases b <;> simp [eqV] at h
  obtain ⟨rfl,h⟩:=h
  rw [eqI_spec] at h
  rw [eq_of_beq h]
 | .str a,b,h=>by cases b <;> simp [eqV] at h; rw [eqN_eq h]
 | .nilp,b,h=>by cases b <;> simp [eqV] at h; rfl
 | .ptr k o,b,h=>by
  cases b <;> simp [eqV] at h
  rw [eqP_spec h.1,h.2]
 | .nils,b,h=>by cases b <;> simp [eqV] at h; rfl
 | .sl k o l c op,b,h=>by
  cases b <;> simp [eqV] at h
  obtain ⟨⟨⟨⟨h1,h2⟩,h3⟩,h4⟩,h5⟩:=h
  rw [eqP_spec h1,h2,h3,h4,h5]
 | .slz k o p,b,h=>by cases b <;> simp [eqV] at h
 | .nilm,b,h=>by cases b <;> simp [eqV] at h; rfl
 | .map k,b,h=>by cases b <;> simp [eqV] at h; rw [eqP_spec h]
 | .fn f x y,b,h=>by
  cases b <;> try (simp [eqV] at h; done)
  rename_i g x' y'
  cases f <;> cases g <;> simp [eqV] at h
  obtain ⟨⟨rfl,h1⟩,h2⟩:=h
  rw [eqVs_eq h1,eqVs_eq h2]
 | .yld k,b,h=>by cases b <;> simp [eqV] at h; rw [eqP_spec h]
 | .chan k,b,h=>by cases b <;> simp [eqV] at h; rw [eqP_spec h]
 | .nilc,b,h=>by cases b <;> simp [eqV] at h; rfl
 | .nilf,b,h=>by cases b <;> simp [eqV] at h; rfl
 | .iface t v,b,h=>by
  cases b <;> simp [eqV] at h
  obtain ⟨rfl,h⟩:=h
  rw [eqV_eq h]
 | .nili,b,h=>by cases b <;> simp [eqV] at h; rfl
 | .agg x,b,h=>by cases b <;> simp [eqV] at h; rw [eqVs_eq h]
 | .tup x,b,h=>by cases b <;> simp [eqV] at h; rw [eqVs_eq h]
theorem eqVs_eq:∀ {a b:List AV},eqVs a b=true→a=b
 | [],[],_=>rfl
 | [],_ :: _,h=>by simp [eqVs] at h
 | _ :: _,[],h=>by simp [eqVs] at h
 | x :: a,y :: b,h=>by
  simp only [eqVs,Bool.and_eq_true] at h
  rw [eqV_eq h.1,eqVs_eq h.2]
end
end Go.Proofs.YtidggaoacldgkaaGreatDoor.X

/- An executor for closed calls, 22: memory with blocks that nothing has acted on; what waits for what. -/
namespace Go.Proofs.YtidggaoacldgkaaGreatDoor.X
open Go.RowKit
section
variable {P:Program} {w0:World} {r:Rho} {nx:Pt} {w:World}
theorem WR.sub {h1 h2:T AO} (H:WR P w0 r h2 nx w) (hs:∀ k o,h1.find k=some o→h2.find k=some o):WR P w0 r h1 nx w :=
 ⟨H.dom,H.dis,H.below,fun k o hk=>H.has k o (hs k o hk),fun i j oi oj hi hj=>H.apart i j oi oj (hs i oi hi) (hs j oj hj)⟩
theorem Ev.sub {h1 h2:T AO} (hs:∀ k o,h1.find k=some o→h2.find k=some o):Ev r h2 w r h1 w :=
 ⟨.refl r,Nat.le_refl _,fun _ _ _=>rfl,fun k o hk=>.inr ⟨k,o,hs k o hk,rfl⟩⟩
theorem WR.later {h:T AO} {nx':Pt} (H:WR P w0 r h nx w) (hx:nx.toNat≤nx'.toNat):WR P w0 r h nx' w :=
 ⟨fun k hk=>Nat.lt_of_lt_of_le (H.dom k hk) hx,H.dis,H.below,H.has,H.apart⟩
def Rho.aside (r:Rho) (n:Pt):Rho:=⟨r.has,fun k=>k=n∨r.res k,r.blk,r.ext,r.lp⟩
theorem Rho.le_aside (r:Rho) (n:Pt):r.Le (r.aside n):=⟨fun _ h=>h,fun _ h=>.inr h,fun _ _=>rfl,fun _ _=>rfl,fun _ _=>rfl⟩
mutual
theorem conc_aside (r:Rho) (n:Pt):∀ v,conc (r.aside n) v=conc r v
 | .bool _=>by simp only [conc]
 | .int _ _=>by simp only [conc]
 | .str _=>by simp only [conc]
 | .nilp=>by simp only [conc]
 | .ptr _ _=>by simp only [conc,Rho.aside]
 | .nils=>by simp only [conc]
 | .sl _ _ _ _ _=>by simp only [conc,Rho.aside]
 | .slz _ _ _=>by simp only [conc,Rho.aside]; rfl
 | .nilm=>by simp only [conc]
 | .map _=>by simp only [conc,Rho.aside]
 | .fn _ a b=>by simp only [conc,concL_aside r n a,concL_aside r n b]
 | .yld _=>by simp only [conc,Rho.aside]
 | .chan _=>by simp only [conc,Rho.aside]
 | .nilc=>by simp only [conc]
 | .nilf=>by simp only [conc]
 | .iface _ v=>by simp only [conc,conc_aside r n v]
 | .nili=>by simp only [conc]
 | .agg a=>by simp only [conc,concL_aside r n a]
 | .tup a=>by simp only [conc,concL_aside r n a]
theorem concL_aside (r:Rho) (n:Pt):∀ l,concL (r.aside n) l=concL r l
 | []=>by simp only [concL]
 | v :: l=>by simp only [concL,conc_aside r n v,concL_aside r n l]
end
theorem BR.aside {n k:Pt} {o:AO} {x:Option Obj} (hb:BR P r k o x):BR P (r.aside n) k o x:=by
 cases o with
 | cells vs e =>
  obtain ⟨rest,h1,h2⟩:=hb
  exact ⟨rest,by rw [concL_aside]; exact h1,h2⟩
 | frz vs e =>
  obtain ⟨rest,z,h1,h2⟩:=hb
  exact ⟨rest,z,by rw [concL_aside]; exact h1,h2⟩
 | loop st pe=>exact hb
 | chan cap buf =>
  obtain ⟨sent,rcvd,hx⟩:=hb
  exact ⟨sent,rcvd,by rw [concL_aside]; exact hx⟩
 | iter s rest pos=>exact hb
 | mapK m es =>
  obtain ⟨es,L,c,hx,M,I⟩:=hb
  refine ⟨es,L,c,hx,⟨?_,M.nodup,M.ints⟩,I⟩
  rw [M.ent]
  exact List.map_congr_left fun y _=>by simp only [conc_aside]
 | map es c =>
  obtain ⟨es',c',h1,M,Bi⟩:=hb
  refine ⟨es',c',?_,M,Bi⟩
  have:es'.map (concE (r.aside n))=es'.map (concE r):=List.map_congr_left fun y hy=>by simp only [concE,conc_aside]
  rw [this]
  exact h1
theorem WR.aside {h:T AO} (H:WR P w0 r h nx w):WR P w0 (r.aside nx) h nx.succ w:=by
 refine ⟨fun k hk=>?_,fun k hk hr=>?_,H.below,fun k o hk=>?_,H.apart⟩
 ·rw [Pt.toNat_succ]
  rcases hk with hk | rfl | hk
  ·exact Nat.lt_succ_of_lt (H.dom k (.inl hk))
  ·exact Nat.lt_succ_self _
  ·exact Nat.lt_succ_of_lt (H.dom k (.inr hk))
 ·rcases hr with rfl | hr
  ·exact H.fresh hk
  ·exact H.dis k hk hr
 ·obtain ⟨h1,h2,h3,h4⟩:=H.has k o hk
  exact ⟨h1,h2,h3,h4.aside⟩
def Rho.take (r:Rho) (n:Pt):Rho:=⟨r.has,fun k=>k≠n∧r.res k,r.blk,r.ext,r.lp⟩
mutual
theorem conc_take (r:Rho) (n:Pt):∀ v,conc (r.take n) v=conc r v
 | .bool _=>by simp only [conc]
 | .int _ _=>by simp only [conc]
 | .str _=>by simp only [conc]
 | .nilp=>by simp only [conc]
 | .ptr _ _=>by simp only [conc,Rho.take]
 | .nils=>by simp only [conc]
 | .sl _ _ _ _ _=>by simp only [conc,Rho.take]
 | .slz _ _ _=>by simp only [conc,Rho.take]; rfl
 | .nilm=>by simp only [conc]
 | .map _=>by simp only [conc,Rho.take]
 | .fn _ a b=>by simp only [conc,concL_take r n a,concL_take r n b]
 | .yld _=>by simp only [conc,Rho.take]
 | .chan _=>by simp only [conc,Rho.take]
 | .nilc=>by simp only [conc]
 | .nilf=>by simp only [conc]
 | .iface _ v=>by simp only [conc,conc_take r n v]
 | .nili=>by simp only [conc]
 | .agg a=>by simp only [conc,concL_take r n a]
 | .tup a=>by simp only [conc,concL_take r n a]
theorem concL_take (r:Rho) (n:Pt):∀ l,concL (r.take n) l=concL r l
 | []=>by simp only [concL]
 | v :: l=>by simp only [concL,conc_take r n v,concL_take r n l]
end
theorem BR.take {n k:Pt} {o:AO} {x:Option Obj} (hb:BR P r k o x):BR P (r.take n) k o x:=by
 cases o with
 | cells vs e =>
  obtain ⟨rest,h1,h2⟩:=hb
  exact ⟨rest,by rw [concL_take]; exact h1,h2⟩
 | frz vs e =>
  obtain ⟨rest,z,h1,h2⟩:=hb
  exact ⟨rest,z,by rw [concL_take]; exact h1,h2⟩
 | loop st pe=>exact hb
 | chan cap buf =>
  obtain ⟨sent,rcvd,hx⟩:=hb
  exact ⟨sent,rcvd,by rw [concL_take]; exact hx⟩
 | iter s rest pos=>exact hb
 | mapK m es =>
  obtain ⟨es,L,c,hx,M,I⟩:=hb
  refine ⟨es,L,c,hx,⟨?_,M.nodup,M.ints⟩,I⟩
  rw [M.ent]
  exact List.map_congr_left fun y _=>by simp only [conc_take]
 | map es c =>
  obtain ⟨es',c',h1,M,Bi⟩:=hb
  refine ⟨es',c',?_,M,Bi⟩
  have:es'.map (concE (r.take n))=es'.map (concE r):=List.map_congr_left fun y hy=>by simp only [concE,conc_take]
  rw [this]
  exact h1
theorem WR.take {h:T AO} (n:Pt) (H:WR P w0 r h nx w):WR P w0 (r.take n) h nx w :=
 ⟨fun k hk=>H.dom k (hk.imp id And.right),fun k hk hr=>H.dis k hk hr.2,H.below,fun k o hk=>by
  obtain ⟨h1,h2,h3,h4⟩:=H.has k o hk
  exact ⟨h1,h2,h3,h4.take⟩,H.apart⟩
theorem WR.back {h:T AO} (H:WR P w0 r h nx w) {n:Pt} {ob:AO} (hn:r.has n) (ho:okO r.has ob) (hb:BR P r n ob (w.heap[r.blk n]?)) (h0:w0.heap.size≤r.blk n) (hap:∀ k o,h.find k=some o→r.blk k=r.blk n→k=n):WR P w0 r (h.set ob n) nx w:=by
 refine ⟨H.dom,H.dis,H.below,fun k o hk=>?_,fun i j oi oj hi hj e=>?_⟩
 ·by_cases e:k=n
  ·subst e
   rw [T.find_set] at hk; cases hk
   exact ⟨hn,h0,ho,hb⟩
  ·rw [T.find_set_ne _ _ _ _ e] at hk; exact H.has k o hk
 ·by_cases ei:i=n
  ·by_cases ej:j=n
   ·rw [ei,ej]
   ·rw [T.find_set_ne _ _ _ _ ej] at hj
    subst ei
    exact (hap j oj hj e.symm).symm
  ·rw [T.find_set_ne _ _ _ _ ei] at hi
   by_cases ej:j=n
   ·subst ej; exact hap i oi hi e
   ·rw [T.find_set_ne _ _ _ _ ej] at hj
    exact H.apart i j oi oj hi hj e
end
theorem absK_spec {pr:Nat→Bool}:∀ {F:List Fl} {h:T AO} {acc:List Fl} {c:List Fl→T AO→Prop},absK pr F h acc c →
  ∃ F' h',c F' h'∧(∀ f,f ∈ F'↔f ∈ acc∨f ∈ F∧pr f.i=false)∧∀ k o,h'.find k=some o→h.find k=some o∨∃ f ∈ F,pr f.i=true∧f.n=k∧f.ob=o
 | [],h,acc,c,hk=>⟨acc,h,hk,fun f=>by simp,fun k o hk=>.inl hk⟩
 | f :: F,h,acc,c,hk=>by
  have hk:Bool.rec (motive:=fun _=>Prop) (absK pr F h (f :: acc) c) (h.setK f.ob f.n fun h=>absK pr F h acc c) (pr f.i):=hk
  cases hp:pr f.i with
  | false =>
   rw [hp] at hk
   obtain ⟨F',h',h1,h2,h3⟩:=absK_spec hk
   refine ⟨F',h',h1,fun g=>?_,fun k o hk=>?_⟩
   ·rw [h2 g]
    simp only [List.mem_cons]
    constructor
    ·rintro ((rfl | h) | h)
     ·exact .inr ⟨.inl rfl,hp⟩
     ·exact .inl h
     ·exact .inr ⟨.inr h.1,h.2⟩
    ·rintro (h | ⟨rfl | h,h'⟩)
     ·exact .inl (.inr h)
     ·exact .inl (.inl rfl)
     ·exact .inr ⟨h,h'⟩
   ·rcases h3 k o hk with h4 | ⟨g,h4,h5⟩
    ·exact .inl h4
    ·exact .inr ⟨g,List.mem_cons_of_mem _ h4,h5⟩
  | true =>
   rw [hp] at hk
   have hk:h.setK f.ob f.n fun h=>absK pr F h acc c:=hk
   rw [T.setK_iff] at hk
   obtain ⟨F',h',h1,h2,h3⟩:=absK_spec hk
   refine ⟨F',h',h1,fun g=>?_,fun k o hk=>?_⟩
   ·rw [h2 g]
    simp only [List.mem_cons]
    constructor
    ·rintro (h | h)
     ·exact .inl h
     ·exact .inr ⟨.inr h.1,h.2⟩
    ·rintro (h | ⟨rfl | h,h'⟩)
     ·exact .inl h
     ·rw [hp] at h'; cases h'
     ·exact .inr ⟨h,h'⟩
   ·rcases h3 k o hk with h4 | ⟨g,h4,h5⟩
    ·by_cases e:k=f.n
     ·subst e
      rw [T.find_set] at h4; cases h4
      exact .inr ⟨f,List.mem_cons_self ..,hp,rfl,rfl⟩
     ·rw [T.find_set_ne _ _ _ _ e] at h4; exact .inl h4
    ·exact .inr ⟨g,List.mem_cons_of_mem _ h4,h5⟩
theorem rcK_spec {tm:S} {h:T AO} {nx:Pt} {k:Prop}:∀ {rc:List (Sl × AOper)},(∀ q ∈ rc,quietX q.2=true)→rcK rc tm h nx k→k∧∀ q ∈ rc,nK q.2 tm h nx fun v=>tm.find q.1=some v
 | [],_,hk=>⟨hk,fun q hq=>by cases hq⟩
 | q :: rc,hq,hk=>by
  have hk:nK q.2 tm h nx fun v=>tm.getK q.1 fun u=>Bool.rec (motive:=fun _=>Prop) False (rcK rc tm h nx k) (eqV v u):=hk
  have hqq:=hq q (List.mem_cons_self ..)
  obtain ⟨v,h1,h2⟩:=nK_val hqq hk
  obtain ⟨u,h3,h4⟩:=(S.getK_iff _ _ _).1 h1
  obtain ⟨h5,h6⟩:=brec h4
  obtain ⟨h7,h8⟩:=rcK_spec (fun x hx=>hq x (List.mem_cons_of_mem _ hx)) h6
  refine ⟨h7,fun x hx=>?_⟩
  rcases List.mem_cons.1 hx with rfl | hx
  ·exact nK_imp hqq (fun v' hv'=>by rw [hv',eqV_eq h5]; exact h3) h2
  ·exact h8 x hx
theorem inB_iff:∀ {l:List Nat} {i:Nat},inB l i=true↔i ∈ l
 | [],i=>by simp [inB]
 | j :: l,i=>by simp [inB,inB_iff (l:=l)]
def anc (ops:Array Oper):Nat→Nat→Nat→Bool
 | 0,_,_=>false
 | f+1,i,j=>match ops[i]? with
  | none=>false
  | some o=>o.after.toList.any fun e=>Region.binds .any e&&(Nat.beq e.on j||anc ops f e.on j)
def Closed (ops:Array Oper) (listed:Array Bool):Prop:=∀ i o,ops[i]?=some o→listed.getD i false=true→∀ e ∈ o.after,Region.binds .any e=true→listed.getD e.on false=true
theorem anc_listed {ops:Array Oper} {listed:Array Bool} (hc:Closed ops listed):∀ {f i j:Nat} {o:Oper},ops[i]?=some o→(∀ e ∈ o.after,Region.binds .any e=true→listed.getD e.on false=true)→anc ops f i j=true→listed.getD j false=true
 | 0,_,_,_,_,_,h=>by cases h
 | f+1,i,j,o,ho,hall,h=>by
  unfold anc at h
  rw [ho] at h
  simp only [List.any_eq_true,Bool.and_eq_true,Bool.or_eq_true] at h
  obtain ⟨e,he,hb,h⟩:=h
  have hl:=hall e (Array.mem_toList_iff.1 he) hb
  rcases h with h | h
  ·rw [← Nat.eq_of_beq_eq_true h]; exact hl
  ·cases hoe:ops[e.on]? with
   | none =>
    cases f with
    | zero=>cases h
    | succ f=>unfold anc at h; rw [hoe] at h; cases h
   | some o'=>exact anc_listed hc hoe (hc e.on o' hoe hl) h
def Anc (ops:Array Oper) (i j:Nat):Prop:=∃ f,anc ops f i j=true
theorem Anc.listed {ops:Array Oper} {listed:Array Bool} (hc:Closed ops listed) {i j:Nat} {o:Oper} (ho:ops[i]?=some o) (hall:∀ e ∈ o.after,Region.binds .any e=true→listed.getD e.on false=true) (h:Anc ops i j):listed.getD j false=true:=by
 obtain ⟨f,h⟩:=h
 exact anc_listed hc ho hall h
end Go.Proofs.YtidggaoacldgkaaGreatDoor.X
