/- An executor for closed calls, 20: what a region that draws its order is made of: operations that look, that make a block, that act. -/
import Derived.Test.YtpajcdofelmaaaaGreatDoorXS
namespace Go.Proofs.YtpajcdofelmaaaaGreatDoor.X
open Go.RowKit
section
variable {P:Program} {w0:World} {r:Rho} {tm:S} {a:Act} {o:Oper}
def Floats (P:Program) (r:Rho) (n:Pt) (w:World) (s:Sem Next) (c:AV→AO→Prop):Prop :=
 ∃ v ob obj x d,c v ob∧s.run P w=.ok (.value (conc (r.more n w.heap.size x) v)) { w with drawn:=d,heap:=w.heap.push obj }∧BR P (r.more n w.heap.size x) n ob (some obj)∧okO (r.more n w.heap.size x).has ob∧okV (r.more n w.heap.size x).has v
theorem Floats.row {n:Pt} (hn:¬ r.has n) {w:World} {vs:List AV} {e:TypeId} {s:Sem Next} {c:AV→AO→Prop} {v:AV} (hv:okL r.has vs) (hc:c v (.cells vs e)) (hok:okV (r.more n w.heap.size 0).has v)
  (hs:∀ x w',(newRow e (concL r vs).toArray).run P w=.ok x w'→∃ y,s.run P w=.ok (.value y) w'∧(x=⟨w.heap.size,0,none⟩→y=conc (r.more n w.heap.size 0) v)):Floats P r n w s c:=by
 have hle:=Rho.le_more hn w.heap.size 0
 obtain ⟨y,h1,h2⟩:=hs ⟨w.heap.size,0,none⟩ { w with heap:=w.heap.push (.cells (concL r vs).toArray e (0,0)) } rfl
 refine ⟨v,.cells vs e,.cells (concL r vs).toArray e (0,0),0,w.drawn,hc,by rw [h1,h2 rfl],⟨[],?_,?_⟩,okL.mono hle.has hv,hok⟩
 ·rw [concL_le hle hv]; simp
 ·rw [r.more_ext]; simp
theorem float_sound (ht:TR r tm a.tmps) {op:Op} {op':AOp} {n:Pt} {w:World} {c:AV→AO→Prop} (hn:¬ r.has n) (hop:o.op=op) (hc:Co P op op') (hk:floatK op' tm n c):Floats P r n w (execOp a.eval o) c:=by
 have hptr:okV (r.more n w.heap.size 0).has (.ptr n 0):=by simp only [okV]; exact Or.inl rfl
 have hsl:∀ k l,okV (r.more n w.heap.size 0).has (.sl n 0 k l false):=fun k l=>by simp only [okV]; exact Or.inl rfl
 have ep:∀ x:Addr,x=⟨w.heap.size,0,none⟩→Value.pointer (some x)=conc (r.more n w.heap.size 0) (.ptr n 0):=fun x hx=>by simp only [conc,r.more_blk,hx]
 have es:∀ (x:Addr) (k l:Nat),x=⟨w.heap.size,0,none⟩→Value.slice (some x) k l=conc (r.more n w.heap.size 0) (.sl n 0 k l false):=fun x k l hx=>by simp [conc,r.more_blk,hx]
 cases hc with
 | new hi hz hv =>
  refine Floats.row hn (okL_cells (hv.2 _)) hk hptr fun x w' hx=>⟨_,?_,ep x⟩
  simp only [execOp,hop]
  refine run_value ?_
  unfold Instr.alloc
  rw [run_ok_bind (run_zeroValue hi hz)]
  simp only []
  rename_i e i z v
  have:(newVar e z).run P w=.ok x w':=by rw [newVar,← hv.1 r,conc_cells]; exact hx
  rw [run_ok_bind this]; rfl
 | box hx =>
  obtain ⟨v,h1,h2,h3⟩:=evK_spec hx ht hk
  refine Floats.row hn (okL_cells h3) h1 hptr fun x w' hx=>⟨_,?_,ep x⟩
  simp only [execOp,hop,h2]
  refine run_value ?_
  rename_i e _ _ _
  have:(newVar e (conc r v)).run P w=.ok x w':=by rw [newVar,conc_cells]; exact hx
  unfold Instr.box
  rw [run_ok_bind this]; rfl
 | buildS hu hj hz hm h0 hok hzs hv hps =>
  obtain ⟨vs,h1,h2,h3⟩:=fillK_spec ht hps (hok _) hk
  rw [forceL_iff] at h1
  refine Floats.row hn h2 h1 (hsl _ _) fun x w' hx=>⟨_,?_,es x _ _⟩
  simp only [execOp,hop]
  refine run_value ?_
  unfold Instr.buildSlice
  rw [run_ok_bind (run_underlying hu)]
  simp only []
  rw [run_ok_bind (run_sizeOf hj),if_neg (by omega)]
  rw [if_neg (by omega),run_ok_bind (run_zeroValue hj hz),run_ok_bind (run_pure P _ w)]
  rw [← hzs r,toList_parts,h3]
  simp only []
  rw [run_ok_bind hx]; rfl
 | buildE hu hj =>
  have h1:c (.sl n 0 0 0 false) (.cells [] _):=hk
  refine Floats.row hn (vs:=[]) (by simp [okL]) h1 (hsl _ _) fun x w' hx=>⟨_,?_,es x _ _⟩
  simp only [execOp,hop]
  refine run_value ?_
  unfold Instr.buildSlice
  rw [run_ok_bind (run_underlying hu)]
  simp only []
  rw [run_ok_bind (run_sizeOf hj),if_neg (by omega)]
  rw [if_pos (by omega),run_ok_bind (run_pure P _ w)]
  simp only [Nat.zero_mul]
  simp only [concL] at hx
  rename_i t e j
  have:(newRow e #[]).run P w=.ok x w':=hx
  rw [show (Array.map (fun x:Nat × Operand=>(x.fst,a.eval x.snd)) #[]).toList=[] by simp,show ∀ f:Nat→Value,(Array.range 0).map f=#[] from fun f=>by rw [show (Array.range 0)=#[] from rfl]; exact Array.map_empty]
  simp only [Instr.fill]
  rw [run_ok_bind this]; rfl
 | mkS hu hj hz hv hl h0 hby hx hy =>
  rename_i t e j z v l c1 l' c'
  have hk:evK _ l' fun l=>evK _ c' fun m=>match l,m with
   | .int _ (.ofNat l),.int _ (.ofNat m)=>Bool.rec (motive:=fun _=>Prop) False (forceL (zerosL (cellsA v) m) fun vs=>c (.sl n 0 l m false) (.cells vs e)) (Nat.ble l m&&Nat.ble (j.size*m) 16777216)
   | _,_=>False:=hk
  obtain ⟨u,h1,h2,h3⟩:=evK_spec hx ht hk
  obtain ⟨u',h1,h4,h5⟩:=evK_spec hy ht h1
  split at h1
  ·rename_i k1 l1 k2 m1 _
   obtain ⟨hb,h1⟩:=brec h1
   rw [forceL_iff] at h1
   simp only [Bool.and_eq_true,Nat.ble_eq] at hb
   have hc:m1≤16777216:=Nat.le_trans (Nat.le_mul_of_pos_left _ h0) hb.2
   refine Floats.row hn (okL_zeros (okL_cells (hv.2 _)) m1) h1 (hsl _ _) fun x w' hx=>⟨_,?_,es x _ _⟩
   simp only [execOp,hop]
   refine run_value ?_
   unfold Instr.makeSlice
   rw [run_ok_bind (run_underlying hu),h2,h4]
   simp only [conc,asInt,asIntOf]
   have I:∀ (k:IntKind) (n:Int),((do Pure.pure (← (Pure.pure (k,n):Sem (IntKind × Int))).2):Sem Int).run P w=.ok n w:=fun _ _=>rfl
   rw [run_ok_bind (I _ _),run_ok_bind (I _ _),run_ok_bind (run_typeInfo hj)]
   rw [wrap_small (n:=l1) (by omega),wrap_small (n:=m1) (by omega)]
   have hbc:(j.bytes:Int)*(Int.ofNat m1)≤2 ^ 48:=by
    have e1:j.bytes*m1≤17592186044416:=Nat.mul_le_mul hby hc
    have e2:((j.bytes*m1:Nat):Int)≤((17592186044416:Nat):Int):=Int.ofNat_le.2 e1
    rw [Int.natCast_mul] at e2
    exact Int.le_trans e2 (by decide)
   rw [if_neg (by
    simp only [Bool.or_eq_true,decide_eq_true_eq,Int.ofNat_eq_natCast,not_or] at hbc ⊢
    refine ⟨⟨?_,?_⟩,?_⟩ <;> omega)]
   rw [run_ok_bind run_askRoom,run_ok_bind (run_sizeOf hj)]
   simp only [Int.toNat_natCast,Int.ofNat_eq_natCast]
   by_cases hn0:m1*j.size=0
   ·have hc0:m1=0:=by rcases Nat.mul_eq_zero.1 hn0 with e | e <;> omega
    subst hc0
    rw [if_pos hn0,run_ok_bind (run_pure P _ w)]
    rw [Nat.zero_mul,show ∀ f:Nat→Value,(Array.range 0).map f=#[] from fun f=>by rw [show (Array.range 0)=#[] from rfl]; exact Array.map_empty]
    have hx:(newRow e #[]).run P w=.ok x w':=by simpa [zerosL,concL] using hx
    rw [run_ok_bind hx]; rfl
   ·rw [if_neg hn0,run_ok_bind (run_zeroValue hj hz),run_ok_bind (run_pure P _ w)]
    rw [← hl,← zeros_real (r:=r) hv (by omega) m1,run_ok_bind hx]; rfl
  ·exact h1.elim
 | cvB hs hd he hj h1j hx =>
  rename_i src dst e d j x x'
  obtain ⟨v,g1,h2,h3⟩:=evK_spec hx ht hk
  split at g1
  ·rename_i s
   simp only [okV] at h3
   rw [forceL_iff,forceN_iff] at g1
   let ex:=w.tape w.drawn (.appendCap (bytesOf s).size 0 e) % (2 ^ 63 - (bytesOf s).size)
   have hle:=Rho.le_more hn w.heap.size ex
   have hu8:((bytesOf s).data.map fun b=>Value.int .u8 b.toNat).toList=concL r (s.map fun b=>AV.int .u8 (.ofNat b)):=by
    simp only [concL_map,List.map_map,bytesOf]
    simp only [List.map_toArray,List.map_map]
    refine List.map_congr_left fun b hb=>?_
    simp only [Function.comp,conc,UInt8.toNat_ofNat']
    rw [Nat.mod_eq_of_lt (by have:=h3 b hb; simpa using this)]
    rfl
   let c:=concL r (s.map fun b=>AV.int .u8 (.ofNat b)) ++ List.replicate ex (Value.int .u8 0)
   have hok:okL r.has (s.map fun b=>AV.int .u8 (.ofNat b)):=okL_u8 s
   refine ⟨.sl n 0 s.length s.length true,.frz (s.map fun b=>AV.int .u8 (.ofNat b)) e,.cells c.toArray e (c.length,c.length+1),ex,w.drawn+1,g1,?_,⟨List.replicate ex (Value.int .u8 0),(c.length,c.length+1),by rw [concL_le hle hok],by
    rw [r.more_ext,sizeT_of hj,h1j]; simp,fun i hi hz=>by
    have h1:c.length=(s.map fun b=>AV.int .u8 (.ofNat b)).length+(List.replicate ex (Value.int .u8 0)).length:=by simp only [c]; rw [List.length_append,concL_length]
    have h2:c.length≤i:=hz.1
    omega⟩,okL.mono hle.has hok,by simp only [okV]; exact Or.inl rfl⟩
   simp only [execOp,hop]
   refine run_value ?_
   unfold convert
   rw [run_ok_bind (run_underlying hs),run_ok_bind (run_underlying hd),h2]
   simp only [conc]
   show Sem.run P (underlying e >>= _) w=_
   rw [run_ok_bind (run_underlying he)]
   simp only []
   unfold Conv.stringToBytes
   show Sem.run P (Sem.choose (.appendCap (bytesOf s).size 0 e) fun n=>_) w=_
   rw [show ∀ (k:Nat→Sem Value),Sem.run P (Sem.choose (.appendCap (bytesOf s).size 0 e) k) w=(k ((bytesOf s).size+ex)).run P { w with drawn:=w.drawn+1 } from fun _=>rfl]
   have hc:(bytesOf s).data.map (fun b=>Value.int .u8 b.toNat) ++ Array.replicate ex (Value.int .u8 0)=c.toArray:=by
    apply Array.ext'
    rw [Array.toList_append,hu8]
    simp [c]
   show Sem.run P (newRow e ((bytesOf s).data.map (fun b=>Value.int .u8 b.toNat) ++ Array.replicate ((bytesOf s).size+ex - (bytesOf s).size) (Value.int .u8 0)) >>= fun a=>_) _=_
   rw [Nat.add_sub_cancel_left,hc,run_ok_bind (show (newRow e c.toArray).run P { w with drawn:=w.drawn+1 }=.ok ⟨w.heap.size,0,none⟩ { w with drawn:=w.drawn+1,heap:=w.heap.push (.cells c.toArray e (0,0)) } from rfl)]
   have hm:(markStringish ⟨w.heap.size,0,none⟩).run P { w with drawn:=w.drawn+1,heap:=w.heap.push (.cells c.toArray e (0,0)) }=.ok () { w with drawn:=w.drawn+1,heap:=w.heap.push (.cells c.toArray e (c.length,c.length+1)) }:=by
    unfold markStringish
    have S:∀ {α:Type} (w:World) (x:Nat) (f:Option (TypeId × Nat)→Sem α),(shape x >>= f).run P w=(f (w.shape? x)).run P w:=fun _ _ _=>rfl
    rw [S]
    simp only [World.shape?,Array.getElem?_push_size]
    show Result.ok () (World.freeze _ _ 1)=_
    congr 1
    unfold World.freeze
    rw [if_neg (by decide)]
    congr 1
    apply Array.ext_getElem?
    intro i
    rw [Array.getElem?_modify]
    by_cases hi:w.heap.size=i
    ·subst hi; simp
    ·rw [if_neg hi]
     rw [Array.getElem?_push,Array.getElem?_push,if_neg (fun e=>hi e.symm),if_neg (fun e=>hi e.symm)]
   rw [run_ok_bind hm]
   simp only [run_pure,bytes_size,r.more_blk,r.more_ext,if_true]
  ·exact g1.elim
 | mkM =>
  have hle:=Rho.le_more hn w.heap.size 0
  refine ⟨.map n,.map [] 0,.map #[] 0,0,w.drawn,hk,?_,⟨[],0,rfl,.nil,.nil⟩,by simp [okO],by simp only [okV]; exact Or.inl rfl⟩
  simp only [execOp,hop]
  refine run_value ?_
  simp only [conc,r.more_blk]; rfl
 | _=>exact hk.elim
end
section
variable {P:Program} {w0:World} {m:Nat} {r:Rho} {h:T AO} {nx:Pt} {w:World} {tm:S} {a:Act}
theorem eK_sound {ro:Option Nat} {ch:CH} (hch:CHq P w0 ch) (hE:EnvOk P w0 ch.loops r) {ops:Array Oper} {o:Oper} {i:Nat} {x:AOper} {c:AV→T AO→Pt→Prop} {Q:Exit→Act→World→Prop} {next:Act→World→Prop}
  (hi:ops[i]?=some o) (hc:compOper P m ops o=some x) (H:WR P w0 r h nx w) (ht:TR r tm a.tmps) (hk:eK x ch tm h nx c)
  (hn:∀ v h' nx' r' w',c v h' nx'→WR P w0 r' h' nx' w'→Ev r h w r' h' w'→okV r'.has v→next (a.put o.dst (conc r' v)) w'):wpOpIn (Wr ro) 0 P ops Q i next a w:=by
 unfold compOper at hc
 split at hc
 ·rename_i k d g hck hcd hcg
  cases hc
  simp only [wpOpIn,hi]
  cases g with
  | none =>
   rw [if_pos (wanted_none hcg)]
   exact (eK0_sound hch.call hE hck H ht hk hn (fun _ _ _ _ _ hh=>(hch.calm _ _ _ _ hh).elim))
  | some pb =>
   obtain ⟨p,b⟩:=pb
   have hk:wantK p b tm (eK0 k ch tm h nx c) (c (.tup []) h nx):=hk
   rcases wantK_spec hcg ht hk with ⟨hw,hk⟩ | ⟨hw,hk⟩
   ·rw [if_pos hw]
    exact (eK0_sound hch.call hE hck H ht hk hn (fun _ _ _ _ _ hh=>(hch.calm _ _ _ _ hh).elim))
   ·rw [if_neg (by rw [hw]; simp)]
    have:=hn (.tup []) h nx r w hk H (.refl r h w) (by simp [okV,okL])
    rw [conc_undef] at this
    exact ⟨fun _ _=>trivial,this⟩
 ·cases hc
end
end Go.Proofs.YtpajcdofelmaaaaGreatDoor.X
