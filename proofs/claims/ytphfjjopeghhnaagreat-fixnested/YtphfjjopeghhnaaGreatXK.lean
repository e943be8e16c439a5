/- An executor for closed calls, 11: make of slices, append. -/
import Derived.Test.YtphfjjopeghhnaaGreatXJ
namespace Go.Proofs.YtphfjjopeghhnaaGreat.X
open Go.RowKit
theorem zerosL_get (z:List AV) (hz:0<z.length):∀ (c i:Nat),(zerosL z c)[i]?=if i<c*z.length then z[i % z.length]? else none
 | 0,i=>by simp [zerosL]
 | c+1,i=>by
  rw [zerosL]
  by_cases hi:i<z.length
  ·rw [List.getElem?_append_left hi,if_pos (by rw [Nat.succ_mul]; omega),Nat.mod_eq_of_lt hi]
  ·rw [List.getElem?_append_right (by omega),zerosL_get z hz c]
   have e:(i - z.length) % z.length=i % z.length:=by
    have:i=(i - z.length)+z.length:=by omega
    rw [this,Nat.add_mod_right,Nat.add_sub_cancel]
   rw [e]
   have:i - z.length<c*z.length↔i<(c+1)*z.length:=by rw [Nat.succ_mul]; omega
   simp only [this]
theorem okL_zeros {n:Pt→Prop} {z:List AV} (h:okL n z):∀ c,okL n (zerosL z c)
 | 0=>by simp [zerosL,okL]
 | c+1=>by rw [zerosL,okL_append]; exact ⟨h,okL_zeros h c⟩
theorem zeros_real {z:Value} {v:AV} {r:Rho} (hv:Lone v z) (h0:0<(cellsA v).length) (c:Nat):(concL r (zerosL (cellsA v) c)).toArray=(Array.range (c*(cellsA v).length)).map (z.cells[· % z.cells.size]!):=by
 have hzc:z.cells=(concL r (cellsA v)).toArray:=by rw [← hv.1 r,conc_cells]
 apply Array.ext_getElem?
 intro i
 have hs:z.cells.size=(cellsA v).length:=by rw [hzc]; simp [concL_length]
 rw [Array.getElem?_map,List.getElem?_toArray,concL_get,zerosL_get _ h0]
 by_cases hi:i<c*(cellsA v).length
 ·rw [if_pos hi]
  have hm:i % (cellsA v).length<(cellsA v).length:=Nat.mod_lt _ h0
  have hr:(Array.range (c*(cellsA v).length))[i]?=some i:=by simp [hi]
  rw [hr]
  simp only [Option.map_some,hs]
  rw [List.getElem?_eq_getElem hm]
  simp only [Option.map_some]
  congr 1
  have h3:z.cells[i % (cellsA v).length]?=some (conc r (cellsA v)[i % (cellsA v).length]):=by
   rw [hzc,List.getElem?_toArray,concL_get,List.getElem?_eq_getElem hm]; rfl
  rw [getElem!_def,h3]
 ·rw [if_neg hi]
  have hr:(Array.range (c*(cellsA v).length))[i]?=none:=by simp; omega
  rw [hr]; rfl
section
variable {P:Program} {w0:World} {r:Rho} {h:T AO} {nx:Pt} {w:World} {K:AV→T AO→Pt→Prop} {tm:S} {a:Act} {o:Oper}
theorem wrap_small {n:Nat} (h:n≤1000000000000):IntKind.i64.wrap (Int.ofNat n)=Int.ofNat n:=by
 have e1:(Int.ofNat n) % (2 ^ 64:Int)=Int.ofNat n:=Int.emod_eq_of_lt (by simp) (by simp; omega)
 have e2:¬ ((Int.ofNat n:Int)≥(2 ^ 63:Int)):=by simp; omega
 show (if (IntKind.i64.signed&&decide ((Int.ofNat n) % (2 ^ 64:Int)≥(2 ^ 63:Int)))=true then (Int.ofNat n) % (2 ^ 64:Int) - (2 ^ 64:Int) else (Int.ofNat n) % (2 ^ 64:Int))=_
 rw [e1]
 simp only [e2,decide_false,Bool.and_false,Bool.false_eq_true,if_false]
theorem run_askRoom {n:Nat}:(askRoom n).run P w=.ok () w:=by
 unfold askRoom; split <;> rfl
theorem s_mkS (H:WR P w0 r h nx w) (ht:TR r tm a.tmps) {t e:TypeId} {j:TypeInfo} {z:Value} {v:AV} {l c:Operand} {l' c':AX} (hu:P.underlying t=some (.slice e)) (hj:P.info? e=some j) (hz:j.zero=some z) (hv:Lone v z) (hl:(cellsA v).length=j.size) (h0:0<j.size) (hby:j.bytes≤1048576) (hx:Cx l l') (hy:Cx c c') (hop:o.op=.makeSlice t l c) (hk:stepV (.mkS e j.size (cellsA v) l' c') tm h nx K):Yields P w0 r h w (execOp a.eval o) K:=by
 simp only [stepV,oMkS] at hk
 obtain ⟨u,h1,h2,h3⟩:=evK_spec hx ht hk
 obtain ⟨u',h1,h4,h5⟩:=evK_spec hy ht h1
 split at h1
 ·rename_i k1 l1 k2 c1 _
  obtain ⟨hb,h1⟩:=brec h1
  rw [forceL_iff] at h1
  simp only [Bool.and_eq_true,Nat.ble_eq] at hb
  have hc:c1≤16777216:=Nat.le_trans (Nat.le_mul_of_pos_left _ h0) hb.2
  refine Yields.slice H (okL_zeros (okL_cells (hv.2 _)) c1) (setK_forceP h1) fun x w' hx=>?_
  simp only [execOp,hop]
  refine run_value ?_
  unfold Instr.makeSlice
  rw [run_ok_bind (run_underlying hu),h2,h4]
  simp only [conc,asInt,asIntOf]
  have I:∀ (k:IntKind) (n:Int),((do Pure.pure (← (Pure.pure (k,n):Sem (IntKind × Int))).2):Sem Int).run P w=.ok n w:=fun _ _=>rfl
  rw [run_ok_bind (I _ _),run_ok_bind (I _ _),run_ok_bind (run_typeInfo hj)]
  rw [wrap_small (n:=l1) (by omega),wrap_small (n:=c1) (by omega)]
  have hbc:(j.bytes:Int)*(Int.ofNat c1)≤2 ^ 48:=by
   have e1:j.bytes*c1≤17592186044416:=Nat.mul_le_mul hby hc
   have e2:((j.bytes*c1:Nat):Int)≤((17592186044416:Nat):Int):=Int.ofNat_le.2 e1
   rw [Int.natCast_mul] at e2
   exact Int.le_trans e2 (by decide)
  rw [if_neg (by
   simp only [Bool.or_eq_true,decide_eq_true_eq,Int.ofNat_eq_natCast,not_or] at hbc ⊢
   refine ⟨⟨?_,?_⟩,?_⟩ <;> omega)]
  rw [run_ok_bind run_askRoom,run_ok_bind (run_sizeOf hj)]
  simp only [Int.toNat_natCast,Int.ofNat_eq_natCast]
  by_cases hn:c1*j.size=0
  ·have hc0:c1=0:=by rcases Nat.mul_eq_zero.1 hn with e | e <;> omega
   subst hc0
   rw [if_pos hn,run_ok_bind (run_pure P _ w)]
   rw [Nat.zero_mul,show ∀ f:Nat→Value,(Array.range 0).map f=#[] from fun f=>by rw [show (Array.range 0)=#[] from rfl]; exact Array.map_empty]
   have hx:(newRow e #[]).run P w=.ok x w':=by simpa [zerosL,concL] using hx
   rw [run_ok_bind hx]; rfl
  ·rw [if_neg hn,run_ok_bind (run_zeroValue hj hz),run_ok_bind (run_pure P _ w)]
   rw [← hl,← zeros_real (r:=r) hv (by omega) c1,run_ok_bind hx]; rfl
 ·exact h1.elim
end
end Go.Proofs.YtphfjjopeghhnaaGreat.X
