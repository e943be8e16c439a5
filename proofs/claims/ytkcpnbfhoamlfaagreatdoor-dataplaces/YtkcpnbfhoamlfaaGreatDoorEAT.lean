/- errors.As where the target is a struct: the walks. -/
import Derived.Test.YtkcpnbfhoamlfaaGreatDoorEAS
namespace Go.Proofs.YtkcpnbfhoamlfaaGreatDoor
open Go.RowKit Go.Extern.Stop Go.Stop Go.Extern

theorem below_alloc {B : Nat} {w0 w : World} {o : Obj} (hB : B ≤ w0.heap.size) (h : Below B w0 w) : Below B w0 (w.alloc o) :=
  ⟨h.os, h.tape, h.output, by show _ ≤ (w.heap.push o).size; rw [Array.size_push]; exact Nat.le_succ_of_le h.size, fun k hk => by
    show (w.heap.push o)[k]? = _
    have := h.size
    rw [Array.getElem?_push, if_neg (by omega)]; exact h.block k hk⟩

set_option maxHeartbeats 4000000 in
theorem as_walk (fs : List Int) (e old : Int) (tb a : Nat) (x : Value) (w : World) (rest : List Value) (ty : TypeId) (za : Nat × Nat) (ha : w.heap[a]? = some (.cells #[.pointer (some ⟨tb, 0, none⟩)] 211 za)) (ht : w.heap[tb]? = some (.cells (.int .i64 old :: rest).toArray ty (0, 0))) :
    Calls Tryz.prog 170 #[errV fs e, x, .agg #[.pointer (some ⟨1, 211, none⟩), .pointer (some ⟨a, 0, none⟩), .int .u64 150], .iface 351 (.agg #[.pointer (some ⟨1, 209, none⟩)])] w
      fun r w' => r = .returned (.bool true) ∧ ∃ W2, Below w.heap.size w W2 ∧ w' = asPut W2 tb e rest ty := by
  have h118 := @run_callFunc_extern Tryz.prog 167 _ (fun args => ReflectliteValue.unpack (args.getD 0 (.tuple #[]))) Tryz.func167 (by kernel_rfl) (by kernel_rfl) (by kernel_rfl) (by kernel_rfl)
  have h165 := @run_callFunc_extern Tryz.prog 223 _ ReflectliteType.typeOf Tryz.func223 (by kernel_rfl) (by kernel_rfl) (by kernel_rfl) (by kernel_rfl)
  have h447 := @run_callFunc_extern Tryz.prog 428 _ (ReflectliteType.relation "AssignableTo" ReflectliteType.assignableTo) Tryz.func428 (by kernel_rfl) (by kernel_rfl) (by kernel_rfl) (by kernel_rfl)
  have h166 := @run_callFunc_extern Tryz.prog 224 _ (ReflectliteValue.method (ReflectliteValue.valueError "reflectlite.Value.Elem" 0) ReflectliteValue.elem) Tryz.func224 (by kernel_rfl) (by kernel_rfl) (by kernel_rfl) (by kernel_rfl)
  have h167 := @run_callFunc_extern Tryz.prog 225 _ ReflectliteValue.set Tryz.func225 (by kernel_rfl) (by kernel_rfl) (by kernel_rfl) (by kernel_rfl)
  have tR := as_typeOfR
  have tW := as_typeOfW
  have mA := as_mAssign
  have aR := as_assignR
  have aW := as_assignW
  have vR := as_valueOfR
  have nW := as_noAsW
  have uW := as_hasUnwrap
  have mU := as_mUnwrap
  go_enter Tryz.func170, Tryz.ntmps170
  go_wp2
  go_loopg [0] (fs.length + 1) (fun k p wr => ∃ gs : List Int, k = gs.length + 1 ∧ p = errV gs e ∧ Below (w.heap.size + 1) (w.alloc (.cells #[.pointer (some ⟨1, 211, none⟩), .pointer (some ⟨a, 0, none⟩), .int .u64 150] 290)) wr)
  case atStart => exact ⟨fs, rfl, rfl, Below.refl _ _⟩
  case round =>
    obtain ⟨gs, rfl, rfl, hB⟩ := hrel
    have hb6 : wr.heap[w.heap.size]? = some (.cells #[.pointer (some ⟨1, 211, none⟩), .pointer (some ⟨a, 0, none⟩), .int .u64 150] 290 (0, 0)) := by
      rw [hB.block _ (by omega)]; show (w.heap.push _)[w.heap.size]? = _; simp
    have hla : a < w.heap.size := by
      rcases Nat.lt_or_ge a w.heap.size with h | h
      · exact h
      · rw [Array.getElem?_eq_none h] at ha; cases ha
    have hlt : tb < w.heap.size := by
      rcases Nat.lt_or_ge tb w.heap.size with h | h
      · exact h
      · rw [Array.getElem?_eq_none h] at ht; cases ht
    have ha' : wr.heap[a]? = some (.cells #[.pointer (some ⟨tb, 0, none⟩)] 211 za) := by
      rw [hB.block _ (by omega)]; show (w.heap.push _)[a]? = _; rw [Array.getElem?_push, if_neg (by omega)]; exact ha
    have ht' : wr.heap[tb]? = some (.cells (.int .i64 old :: rest).toArray ty (0, 0)) := by
      rw [hB.block _ (by omega)]; show (w.heap.push _)[tb]? = _; rw [Array.getElem?_push, if_neg (by omega)]; exact ht
    have hsz : w.heap.size + 1 ≤ wr.heap.size := by have h1 : (w.heap.push _).size ≤ wr.heap.size := hB.size; rw [Array.size_push] at h1; exact h1
    have c0 : wr.cell? ⟨w.heap.size, 0, none⟩ = some (.pointer (some ⟨1, 211, none⟩)) := by simp [World.cell?, hb6]
    have c1 : wr.cell? ⟨w.heap.size, 1, none⟩ = some (.pointer (some ⟨a, 0, none⟩)) := by simp [World.cell?, hb6]
    have c2 : wr.cell? ⟨w.heap.size, 2, none⟩ = some (.int .u64 150) := by simp [World.cell?, hb6]
    have el := as_elemV ⟨a, 0, none⟩ ⟨tb, 0, none⟩ wr (by simp [World.cell?, ha'])
    have st := as_set tb wr.heap.size e old rest (0, 0) ty (wr.alloc (.cells #[.int .i64 e] 209)) (by show (wr.heap.push _)[wr.heap.size]? = _; simp) (by show (wr.heap.push _)[tb]? = _; rw [Array.getElem?_push]; rw [if_neg (by omega)]; exact ht')
    have B1 : Below w.heap.size w wr := (below_alloc (Nat.le_refl _) (Below.refl _ w)).trans (hB.mono (Nat.le_succ _))
    clear hb6 ha' ht' ha ht hla hlt
    cases gs with
    | nil =>
      simp only [errV]
      go_wp2
      go_ret
      exact ⟨rfl, _, below_alloc (Nat.le_refl _) B1, rfl⟩
    | cons f gs =>
      obtain ⟨t, v, hv⟩ := errV_iface gs e
      simp only [errV, hv]
      go_wp2_with (first | (refine (unwrap_any f t v _).mono ?_; rintro r w' ⟨rfl, rfl⟩))
      go_roundg (gs.length + 1)
      case measure => simp
      case rel => exact ⟨gs, rfl, hv.symm, below_alloc (by show _ ≤ (w.heap.push _).size; simp) hB⟩

set_option maxHeartbeats 4000000 in
theorem as_any (fs : List Int) (e old : Int) (tb : Nat) (w : World) (rest : List Value) (ty : TypeId) (hg : w.cell? ⟨0, 0, none⟩ = some (.iface 351 (.agg #[.pointer (some ⟨1, 149, none⟩)]))) (ht : w.heap[tb]? = some (.cells (.int .i64 old :: rest).toArray ty (0, 0))) :
    Calls Tryz.prog 116 #[errV fs e, .iface 211 (.pointer (some ⟨tb, 0, none⟩))] w
      fun r w' => r = .returned (.bool true) ∧ ∃ W2, Below w.heap.size w W2 ∧ w' = asPut W2 tb e rest ty := by
  have h118 := @run_callFunc_extern Tryz.prog 167 _ (fun args => ReflectliteValue.unpack (args.getD 0 (.tuple #[]))) Tryz.func167 (by kernel_rfl) (by kernel_rfl) (by kernel_rfl) (by kernel_rfl)
  have h119 := @run_callFunc_extern Tryz.prog 168 _ (ReflectliteValue.methodAny (ReflectliteValue.valueError "reflectlite.Value.Type" 0) (fun t _ _ _ => ReflectliteType.toType t)) Tryz.func168 (by kernel_rfl) (by kernel_rfl) (by kernel_rfl) (by kernel_rfl)
  have h120 := @run_callFunc_extern Tryz.prog 169 _ (ReflectliteValue.method (ReflectliteValue.valueError "reflectlite.Value.IsNil" 0) ReflectliteValue.isNil) Tryz.func169 (by kernel_rfl) (by kernel_rfl) (by kernel_rfl) (by kernel_rfl)
  have h435 := @run_callFunc_extern Tryz.prog 418 _ (ReflectliteType.abiMethod fun t => do pure (.int .u8 (← Rtype.kind t))) Tryz.func418 (by kernel_rfl) (by kernel_rfl) (by kernel_rfl) (by kernel_rfl)
  have h449 := @run_callFunc_extern Tryz.prog 430 _ (ReflectliteType.method ReflectliteType.elem) Tryz.func430 (by kernel_rfl) (by kernel_rfl) (by kernel_rfl) (by kernel_rfl)
  have h450 := @run_callFunc_extern Tryz.prog 431 _ (ReflectliteType.relation "Implements" ReflectliteType.implements_) Tryz.func431 (by kernel_rfl) (by kernel_rfl) (by kernel_rfl) (by kernel_rfl)
  have vP := as_valueOfP
  have tP := as_typeP
  have mK := as_mKind
  have mE := as_mElem
  have mI := as_mImpl
  have kP := as_kindP
  have kR := as_kindR
  have eP := as_elemP
  have iR := as_implR
  obtain ⟨t, v, hv⟩ := errV_iface fs e
  have h0 : 0 < w.heap.size := by
    rcases Nat.eq_zero_or_pos w.heap.size with h0 | h
    · simp [World.cell?, h0] at hg
    · exact h
  have hlt : tb < w.heap.size := by
    rcases Nat.lt_or_ge tb w.heap.size with h | h
    · exact h
    · rw [Array.getElem?_eq_none h] at ht; cases ht
  have hg2 : ((w.alloc (.cells #[.pointer (some ⟨tb, 0, none⟩)] 211)).alloc (.cells #[.pointer (some ⟨1, 211, none⟩), .pointer (some ⟨w.heap.size, 0, none⟩), .int .u64 150] 290)).cell? ⟨0, 0, none⟩ = some (.iface 351 (.agg #[.pointer (some ⟨1, 149, none⟩)])) := by
    rw [World.cell?_alloc_lt _ _ ⟨0, 0, none⟩ (by simp), World.cell?_alloc_lt _ _ ⟨0, 0, none⟩ h0]; exact hg
  have n8 := as_isNil ⟨w.heap.size, 0, none⟩ ⟨tb, 0, none⟩ ((w.alloc (.cells #[.pointer (some ⟨tb, 0, none⟩)] 211)).alloc (.cells #[.pointer (some ⟨1, 211, none⟩), .pointer (some ⟨w.heap.size, 0, none⟩), .int .u64 150] 290)) (by rw [World.cell?_alloc_lt _ _ ⟨w.heap.size, 0, none⟩ (by simp)]; simp)
  have B2 : Below w.heap.size w ((w.alloc (.cells #[.pointer (some ⟨tb, 0, none⟩)] 211)).alloc (.cells #[.pointer (some ⟨1, 211, none⟩), .pointer (some ⟨w.heap.size, 0, none⟩), .int .u64 150] 290)) := below_alloc (Nat.le_refl _) (below_alloc (Nat.le_refl _) (Below.refl _ w))
  have hw := as_walk fs e old tb w.heap.size (.iface 211 (.pointer (some ⟨tb, 0, none⟩))) ((w.alloc (.cells #[.pointer (some ⟨tb, 0, none⟩)] 211)).alloc (.cells #[.pointer (some ⟨1, 211, none⟩), .pointer (some ⟨w.heap.size, 0, none⟩), .int .u64 150] 290)) rest ty (0, 0)
    (by show ((w.heap.push _).push _)[w.heap.size]? = _; rw [Array.getElem?_push, if_neg (by simp), Array.getElem?_push, if_pos rfl])
    (by show ((w.heap.push _).push _)[tb]? = _; rw [Array.getElem?_push, if_neg (by simp; omega), Array.getElem?_push, if_neg (by omega)]; exact ht)
  rw [hv] at hw
  rw [hv]
  clear hv ht hg
  go_enter Tryz.func116, Tryz.ntmps116
  go_wp2_with (first | (refine hw.mono ?_; rintro r w' ⟨rfl, W2, hB, rfl⟩))
  go_ret
  exact ⟨rfl, _, B2.trans (hB.mono (by show _ ≤ ((w.heap.push _).push _).size; simp; omega)), rfl⟩

end Go.Proofs.YtkcpnbfhoamlfaaGreatDoor
