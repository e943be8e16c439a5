/- A region that draws its order and some of whose operations are late: they wait for all others; a condition S holds behind every operation that is not late. -/
import Derived.Test.YtmmbnimehmfadaaRL
import Derived.Test.YtmmbnimehmfadaaKP
import Derived.RangeFuncNested
import Derived.OrdersIn
import Derived.Test.YtmmbnimehmfadaaKI
import Derived.Test.YtmmbnimehmfadaaEN
import Derived.Test.YtmmbnimehmfadaaOG
import Derived.Test.YtmmbnimehmfadaaOD
namespace Go.Proofs.Ytmmbnimehmfadaa
open Go.RowKit Go.Sort

section
variable {P : Program} {ops : Array Oper} {Q : Exit → Act → World → Prop} {md : Region.Mode} {S : World → Prop} {late : Nat → Bool}

/-- whatever order is picked from here on; S holds behind every operation that is not late -/
def wpAnyM (P : Program) (md : Region.Mode) (ops : Array Oper) (Q : Exit → Act → World → Prop) (S : World → Prop) (late : Nat → Bool) : Nat → Array Bool → Act → World → Prop
  | 0, listed, a, w => Region.ready md ops listed = [] ∧ Q .normal a w
  | fuel + 1, listed, a, w =>
    (Region.ready md ops listed = [] → Q .normal a w) ∧
    ∀ i ∈ Region.ready md ops listed, wpOp P ops Q i (fun a' w' => (late i = false → S w') ∧ wpAnyM P md ops Q S late fuel (listed.setIfInBounds i true) a' w') a w

theorem wpAny_of_late : ∀ (fuel : Nat) (listed : Array Bool) (a : Act) (w : World), wpAnyM P md ops Q S late fuel listed a w → wpAny P md ops Q fuel listed a w
  | 0, _, _, _, h => h
  | fuel + 1, _, _, _, h => ⟨h.1, fun i hi => wpOp_mono (fun a' w' h' => wpAny_of_late fuel _ a' w' h'.2) (h.2 i hi)⟩

/-- do all late operations wait for operation i? -/
def waitsM (md : Region.Mode) (ops : Array Oper) (late : Nat → Bool) (i : Nat) : Bool := (List.range ops.size).all fun j => !late j || waits md ops j i

theorem waitsM_spec {i : Nat} {listed : Array Bool} (h : waitsM md ops late i = true) (hi : i ∈ Region.ready md ops listed) {j : Nat} (hj : j ∈ Region.ready md ops listed) : late j = false := by
  cases hl : late j with
  | false => rfl
  | true =>
    exfalso
    unfold waitsM at h
    rw [List.all_eq_true] at h
    obtain ⟨-, o, ho, -⟩ := mem_ready.1 hj
    have hlt : j < ops.size := (Array.getElem?_eq_some_iff.1 ho).1
    have h1 := h j (List.mem_range.2 hlt)
    rw [hl] at h1
    exact waits_spec (by simpa using h1) hi hj

theorem wpAnyM_first {i : Nat} {oi : Oper} {v : Value} (hi : ops[i]? = some oi) (hsel : ∀ (j : Nat) (o : Oper) cs b, ops[j]? = some o → o.op ≠ .select cs b)
    (hw : waitsM md ops late i = true) (hQ : ∀ c a w, Q (.panic c) (a.put oi.dst v) w → Q (.panic c) a w) :
    ∀ (fuel : Nat) (listed : Array Bool) (a : Act) (w : World),
      (∀ j oj, ops[j]? = some oj → j ≠ i → listed.getD j true = false → (∀ e ∈ oj.after, Region.binds md e = true → e.on ≠ i) → oi.apart ops oj = true) →
      i ∈ Region.ready md ops listed → YieldsIf P ops S oi v a → S w →
      wpAnyM P md ops Q S late fuel (listed.setIfInBounds i true) (a.put oi.dst v) w → wpAnyM P md ops Q S late (fuel + 1) listed a w := by
  intro fuel
  induction fuel with
  | zero =>
    intro listed a w _ hr hy hS H
    refine ⟨fun h => (by rw [h] at hr; cases hr), fun j hj => ?_⟩
    by_cases hji : j = i
    · subst hji; exact hy.wpOp hi hS ⟨fun _ => hS, H⟩
    · have := ready_mono hj hji
      rw [H.1] at this
      cases this
  | succ fuel ih =>
    intro listed a w hfree hr hy hS H
    refine ⟨fun h => (by rw [h] at hr; cases hr), fun j hj => ?_⟩
    by_cases hji : j = i
    · subst hji; exact hy.wpOp hi hS ⟨fun _ => hS, H⟩
    · have hjl : late j = false := waitsM_spec hw hr hj
      have h1 := H.2 j (ready_mono hj hji)
      obtain ⟨hjun, oj, hoj, hall⟩ := mem_ready.1 hj
      have hnot : ∀ e ∈ oj.after, Region.binds md e = true → e.on ≠ i := fun e he hb heq => by
        have h1 := hall e he hb
        have h0 := (mem_ready.1 hr).1
        rw [heq] at h1
        rcases Nat.lt_or_ge i listed.size with h' | h'
        · simp [h'] at h0 h1; rw [h0] at h1; cases h1
        · simp [Array.getElem?_eq_none h'] at h1
      have h2 := wpOp_putIf hoj (hfree j oj hoj hji hjun hnot) (fun cs b => hsel i oi cs b hi) (fun cs b => hsel j oj cs b hoj) hQ hy h1
      have hfree' : ∀ k ok, ops[k]? = some ok → k ≠ i → (listed.setIfInBounds j true).getD k true = false →
          (∀ e ∈ ok.after, Region.binds md e = true → e.on ≠ i) → oi.apart ops ok = true := fun k ok hk hki hun hno => by
        refine hfree k ok hk hki ?_ hno
        by_cases hjk : j = k
        · subst hjk; exact hjun
        · rw [getD_set_ne true hjk] at hun; exact hun
      refine wpOp_mono (fun a' w' h3 => ⟨h3.2.1, ih (listed.setIfInBounds j true) a' w' hfree' (ready_mono hr (Ne.symm hji)) h3.1 (h3.2.1 hjl) ?_⟩) h2
      rw [Array.setIfInBounds_comm _ _ hji]
      exact h3.2.2

theorem wpAnyM_take {i : Nat} {oi : Oper} {v : Value} {fuel : Nat} {listed : Array Bool} {a : Act} {w : World} (hi : ops[i]? = some oi)
    (hs : Region.noSelect ops = true) (hf : Region.free md ops listed i = true) (hr : (Region.ready md ops listed).contains i = true) (hw : waitsM md ops late i = true)
    (hQ : ∀ c a w, Q (.panic c) (a.put oi.dst v) w → Q (.panic c) a w) (hy : YieldsIf P ops S oi v a) (hS : S w)
    (h : wpAnyM P md ops Q S late fuel (listed.setIfInBounds i true) (a.put oi.dst v) w) : wpAnyM P md ops Q S late (fuel + 1) listed a w :=
  wpAnyM_first hi (Region.noSelect_spec hs) hw hQ fuel listed a w (Region.free_spec hi hf) (by simpa using hr) hy hS h

theorem wpAnyM_done {listed : Array Bool} {a : Act} {w : World} (hr : Region.ready md ops listed = []) (h : Q .normal a w) :
    ∀ fuel, wpAnyM P md ops Q S late fuel listed a w
  | 0 => ⟨hr, h⟩
  | _ + 1 => ⟨fun _ => h, by rw [hr]; simp⟩

/-- what is to be shown where operation i comes up -/
def StepM (P : Program) (md : Region.Mode) (ops : Array Oper) (Q : Exit → Act → World → Prop) (S : World → Prop) (late : Nat → Bool) (fuel : Nat) (listed : Array Bool) (a : Act) (w : World) (i : Nat) : Prop :=
  ∃ o, ops[i]? = some o ∧ ∀ K' : Act → World → Prop, Shut (∀ a w, (late i = false → S w) → ((late i = false → S w) → wpAnyM P md ops Q S late fuel (listed.setIfInBounds i true) a w) → K' a w) → if Region.wanted o (yielded ops a.tmps) = true then Oper.wp P o a w K' Q else K' (a.put o.dst undef) w

/-- one operation alone may come up -/
theorem wpAnyM_one {i : Nat} {fuel : Nat} {listed : Array Bool} {a : Act} {w : World} (hr : Region.ready md ops listed = [i]) (h : StepM P md ops Q S late fuel listed a w i) : wpAnyM P md ops Q S late (fuel + 1) listed a w := by
  refine ⟨fun h0 => ?_, fun j hj => ?_⟩
  · rw [hr] at h0; cases h0
  · rw [hr] at hj
    obtain rfl : j = i := by simpa using hj
    obtain ⟨o, ho, h⟩ := h
    exact wpOp_step ho (fun K' hK => h K' (fun a w hS hW => hK a w ⟨hS, hW hS⟩))

/-- two operations may come up -/
theorem wpAnyM_two {i k : Nat} {fuel : Nat} {listed : Array Bool} {a : Act} {w : World} (hr : Region.ready md ops listed = [i, k]) (h : StepM P md ops Q S late fuel listed a w i) (h' : StepM P md ops Q S late fuel listed a w k) : wpAnyM P md ops Q S late (fuel + 1) listed a w := by
  refine ⟨fun h0 => ?_, fun j hj => ?_⟩
  · rw [hr] at h0; cases h0
  · rw [hr] at hj
    rcases List.mem_cons.1 hj with rfl | hj
    · obtain ⟨o, ho, h⟩ := h
      exact wpOp_step ho (fun K' hK => h K' (fun a w hS hW => hK a w ⟨hS, hW hS⟩))
    · obtain rfl : j = k := by simpa using hj
      obtain ⟨o, ho, h⟩ := h'
      exact wpOp_step ho (fun K' hK => h K' (fun a w hS hW => hK a w ⟨hS, hW hS⟩))

theorem wp_region_late {id : Nat} {a : Act} {w : World} (late : Nat → Bool) (hm : P.follows .mixedOrders = true) (hS : S w.drew)
    (h : S w.drew → wpAnyM P .any ops Q S late ops.size (Array.replicate ops.size false) a w.drew) : (Code.region id ops true).wp P Q a w :=
  wp_region_any hm (wpAny_of_late _ _ _ _ (h hS))

end
end Go.Proofs.Ytmmbnimehmfadaa

/- The contract of the reference's CleanDecl. -/
namespace Go.Proofs.Ytmmbnimehmfadaa
open Go.RowKit Go.Sort Go.Lib

def setB (c : Array Value) (o : Nat) : List Value → Array Value
  | [] => c
  | v :: vs => setB (c.setIfInBounds o v) (o + 1) vs

theorem setB_full : ∀ (vs : List Value) (o : Nat) (c : Array Value), c.size = o + vs.length → (setB c o vs).toList = c.toList.take o ++ vs
  | [], o, c, h => by
    rw [setB, List.append_nil, List.take_of_length_le (by simp at h; simp; omega)]
  | v :: vs, o, c, h => by
    simp only [List.length_cons] at h
    have ho : o < c.toList.length := by simp; omega
    rw [setB, setB_full vs (o + 1) _ (by rw [Array.size_setIfInBounds]; omega), Array.toList_setIfInBounds, List.take_succ_eq_append_getElem (by simpa using ho), List.getElem_set_self, List.take_set_of_le (Nat.le_refl _), List.append_assoc]
    rfl

theorem sets_blk {b : Nat} {t : TypeId} : ∀ (vs : List Value) (o : Nat) (c : Array Value) (w : World), w.heap[b]? = some (.cells c t (0, 0)) → (w.setCells b o vs).heap[b]? = some (.cells (setB c o vs) t (0, 0))
  | [], _, _, _, h => h
  | v :: vs, o, c, w, h => sets_blk vs (o + 1) (c.setIfInBounds o v) (w.setCell ⟨b, o, none⟩ v) (by
    rw [setCell_eq]; show (w.heap.modify b _)[b]? = _
    rw [Array.getElem?_modify, if_pos rfl, h]; rfl)

/-- a block that is written whole -/
theorem sets_whole {b : Nat} {t : TypeId} {w : World} {c c' : Array Value} (h : w.heap[b]? = some (.cells c t (0, 0))) (hs : c.size = c'.size) : (w.setCells b 0 c'.toList).heap[b]? = some (.cells c' t (0, 0)) := by
  rw [sets_blk _ 0 _ _ h]
  have h1 := setB_full c'.toList 0 c (by rw [hs]; simp)
  rw [List.take_zero, List.nil_append] at h1
  rw [show setB c 0 c'.toList = c' from Array.ext' h1]

theorem infoC2 : (Try.prog.info? 34).map (fun i => (i.zero, i.size, i.bytes)) = some (some (.agg #[.string { data := #[] }, .int .i64 0, .int .i64 0, .bool false, .string { data := #[] }, .slice none 0 0, .slice none 0 0]), 7, 104) := by kernel_rfl

/-- one element more behind a row of the call's own -/
theorem RowX.add {α : Type} {e : TypeId} {m : Nat} {E : World → (Nat → Bool) → List Value → α → Prop} (hE : Moves E) {w1 : World} {B cap : Nat} {P Q : Nat → Bool} {a : Option Addr} {ts : List α} {zs : List Value} {t : α} (h : RowX e m E w1 B P a cap ts) (hB : ∀ k, B ≤ k → P k = false) (hzl : zs.length = m) (hnew : E w1 Q zs t) (hQ : ∀ k, k < w1.heap.size → Q k = false → P k = false ∧ ownB a k = false) :
    ∃ xs : List Value, (w1.alloc (.cells zs.toArray e)).ownsRow B e m (.slice a ts.length cap) ts.length xs ∧ ∀ (g cap' : Nat) (w' : World), w'.ownsRow B e m (.slice (some ⟨g, 0, none⟩) (ts.length + 1) cap') (ts.length + 1) (xs ++ zs) → (w1.alloc (.cells zs.toArray e)).grownBy w' (Value.slice a ts.length cap).ownBlock → ((Value.slice a ts.length cap).ownBlock = some g ∨ g = (w1.alloc (.cells zs.toArray e)).heap.size) →
      RowX e m E w' B P (some ⟨g, 0, none⟩) cap' (ts ++ [t]) ∧ Kept (fun k => ownB a k = true) w1 w' := by
  have h1 : RowX e m E (w1.alloc (.cells zs.toArray e)) B P a cap ts := h.move hE hB (by simp) fun k hk _ => Below.heap_alloc _ _ _ hk
  obtain ⟨xss, hx1, hx2, hown, hkv⟩ := h1.go
  refine ⟨xss.flatten, hown, fun g cap' w' hown' hgr hat => ⟨?_, ?_⟩⟩
  · refine RowX.snoc hE (cap := cap) hx1 hx2 hkv hzl hown' hgr hat (hE _ _ _ _ _ _ hnew (by simp) fun k hk hq => ⟨?_, Below.heap_alloc _ _ _ hk⟩)
    obtain ⟨h2, h3⟩ := hQ k hk hq
    rw [h2, h3]; rfl
  · refine ⟨hgr.os, hgr.tape, hgr.output, by have := hgr.size; simp at this; omega, fun k hk hn => ?_⟩
    have ho : ownB a k = false := by
      cases ho : ownB a k
      · rfl
      · exact absurd ho hn
    exact (hgr.block k (by simp; omega) (ownB_none ho)).trans (Below.heap_alloc _ _ _ hk)

theorem ite_go {c : Prop} [Decidable c] {p q : Prop} (hc : c) (hp : p) : if c then p else q := by
  rw [if_pos hc]; exact hp

theorem below_sets {B b o : Nat} {w w2 : World} (h : RowKit.Below B w w2) (hb : B ≤ b) (vs : List Value) : RowKit.Below B w (w2.setCells b o vs) := by
  induction vs generalizing o w2 with
  | nil => exact h
  | cons v vs ih => exact ih (h.setCell (p := ⟨b, o, none⟩) hb v)

end Go.Proofs.Ytmmbnimehmfadaa
