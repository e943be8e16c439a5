/- The contracts of the reader of package bytes, where what is read was written: several, level. -/
import Derived.Test.YtmmbnimehmfadaaEC
import Derived.Lib.AppendStr
import Derived.Deep.RegionHeld3
import Derived.Test.YtmmbnimehmfadaaED
import Derived.Test.YtmmbnimehmfadaaKC
import Derived.Test.YtmmbnimehmfadaaOA
import Derived.Test.YtmmbnimehmfadaaTH
import Derived.Test.YtmmbnimehmfadaaG
import Derived.Deep.AppendLies
import Derived.Test.YtmmbnimehmfadaaHA
import Derived.Test.YtmmbnimehmfadaaRL
import Derived.Test.YtmmbnimehmfadaaOG
import Derived.Test.YtmmbnimehmfadaaOD
import Derived.Test.YtmmbnimehmfadaaFA
import Derived.Test.YtmmbnimehmfadaaCA
import Derived.Recover
import Derived.Defers
import Derived.Test.YtmmbnimehmfadaaKE
namespace Go.Proofs.Ytmmbnimehmfadaa
open Go.RowKit Go.Sort Go.Lib

/-- the blocks of an elder world -/
def oldB (w : World) (k : Nat) : Bool := decide (k < w.heap.size)

theorem oldB_no {w : World} {k : Nat} (h : oldB w k = false) : w.heap.size ≤ k := by unfold oldB at h; simpa using h
theorem oldB_new {w : World} {k : Nat} (h : w.heap.size ≤ k) : oldB w k = false := by unfold oldB; simpa using h

theorem owns_move {w w' : World} {B n size : Nat} {e : TypeId} {v : Value} {xs : List Value} (h : w.ownsRow B e size v n xs) (hk : ∀ k, v.ownBlock = some k → w'.heap[k]? = w.heap[k]?) : w'.ownsRow B e size v n xs := by
  refine ⟨h.1, ?_⟩
  rcases h.2 with h2 | ⟨g, cap, cur, hv, hg, hh, r⟩
  · exact Or.inl h2
  · exact Or.inr ⟨g, cap, cur, hv, hg, (hk g (by rw [hv]; rfl)).trans hh, r⟩

end Go.Proofs.Ytmmbnimehmfadaa

/- The contract of the reader's term, where what is read was written. -/
namespace Go.Proofs.Ytmmbnimehmfadaa
open Go.RowKit Go.Sort Go.Lib

/-- a leaf, whatever the world -/
theorem TF.leaf {w : World} {P : Nat → Bool} (f n : Int) (h : Bool) (nm : ByteArray) : TF w P (.agg #[.int .i64 f, .int .i64 n, .bool h, .string nm, .slice none 0 0, .slice none 0 0]) (.mk f n h nm [] []) :=
  TV.mk (kb := 0) (ko := 0) (ls := []) (ks := []) (Or.inl rfl) (fun _ => rfl) (Nat.le_refl _) (by omega) (fun _ => rfl) (Nat.le_refl _) (by omega) (fun h => absurd rfl h) (fun i t hi => by simp at hi)

end Go.Proofs.Ytmmbnimehmfadaa

/- The reader of package bytes, whatever it reads and where what is read was written, in one: number, name, term. Rows of the call's own whose elements do not look into them. -/
namespace Go.Proofs.Ytmmbnimehmfadaa
open Go.RowKit Go.Sort Go.Lib

/-- a term that is right -/
def okTm (t : Tm) : Prop := smT 1000000 t ∧ checkT t = 0

/-- a row of the call's own, m cells an element; what an element is does not look into the row, nor into the blocks of P -/
structure RowX {α : Type} (e : TypeId) (m : Nat) (E : World → (Nat → Bool) → List Value → α → Prop) (w : World) (B : Nat) (P : Nat → Bool) (a : Option Addr) (cap : Nat) (ts : List α) : Prop where
  go : ∃ xss : List (List Value), xss.length = ts.length ∧ (∀ xs ∈ xss, xs.length = m) ∧ w.ownsRow B e m (.slice a ts.length cap) ts.length xss.flatten ∧ ∀ (j : Nat) t xs, ts[j]? = some t → xss[j]? = some xs → E w (fun k => P k || ownB a k) xs t

/-- what an element is may be moved -/
def Moves {α : Type} (E : World → (Nat → Bool) → List Value → α → Prop) : Prop := ∀ w w' P Q xs t, E w P xs t → w.heap.size ≤ w'.heap.size → (∀ k, k < w.heap.size → P k = false → Q k = false ∧ w'.heap[k]? = w.heap[k]?) → E w' Q xs t

theorem RowX.nil {α : Type} (e : TypeId) (m : Nat) (E : World → (Nat → Bool) → List Value → α → Prop) (w : World) (B : Nat) (P : Nat → Bool) : RowX e m E w B P none 0 [] := ⟨[], rfl, (fun xs h => by cases h), World.ownsRow_nil _ _ _ _, fun j t xs h => by simp at h⟩

theorem ownsX_lt {w : World} {B n m cap k : Nat} {e : TypeId} {a : Option Addr} {xs : List Value} (h : w.ownsRow B e m (.slice a n cap) n xs) (hk : ownB a k = true) : B ≤ k ∧ k < w.heap.size := by
  cases a with
  | none => simp [ownB] at hk
  | some ad => simp only [ownB, beq_iff_eq] at hk; exact World.ownsRow.lt h k (by rw [← hk]; rfl)

theorem RowX.move {α : Type} {e : TypeId} {m : Nat} {E : World → (Nat → Bool) → List Value → α → Prop} (hE : Moves E) {w w' : World} {B cap : Nat} {P : Nat → Bool} {a : Option Addr} {ts : List α} (h : RowX e m E w B P a cap ts) (hB : ∀ k, B ≤ k → P k = false) (hs : w.heap.size ≤ w'.heap.size) (hk : ∀ k, k < w.heap.size → P k = false → w'.heap[k]? = w.heap[k]?) : RowX e m E w' B P a cap ts := by
  obtain ⟨xss, h1, h2, hown, hkv⟩ := h.go
  refine ⟨xss, h1, h2, owns_move hown fun g hg => ?_, fun j t xs hj hx => hE _ _ _ _ _ _ (hkv j t xs hj hx) hs fun k h3 h4 => ⟨h4, hk k h3 ?_⟩⟩
  · obtain ⟨h3, h4⟩ := World.ownsRow.lt hown g hg
    exact hk g h4 (hB g h3)
  · rw [Bool.or_eq_false_iff] at h4; exact h4.1

theorem RowX.snoc {α : Type} {e : TypeId} {m : Nat} {E : World → (Nat → Bool) → List Value → α → Prop} (hE : Moves E) {w w' : World} {B cap cap' g : Nat} {P : Nat → Bool} {a : Option Addr} {ts : List α} {xss : List (List Value)} {xs : List Value} {t : α} (h1 : xss.length = ts.length) (h2 : ∀ xs ∈ xss, xs.length = m) (hkv : ∀ (j : Nat) t xs, ts[j]? = some t → xss[j]? = some xs → E w (fun k => P k || ownB a k) xs t)
    (hxl : xs.length = m) (hown : w'.ownsRow B e m (.slice (some ⟨g, 0, none⟩) (ts.length + 1) cap') (ts.length + 1) (xss.flatten ++ xs)) (hgr : w.grownBy w' (Value.slice a ts.length cap).ownBlock) (hat : (Value.slice a ts.length cap).ownBlock = some g ∨ g = w.heap.size)
    (hnew : E w (fun k => P k || ownB a k) xs t) : RowX e m E w' B P (some ⟨g, 0, none⟩) cap' (ts ++ [t]) := by
  have hmv : ∀ k, k < w.heap.size → (P k || ownB a k) = false → (P k || ownB (some ⟨g, 0, none⟩) k) = false ∧ w'.heap[k]? = w.heap[k]? := by
    intro k hk hp
    rw [Bool.or_eq_false_iff] at hp
    refine ⟨?_, hgr.block k hk (ownB_none hp.2)⟩
    rw [Bool.or_eq_false_iff]
    refine ⟨hp.1, ?_⟩
    simp only [ownB, beq_eq_false_iff_ne]
    rcases hat with hat | hat
    · intro e
      exact ownB_none hp.2 (by rw [← e, hat])
    · omega
  refine ⟨xss ++ [xs], by simp [h1], fun ys hy => ?_, by rw [List.length_append, List.flatten_append]; simpa using hown, fun j t' ys hj hx => ?_⟩
  · rcases List.mem_append.1 hy with h | h
    · exact h2 ys h
    · rw [List.mem_singleton.1 h]; exact hxl
  · by_cases h : j < ts.length
    · rw [List.getElem?_append_left h] at hj
      rw [List.getElem?_append_left (by omega)] at hx
      exact hE _ _ _ _ _ _ (hkv j t' ys hj hx) hgr.size hmv
    · obtain rfl : j = ts.length := by
        have := (List.getElem?_eq_some_iff.1 hj).1; simp at this; omega
      simp only [List.getElem?_concat_length, Option.some.injEq] at hj
      rw [← h1] at hx
      simp only [List.getElem?_concat_length, Option.some.injEq] at hx
      subst hj hx
      exact hE _ _ _ _ _ _ hnew hgr.size hmv

theorem flatten_at {m : Nat} : ∀ (xss : List (List Value)), (∀ xs ∈ xss, xs.length = m) → ∀ (j i : Nat) (xs : List Value) (v : Value), xss[j]? = some xs → xs[i]? = some v → xss.flatten[j * m + i]? = some v
  | [], _, j, i, xs, v, h, _ => by simp at h
  | ys :: yss, hl, 0, i, xs, v, h, hv => by
    simp only [List.getElem?_cons_zero, Option.some.injEq] at h
    subst h
    rw [List.flatten_cons, Nat.zero_mul, Nat.zero_add, List.getElem?_append_left (List.getElem?_eq_some_iff.1 hv).1]
    exact hv
  | ys :: yss, hl, j + 1, i, xs, v, h, hv => by
    rw [List.getElem?_cons_succ] at h
    have hy := hl ys (List.mem_cons_self ..)
    rw [List.flatten_cons, List.getElem?_append_right (by rw [hy, Nat.succ_mul]; omega), hy, show (j + 1) * m + i - m = j * m + i by rw [Nat.succ_mul]; omega]
    exact flatten_at yss (fun xs hx => hl xs (List.mem_cons_of_mem _ hx)) j i xs v h hv

/-- the cells of an element -/
theorem RowX.at {α : Type} {e : TypeId} {m : Nat} {E : World → (Nat → Bool) → List Value → α → Prop} (hE : Moves E) {w : World} {B cap : Nat} {P : Nat → Bool} {a : Option Addr} {ts : List α} (h : RowX e m E w B P a cap ts) (hB : ∀ k, B ≤ k → P k = false) {j : Nat} {t : α} (hj : ts[j]? = some t) : ∃ g xs, a = some ⟨g, 0, none⟩ ∧ B ≤ g ∧ g < w.heap.size ∧ xs.length = m ∧ (maskB P w).rangeAt g (j * m) xs ∧ E w P xs t := by
  obtain ⟨xss, h1, h2, hown, hkv⟩ := h.go
  have hlt : j < ts.length := (List.getElem?_eq_some_iff.1 hj).1
  rcases hown.2 with ⟨hv, hn⟩ | ⟨g, cap', cur, hv, hg, hh, hr⟩
  · omega
  · simp only [Value.slice.injEq, true_and] at hv
    obtain ⟨rfl, rfl⟩ := hv
    have hxj : xss[j]? = some xss[j] := List.getElem?_eq_getElem (by omega)
    have hxm : (xss[j]'(by omega)).length = m := h2 _ (List.getElem_mem _)
    refine ⟨g, _, rfl, hg, heap_lt hh, hxm, fun i v hi => ?_, hE _ _ _ _ _ _ (hkv j t _ hj hxj) (Nat.le_refl _) fun k _ hp => ⟨by rw [Bool.or_eq_false_iff] at hp; exact hp.1, rfl⟩⟩
    have hil : i < m := by have := (List.getElem?_eq_some_iff.1 hi).1; omega
    have hin : j * m + i < ts.length * m := by
      have : (j + 1) * m ≤ ts.length * m := Nat.mul_le_mul_right _ hlt
      rw [Nat.succ_mul] at this
      omega
    rw [World.cell?_of_block (a := ⟨g, j * m + i, none⟩) (maskB_no w (hB g hg))]
    exact (World.ownsRow.cellAt hown (j * m + i) hin).trans (flatten_at xss h2 j i _ v hxj hi)
end Go.Proofs.Ytmmbnimehmfadaa
