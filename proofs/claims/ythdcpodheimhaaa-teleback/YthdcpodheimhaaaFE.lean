/- Rows of levels that grow, with a footprint. -/
import Derived.Test.YthdcpodheimhaaaFP
import Derived.Test.YthdcpodheimhaaaRL
import Derived.Test.YthdcpodheimhaaaOG
import Derived.Test.YthdcpodheimhaaaOD
namespace Go.Proofs.Ythdcpodheimhaaa
open Go.RowKit Go.Sort

theorem ownsG_shape {w : World} {B n size : Nat} {e : TypeId} {v : Value} {xs : List Value} (h : w.ownsRow B e size v n xs) : ∃ a cap, v = .slice a n cap ∧ n ≤ cap ∧ cap ≤ 9223372036854775807 ∧ (a = none → n = 0 ∧ cap = 0) ∧ ∀ ad, a = some ad → ∃ g, ad = ⟨g, 0, none⟩ ∧ B ≤ g ∧ g < w.heap.size := by
  rcases h.2 with ⟨hv, hn⟩ | ⟨g, cap, cur, hv, hg, hh, hc, hm, hs, ht⟩
  · exact ⟨none, 0, by rw [hv, hn], by omega, by omega, fun _ => ⟨hn, rfl⟩, fun ad h => by cases h⟩
  · exact ⟨_, cap, hv, hc, by unfold maxLen at hm; omega, fun h => (by cases h), fun ad h => ⟨g, (by simpa using h.symm), hg, heap_lt hh⟩⟩

theorem ownsG_block {w W : World} {B n cap size : Nat} {e : TypeId} {a : Option Addr} {xs : List Value} (h : w.ownsRow B e size (.slice a n cap) n xs) (hk : ∀ g, a = some ⟨g, 0, none⟩ → W.heap[g]? = w.heap[g]?) : W.ownsRow B e size (.slice a n cap) n xs := by
  rcases h with ⟨h1, h2⟩
  refine ⟨h1, ?_⟩
  rcases h2 with h2 | ⟨g, cap', cur, hv, hg, hh, r⟩
  · exact Or.inl h2
  · refine Or.inr ⟨g, cap', cur, hv, hg, (hk g ?_).trans hh, r⟩
    simp at hv
    exact hv.1

theorem rowG_block {w : World} {B cap n size : Nat} {e : TypeId} {a : Option Addr} {xs : List Value} (h : w.ownsRow B e size (.slice a n cap) n xs) {k : Nat} (hk : ownB a k = true) : B ≤ k ∧ k < w.heap.size := by
  cases a with
  | none => simp [ownB] at hk
  | some ad =>
    obtain ⟨_, _, e, -, -, -, hg⟩ := ownsG_shape h
    simp only [Value.slice.injEq, true_and] at e
    obtain ⟨rfl, rfl⟩ := e
    obtain ⟨g, rfl, h1, h2⟩ := hg ad rfl
    simp [ownB] at hk
    omega

/-- a row of levels of the call's own, which do not look into it, nor into the blocks of P -/
structure RowL (w : World) (B : Nat) (P : Nat → Bool) (a : Option Addr) (cap : Nat) (ls : List LvT) : Prop where
  go : ∃ xs : List Value, w.ownsRow B 59 2 (.slice a ls.length cap) ls.length xs ∧ ∀ j n vs, ls[j]? = some (n, vs) → xs[j * 2]? = some (.int .i64 n) ∧ ∃ a' cap', xs[j * 2 + 1]? = some (.slice a' vs.length cap') ∧ (a' = none → cap' = 0) ∧ SL (maskB (fun k => P k || ownB a k) w) a' vs

theorem RowL.nil (w : World) (B : Nat) (P : Nat → Bool) : RowL w B P none 0 [] := ⟨[], World.ownsRow_nil _ _ _ _, fun j n vs h => by simp at h⟩

theorem RowL.move {w w' : World} {B cap : Nat} {P : Nat → Bool} {a : Option Addr} {ls : List LvT} (h : RowL w B P a cap ls) (hB : ∀ k, B ≤ k → P k = false) (hs : w.heap.size ≤ w'.heap.size) (hk : ∀ k, k < w.heap.size → P k = false → w'.heap[k]? = w.heap[k]?) : RowL w' B P a cap ls := by
  obtain ⟨xs, hown, hkv⟩ := h.go
  refine ⟨xs, ownsG_block hown fun g hg => ?_, fun j n vs hj => ?_⟩
  · subst hg
    obtain ⟨h1, h2⟩ := World.ownsRow.lt hown g rfl
    exact hk g h2 (hB g h1)
  · obtain ⟨c0, a', cap', c1, hn, hS⟩ := hkv j n vs hj
    refine ⟨c0, a', cap', c1, hn, hS.subF (by rw [maskB_size, maskB_size]; exact hs) (maskB_keeps fun k h1 h2 => ⟨h2, hk k h1 ?_⟩)⟩
    rw [Bool.or_eq_false_iff] at h2; exact h2.1

theorem RowL.snoc {w w' : World} {B cap cap' g : Nat} {P : Nat → Bool} {a : Option Addr} {ls : List LvT} {xs : List Value} {n : Int} {vs : List (Int × Int)} {a' : Option Addr} {c' : Nat} (hkv : ∀ j n vs, ls[j]? = some (n, vs) → xs[j * 2]? = some (.int .i64 n) ∧ ∃ a' cap', xs[j * 2 + 1]? = some (.slice a' vs.length cap') ∧ (a' = none → cap' = 0) ∧ SL (maskB (fun k => P k || ownB a k) w) a' vs) (hl : xs.length = ls.length * 2)
    (hown : w'.ownsRow B 59 2 (.slice (some ⟨g, 0, none⟩) (ls.length + 1) cap') (ls.length + 1) (xs ++ [.int .i64 n, .slice a' vs.length c'])) (hgr : w.grownBy w' (Value.slice a ls.length cap).ownBlock) (hat : (Value.slice a ls.length cap).ownBlock = some g ∨ g = w.heap.size)
    (hn : a' = none → c' = 0) (hnew : SL (maskB (fun k => P k || ownB a k) w) a' vs) : RowL w' B P (some ⟨g, 0, none⟩) cap' (ls ++ [(n, vs)]) := by
  have hmv : ∀ k, k < w.heap.size → (P k || ownB a k) = false → (P k || ownB (some ⟨g, 0, none⟩) k) = false ∧ w'.heap[k]? = w.heap[k]? := by
    intro k hk hp
    rw [Bool.or_eq_false_iff] at hp
    refine ⟨?_, hgr.block k hk (ownB_none hp.2)⟩
    rw [Bool.or_eq_false_iff]
    refine ⟨hp.1, ?_⟩
    simp only [ownB, beq_eq_false_iff_ne]
    rcases hat with hat | hat
    · intro e
      exact ownB_none hp.2 (by rw [← e, hat])
    · omega
  have hsz : (maskB (fun k => P k || ownB a k) w).heap.size ≤ (maskB (fun k => P k || ownB (some ⟨g, 0, none⟩) k) w').heap.size := by rw [maskB_size, maskB_size]; exact hgr.size
  refine ⟨_, by rw [List.length_append]; exact hown, fun j m us hj => ?_⟩
  by_cases h : j < ls.length
  · rw [List.getElem?_append_left h] at hj
    obtain ⟨c0, b', cap2, c1, hn2, hS⟩ := hkv j m us hj
    exact ⟨by rw [List.getElem?_append_left (by omega)]; exact c0, b', cap2, by rw [List.getElem?_append_left (by omega)]; exact c1, hn2, hS.subF hsz (maskB_keeps hmv)⟩
  · obtain rfl : j = ls.length := by
      have := (List.getElem?_eq_some_iff.1 hj).1; simp at this; omega
    simp only [List.getElem?_concat_length, Option.some.injEq, Prod.mk.injEq] at hj
    obtain ⟨rfl, rfl⟩ := hj
    refine ⟨?_, a', c', ?_, hn, hnew.subF hsz (maskB_keeps hmv)⟩
    · rw [List.getElem?_append_right (by omega), hl, Nat.sub_self]; rfl
    · rw [List.getElem?_append_right (by omega), hl, Nat.add_sub_cancel_left]; rfl

/-- the row as the levels of a term -/
theorem RowL.ln {w : World} {B cap : Nat} {P : Nat → Bool} {a : Option Addr} {ls : List LvT} (h : RowL w B P a cap ls) (hB : ∀ k, B ≤ k → P k = false) : LN (maskB P w) a ls ∧ (a = none → cap = 0) ∧ ls.length ≤ cap ∧ cap ≤ 9223372036854775807 := by
  obtain ⟨xs, hown, hkv⟩ := h.go
  obtain ⟨a0, cap0, e, hc, hm, hn, hg⟩ := ownsG_shape hown
  simp only [Value.slice.injEq, true_and] at e
  obtain ⟨rfl, rfl⟩ := e
  have hsub : ∀ p v, (maskB (fun k => P k || ownB a k) w).cell? p = some v → (maskB P w).cell? p = some v := maskB_keeps fun k _ hp => ⟨by rw [Bool.or_eq_false_iff] at hp; exact hp.1, rfl⟩
  refine ⟨?_, fun e => (hn e).2, hc, hm⟩
  cases a with
  | none => exact Or.inl (List.length_eq_zero_iff.1 (hn rfl).1)
  | some ad =>
    obtain ⟨g, rfl, hg1, hg2⟩ := hg ad rfl
    refine Or.inr ⟨g, 0, rfl, by rw [maskB_size]; exact hg2, fun i n vs hi => ?_⟩
    have hi' : i < ls.length := (List.getElem?_eq_some_iff.1 hi).1
    obtain ⟨c0, a', cap', c1, hn', hS⟩ := hkv i n vs hi
    have hcell : ∀ o, (maskB P w).cell? ⟨g, o, none⟩ = w.cell? ⟨g, o, none⟩ := fun o => World.cell?_of_block (maskB_no w (hB g hg1))
    refine ⟨?_, a', cap', ?_, hS.subF (by rw [maskB_size, maskB_size]; exact Nat.le_refl _) hsub, hn'⟩
    · rw [Nat.zero_add, hcell, World.ownsRow.cellAt hown (i * 2) (by omega)]; exact c0
    · rw [Nat.zero_add, hcell, World.ownsRow.cellAt hown (i * 2 + 1) (by omega)]; exact c1

theorem OR.slF {B : Nat} {w : World} {v : Value} {xs : List (Int × Int)} {P : Nat → Bool} (h : OR B w v xs) (hP : ∀ k, B ≤ k → P k = false) : ∃ a cap, v = .slice a xs.length cap ∧ SL (maskB P w) a xs ∧ (a = none → cap = 0) := by
  rcases h.2 with ⟨hv, hn⟩ | ⟨g, cap, cur, hv, hg, hh, hc, hm, hs, ht⟩
  · have : xs = [] := List.length_eq_zero_iff.1 hn
    subst this
    exact ⟨none, 0, hv, Or.inl rfl, fun _ => rfl⟩
  · refine ⟨some ⟨g, 0, none⟩, cap, hv, ?_, fun e => by cases e⟩
    obtain ⟨a', cap', e, hS, -⟩ := h.shape
    rw [hv] at e
    simp only [Value.slice.injEq, true_and] at e
    obtain ⟨rfl, rfl⟩ := e
    rcases hS with hS | ⟨b, off, ha, hlt, hS⟩
    · exact Or.inl hS
    · simp only [Option.some.injEq, Addr.mk.injEq, and_true] at ha
      obtain ⟨rfl, rfl⟩ := ha
      have hcell : ∀ o, (maskB P w).cell? ⟨g, o, none⟩ = w.cell? ⟨g, o, none⟩ := fun o => World.cell?_of_block (maskB_no w (hP g hg))
      exact Or.inr ⟨g, 0, rfl, by rw [maskB_size]; exact hlt, fun i hi => ⟨(hcell _).trans (hS i hi).1, (hcell _).trans (hS i hi).2⟩⟩

/-- append(nil, x...) of pairs, at a step of a region that draws its order -/
theorem step_appV {w : World} {ops : Array Oper} {o : Oper} {a : Act} {K : Act → World → Prop} {Q : Exit → Act → World → Prop} {E : Prop} (hgd : o.guard = none) (s x : Operand) (ho : o.op = .call { callee := .builtin .append, args := #[s, x], argTypes := #[57, 57] })
    (B : Nat) (xs : List (Int × Int)) (a1 : Option Addr) (c1 : Nat) (hs : a.eval s = .slice none 0 0) (hx : a.eval x = .slice a1 xs.length c1) (hS : SL w a1 xs) (hn : a1 = none → c1 = 0) (hl : xs.length ≤ 4398046511104) (hB : B ≤ w.heap.size)
    (h : ∀ v' w', OR B w' v' xs → w.grownBy w' none → K (a.put o.dst v') w') : if Region.wanted o (yielded ops a.tmps) = true then Oper.wp Try.prog o a w K Q else E := by
  have hw : Region.wanted o (yielded ops a.tmps) = true := by simp [Region.wanted, hgd]
  rw [if_pos hw]
  obtain ⟨i0, hi, hz0, hz1, hz2⟩ := info_parts infoLVar
  have hO : OR B w (.slice none 0 0) [] := OR.nil _ _
  cases a1 with
  | none =>
    have hxe : xs = [] := by
      rcases hS with h | ⟨b, off, ha, _⟩
      · exact h
      · cases ha
    subst hxe
    rw [hn rfl] at hx
    have hrun := run_append_owned_none (P := Try.prog) (w := w) B 57 o.type 80 i0 2 Try.underlying57 hi (.slice none 0 0) 0 [] hO
    unfold Oper.wp
    simp only [List.length_nil] at hx
    simp [execOp, ho, resolve, invoke, builtin, hs, hx, hrun, Result.andThen]
    exact h _ w hO ⟨rfl, rfl, rfl, Nat.le_refl _, fun _ _ _ => rfl⟩
  | some ad =>
    have hnews : ∀ j u, (flat xs)[j]? = some u → w.cell? (ad.add j) = some u := by
      rcases hS with h | ⟨b, off, ha, hr⟩
      · subst h; intro j u hu; simp [flat] at hu
      · have ha' : ad = ⟨b, off, none⟩ := by simpa using ha
        subst ha'
        exact SL.flat (Or.inr ⟨b, off, rfl, hr⟩)
    refine wp_append_own _ s x 57 ho B 80 i0 _ 2 16 Try.underlying57 hi hz0 hz1 hz2 rfl (by decide) (.slice none 0 0) 0 [] hs hO ad xs.length c1 (flat xs) hx (flat_length xs) hnews (flat_one xs) (by simp [maxLen]; omega) (by omega) hB ?_
    intro v' w' hown hgr _
    exact h v' w' (by unfold OR; simpa using hown) hgr
end Go.Proofs.Ythdcpodheimhaaa

/- The contract of telamonref1.Clean, form by form. -/
namespace Go.Proofs.Ythdcpodheimhaaa
open Go.RowKit Go.Sort

theorem set5_heap {w : World} {b : Nat} {u0 u1 u2 u3 u4 u5 x : Value} {t : TypeId} (h : w.heap[b]? = some (.cells #[u0, u1, u2, u3, u4, u5] t (0, 0))) : (w.setCell ⟨b, 5, none⟩ x).heap[b]? = some (.cells #[u0, u1, u2, u3, u4, x] t (0, 0)) := by
  rw [setCell_eq]; show (w.heap.modify b _)[b]? = _
  rw [Array.getElem?_modify, if_pos rfl, h]; rfl

theorem set4_heap {w : World} {b : Nat} {u0 u1 u2 u3 u4 u5 x : Value} {t : TypeId} (h : w.heap[b]? = some (.cells #[u0, u1, u2, u3, u4, u5] t (0, 0))) : (w.setCell ⟨b, 4, none⟩ x).heap[b]? = some (.cells #[u0, u1, u2, u3, x, u5] t (0, 0)) := by
  rw [setCell_eq]; show (w.heap.modify b _)[b]? = _
  rw [Array.getElem?_modify, if_pos rfl, h]; rfl
end Go.Proofs.Ythdcpodheimhaaa
