/- Rows of terms in memory of the call's own, by their cells; append onto such a row. -/
import Derived.Test.YtahacpbmoijicaaCA
import Derived.Test.YtahacpbmoijicaaOC
import Derived.Laws.AppendOwnNone
namespace Go.Proofs.Ytahacpbmoijicaa
open Go.RowKit Go.Sort

/-- the six cells from o on in the list xs are the value v -/
def SixAt (xs : List Value) (o : Nat) (v : Value) : Prop :=
  ∃ (v0 v1 : Int) (v2 : Bool) (v3 : ByteArray) (l1 : Option Addr) (l2 l3 : Nat) (k1 : Option Addr) (k2 k3 : Nat), v = .agg #[.int .i64 v0, .int .i64 v1, .bool v2, .string v3, .slice l1 l2 l3, .slice k1 k2 k3] ∧ xs[o]? = some (.int .i64 v0) ∧ xs[o + 1]? = some (.int .i64 v1) ∧ xs[o + 2]? = some (.bool v2) ∧ xs[o + 3]? = some (.string v3) ∧ xs[o + 4]? = some (.slice l1 l2 l3) ∧ xs[o + 5]? = some (.slice k1 k2 k3)

theorem SixAt.cells {base g cap n o : Nat} {w : World} {xs : List Value} {v : Value} (h : w.ownsRow base 25 6 (.slice (some ⟨g, 0, none⟩) n cap) n xs) (hs : SixAt xs o v) (ho : o + 5 < n * 6) : CellsAt w g o v := by
  obtain ⟨v0, v1, v2, v3, l1, l2, l3, k1, k2, k3, hv, c0, c1, c2, c3, c4, c5⟩ := hs
  exact ⟨v0, v1, v2, v3, l1, l2, l3, k1, k2, k3, hv, (World.ownsRow.cellAt h o (by omega)).trans c0, (World.ownsRow.cellAt h (o + 1) (by omega)).trans c1, (World.ownsRow.cellAt h (o + 2) (by omega)).trans c2, (World.ownsRow.cellAt h (o + 3) (by omega)).trans c3, (World.ownsRow.cellAt h (o + 4) (by omega)).trans c4, (World.ownsRow.cellAt h (o + 5) (by omega)).trans c5⟩

theorem SixAt.left {xs ys : List Value} {o : Nat} {v : Value} (h : SixAt xs o v) (ho : o + 5 < xs.length) : SixAt (xs ++ ys) o v := by
  obtain ⟨v0, v1, v2, v3, l1, l2, l3, k1, k2, k3, hv, c0, c1, c2, c3, c4, c5⟩ := h
  exact ⟨v0, v1, v2, v3, l1, l2, l3, k1, k2, k3, hv, by rw [List.getElem?_append_left (by omega)]; exact c0, by rw [List.getElem?_append_left (by omega)]; exact c1, by rw [List.getElem?_append_left (by omega)]; exact c2, by rw [List.getElem?_append_left (by omega)]; exact c3, by rw [List.getElem?_append_left (by omega)]; exact c4, by rw [List.getElem?_append_left (by omega)]; exact c5⟩

/-- six stores -/
def setx6 (xs : List Value) (o : Nat) (u0 u1 u2 u3 u4 u5 : Value) : List Value := (((((xs.set o u0).set (o + 1) u1).set (o + 2) u2).set (o + 3) u3).set (o + 4) u4).set (o + 5) u5

theorem setx6_length (xs : List Value) (o : Nat) (u0 u1 u2 u3 u4 u5 : Value) : (setx6 xs o u0 u1 u2 u3 u4 u5).length = xs.length := by simp [setx6]

theorem setx6_other (xs : List Value) (o : Nat) (u0 u1 u2 u3 u4 u5 : Value) (j : Nat) (h : j < o ∨ o + 6 ≤ j) : (setx6 xs o u0 u1 u2 u3 u4 u5)[j]? = xs[j]? := by
  unfold setx6
  rw [List.getElem?_set_ne (by omega), List.getElem?_set_ne (by omega), List.getElem?_set_ne (by omega), List.getElem?_set_ne (by omega), List.getElem?_set_ne (by omega), List.getElem?_set_ne (by omega)]

theorem SixAt.set {xs : List Value} {o : Nat} (ho : o + 5 < xs.length) (v0 v1 : Int) (v2 : Bool) (v3 : ByteArray) (l1 : Option Addr) (l2 l3 : Nat) (k1 : Option Addr) (k2 k3 : Nat) : SixAt (setx6 xs o (.int .i64 v0) (.int .i64 v1) (.bool v2) (.string v3) (.slice l1 l2 l3) (.slice k1 k2 k3)) o (.agg #[.int .i64 v0, .int .i64 v1, .bool v2, .string v3, .slice l1 l2 l3, .slice k1 k2 k3]) := by
  refine ⟨v0, v1, v2, v3, l1, l2, l3, k1, k2, k3, rfl, ?_, ?_, ?_, ?_, ?_, ?_⟩
  all_goals unfold setx6
  · rw [List.getElem?_set_ne (by omega), List.getElem?_set_ne (by omega), List.getElem?_set_ne (by omega), List.getElem?_set_ne (by omega), List.getElem?_set_ne (by omega), List.getElem?_set_self (by omega)]
  · rw [List.getElem?_set_ne (by omega), List.getElem?_set_ne (by omega), List.getElem?_set_ne (by omega), List.getElem?_set_ne (by omega), List.getElem?_set_self (by simp; omega)]
  · rw [List.getElem?_set_ne (by omega), List.getElem?_set_ne (by omega), List.getElem?_set_ne (by omega), List.getElem?_set_self (by simp; omega)]
  · rw [List.getElem?_set_ne (by omega), List.getElem?_set_ne (by omega), List.getElem?_set_self (by simp; omega)]
  · rw [List.getElem?_set_ne (by omega), List.getElem?_set_self (by simp; omega)]
  · rw [List.getElem?_set_self (by simp; omega)]

theorem SixAt.other {xs : List Value} {o p : Nat} {v : Value} (h : SixAt xs p v) (hp : p + 6 ≤ o ∨ o + 6 ≤ p) (u0 u1 u2 u3 u4 u5 : Value) : SixAt (setx6 xs o u0 u1 u2 u3 u4 u5) p v := by
  obtain ⟨v0, v1, v2, v3, l1, l2, l3, k1, k2, k3, hv, c0, c1, c2, c3, c4, c5⟩ := h
  exact ⟨v0, v1, v2, v3, l1, l2, l3, k1, k2, k3, hv, (setx6_other _ _ _ _ _ _ _ _ _ (by omega)).trans c0, (setx6_other _ _ _ _ _ _ _ _ _ (by omega)).trans c1, (setx6_other _ _ _ _ _ _ _ _ _ (by omega)).trans c2, (setx6_other _ _ _ _ _ _ _ _ _ (by omega)).trans c3, (setx6_other _ _ _ _ _ _ _ _ _ (by omega)).trans c4, (setx6_other _ _ _ _ _ _ _ _ _ (by omega)).trans c5⟩

/-- the world with six stores into a row -/
theorem owns_setx6 {base g cap n : Nat} {w : World} {xs : List Value} (h : w.ownsRow base 25 6 (.slice (some ⟨g, 0, none⟩) n cap) n xs) (o : Nat) (u0 u1 u2 u3 u4 u5 : Value) :
    ((((((w.setCell ⟨g, o, none⟩ u0).setCell ⟨g, o + 1, none⟩ u1).setCell ⟨g, o + 2, none⟩ u2).setCell ⟨g, o + 3, none⟩ u3).setCell ⟨g, o + 4, none⟩ u4).setCell ⟨g, o + 5, none⟩ u5).ownsRow base 25 6 (.slice (some ⟨g, 0, none⟩) n cap) n (setx6 xs o u0 u1 u2 u3 u4 u5) :=
  (World.ownsRow.stored (World.ownsRow.stored (World.ownsRow.stored (World.ownsRow.stored (World.ownsRow.stored (World.ownsRow.stored h o u0).1 (o + 1) u1).1 (o + 2) u2).1 (o + 3) u3).1 (o + 4) u4).1 (o + 5) u5).1

theorem kept_setx6 {g : Nat} (w : World) (o : Nat) (u0 u1 u2 u3 u4 u5 : Value) : Kept (· = g) w ((((((w.setCell ⟨g, o, none⟩ u0).setCell ⟨g, o + 1, none⟩ u1).setCell ⟨g, o + 2, none⟩ u2).setCell ⟨g, o + 3, none⟩ u3).setCell ⟨g, o + 4, none⟩ u4).setCell ⟨g, o + 5, none⟩ u5) :=
  ((((((Kept.refl (· = g) w).setCell (p := ⟨g, o, none⟩) rfl u0).setCell (p := ⟨g, o + 1, none⟩) rfl u1).setCell (p := ⟨g, o + 2, none⟩) rfl u2).setCell (p := ⟨g, o + 3, none⟩) rfl u3).setCell (p := ⟨g, o + 4, none⟩) rfl u4).setCell (p := ⟨g, o + 5, none⟩) rfl u5

/-- append(v, x...), v a row of terms of the call's own -/
theorem wpList_appT {w : World} {ops : Array Oper} {rest : List Oper} {o : Oper} {a : Act} {Q : Exit → Act → World → Prop} (hgd : o.guard = none) (s x : Operand) (ho : o.op = .call { callee := .builtin .append, args := #[s, x], argTypes := #[23, 23] })
    (B : Nat) (v : Value) (n m : Nat) (xs news : List Value) (a1 : Option Addr) (c1 : Nat) (hs : a.eval s = v) (hx : a.eval x = .slice a1 m c1) (hO : w.ownsRow B 25 6 v n xs) (hl : news.length = m * 6) (hnews : ∀ ad, a1 = some ad → ∀ j u, news[j]? = some u → w.cell? (ad.add j) = some u) (h1 : ∀ u ∈ news, u.oneCell' = true) (hn : a1 = none → m = 0 ∧ c1 = 0) (hlen : n + m ≤ 1500000000000) (hB : B ≤ w.heap.size)
    (h : ∀ v' w', w'.ownsRow B 25 6 v' (n + m) (xs ++ news) → w.grownBy w' v.ownBlock → wpList Try.prog ops Q rest (a.put o.dst v') w') : wpList Try.prog ops Q (o :: rest) a w := by
  obtain ⟨i0, hi, hz0, hz1, hz2⟩ := info_parts infoTerm
  cases a1 with
  | none =>
    obtain ⟨rfl, rfl⟩ := hn rfl
    have hne : news = [] := List.length_eq_zero_iff.1 (by omega)
    subst hne
    refine wpList_append_own_none hgd s x 23 ho B 25 i0 6 Try.underlying23 hi v n xs hs hO hx ?_
    exact h v w (by simpa using hO) ⟨rfl, rfl, rfl, Nat.le_refl _, fun _ _ _ => rfl⟩
  | some ad =>
    refine wpList_append_own _ hgd s x 23 ho B 25 i0 _ 6 88 Try.underlying23 hi hz0 hz1 hz2 rfl (by decide) v n xs hs hO ad m c1 news hx hl (hnews ad rfl) h1 (by simp [maxLen]; omega) (by omega) hB ?_
    intro v' w' hown hgr _
    exact h v' w' hown hgr

theorem owns_shape {w : World} {B n : Nat} {v : Value} {xs : List Value} (h : w.ownsRow B 25 6 v n xs) : ∃ a cap, v = .slice a n cap ∧ n ≤ cap ∧ cap ≤ 9223372036854775807 ∧ (a = none → n = 0 ∧ cap = 0) ∧ ∀ ad, a = some ad → ∃ g, ad = ⟨g, 0, none⟩ ∧ B ≤ g ∧ g < w.heap.size := by
  rcases h.2 with ⟨hv, hn⟩ | ⟨g, cap, cur, hv, hg, hh, hc, hm, hs, ht⟩
  · exact ⟨none, 0, by rw [hv, hn], by omega, by omega, fun _ => ⟨hn, rfl⟩, fun ad h => by cases h⟩
  · exact ⟨_, cap, hv, hc, by unfold maxLen at hm; omega, fun h => (by cases h), fun ad h => ⟨g, (by simpa using h.symm), hg, heap_lt hh⟩⟩

theorem owns_block {w W : World} {B n cap : Nat} {a : Option Addr} {xs : List Value} (h : w.ownsRow B 25 6 (.slice a n cap) n xs) (hk : ∀ g, a = some ⟨g, 0, none⟩ → W.heap[g]? = w.heap[g]?) : W.ownsRow B 25 6 (.slice a n cap) n xs := by
  rcases h with ⟨h1, h2⟩
  refine ⟨h1, ?_⟩
  rcases h2 with h2 | ⟨g, cap', cur, hv, hg, hh, r⟩
  · exact Or.inl h2
  · refine Or.inr ⟨g, cap', cur, hv, hg, (hk g ?_).trans hh, r⟩
    simp at hv
    exact hv.1

/-- the cells of a row of terms, read -/
theorem tc_six {w : World} {kb ko n : Nat} (h : ∀ i, i < n → ∃ t, TC w kb (ko + i * 6) t) : ∃ xs : List Value, xs.length = n * 6 ∧ (∀ u ∈ xs, u.oneCell' = true) ∧ (∀ j u, xs[j]? = some u → w.cell? ⟨kb, ko + j, none⟩ = some u) ∧ ∃ kv : Nat → Value, ∀ i t, i < n → TC w kb (ko + i * 6) t → SixAt xs (i * 6) (kv i) ∧ CellsAt w kb (ko + i * 6) (kv i) := by
  have hc : ∀ i, ∃ v, i < n → CellsAt w kb (ko + i * 6) v := fun i => by
    by_cases hi : i < n
    · obtain ⟨t, ht⟩ := h i hi
      obtain ⟨v0, v1, v2, v3, l1, l2, l3, k1, k2, k3, c0, c1, c2, c3, c4, c5, -⟩ := ht.valE
      exact ⟨_, fun _ => ⟨v0, v1, v2, v3, l1, l2, l3, k1, k2, k3, rfl, c0, c1, c2, c3, c4, c5⟩⟩
    · exact ⟨.bool false, fun h => absurd h hi⟩
  obtain ⟨kv, hkv⟩ := Classical.skolem.1 hc
  have hone : ∀ j, j < n * 6 → ∃ u, w.cell? ⟨kb, ko + j, none⟩ = some u ∧ u.oneCell' = true := fun j hj => by
    obtain ⟨v0, v1, v2, v3, l1, l2, l3, k1, k2, k3, -, c0, c1, c2, c3, c4, c5⟩ := hkv (j / 6) (by omega)
    have hr : j % 6 = 0 ∨ j % 6 = 1 ∨ j % 6 = 2 ∨ j % 6 = 3 ∨ j % 6 = 4 ∨ j % 6 = 5 := by omega
    rcases hr with hr | hr | hr | hr | hr | hr
    · rw [show ko + j = ko + j / 6 * 6 by omega]; exact ⟨_, c0, rfl⟩
    · rw [show ko + j = ko + j / 6 * 6 + 1 by omega]; exact ⟨_, c1, rfl⟩
    · rw [show ko + j = ko + j / 6 * 6 + 2 by omega]; exact ⟨_, c2, rfl⟩
    · rw [show ko + j = ko + j / 6 * 6 + 3 by omega]; exact ⟨_, c3, rfl⟩
    · rw [show ko + j = ko + j / 6 * 6 + 4 by omega]; exact ⟨_, c4, rfl⟩
    · rw [show ko + j = ko + j / 6 * 6 + 5 by omega]; exact ⟨_, c5, rfl⟩
  have hget : ∀ j u, j < n * 6 → w.cell? ⟨kb, ko + j, none⟩ = some u → ((List.range (n * 6)).map fun j => (w.cell? ⟨kb, ko + j, none⟩).getD (.bool false))[j]? = some u := fun j u hj hu => by
    rw [List.getElem?_map, List.getElem?_range hj, Option.map_some, hu]; rfl
  refine ⟨(List.range (n * 6)).map fun j => (w.cell? ⟨kb, ko + j, none⟩).getD (.bool false), by simp, fun u hu => ?_, fun j u hu => ?_, kv, fun i t hi _ => ⟨?_, hkv i hi⟩⟩
  · obtain ⟨j, hj, rfl⟩ := List.mem_map.1 hu
    obtain ⟨u, hu, h1⟩ := hone j (by simpa using hj)
    rw [hu]; exact h1
  · rw [List.getElem?_map] at hu
    by_cases hj : j < n * 6
    · rw [List.getElem?_range hj] at hu
      obtain ⟨u', hu', -⟩ := hone j hj
      simp only [Option.map_some, Option.some.injEq, hu', Option.getD_some] at hu
      rw [hu', hu]
    · rw [List.getElem?_eq_none (by simpa using hj)] at hu; simp at hu
  · obtain ⟨v0, v1, v2, v3, l1, l2, l3, k1, k2, k3, hv, c0, c1, c2, c3, c4, c5⟩ := hkv i hi
    exact ⟨v0, v1, v2, v3, l1, l2, l3, k1, k2, k3, hv, hget _ _ (by omega) c0, hget _ _ (by omega) (by rw [← Nat.add_assoc]; exact c1), hget _ _ (by omega) (by rw [← Nat.add_assoc]; exact c2), hget _ _ (by omega) (by rw [← Nat.add_assoc]; exact c3), hget _ _ (by omega) (by rw [← Nat.add_assoc]; exact c4), hget _ _ (by omega) (by rw [← Nat.add_assoc]; exact c5)⟩
end Go.Proofs.Ytahacpbmoijicaa

/- The contract of telamonlaw2.Lent: the term that it answers is lent. -/
namespace Go.Proofs.Ytahacpbmoijicaa
open Go.RowKit Go.Sort

theorem grown_kept {w w' : World} {r : Option Nat} (h : w.grownBy w' r) : Kept (fun k => r = some k) w w' := ⟨h.os, h.tape, h.output, h.size, fun k hk hn => h.block k hk (fun e => hn e.symm)⟩

/-- what the loop of Lent holds: the kids ahead of i are lent, the others are as they came -/
structure Lending (w0 : World) (B M n i : Nat) (a : Option Addr) (cap : Nat) (ks : List Tm) (kv : Nat → Value) (w : World) : Prop where
  go : ∃ (xs : List Value) (kvs : Nat → Value), w.ownsRow B 25 6 (.slice a n cap) n xs ∧ (∀ j, j < n → SixAt xs (j * 6) (kvs j)) ∧ (∀ j, i ≤ j → kvs j = kv j) ∧ ∀ j t, j < i → ks[j]? = some t → LT w0 M w (kvs j) t

theorem Lending.next {w0 w w5 : World} {B M n i g cap : Nat} {ks : List Tm} {kv : Nat → Value} {t : Tm} {v0 v1 : Int} {v2 : Bool} {v3 : ByteArray} {l1 : Option Addr} {l2 l3 : Nat} {k1 : Option Addr} {k2 k3 : Nat} (h : Lending w0 B M n i (some ⟨g, 0, none⟩) cap ks kv w) (hi : i < n) (ht : ks[i]? = some t) (hgM : g < M) (hM : M ≤ w.heap.size) (hb : RowKit.Below w.heap.size w w5) (hl : LT w0 M w5 (.agg #[.int .i64 v0, .int .i64 v1, .bool v2, .string v3, .slice l1 l2 l3, .slice k1 k2 k3]) t) :
    Lending w0 B M n (i + 1) (some ⟨g, 0, none⟩) cap ks kv ((((((w5.setCell ⟨g, i * 6, none⟩ (.int .i64 v0)).setCell ⟨g, i * 6 + 1, none⟩ (.int .i64 v1)).setCell ⟨g, i * 6 + 2, none⟩ (.bool v2)).setCell ⟨g, i * 6 + 3, none⟩ (.string v3)).setCell ⟨g, i * 6 + 4, none⟩ (.slice l1 l2 l3)).setCell ⟨g, i * 6 + 5, none⟩ (.slice k1 k2 k3)) := by
  obtain ⟨xs, kvs, hown, hsix, hrest, hdone⟩ := h.go
  have hK := kept_setx6 (g := g) w5 (i * 6) (.int .i64 v0) (.int .i64 v1) (.bool v2) (.string v3) (.slice l1 l2 l3) (.slice k1 k2 k3)
  have hown5 : w5.ownsRow B 25 6 (.slice (some ⟨g, 0, none⟩) n cap) n xs := owns_block hown (fun g' hg' => by
    simp at hg'
    subst hg'
    exact hb.block _ (Nat.lt_of_lt_of_le hgM hM))
  have hO := owns_setx6 hown5 (i * 6) (.int .i64 v0) (.int .i64 v1) (.bool v2) (.string v3) (.slice l1 l2 l3) (.slice k1 k2 k3)
  refine ⟨_, fun j => if j = i then (.agg #[.int .i64 v0, .int .i64 v1, .bool v2, .string v3, .slice l1 l2 l3, .slice k1 k2 k3]) else kvs j, hO, fun j hj => ?_, fun j hj => ?_, fun j t' hj ht' => ?_⟩
  · by_cases e : j = i
    · subst e
      simp only [if_true]
      exact SixAt.set (by rw [hown.1]; omega) _ _ _ _ _ _ _ _ _ _
    · simp only [e, if_false]
      exact (hsix j hj).other (by omega) _ _ _ _ _ _
  · show (if j = i then _ else kvs j) = kv j
    rw [if_neg (by omega)]; exact hrest j (by omega)
  · have hkeep : ∀ k, M ≤ k → k < w5.heap.size → (((((((w5.setCell ⟨g, i * 6, none⟩ (.int .i64 v0)).setCell ⟨g, i * 6 + 1, none⟩ (.int .i64 v1)).setCell ⟨g, i * 6 + 2, none⟩ (.bool v2)).setCell ⟨g, i * 6 + 3, none⟩ (.string v3)).setCell ⟨g, i * 6 + 4, none⟩ (.slice l1 l2 l3)).setCell ⟨g, i * 6 + 5, none⟩ (.slice k1 k2 k3))).heap[k]? = w5.heap[k]? := fun k h1 h2 => hK.block k h2 (by omega)
    by_cases e : j = i
    · subst e
      rw [ht] at ht'
      obtain rfl : t = t' := by simpa using ht'
      simp only [if_true]
      exact hl.keep hK.size hkeep
    · simp only [e, if_false]
      exact ((hdone j t' (by omega) ht').on hb).keep hK.size hkeep

theorem LT.shapeE {w0 w : World} {B : Nat} {v : Value} {t : Tm} (h : LT w0 B w v t) : ∃ (v0 v1 : Int) (v2 : Bool) (v3 : ByteArray) (l1 : Option Addr) (l2 l3 : Nat) (k1 : Option Addr) (k2 k3 : Nat), v = .agg #[.int .i64 v0, .int .i64 v1, .bool v2, .string v3, .slice l1 l2 l3, .slice k1 k2 k3] := by
  cases h with
  | mk => exact ⟨_, _, _, _, _, _, _, _, _, _, rfl⟩

theorem CellsAt.tv {w : World} {g o : Nat} {v : Value} {t : Tm} (h : CellsAt w g o v) (ht : TC w g o t) : TV w v t := by
  obtain ⟨v0, v1, v2, v3, l1, l2, l3, k1, k2, k3, rfl, c0, c1, c2, c3, c4, c5⟩ := h
  obtain ⟨u0, u1, u2, u3, u4, u5, d0, d1, d2, d3, d4, d5, hv⟩ := ht.val
  rw [c0] at d0
  rw [c1] at d1
  rw [c2] at d2
  rw [c3] at d3
  rw [c4] at d4
  rw [c5] at d5
  simp only [Option.some.injEq] at d0 d1 d2 d3 d4 d5
  rw [d0, d1, d2, d3, d4, d5]; exact hv

end Go.Proofs.Ytahacpbmoijicaa
