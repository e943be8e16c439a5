/- Rows of terms in memory of the call's own, by their cells; append onto such a row. -/
import Derived.Test.YthdcpodheimhaaaCC
import Derived.Test.YthdcpodheimhaaaOC
import Derived.Laws.AppendOwnNone
namespace Go.Proofs.Ythdcpodheimhaaa
open Go.RowKit Go.Sort

/-- the six cells from o on in the list xs are the value v -/
def SixAt (xs : List Value) (o : Nat) (v : Value) : Prop :=
  ∃ (v0 v1 : Int) (v2 : Bool) (v3 : ByteArray) (l1 : Option Addr) (l2 l3 : Nat) (k1 : Option Addr) (k2 k3 : Nat), v = .agg #[.int .i64 v0, .int .i64 v1, .bool v2, .string v3, .slice l1 l2 l3, .slice k1 k2 k3] ∧ xs[o]? = some (.int .i64 v0) ∧ xs[o + 1]? = some (.int .i64 v1) ∧ xs[o + 2]? = some (.bool v2) ∧ xs[o + 3]? = some (.string v3) ∧ xs[o + 4]? = some (.slice l1 l2 l3) ∧ xs[o + 5]? = some (.slice k1 k2 k3)

theorem SixAt.cells {base g cap n o : Nat} {w : World} {xs : List Value} {v : Value} (h : w.ownsRow base 25 6 (.slice (some ⟨g, 0, none⟩) n cap) n xs) (hs : SixAt xs o v) (ho : o + 5 < n * 6) : CellsAt w g o v := by
  obtain ⟨v0, v1, v2, v3, l1, l2, l3, k1, k2, k3, hv, c0, c1, c2, c3, c4, c5⟩ := hs
  exact ⟨v0, v1, v2, v3, l1, l2, l3, k1, k2, k3, hv, (World.ownsRow.cellAt h o (by omega)).trans c0, (World.ownsRow.cellAt h (o + 1) (by omega)).trans c1, (World.ownsRow.cellAt h (o + 2) (by omega)).trans c2, (World.ownsRow.cellAt h (o + 3) (by omega)).trans c3, (World.ownsRow.cellAt h (o + 4) (by omega)).trans c4, (World.ownsRow.cellAt h (o + 5) (by omega)).trans c5⟩

theorem SixAt.left {xs ys : List Value} {o : Nat} {v : Value} (h : SixAt xs o v) (ho : o + 5 < xs.length) : SixAt (xs ++ ys) o v := by
  obtain ⟨v0, v1, v2, v3, l1, l2, l3, k1, k2, k3, hv, c0, c1, c2, c3, c4, c5⟩ := h
  exact ⟨v0, v1, v2, v3, l1, l2, l3, k1, k2, k3, hv, by rw [List.getElem?_append_left (by omega)]; exact c0, by rw [List.getElem?_append_left (by omega)]; exact c1, by rw [List.getElem?_append_left (by omega)]; exact c2, by rw [List.getElem?_append_left (by omega)]; exact c3, by rw [List.getElem?_append_left (by omega)]; exact c4, by rw [List.getElem?_append_left (by omega)]; exact c5⟩

/-- six stores -/
def setx6 (xs : List Value) (o : Nat) (u0 u1 u2 u3 u4 u5 : Value) : List Value := (((((xs.set o u0).set (o + 1) u1).set (o + 2) u2).set (o + 3) u3).set (o + 4) u4).set (o + 5) u5

theorem setx6_length (xs : List Value) (o : Nat) (u0 u1 u2 u3 u4 u5 : Value) : (setx6 xs o u0 u1 u2 u3 u4 u5).length = xs.length := by simp [setx6]

theorem setx6_other (xs : List Value) (o : Nat) (u0 u1 u2 u3 u4 u5 : Value) (j : Nat) (h : j < o ∨ o + 6 ≤ j) : (setx6 xs o u0 u1 u2 u3 u4 u5)[j]? = xs[j]? := by
  unfold setx6
  rw [List.getElem?_set_ne (by omega), List.getElem?_set_ne (by omega), List.getElem?_set_ne (by omega), List.getElem?_set_ne (by omega), List.getElem?_set_ne (by omega), List.getElem?_set_ne (by omega)]

theorem SixAt.set {xs : List Value} {o : Nat} (ho : o + 5 < xs.length) (v0 v1 : Int) (v2 : Bool) (v3 : ByteArray) (l1 : Option Addr) (l2 l3 : Nat) (k1 : Option Addr) (k2 k3 : Nat) : SixAt (setx6 xs o (.int .i64 v0) (.int .i64 v1) (.bool v2) (.string v3) (.slice l1 l2 l3) (.slice k1 k2 k3)) o (.agg #[.int .i64 v0, .int .i64 v1, .bool v2, .string v3, .slice l1 l2 l3, .slice k1 k2 k3]) := by
  refine ⟨v0, v1, v2, v3, l1, l2, l3, k1, k2, k3, rfl, ?_, ?_, ?_, ?_, ?_, ?_⟩
  all_goals unfold setx6
  · rw [List.getElem?_set_ne (by omega), List.getElem?_set_ne (by omega), List.getElem?_set_ne (by omega), List.getElem?_set_ne (by omega), List.getElem?_set_ne (by omega), List.getElem?_set_self (by omega)]
  · rw [List.getElem?_set_ne (by omega), List.getElem?_set_ne (by omega), List.getElem?_set_ne (by omega), List.getElem?_set_ne (by omega), List.getElem?_set_self (by simp; omega)]
  · rw [List.getElem?_set_ne (by omega), List.getElem?_set_ne (by omega), List.getElem?_set_ne (by omega), List.getElem?_set_self (by simp; omega)]
  · rw [List.getElem?_set_ne (by omega), List.getElem?_set_ne (by omega), List.getElem?_set_self (by simp; omega)]
  · rw [List.getElem?_set_ne (by omega), List.getElem?_set_self (by simp; omega)]
  · rw [List.getElem?_set_self (by simp; omega)]

theorem SixAt.other {xs : List Value} {o p : Nat} {v : Value} (h : SixAt xs p v) (hp : p + 6 ≤ o ∨ o + 6 ≤ p) (u0 u1 u2 u3 u4 u5 : Value) : SixAt (setx6 xs o u0 u1 u2 u3 u4 u5) p v := by
  obtain ⟨v0, v1, v2, v3, l1, l2, l3, k1, k2, k3, hv, c0, c1, c2, c3, c4, c5⟩ := h
  exact ⟨v0, v1, v2, v3, l1, l2, l3, k1, k2, k3, hv, (setx6_other _ _ _ _ _ _ _ _ _ (by omega)).trans c0, (setx6_other _ _ _ _ _ _ _ _ _ (by omega)).trans c1, (setx6_other _ _ _ _ _ _ _ _ _ (by omega)).trans c2, (setx6_other _ _ _ _ _ _ _ _ _ (by omega)).trans c3, (setx6_other _ _ _ _ _ _ _ _ _ (by omega)).trans c4, (setx6_other _ _ _ _ _ _ _ _ _ (by omega)).trans c5⟩

/-- the world with six stores into a row -/
theorem owns_setx6 {base g cap n : Nat} {w : World} {xs : List Value} (h : w.ownsRow base 25 6 (.slice (some ⟨g, 0, none⟩) n cap) n xs) (o : Nat) (u0 u1 u2 u3 u4 u5 : Value) :
    ((((((w.setCell ⟨g, o, none⟩ u0).setCell ⟨g, o + 1, none⟩ u1).setCell ⟨g, o + 2, none⟩ u2).setCell ⟨g, o + 3, none⟩ u3).setCell ⟨g, o + 4, none⟩ u4).setCell ⟨g, o + 5, none⟩ u5).ownsRow base 25 6 (.slice (some ⟨g, 0, none⟩) n cap) n (setx6 xs o u0 u1 u2 u3 u4 u5) :=
  (World.ownsRow.stored (World.ownsRow.stored (World.ownsRow.stored (World.ownsRow.stored (World.ownsRow.stored (World.ownsRow.stored h o u0).1 (o + 1) u1).1 (o + 2) u2).1 (o + 3) u3).1 (o + 4) u4).1 (o + 5) u5).1

theorem kept_setx6 {g : Nat} (w : World) (o : Nat) (u0 u1 u2 u3 u4 u5 : Value) : Kept (· = g) w ((((((w.setCell ⟨g, o, none⟩ u0).setCell ⟨g, o + 1, none⟩ u1).setCell ⟨g, o + 2, none⟩ u2).setCell ⟨g, o + 3, none⟩ u3).setCell ⟨g, o + 4, none⟩ u4).setCell ⟨g, o + 5, none⟩ u5) :=
  ((((((Kept.refl (· = g) w).setCell (p := ⟨g, o, none⟩) rfl u0).setCell (p := ⟨g, o + 1, none⟩) rfl u1).setCell (p := ⟨g, o + 2, none⟩) rfl u2).setCell (p := ⟨g, o + 3, none⟩) rfl u3).setCell (p := ⟨g, o + 4, none⟩) rfl u4).setCell (p := ⟨g, o + 5, none⟩) rfl u5

/-- append(v, x...), v a row of terms of the call's own -/
theorem wpList_appT {w : World} {ops : Array Oper} {rest : List Oper} {o : Oper} {a : Act} {Q : Exit → Act → World → Prop} (hgd : o.guard = none) (s x : Operand) (ho : o.op = .call { callee := .builtin .append, args := #[s, x], argTypes := #[23, 23] })
    (B : Nat) (v : Value) (n m : Nat) (xs news : List Value) (a1 : Option Addr) (c1 : Nat) (hs : a.eval s = v) (hx : a.eval x = .slice a1 m c1) (hO : w.ownsRow B 25 6 v n xs) (hl : news.length = m * 6) (hnews : ∀ ad, a1 = some ad → ∀ j u, news[j]? = some u → w.cell? (ad.add j) = some u) (h1 : ∀ u ∈ news, u.oneCell' = true) (hn : a1 = none → m = 0 ∧ c1 = 0) (hlen : n + m ≤ 1500000000000) (hB : B ≤ w.heap.size)
    (h : ∀ v' w', w'.ownsRow B 25 6 v' (n + m) (xs ++ news) → w.grownBy w' v.ownBlock → wpList Try.prog ops Q rest (a.put o.dst v') w') : wpList Try.prog ops Q (o :: rest) a w := by
  obtain ⟨i0, hi, hz0, hz1, hz2⟩ := info_parts infoTerm
  cases a1 with
  | none =>
    obtain ⟨rfl, rfl⟩ := hn rfl
    have hne : news = [] := List.length_eq_zero_iff.1 (by omega)
    subst hne
    refine wpList_append_own_none hgd s x 23 ho B 25 i0 6 Try.underlying23 hi v n xs hs hO hx ?_
    exact h v w (by simpa using hO) ⟨rfl, rfl, rfl, Nat.le_refl _, fun _ _ _ => rfl⟩
  | some ad =>
    refine wpList_append_own _ hgd s x 23 ho B 25 i0 _ 6 88 Try.underlying23 hi hz0 hz1 hz2 rfl (by decide) v n xs hs hO ad m c1 news hx hl (hnews ad rfl) h1 (by simp [maxLen]; omega) (by omega) hB ?_
    intro v' w' hown hgr _
    exact h v' w' hown hgr

theorem owns_shape {w : World} {B n : Nat} {v : Value} {xs : List Value} (h : w.ownsRow B 25 6 v n xs) : ∃ a cap, v = .slice a n cap ∧ n ≤ cap ∧ cap ≤ 9223372036854775807 ∧ (a = none → n = 0 ∧ cap = 0) ∧ ∀ ad, a = some ad → ∃ g, ad = ⟨g, 0, none⟩ ∧ B ≤ g ∧ g < w.heap.size := by
  rcases h.2 with ⟨hv, hn⟩ | ⟨g, cap, cur, hv, hg, hh, hc, hm, hs, ht⟩
  · exact ⟨none, 0, by rw [hv, hn], by omega, by omega, fun _ => ⟨hn, rfl⟩, fun ad h => by cases h⟩
  · exact ⟨_, cap, hv, hc, by unfold maxLen at hm; omega, fun h => (by cases h), fun ad h => ⟨g, (by simpa using h.symm), hg, heap_lt hh⟩⟩

theorem owns_block {w W : World} {B n cap : Nat} {a : Option Addr} {xs : List Value} (h : w.ownsRow B 25 6 (.slice a n cap) n xs) (hk : ∀ g, a = some ⟨g, 0, none⟩ → W.heap[g]? = w.heap[g]?) : W.ownsRow B 25 6 (.slice a n cap) n xs := by
  rcases h with ⟨h1, h2⟩
  refine ⟨h1, ?_⟩
  rcases h2 with h2 | ⟨g, cap', cur, hv, hg, hh, r⟩
  · exact Or.inl h2
  · refine Or.inr ⟨g, cap', cur, hv, hg, (hk g ?_).trans hh, r⟩
    simp at hv
    exact hv.1

/-- the cells of a row of terms, read -/
theorem tc_six {w : World} {kb ko n : Nat} (h : ∀ i, i < n → ∃ t, TC w kb (ko + i * 6) t) : ∃ xs : List Value, xs.length = n * 6 ∧ (∀ u ∈ xs, u.oneCell' = true) ∧ (∀ j u, xs[j]? = some u → w.cell? ⟨kb, ko + j, none⟩ = some u) ∧ ∃ kv : Nat → Value, ∀ i t, i < n → TC w kb (ko + i * 6) t → SixAt xs (i * 6) (kv i) ∧ CellsAt w kb (ko + i * 6) (kv i) := by
  have hc : ∀ i, ∃ v, i < n → CellsAt w kb (ko + i * 6) v := fun i => by
    by_cases hi : i < n
    · obtain ⟨t, ht⟩ := h i hi
      obtain ⟨v0, v1, v2, v3, l1, l2, l3, k1, k2, k3, c0, c1, c2, c3, c4, c5, -⟩ := ht.valE
      exact ⟨_, fun _ => ⟨v0, v1, v2, v3, l1, l2, l3, k1, k2, k3, rfl, c0, c1, c2, c3, c4, c5⟩⟩
    · exact ⟨.bool false, fun h => absurd h hi⟩
  obtain ⟨kv, hkv⟩ := Classical.skolem.1 hc
  have hone : ∀ j, j < n * 6 → ∃ u, w.cell? ⟨kb, ko + j, none⟩ = some u ∧ u.oneCell' = true := fun j hj => by
    obtain ⟨v0, v1, v2, v3, l1, l2, l3, k1, k2, k3, -, c0, c1, c2, c3, c4, c5⟩ := hkv (j / 6) (by omega)
    have hr : j % 6 = 0 ∨ j % 6 = 1 ∨ j % 6 = 2 ∨ j % 6 = 3 ∨ j % 6 = 4 ∨ j % 6 = 5 := by omega
    rcases hr with hr | hr | hr | hr | hr | hr
    · rw [show ko + j = ko + j / 6 * 6 by omega]; exact ⟨_, c0, rfl⟩
    · rw [show ko + j = ko + j / 6 * 6 + 1 by omega]; exact ⟨_, c1, rfl⟩
    · rw [show ko + j = ko + j / 6 * 6 + 2 by omega]; exact ⟨_, c2, rfl⟩
    · rw [show ko + j = ko + j / 6 * 6 + 3 by omega]; exact ⟨_, c3, rfl⟩
    · rw [show ko + j = ko + j / 6 * 6 + 4 by omega]; exact ⟨_, c4, rfl⟩
    · rw [show ko + j = ko + j / 6 * 6 + 5 by omega]; exact ⟨_, c5, rfl⟩
  have hget : ∀ j u, j < n * 6 → w.cell? ⟨kb, ko + j, none⟩ = some u → ((List.range (n * 6)).map fun j => (w.cell? ⟨kb, ko + j, none⟩).getD (.bool false))[j]? = some u := fun j u hj hu => by
    rw [List.getElem?_map, List.getElem?_range hj, Option.map_some, hu]; rfl
  refine ⟨(List.range (n * 6)).map fun j => (w.cell? ⟨kb, ko + j, none⟩).getD (.bool false), by simp, fun u hu => ?_, fun j u hu => ?_, kv, fun i t hi _ => ⟨?_, hkv i hi⟩⟩
  · obtain ⟨j, hj, rfl⟩ := List.mem_map.1 hu
    obtain ⟨u, hu, h1⟩ := hone j (by simpa using hj)
    rw [hu]; exact h1
  · rw [List.getElem?_map] at hu
    by_cases hj : j < n * 6
    · rw [List.getElem?_range hj] at hu
      obtain ⟨u', hu', -⟩ := hone j hj
      simp only [Option.map_some, Option.some.injEq, hu', Option.getD_some] at hu
      rw [hu', hu]
    · rw [List.getElem?_eq_none (by simpa using hj)] at hu; simp at hu
  · obtain ⟨v0, v1, v2, v3, l1, l2, l3, k1, k2, k3, hv, c0, c1, c2, c3, c4, c5⟩ := hkv i hi
    exact ⟨v0, v1, v2, v3, l1, l2, l3, k1, k2, k3, hv, hget _ _ (by omega) c0, hget _ _ (by omega) (by rw [← Nat.add_assoc]; exact c1), hget _ _ (by omega) (by rw [← Nat.add_assoc]; exact c2), hget _ _ (by omega) (by rw [← Nat.add_assoc]; exact c3), hget _ _ (by omega) (by rw [← Nat.add_assoc]; exact c4), hget _ _ (by omega) (by rw [← Nat.add_assoc]; exact c5)⟩
end Go.Proofs.Ythdcpodheimhaaa
