/- Plain facts: the order of levels. -/
import Derived.Test.YtphemmifckdjjaaMC
import Derived.Test.YtphemmifckdjjaaAB
namespace Go.Proofs.Ytphemmifckdjjaa

/-- at most, as a fact -/
def leP (na : Int) (xs : List (Int × Int)) (nb : Int) (ys : List (Int × Int)) : Prop :=
  (na ≤ nb ∨ ∃ q ∈ ys, na ≤ q.2) ∧ ∀ p ∈ xs, ∃ q ∈ ys, q.1 = p.1 ∧ p.2 ≤ q.2

theorem right_pos {n : Int} {xs : List (Int × Int)} (h : rightB n xs = true) : 0 ≤ n ∧ ∀ p ∈ xs, 0 ≤ p.2 := by
  refine ⟨(right_n h).1, fun p hp => ?_⟩
  obtain ⟨i, hi, e⟩ := List.getElem_of_mem hp
  have := right_at h (k := i) (x := p.1) (y := p.2) (by simp [hi, e])
  omega

theorem leq_iff {na nb : Int} {xs ys : List (Int × Int)} (ha : rightB na xs = true) (hb : rightB nb ys = true) : leqB na xs nb ys = true ↔ leP na xs nb ys := by
  rw [leqB_eq, ha, hb]
  simp only [Bool.true_and]
  simp only [allLe, cmpPairs, List.all_cons, Bool.and_eq_true, decide_eq_true_eq, List.all_eq_true, List.mem_map, forall_exists_index, and_imp, forall_apply_eq_imp_iff₂]
  rw [evalL_nil]
  obtain ⟨m1, m2, m3⟩ := fold_max_ge (fun p => p.2) ys nb
  unfold leP
  refine and_congr ⟨fun h => ?_, fun h => ?_⟩ ⟨fun h p hp => ?_, fun h p hp => ?_⟩
  · rcases m3 with m3 | ⟨q, hq, m3⟩
    · left; omega
    · right; exact ⟨q, hq, by omega⟩
  · rcases h with h | ⟨q, hq, h⟩
    · omega
    · have := m2 q hq; omega
  · exact (le_gAdd ((right_pos ha).2 p hp) _).1 (h p hp)
  · exact (le_gAdd ((right_pos ha).2 p hp) _).2 (h p hp)

theorem leP_refl (n : Int) (xs : List (Int × Int)) : leP n xs n xs := ⟨.inl (Int.le_refl _), fun p hp => ⟨p, hp, rfl, Int.le_refl _⟩⟩

theorem leP_trans {na nb nc : Int} {xs ys zs : List (Int × Int)} (h : leP na xs nb ys) (g : leP nb ys nc zs) : leP na xs nc zs := by
  refine ⟨?_, fun p hp => ?_⟩
  · rcases h.1 with h1 | ⟨q, hq, h1⟩
    · rcases g.1 with g1 | ⟨r, hr, g1⟩
      · left; omega
      · right; exact ⟨r, hr, by omega⟩
    · obtain ⟨r, hr, -, hle⟩ := g.2 q hq
      right; exact ⟨r, hr, by omega⟩
  · obtain ⟨q, hq, h1, h2⟩ := h.2 p hp
    obtain ⟨r, hr, h3, h4⟩ := g.2 q hq
    exact ⟨r, hr, by omega, by omega⟩

theorem leP_canon (n : Int) (xs : List (Int × Int)) : leP n xs (nOf n (tidyL xs)) (tidyL xs) := by
  refine ⟨?_, fun p hp => ?_⟩
  · unfold nOf
    split
    · rename_i hany
      rw [List.any_eq_true] at hany
      obtain ⟨p, hp, hge⟩ := hany
      right; exact ⟨p, hp, by simpa using hge⟩
    · left; exact Int.le_refl _
  · obtain ⟨q, hq, h1, h2⟩ := ex_max hp
    exact ⟨q, hq, h1, h2⟩

theorem canon_leP {n : Int} (hn : 0 ≤ n) (xs : List (Int × Int)) : leP (nOf n (tidyL xs)) (tidyL xs) n xs := by
  refine ⟨?_, fun p hp => ⟨p, tidy_mem hp, rfl, Int.le_refl _⟩⟩
  unfold nOf; split
  · left; omega
  · left; exact Int.le_refl _

theorem canonR_ok {n : Int} {xs : List (Int × Int)} (h : (canonR n xs).2.2 = 0) : rightB (canonR n xs).1 (canonR n xs).2.1 = true ∧ (canonR n xs).1 = nOf n (tidyL xs) ∧ (canonR n xs).2.1 = tidyL xs := by
  unfold canonR at *
  split
  · rename_i h'
    exact ⟨h', rfl, rfl⟩
  · rename_i h'
    rw [if_neg h'] at h
    simp at h

theorem canonR_err (n : Int) (xs : List (Int × Int)) : (canonR n xs).2.2 = 0 ∨ ((canonR n xs).2.2 = 13 ∧ (canonR n xs).1 = 0 ∧ (canonR n xs).2.1 = []) := by
  unfold canonR; split <;> simp

theorem maxR_eq {na nb : Int} {xs ys : List (Int × Int)} (ha : rightB na xs = true) (hb : rightB nb ys = true) : maxR na xs nb ys = canonR (max na nb) (xs ++ ys) := by
  unfold maxR; rw [ha, hb]; rfl

theorem sucR_eq {n : Int} {xs : List (Int × Int)} (h : rightB n xs = true) : sucR n xs 1 = canonR (n + 1) (rmap 1 xs) := by
  unfold sucR; rw [if_pos h]; rfl

theorem max_leqs {na nb : Int} {xs ys : List (Int × Int)} (ha : rightB na xs = true) (hb : rightB nb ys = true) (h : (maxR na xs nb ys).2.2 = 0) :
    rightB (maxR na xs nb ys).1 (maxR na xs nb ys).2.1 = true ∧ leqB na xs (maxR na xs nb ys).1 (maxR na xs nb ys).2.1 = true ∧ leqB nb ys (maxR na xs nb ys).1 (maxR na xs nb ys).2.1 = true ∧ leqB (maxR na xs nb ys).1 (maxR na xs nb ys).2.1 nb ys = leqB na xs nb ys := by
  rw [maxR_eq ha hb] at *
  obtain ⟨h1, h2, h3⟩ := canonR_ok h
  have hpa := (right_pos ha).1
  have hpb := (right_pos hb).1
  have hup : leP na xs (max na nb) (xs ++ ys) := ⟨.inl (by omega), fun p hp => ⟨p, by simp [hp], rfl, Int.le_refl _⟩⟩
  have hup2 : leP nb ys (max na nb) (xs ++ ys) := ⟨.inl (by omega), fun p hp => ⟨p, by simp [hp], rfl, Int.le_refl _⟩⟩
  refine ⟨h1, (leq_iff ha h1).2 ?_, (leq_iff hb h1).2 ?_, ?_⟩
  · rw [h2, h3]; exact leP_trans hup (leP_canon _ _)
  · rw [h2, h3]; exact leP_trans hup2 (leP_canon _ _)
  · rw [Bool.eq_iff_iff, leq_iff h1 hb, leq_iff ha hb]
    rw [h2, h3]
    constructor
    · intro hl; exact leP_trans hup (leP_trans (leP_canon _ _) hl)
    · intro hl
      refine leP_trans (canon_leP (by omega) _) ⟨?_, fun p hp => ?_⟩
      · rcases Int.le_total na nb with h | h
        · left; omega
        · rw [show max na nb = na by omega]; exact hl.1
      · rcases List.mem_append.1 hp with hp | hp
        · exact hl.2 p hp
        · exact ⟨p, hp, rfl, Int.le_refl _⟩

theorem rmap_mem {k : Int} {xs : List (Int × Int)} {p : Int × Int} : p ∈ rmap k xs ↔ ∃ q ∈ xs, p = (q.1, q.2 + k) := by
  unfold rmap
  simp only [List.mem_map]
  constructor
  · rintro ⟨q, hq, rfl⟩; exact ⟨q, hq, rfl⟩
  · rintro ⟨q, hq, rfl⟩; exact ⟨q, hq, rfl⟩

theorem suc_leqs {n : Int} {xs : List (Int × Int)} (ha : rightB n xs = true) (h : (sucR n xs 1).2.2 = 0) :
    rightB (sucR n xs 1).1 (sucR n xs 1).2.1 = true ∧ leqB n xs (sucR n xs 1).1 (sucR n xs 1).2.1 = true ∧ leqB (sucR n xs 1).1 (sucR n xs 1).2.1 n xs = false := by
  rw [sucR_eq ha] at *
  obtain ⟨h1, h2, h3⟩ := canonR_ok h
  have hp := (right_pos ha).1
  refine ⟨h1, (leq_iff ha h1).2 ?_, ?_⟩
  · rw [h2, h3]
    refine leP_trans ⟨.inl (by omega), fun p hp => ⟨(p.1, p.2 + 1), rmap_mem.2 ⟨p, hp, rfl⟩, rfl, by simp; omega⟩⟩ (leP_canon (n + 1) (rmap 1 xs))
  · rw [← Bool.not_eq_true, leq_iff h1 ha, h2, h3]
    intro hl
    have hl := leP_trans (leP_canon (n + 1) (rmap 1 xs)) hl
    obtain ⟨m1, m2, m3⟩ := fold_max_ge (fun p => p.2) xs n
    rcases m3 with m3 | ⟨q, hq, m3⟩
    · rcases hl.1 with h | ⟨q, hq, h⟩
      · omega
      · have := m2 q hq; omega
    · obtain ⟨r, hr, -, hle⟩ := hl.2 (q.1, q.2 + 1) (rmap_mem.2 ⟨q, hq, rfl⟩)
      have := m2 r hr
      simp at hle; omega

theorem leq_self {n : Int} {xs : List (Int × Int)} (h : rightB n xs = true) : leqB n xs n xs = true := (leq_iff h h).2 (leP_refl _ _)

theorem leq_on {na nb nc : Int} {xs ys zs : List (Int × Int)} (ha : rightB na xs = true) (hb : rightB nb ys = true) (hc : rightB nc zs = true) (h : leqB na xs nb ys = true) (g : leqB nb ys nc zs = true) : leqB na xs nc zs = true :=
  (leq_iff ha hc).2 (leP_trans ((leq_iff ha hb).1 h) ((leq_iff hb hc).1 g))
end Go.Proofs.Ytphemmifckdjjaa
