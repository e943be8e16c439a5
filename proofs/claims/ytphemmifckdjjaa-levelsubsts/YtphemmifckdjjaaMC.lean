/- Plain facts: the code's comparison and the reference's are one. -/
import Derived.Test.YtphemmifckdjjaaRD
import Derived.Test.YtphemmifckdjjaaMD
namespace Go.Proofs.Ytphemmifckdjjaa

theorem topL_eq (nb : Int) (ys : List (Int × Int)) : topL nb ys = ys.foldl (fun m p => max m p.2) nb := by
  unfold topL
  congr 1
  funext m p
  split <;> omega

theorem cov_iff {x y : Int} {ys : List (Int × Int)} : covered x y ys = true ↔ ∃ q ∈ ys, q.1 = x ∧ y ≤ q.2 := by
  unfold covered
  rw [List.any_eq_true]
  constructor
  · rintro ⟨q, hq, h⟩
    simp at h
    exact ⟨q, hq, h.1.symm, h.2⟩
  · rintro ⟨q, hq, h1, h2⟩
    exact ⟨q, hq, by simp [h1, h2]⟩

theorem ex_max {xs : List (Int × Int)} {q : Int × Int} (hq : q ∈ xs) : ∃ p ∈ tidyL xs, p.1 = q.1 ∧ q.2 ≤ p.2 := by
  obtain ⟨h1, h2, h3⟩ := dd_sorted (srt xs) (srt_pw xs)
  exact h3 q ((srt_perm xs).mem_iff.2 hq)

theorem tidy_mem {xs : List (Int × Int)} {p : Int × Int} (hp : p ∈ tidyL xs) : p ∈ xs := (((tidyL_is xs).2 p).1 hp).1

theorem top_tidy {nb : Int} {ys : List (Int × Int)} (h : rightB nb ys = true) : topL (nOf nb (tidyL ys)) (tidyL ys) = evalL [] nb ys := by
  rw [topL_eq, evalL_nil]
  have hn := right_n h
  obtain ⟨a1, a2, a3⟩ := fold_max_ge (fun p => p.2) (tidyL ys) (nOf nb (tidyL ys))
  obtain ⟨b1, b2, b3⟩ := fold_max_ge (fun p => p.2) ys nb
  have hle : (tidyL ys).foldl (fun m p => max m p.2) (nOf nb (tidyL ys)) ≤ ys.foldl (fun m p => max m p.2) nb := by
    rcases a3 with a3 | ⟨p, hp, a3⟩
    · rw [a3]; unfold nOf; split <;> omega
    · rw [a3]; exact b2 p (tidy_mem hp)
  have hge : ys.foldl (fun m p => max m p.2) nb ≤ (tidyL ys).foldl (fun m p => max m p.2) (nOf nb (tidyL ys)) := by
    rcases b3 with b3 | ⟨q, hq, b3⟩
    · rw [b3]
      unfold nOf at *
      split
      · rename_i hany
        rw [List.any_eq_true] at hany
        obtain ⟨p, hp, hge⟩ := hany
        simp at hge
        rw [if_pos (List.any_eq_true.2 ⟨p, hp, by simpa using hge⟩)] at a2
        have := a2 p hp; omega
      · rename_i hany
        rw [if_neg hany] at a1
        exact a1
    · rw [b3]
      obtain ⟨p, hp, _, hl⟩ := ex_max hq
      have := a2 p hp; omega
  omega

theorem leq_same (na nb : Int) (xs ys : List (Int × Int)) : leqB na xs nb ys = rleqB na xs nb ys := by
  rw [leqB_eq]
  unfold rleqB
  by_cases ha : rightB na xs = true
  · by_cases hb : rightB nb ys = true
    · rw [ha, hb]
      simp only [Bool.true_and]
      unfold rleq
      rw [top_tidy hb]
      have hpos : ∀ p ∈ xs, 0 ≤ p.2 := fun p hp => by
        obtain ⟨i, hi, e⟩ := List.getElem_of_mem hp
        have := right_at ha (k := i) (x := p.1) (y := p.2) (by simp [hi, e])
        omega
      have hcovx : ∀ p ∈ xs, (p.2 ≤ gAdd p.1 ys ↔ covered p.1 p.2 (tidyL ys) = true) := fun p hp => by
        rw [le_gAdd (hpos p hp), cov_iff]
        constructor
        · rintro ⟨q, hq, h1, h2⟩
          obtain ⟨r, hr, h3, h4⟩ := ex_max hq
          exact ⟨r, hr, by omega, by omega⟩
        · rintro ⟨q, hq, h1, h2⟩
          exact ⟨q, tidy_mem hq, h1, h2⟩
      obtain ⟨m1, m2, _⟩ := fold_max_ge (fun p => p.2) ys nb
      rw [Bool.eq_iff_iff]
      simp only [allLe, cmpPairs, List.all_cons, Bool.and_eq_true, decide_eq_true_eq, List.all_eq_true, List.mem_map, forall_exists_index, and_imp, forall_apply_eq_imp_iff₂]
      constructor
      · rintro ⟨h1, h2⟩
        refine ⟨?_, fun p hp => (hcovx p (tidy_mem hp)).1 (h2 p (tidy_mem hp))⟩
        have := (right_n ha).1
        unfold nOf; split <;> omega
      · rintro ⟨h1, h2⟩
        have hall : ∀ p ∈ xs, p.2 ≤ gAdd p.1 ys := fun p hp => by
          obtain ⟨r, hr, h3, h4⟩ := ex_max hp
          have h5 := cov_iff.1 (h2 r hr)
          obtain ⟨q, hq, h6, h7⟩ := h5
          exact (le_gAdd (hpos p hp) ys).2 ⟨q, tidy_mem hq, by omega, by omega⟩
        refine ⟨?_, hall⟩
        unfold nOf at h1
        split at h1
        · rename_i hany
          rw [List.any_eq_true] at hany
          obtain ⟨p, hp, hge⟩ := hany
          simp at hge
          obtain ⟨q, hq, h6, h7⟩ := cov_iff.1 (h2 p hp)
          have := m2 q (tidy_mem hq)
          rw [evalL_nil]
          omega
        · exact h1
    · simp [hb]
  · simp [ha]
end Go.Proofs.Ytphemmifckdjjaa
