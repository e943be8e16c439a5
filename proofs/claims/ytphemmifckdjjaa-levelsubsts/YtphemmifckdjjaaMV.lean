/- Plain facts: levels and the numbers that they have. -/
import Derived.Test.YtphemmifckdjjaaMG
namespace Go.Proofs.Ytphemmifckdjjaa

/-- the number of a level by vs; 0, if it is not right -/
def evR (vs : List Int) (n : Int) (xs : List (Int × Int)) : Int := if rightB n xs then evalL vs n xs else 0

theorem evalL_le {vs : List Int} {n : Int} {xs : List (Int × Int)} {m : Int} : evalL vs n xs ≤ m ↔ n ≤ m ∧ ∀ p ∈ xs, valOf vs p.1.toNat + p.2 ≤ m := by
  obtain ⟨h1, h2, h3⟩ := fold_max_ge (fun p => valOf vs p.1.toNat + p.2) xs n
  unfold evalL
  constructor
  · intro h
    exact ⟨by omega, fun p hp => by have := h2 p hp; omega⟩
  · rintro ⟨h, h'⟩
    rcases h3 with h3 | ⟨p, hp, h3⟩
    · omega
    · have := h' p hp; omega

theorem eq_of_bounds {a b : Int} (h : ∀ m, a ≤ m ↔ b ≤ m) : a = b := by
  have h1 := (h b).2 (Int.le_refl _)
  have h2 := (h a).1 (Int.le_refl _)
  omega

theorem val_pos (vs : List Int) (p : Int × Int) : 0 ≤ valOf vs p.1.toNat := (valOf_bd vs _).1

theorem eval_canon (vs : List Int) {n : Int} (hn : 0 ≤ n) (xs : List (Int × Int)) : evalL vs (nOf n (tidyL xs)) (tidyL xs) = evalL vs n xs := by
  refine eq_of_bounds fun m => ?_
  rw [evalL_le, evalL_le]
  constructor
  · rintro ⟨h1, h2⟩
    refine ⟨?_, fun p hp => ?_⟩
    · rcases nOf_cases n (tidyL xs) with ⟨q, hq, hl⟩ | hno
      · have := h2 q hq; have := val_pos vs q; omega
      · rw [nOf_no hno] at h1; exact h1
    · obtain ⟨q, hq, e, hl⟩ := ex_max hp
      have := h2 q hq
      rw [e] at this; omega
  · rintro ⟨h1, h2⟩
    exact ⟨Int.le_trans (nOf_le hn _) h1, fun p hp => h2 p (tidy_mem hp)⟩

theorem eval_max (vs : List Int) (na nb : Int) (xs ys : List (Int × Int)) : evalL vs (max na nb) (xs ++ ys) = max (evalL vs na xs) (evalL vs nb ys) := by
  refine eq_of_bounds fun m => ?_
  rw [Int.max_le, evalL_le, evalL_le, evalL_le]
  constructor
  · rintro ⟨h1, h2⟩
    exact ⟨⟨by omega, fun p hp => h2 p (by simp [hp])⟩, ⟨by omega, fun p hp => h2 p (by simp [hp])⟩⟩
  · rintro ⟨⟨h1, h2⟩, ⟨h3, h4⟩⟩
    exact ⟨by omega, fun p hp => by rcases List.mem_append.1 hp with h | h; exact h2 p h; exact h4 p h⟩

theorem eval_suc (vs : List Int) (n k : Int) (xs : List (Int × Int)) : evalL vs (n + k) (rmap k xs) = evalL vs n xs + k := by
  refine eq_of_bounds fun m => ?_
  rw [show evalL vs n xs + k ≤ m ↔ evalL vs n xs ≤ m - k by omega, evalL_le, evalL_le]
  constructor
  · rintro ⟨h1, h2⟩
    refine ⟨by omega, fun p hp => ?_⟩
    have := h2 (p.1, p.2 + k) (rmap_mem.2 ⟨p, hp, rfl⟩)
    simp only at this; omega
  · rintro ⟨h1, h2⟩
    refine ⟨by omega, fun p hp => ?_⟩
    obtain ⟨q, hq, rfl⟩ := rmap_mem.1 hp
    have := h2 q hq
    simp only; omega

theorem ev_canon {vs : List Int} {n : Int} {xs : List (Int × Int)} (hn : 0 ≤ n) (h : (canonR n xs).2.2 = 0) : evR vs (canonR n xs).1 (canonR n xs).2.1 = evalL vs n xs := by
  obtain ⟨h1, h2, h3⟩ := canonR_ok h
  unfold evR
  rw [if_pos h1, h2, h3, eval_canon vs hn]

theorem ev_leq {vs : List Int} {na nb : Int} {xs ys : List (Int × Int)} (h : leqB na xs nb ys = true) : evR vs na xs ≤ evR vs nb ys := by
  have hh := h
  rw [leqB_eq] at hh
  simp only [Bool.and_eq_true] at hh
  obtain ⟨⟨ha, hb⟩, -⟩ := hh
  have hl := (leq_iff ha hb).1 h
  unfold evR
  rw [if_pos ha, if_pos hb]
  obtain ⟨e1, e2⟩ := evalL_le.1 (Int.le_refl (evalL vs nb ys))
  refine evalL_le.2 ⟨?_, fun p hp => ?_⟩
  · rcases hl.1 with h1 | ⟨q, hq, h1⟩
    · omega
    · have := e2 q hq; have := val_pos vs q; omega
  · obtain ⟨q, hq, h1, h2⟩ := hl.2 p hp
    have := e2 q hq
    rw [h1] at this; omega

theorem ev_max {vs : List Int} {na nb : Int} {xs ys : List (Int × Int)} (h : (maxR na xs nb ys).2.2 = 0) : evR vs (maxR na xs nb ys).1 (maxR na xs nb ys).2.1 = max (evR vs na xs) (evR vs nb ys) := by
  by_cases hr : rightB na xs = true ∧ rightB nb ys = true
  · rw [maxR_eq hr.1 hr.2] at *
    have h1 := (right_n hr.1).1
    rw [ev_canon (by omega) h, eval_max]
    unfold evR
    rw [if_pos hr.1, if_pos hr.2]
  · unfold maxR at h
    rw [if_neg (by simpa using hr)] at h
    simp at h

theorem ev_suc {vs : List Int} {n k : Int} {xs : List (Int × Int)} (hk : 0 ≤ k) (hk1 : k ≤ 1000) (h : (sucR n xs k).2.2 = 0) : evR vs (sucR n xs k).1 (sucR n xs k).2.1 = evR vs n xs + k := by
  by_cases hr : rightB n xs = true
  · have e : sucR n xs k = canonR (n + k) (rmap k xs) := by unfold sucR; rw [if_pos hr, if_neg (by omega), show min k 1001 = k by omega]
    rw [e] at h ⊢
    have h1 := (right_n hr).1
    rw [ev_canon (by omega) h, eval_suc]
    unfold evR
    rw [if_pos hr]
  · unfold sucR at h
    rw [if_neg hr] at h
    simp at h

theorem ev_bd {vs : List Int} (hv : ∀ x ∈ vs, x ≤ 1000000) (n : Int) (xs : List (Int × Int)) : 0 ≤ evR vs n xs ∧ evR vs n xs ≤ 1001000 := by
  unfold evR
  split
  · rename_i hr
    have h1 := right_n hr
    obtain ⟨e1, e2⟩ := evalL_le.1 (Int.le_refl (evalL vs n xs))
    refine ⟨by omega, evalL_le.2 ⟨by omega, fun p hp => ?_⟩⟩
    have hp2 : p.2 ≤ 1000 := by
      simp only [rightB, Bool.and_eq_true, List.all_eq_true, decide_eq_true_eq, inR] at hr
      exact ((hr.2 p hp).2).2
    have : valOf vs p.1.toNat ≤ 1000000 := by
      unfold valOf
      rcases Nat.lt_or_ge p.1.toNat vs.length with hl | hl
      · have hm := hv _ (List.getElem_mem hl)
        rw [List.getElem?_eq_getElem hl]; simp only [Option.getD_some]; omega
      · rw [List.getElem?_eq_none hl]; simp only [Option.getD_none]; omega
    omega
  · exact ⟨by omega, by omega⟩
end Go.Proofs.Ytphemmifckdjjaa
