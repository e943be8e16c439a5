/- Plain facts: what the reference's Suc and Max answer is what the code's answer. -/
import Derived.Test.YtphemmifckdjjaaME
namespace Go.Proofs.Ytphemmifckdjjaa

theorem tidyL_tidyL (xs : List (Int × Int)) : tidyL (tidyL xs) = tidyL xs := tidy_self (tidyL_is xs).1

/-- raising goes through tidying -/
theorem tidy_rmap (k : Int) (xs : List (Int × Int)) : tidyL (rmap k xs) = rmap k (tidyL xs) := by
  refine (tidyL_is (rmap k xs)).unique ⟨?_, fun p => ?_⟩
  · unfold rmap
    rw [List.pairwise_map]
    exact (tidyL_is xs).1
  · rw [rmap_mem]
    constructor
    · rintro ⟨q, hq, rfl⟩
      obtain ⟨h1, h2⟩ := ((tidyL_is xs).2 q).1 hq
      refine ⟨rmap_mem.2 ⟨q, h1, rfl⟩, fun r hr hk => ?_⟩
      obtain ⟨s, hs, rfl⟩ := rmap_mem.1 hr
      have := h2 s hs hk
      simp; omega
    · rintro ⟨hp, hmax⟩
      obtain ⟨q, hq, rfl⟩ := rmap_mem.1 hp
      refine ⟨q, ((tidyL_is xs).2 q).2 ⟨hq, fun r hr hk => ?_⟩, rfl⟩
      have := hmax (r.1, r.2 + k) (rmap_mem.2 ⟨r, hr, rfl⟩) hk
      simp at this; omega

/-- tidying the parts first changes nothing -/
theorem tidy_parts (xs ys : List (Int × Int)) : tidyL (tidyL xs ++ tidyL ys) = tidyL (xs ++ ys) := by
  refine (tidyL_is _).unique ⟨(tidyL_is (xs ++ ys)).1, fun p => ?_⟩
  rw [(tidyL_is (xs ++ ys)).2 p]
  constructor
  · rintro ⟨hp, hmax⟩
    refine ⟨?_, fun q hq hk => ?_⟩
    · rcases List.mem_append.1 hp with hp | hp
      · exact List.mem_append.2 (.inl (((tidyL_is xs).2 p).2 ⟨hp, fun q hq hk => hmax q (by simp [hq]) hk⟩))
      · exact List.mem_append.2 (.inr (((tidyL_is ys).2 p).2 ⟨hp, fun q hq hk => hmax q (by simp [hq]) hk⟩))
    · rcases List.mem_append.1 hq with hq | hq
      · exact hmax q (by simp [tidy_mem hq]) hk
      · exact hmax q (by simp [tidy_mem hq]) hk
  · rintro ⟨hp, hmax⟩
    refine ⟨?_, fun q hq hk => ?_⟩
    · rcases List.mem_append.1 hp with hp | hp
      · exact List.mem_append.2 (.inl (tidy_mem hp))
      · exact List.mem_append.2 (.inr (tidy_mem hp))
    · rcases List.mem_append.1 hq with hq | hq
      · obtain ⟨r, hr, h1, h2⟩ := ex_max hq
        have := hmax r (by simp [hr]) (by omega); omega
      · obtain ⟨r, hr, h1, h2⟩ := ex_max hq
        have := hmax r (by simp [hr]) (by omega); omega

theorem nOf_self (n : Int) (ys : List (Int × Int)) : nOf (nOf n ys) ys = nOf n ys := by
  unfold nOf
  by_cases h : ys.any (fun p => decide (n ≤ p.2)) = true
  · rw [if_pos h]
    split <;> rfl
  · rw [if_neg h, if_neg h]
end Go.Proofs.Ytphemmifckdjjaa
