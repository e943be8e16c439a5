/- Plain facts: what the reference's Suc and Max answer is what the code's answer. -/
import Derived.Test.YtphemmifckdjjaaMF
namespace Go.Proofs.Ytphemmifckdjjaa

/-- what the reference's fits answers -/
def fitsR (n : Int) (xs : List (Int × Int)) : Int × List (Int × Int) × Int := normR (nOf n (tidyL xs)) (tidyL xs)

theorem fitsR_eq (n : Int) (xs : List (Int × Int)) : fitsR n xs = canonR n xs := by
  unfold fitsR normR
  by_cases h : rightB (nOf n (tidyL xs)) (tidyL xs) = true
  · rw [if_pos h, canonR_right h, tidyL_tidyL, nOf_self]; unfold canonR; rw [if_pos h]
  · rw [if_neg h]; unfold canonR; rw [if_neg h]

theorem nOf_yes {n : Int} {ys : List (Int × Int)} (h : ∃ p ∈ ys, n ≤ p.2) : nOf n ys = 0 := by
  unfold nOf; rw [if_pos]; rw [List.any_eq_true]; obtain ⟨p, hp, hl⟩ := h; exact ⟨p, hp, by simpa using hl⟩

theorem nOf_no {n : Int} {ys : List (Int × Int)} (h : ∀ p ∈ ys, p.2 < n) : nOf n ys = n := by
  unfold nOf; rw [if_neg]; rw [List.any_eq_true]; rintro ⟨p, hp, hl⟩; have := h p hp; simp at hl; omega

theorem nOf_cases (n : Int) (ys : List (Int × Int)) : (∃ p ∈ ys, n ≤ p.2) ∨ (∀ p ∈ ys, p.2 < n) := by
  by_cases h : ∃ p ∈ ys, n ≤ p.2
  · exact .inl h
  · right; intro p hp; by_cases h' : p.2 < n
    · exact h'
    · exact absurd ⟨p, hp, by omega⟩ h

theorem nOf_le {n : Int} (hn : 0 ≤ n) (ys : List (Int × Int)) : nOf n ys ≤ n := by unfold nOf; split <;> omega

theorem right_posT {n : Int} {xs : List (Int × Int)} (h : rightB n xs = true) : ∀ p ∈ tidyL xs, 0 ≤ p.2 := fun p hp => (right_pos h).2 p (tidy_mem hp)

/-- the number from which the reference's Suc goes on -/
def sucN (m : Int) (T : List (Int × Int)) (k : Int) : Int := if m = 0 ∧ 0 < T.length then 0 else m + k

theorem rsuc_eq {n k : Int} {xs : List (Int × Int)} (h : rightB n xs = true) (h0 : 0 ≤ k) (h1 : k ≤ 1000) : canonR (sucN (nOf n (tidyL xs)) (tidyL xs) k) (rmap k (tidyL xs)) = sucR n xs k := by
  unfold sucR
  rw [if_pos h, if_neg (by omega), show min k 1001 = k by omega]
  have hN : nOf (sucN (nOf n (tidyL xs)) (tidyL xs) k) (rmap k (tidyL xs)) = nOf (n + k) (rmap k (tidyL xs)) := by
    rcases nOf_cases n (tidyL xs) with ⟨p, hp, hl⟩ | hno
    · rw [nOf_yes ⟨p, hp, hl⟩]
      rw [nOf_yes (n := n + k) ⟨(p.1, p.2 + k), rmap_mem.2 ⟨p, hp, rfl⟩, by simp; omega⟩]
      have hlen : 0 < (tidyL xs).length := List.length_pos_of_mem hp
      unfold sucN
      rw [if_pos ⟨rfl, hlen⟩]
      unfold nOf; split <;> rfl
    · rw [nOf_no hno]
      unfold sucN
      split
      · rename_i hz
        obtain ⟨p, hp⟩ := List.exists_mem_of_length_pos hz.2
        have := hno p hp
        have := right_posT h p hp
        omega
      · rfl
  unfold canonR
  rw [tidy_rmap, tidyL_tidyL, tidy_rmap, hN]

theorem rsuc_big {n k : Int} {xs : List (Int × Int)} (h : rightB n xs = true) (h1 : 1000 < k) : sucR n xs k = (0, [], 13) := by
  unfold sucR
  rw [if_pos h, if_neg (by omega), show min k 1001 = 1001 by omega]
  unfold canonR
  rw [if_neg]
  rw [tidy_rmap]
  intro hr
  rcases List.eq_nil_or_concat (tidyL xs) with hn | ⟨l, p, hp⟩
  · rw [hn] at hr
    have := (right_n hr).2.1
    simp [rmap, nOf] at this
    have := (right_n h).1
    omega
  · have hm : (p.1, p.2 + 1001) ∈ rmap 1001 (tidyL xs) := rmap_mem.2 ⟨p, by rw [hp]; simp, rfl⟩
    have h0 := right_posT h p (by rw [hp]; simp)
    simp only [rightB, Bool.and_eq_true, List.all_eq_true, inR, decide_eq_true_eq] at hr
    have := (hr.2 _ hm).2.2
    simp at this
    omega

theorem rmax_eq {na nb : Int} {xs ys : List (Int × Int)} (ha : rightB na xs = true) (hb : rightB nb ys = true) : canonR (max (nOf na (tidyL xs)) (nOf nb (tidyL ys))) (tidyL xs ++ tidyL ys) = maxR na xs nb ys := by
  rw [maxR_eq ha hb]
  have hpa := (right_n ha).1
  have hpb := (right_n hb).1
  have hN : nOf (max (nOf na (tidyL xs)) (nOf nb (tidyL ys))) (tidyL (xs ++ ys)) = nOf (max na nb) (tidyL (xs ++ ys)) := by
    have l1 := nOf_le hpa (tidyL xs)
    have l2 := nOf_le hpb (tidyL ys)
    rcases nOf_cases (max na nb) (tidyL (xs ++ ys)) with ⟨p, hp, hl⟩ | hno
    · rw [nOf_yes ⟨p, hp, hl⟩, nOf_yes ⟨p, hp, by omega⟩]
    · have hx : ∀ p ∈ tidyL xs, p.2 < max na nb := fun p hp => by
        obtain ⟨q, hq, _, h2⟩ := ex_max (xs := xs ++ ys) (q := p) (by simp [tidy_mem hp])
        have := hno q hq; omega
      have hy : ∀ p ∈ tidyL ys, p.2 < max na nb := fun p hp => by
        obtain ⟨q, hq, _, h2⟩ := ex_max (xs := xs ++ ys) (q := p) (by simp [tidy_mem hp])
        have := hno q hq; omega
      have : max (nOf na (tidyL xs)) (nOf nb (tidyL ys)) = max na nb := by
        rcases Int.le_total na nb with hab | hab
        · have hm : max na nb = nb := by omega
          rw [hm] at hy ⊢
          rw [nOf_no hy]; omega
        · have hm : max na nb = na := by omega
          rw [hm] at hx ⊢
          rw [nOf_no hx]; omega
      rw [this]
  unfold canonR
  rw [tidy_parts, hN]
end Go.Proofs.Ytphemmifckdjjaa
