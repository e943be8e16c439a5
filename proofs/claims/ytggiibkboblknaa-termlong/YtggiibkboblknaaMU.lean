/- Plain facts: the reference's search goes through the canonical list in order. -/
import Derived.Test.YtggiibkboblknaaMT
namespace Go.Proofs.Ytggiibkboblknaa

/-- the variable that was found last -/
def lastOf (T : List (Int × Int)) (j : Nat) : Int := if j = 0 then -1 else (T[j - 1]?.getD (-1, 0)).1

theorem lastOf_zero (T : List (Int × Int)) : lastOf T 0 = -1 := rfl

theorem lastOf_succ {T : List (Int × Int)} {j : Nat} {p : Int × Int} (h : T[j]? = some p) : lastOf T (j + 1) = p.1 := by simp [lastOf, h]

theorem last_split {T : List (Int × Int)} (hT : T.Pairwise (fun p q => p.1 < q.1)) (h0 : ∀ p ∈ T, 0 ≤ p.1) {j : Nat} (hj : j ≤ T.length) :
    -1 ≤ lastOf T j ∧ (∀ i p, T[i]? = some p → (i < j ↔ p.1 ≤ lastOf T j)) := by
  rcases Nat.eq_zero_or_pos j with rfl | hp
  · refine ⟨Int.le_refl _, fun i p hi => ⟨fun h => by omega, fun h => ?_⟩⟩
    have := h0 p (List.mem_of_getElem? hi); rw [lastOf_zero] at h; omega
  · obtain ⟨k, rfl⟩ : ∃ k, j = k + 1 := ⟨j - 1, by omega⟩
    have hk : k < T.length := by omega
    have hg : T[k]? = some T[k] := by simp [hk]
    rw [lastOf_succ hg]
    refine ⟨by have := h0 T[k] (List.getElem_mem hk); omega, fun i p hi => ?_⟩
    obtain ⟨hi', rfl⟩ := List.getElem?_eq_some_iff.1 hi
    rw [List.pairwise_iff_getElem] at hT
    constructor
    · intro h
      rcases Nat.lt_or_ge i k with hlt | hge
      · exact Int.le_of_lt (hT i k hi' hk hlt)
      · have : i = k := by omega
        subst this; exact Int.le_refl _
    · intro h
      rcases Nat.lt_or_ge i (k + 1) with hlt | hge
      · exact hlt
      · have := hT k i hk hi' (by omega); omega

theorem pick_at {T xs : List (Int × Int)} (hT : IsTidy T xs) (h0 : ∀ p ∈ xs, 0 ≤ p.1) {j : Nat} (hj : j ≤ T.length) : pick (lastOf T j) xs = T[j]?.getD (-1, 0) := by
  have h0' : ∀ p ∈ T, 0 ≤ p.1 := fun p hp => h0 p ((hT.2 p).1 hp).1
  obtain ⟨hl, hs⟩ := last_split hT.1 h0' hj
  rcases pick_found hl xs with ⟨he, hall⟩ | ⟨h1, h2, h3, h4⟩
  · rw [he]
    rcases hg : T[j]? with _ | p
    · rfl
    · have hp := ((hT.2 p).1 (List.mem_of_getElem? hg)).1
      have := (hs j p hg).2 (hall p hp); omega
  · generalize pick (lastOf T j) xs = s at *
    have hsT : s ∈ T := (hT.2 s).2 ⟨h1, h4⟩
    obtain ⟨i, hi, hie⟩ := List.getElem_of_mem hsT
    have hgi : T[i]? = some s := by simp [hi, hie]
    have hij : j ≤ i := by
      rcases Nat.lt_or_ge i j with h | h
      · have := (hs i s hgi).1 h; omega
      · exact h
    have hjl : j < T.length := by omega
    have hgj : T[j]? = some T[j] := by simp [hjl]
    rw [hgj]
    have hjx := ((hT.2 T[j]).1 (List.getElem_mem hjl)).1
    have hlj : lastOf T j < T[j].1 := by
      rcases Int.lt_or_le (lastOf T j) T[j].1 with h | h
      · exact h
      · have := (hs j T[j] hgj).2 h; omega
    have h5 := h3 T[j] hjx hlj
    rcases Nat.lt_or_ge j i with hlt | hge
    · have hp := hT.1
      rw [List.pairwise_iff_getElem] at hp
      have := hp j i hjl hi hlt
      rw [hie] at this; omega
    · have : j = i := by omega
      subst this
      exact hie.symm
end Go.Proofs.Ytggiibkboblknaa
