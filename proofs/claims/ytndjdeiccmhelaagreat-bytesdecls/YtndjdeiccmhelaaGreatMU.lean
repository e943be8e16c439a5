/- Plain facts on canonical lists of pairs: what tidyL is, and what telamonref1's search finds. -/
import Derived.Test.YtndjdeiccmhelaaGreatG
namespace Go.Proofs.YtndjdeiccmhelaaGreat

/-- ys is the canonical list of xs -/
def IsTidy (ys xs : List (Int × Int)) : Prop := ys.Pairwise (fun p q => p.1 < q.1) ∧ ∀ p, p ∈ ys ↔ (p ∈ xs ∧ ∀ q ∈ xs, q.1 = p.1 → q.2 ≤ p.2)

theorem dd_sorted (xs : List (Int × Int)) : xs.Pairwise (fun x y => x.1 < y.1 ∨ (x.1 = y.1 ∧ y.2 ≤ x.2)) →
    (dd xs).Pairwise (fun p q => p.1 < q.1) ∧ (∀ p ∈ dd xs, p ∈ xs) ∧ (∀ q ∈ xs, ∃ p ∈ dd xs, p.1 = q.1 ∧ q.2 ≤ p.2) := by
  suffices h : ∀ ys : List (Int × Int), ys.reverse.Pairwise (fun x y => x.1 < y.1 ∨ (x.1 = y.1 ∧ y.2 ≤ x.2)) →
      (dd ys.reverse).Pairwise (fun p q => p.1 < q.1) ∧ (∀ p ∈ dd ys.reverse, p ∈ ys.reverse) ∧ (∀ q ∈ ys.reverse, ∃ p ∈ dd ys.reverse, p.1 = q.1 ∧ q.2 ≤ p.2) by
    have := h xs.reverse; rwa [List.reverse_reverse] at this
  intro ys
  induction ys with
  | nil => intro _; simp [dd]
  | cons p r ih =>
    intro hp
    rw [List.reverse_cons] at hp ⊢
    obtain ⟨hp1, -, hp2⟩ := List.pairwise_append.1 hp
    obtain ⟨i1, i2, i3⟩ := ih hp1
    have hR : ∀ x ∈ r.reverse, x.1 < p.1 ∨ (x.1 = p.1 ∧ p.2 ≤ x.2) := fun x hx => hp2 x hx p (by simp)
    rw [dd_snoc]
    unfold ddStep
    split
    · rename_i hl
      refine ⟨i1, fun q hq => List.mem_append.2 (.inl (i2 q hq)), fun q hq => ?_⟩
      rcases List.mem_append.1 hq with hq | hq
      · exact i3 q hq
      · simp at hq; subst hq
        rcases hg : (dd r.reverse).getLast? with _ | l
        · rw [hg] at hl; simp at hl
        · rw [hg] at hl; simp at hl
          have hm := List.mem_of_getLast? hg
          rcases hR l (i2 l hm) with h | ⟨_, h⟩
          · omega
          · exact ⟨l, hm, hl, h⟩
    · rename_i hl
      refine ⟨List.pairwise_append.2 ⟨i1, by simp, fun x hx y hy => ?_⟩, fun q hq => ?_, fun q hq => ?_⟩
      · simp at hy; subst hy
        rcases hR x (i2 x hx) with h | ⟨h, _⟩
        · exact h
        · exfalso
          rcases hg : (dd r.reverse).getLast? with _ | l
          · have : dd r.reverse = [] := List.getLast?_eq_none_iff.1 hg
            rw [this] at hx; simp at hx
          · rw [hg] at hl
            have hm := List.mem_of_getLast? hg
            have hl' : l.1 ≠ y.1 := fun e => hl (by simp [e])
            have hle : x.1 ≤ l.1 := by
              obtain ⟨ys, hys⟩ := List.getLast?_eq_some_iff.1 hg
              rw [hys] at hx i1
              rcases List.mem_append.1 hx with hx | hx
              · exact Int.le_of_lt ((List.pairwise_append.1 i1).2.2 x hx l (by simp))
              · simp at hx; rw [hx]; exact Int.le_refl _
            rcases hR l (i2 l hm) with h2 | ⟨h2, _⟩ <;> omega
      · rcases List.mem_append.1 hq with hq | hq
        · exact List.mem_append.2 (.inl (i2 q hq))
        · exact List.mem_append.2 (.inr hq)
      · rcases List.mem_append.1 hq with hq | hq
        · obtain ⟨p', h1, h2⟩ := i3 q hq
          exact ⟨p', List.mem_append.2 (.inl h1), h2⟩
        · simp at hq; subst hq
          exact ⟨q, by simp, rfl, Int.le_refl _⟩

theorem eq_of_key {T : List (Int × Int)} (hT : T.Pairwise (fun p q => p.1 < q.1)) {p q : Int × Int} (hp : p ∈ T) (hq : q ∈ T) (h : p.1 = q.1) : p = q := by
  induction T with
  | nil => simp at hp
  | cons t r ih =>
    rw [List.pairwise_cons] at hT
    rcases List.mem_cons.1 hp with e1 | hp1
    · rcases List.mem_cons.1 hq with e2 | hq1
      · rw [e1, e2]
      · have := hT.1 q hq1; rw [← e1] at this; omega
    · rcases List.mem_cons.1 hq with e2 | hq1
      · have := hT.1 p hp1; rw [← e2] at this; omega
      · exact ih hT.2 hp1 hq1

theorem tidyL_is (xs : List (Int × Int)) : IsTidy (tidyL xs) xs := by
  obtain ⟨h1, h2, h3⟩ := dd_sorted (srt xs) (srt_pw xs)
  have hm : ∀ p, p ∈ srt xs ↔ p ∈ xs := fun p => (srt_perm xs).mem_iff
  refine ⟨h1, fun p => ⟨fun hp => ⟨(hm p).1 (h2 p hp), fun q hq hk => ?_⟩, fun ⟨hp, hmax⟩ => ?_⟩⟩
  · obtain ⟨p', hp', hk', hle⟩ := h3 q ((hm q).2 hq)
    have : p' = p := eq_of_key h1 hp' hp (by omega)
    rw [← this]; exact hle
  · obtain ⟨p', hp', hk', hle⟩ := h3 p ((hm p).2 hp)
    have h4 := hmax p' ((hm p').1 (h2 p' hp')) hk'
    have : p' = p := Prod.ext hk' (by omega)
    rw [← this]; exact hp'

/-- one step of the reference's search -/
def pstep (last : Int) (s : Int × Int) (v : Int × Int) : Int × Int :=
  if v.1 ≤ last then s else if s.1 < 0 ∨ v.1 < s.1 then v else if v.1 = s.1 ∧ s.2 < v.2 then (s.1, v.2) else s

def pick (last : Int) (xs : List (Int × Int)) : Int × Int := xs.foldl (pstep last) (-1, 0)

/-- what the search has found in xs -/
def Found (last : Int) (xs : List (Int × Int)) (s : Int × Int) : Prop :=
  (s = (-1, 0) ∧ ∀ q ∈ xs, q.1 ≤ last) ∨ (s ∈ xs ∧ last < s.1 ∧ (∀ q ∈ xs, last < q.1 → s.1 ≤ q.1) ∧ ∀ q ∈ xs, q.1 = s.1 → q.2 ≤ s.2)

theorem found_snoc {last : Int} (hl : -1 ≤ last) {xs : List (Int × Int)} {s v : Int × Int} (hs : Found last xs s) : Found last (xs ++ [v]) (pstep last s v) := by
  unfold pstep
  split
  · rename_i h
    rcases hs with ⟨rfl, h0⟩ | ⟨h1, h2, h3, h4⟩
    · exact .inl ⟨rfl, fun q hq => by rcases List.mem_append.1 hq with hq | hq; exact h0 q hq; simp at hq; subst hq; exact h⟩
    · refine .inr ⟨List.mem_append.2 (.inl h1), h2, fun q hq hlt => ?_, fun q hq hk => ?_⟩
      · rcases List.mem_append.1 hq with hq | hq; exact h3 q hq hlt; simp at hq; subst hq; omega
      · rcases List.mem_append.1 hq with hq | hq; exact h4 q hq hk; simp at hq; subst hq; omega
  · rename_i h
    split
    · rename_i h5
      refine .inr ⟨by simp, by omega, fun q hq hlt => ?_, fun q hq hk => ?_⟩
      · rcases List.mem_append.1 hq with hq | hq
        · rcases hs with ⟨rfl, h0⟩ | ⟨h1, h2, h3, h4⟩
          · have := h0 q hq; omega
          · have := h3 q hq hlt; omega
        · simp at hq; subst hq; exact Int.le_refl _
      · rcases List.mem_append.1 hq with hq | hq
        · rcases hs with ⟨rfl, h0⟩ | ⟨h1, h2, h3, h4⟩
          · have := h0 q hq; omega
          · have := h3 q hq (by omega); omega
        · simp at hq; subst hq; exact Int.le_refl _
    · rename_i h5
      rcases hs with ⟨rfl, h0⟩ | ⟨h1, h2, h3, h4⟩
      · simp at h5
      · split
        · rename_i h6
          refine .inr ⟨List.mem_append.2 (.inr (by simp; exact Prod.ext h6.1.symm rfl)), h2, fun q hq hlt => ?_, fun q hq hk => ?_⟩
          · rcases List.mem_append.1 hq with hq | hq; exact h3 q hq hlt; simp at hq; subst hq; simp only; omega
          · rcases List.mem_append.1 hq with hq | hq
            · have := h4 q hq hk; simp only at *; omega
            · simp at hq; subst hq; exact Int.le_refl _
        · rename_i h6
          refine .inr ⟨List.mem_append.2 (.inl h1), h2, fun q hq hlt => ?_, fun q hq hk => ?_⟩
          · rcases List.mem_append.1 hq with hq | hq; exact h3 q hq hlt; simp at hq; subst hq; omega
          · rcases List.mem_append.1 hq with hq | hq; exact h4 q hq hk; simp at hq; subst hq; omega

theorem pick_found {last : Int} (hl : -1 ≤ last) (xs : List (Int × Int)) : Found last xs (pick last xs) := by
  suffices h : ∀ (ys zs : List (Int × Int)) (s : Int × Int), Found last zs s → Found last (zs ++ ys) (ys.foldl (pstep last) s) by
    have := h xs [] (-1, 0) (.inl ⟨rfl, by simp⟩); simpa [pick] using this
  intro ys
  induction ys with
  | nil => intro zs s hs; simpa using hs
  | cons v r ih => intro zs s hs; have := ih (zs ++ [v]) (pstep last s v) (found_snoc hl hs); simpa using this
end Go.Proofs.YtndjdeiccmhelaaGreat

/- Plain facts: the reference's search goes through the canonical list in order. -/
namespace Go.Proofs.YtndjdeiccmhelaaGreat

/-- the variable that was found last -/
def lastOf (T : List (Int × Int)) (j : Nat) : Int := if j = 0 then -1 else (T[j - 1]?.getD (-1, 0)).1

theorem lastOf_zero (T : List (Int × Int)) : lastOf T 0 = -1 := rfl

theorem lastOf_succ {T : List (Int × Int)} {j : Nat} {p : Int × Int} (h : T[j]? = some p) : lastOf T (j + 1) = p.1 := by simp [lastOf, h]

theorem last_split {T : List (Int × Int)} (hT : T.Pairwise (fun p q => p.1 < q.1)) (h0 : ∀ p ∈ T, 0 ≤ p.1) {j : Nat} (hj : j ≤ T.length) :
    -1 ≤ lastOf T j ∧ (∀ i p, T[i]? = some p → (i < j ↔ p.1 ≤ lastOf T j)) := by
  rcases Nat.eq_zero_or_pos j with rfl | hp
  · refine ⟨Int.le_refl _, fun i p hi => ⟨fun h => by omega, fun h => ?_⟩⟩
    have := h0 p (List.mem_of_getElem? hi); rw [lastOf_zero] at h; omega
  · obtain ⟨k, rfl⟩ : ∃ k, j = k + 1 := ⟨j - 1, by omega⟩
    have hk : k < T.length := by omega
    have hg : T[k]? = some T[k] := by simp [hk]
    rw [lastOf_succ hg]
    refine ⟨by have := h0 T[k] (List.getElem_mem hk); omega, fun i p hi => ?_⟩
    obtain ⟨hi', rfl⟩ := List.getElem?_eq_some_iff.1 hi
    rw [List.pairwise_iff_getElem] at hT
    constructor
    · intro h
      rcases Nat.lt_or_ge i k with hlt | hge
      · exact Int.le_of_lt (hT i k hi' hk hlt)
      · have : i = k := by omega
        subst this; exact Int.le_refl _
    · intro h
      rcases Nat.lt_or_ge i (k + 1) with hlt | hge
      · exact hlt
      · have := hT k i hk hi' (by omega); omega

theorem pick_at {T xs : List (Int × Int)} (hT : IsTidy T xs) (h0 : ∀ p ∈ xs, 0 ≤ p.1) {j : Nat} (hj : j ≤ T.length) : pick (lastOf T j) xs = T[j]?.getD (-1, 0) := by
  have h0' : ∀ p ∈ T, 0 ≤ p.1 := fun p hp => h0 p ((hT.2 p).1 hp).1
  obtain ⟨hl, hs⟩ := last_split hT.1 h0' hj
  rcases pick_found hl xs with ⟨he, hall⟩ | ⟨h1, h2, h3, h4⟩
  · rw [he]
    rcases hg : T[j]? with _ | p
    · rfl
    · have hp := ((hT.2 p).1 (List.mem_of_getElem? hg)).1
      have := (hs j p hg).2 (hall p hp); omega
  · generalize pick (lastOf T j) xs = s at *
    have hsT : s ∈ T := (hT.2 s).2 ⟨h1, h4⟩
    obtain ⟨i, hi, hie⟩ := List.getElem_of_mem hsT
    have hgi : T[i]? = some s := by simp [hi, hie]
    have hij : j ≤ i := by
      rcases Nat.lt_or_ge i j with h | h
      · have := (hs i s hgi).1 h; omega
      · exact h
    have hjl : j < T.length := by omega
    have hgj : T[j]? = some T[j] := by simp [hjl]
    rw [hgj]
    have hjx := ((hT.2 T[j]).1 (List.getElem_mem hjl)).1
    have hlj : lastOf T j < T[j].1 := by
      rcases Int.lt_or_le (lastOf T j) T[j].1 with h | h
      · exact h
      · have := (hs j T[j] hgj).2 h; omega
    have h5 := h3 T[j] hjx hlj
    rcases Nat.lt_or_ge j i with hlt | hge
    · have hp := hT.1
      rw [List.pairwise_iff_getElem] at hp
      have := hp j i hjl hi hlt
      rw [hie] at this; omega
    · have : j = i := by omega
      subst this
      exact hie.symm
end Go.Proofs.YtndjdeiccmhelaaGreat
