/- Plain facts on the greatest number of a list of pairs. -/
import Derived.Test.YtphemmifckdjjaaMT
namespace Go.Proofs.Ytphemmifckdjjaa

theorem fold_max_ge (f : Int × Int → Int) : ∀ (ys : List (Int × Int)) (m : Int), m ≤ ys.foldl (fun m p => max m (f p)) m ∧ (∀ p ∈ ys, f p ≤ ys.foldl (fun m p => max m (f p)) m) ∧ (ys.foldl (fun m p => max m (f p)) m = m ∨ ∃ p ∈ ys, ys.foldl (fun m p => max m (f p)) m = f p)
  | [], m => ⟨Int.le_refl _, by simp, .inl rfl⟩
  | q :: r, m => by
    obtain ⟨h1, h2, h3⟩ := fold_max_ge f r (max m (f q))
    simp only [List.foldl_cons]
    refine ⟨by omega, fun p hp => ?_, ?_⟩
    · rcases List.mem_cons.1 hp with rfl | hp
      · omega
      · exact h2 p hp
    · rcases h3 with h3 | ⟨p, hp, h3⟩
      · rcases Int.le_total (f q) m with h | h
        · left; omega
        · right; exact ⟨q, by simp, by omega⟩
      · right; exact ⟨p, by simp [hp], h3⟩

theorem evalL_nil (nb : Int) (ys : List (Int × Int)) : evalL [] nb ys = ys.foldl (fun m p => max m p.2) nb := by
  unfold evalL
  congr 1
  funext m p
  simp [valOf]
  omega

theorem gAdd_spec (v : Int) : ∀ (ys : List (Int × Int)) (m : Int), (-1 ≤ m) → (m ≤ ys.foldl (fun m p => if p.1 = v then max m p.2 else m) m) ∧ (∀ p ∈ ys, p.1 = v → p.2 ≤ ys.foldl (fun m p => if p.1 = v then max m p.2 else m) m) ∧ (ys.foldl (fun m p => if p.1 = v then max m p.2 else m) m = m ∨ ∃ p ∈ ys, p.1 = v ∧ ys.foldl (fun m p => if p.1 = v then max m p.2 else m) m = p.2)
  | [], m, _ => ⟨Int.le_refl _, by simp, .inl rfl⟩
  | q :: r, m, hm => by
    simp only [List.foldl_cons]
    by_cases hq : q.1 = v
    · rw [if_pos hq]
      obtain ⟨h1, h2, h3⟩ := gAdd_spec v r (max m q.2) (by omega)
      refine ⟨by omega, fun p hp hv => ?_, ?_⟩
      · rcases List.mem_cons.1 hp with rfl | hp
        · omega
        · exact h2 p hp hv
      · rcases h3 with h3 | ⟨p, hp, hv, h3⟩
        · rcases Int.le_total q.2 m with h | h
          · left; omega
          · right; exact ⟨q, by simp, hq, by omega⟩
        · right; exact ⟨p, by simp [hp], hv, h3⟩
    · rw [if_neg hq]
      obtain ⟨h1, h2, h3⟩ := gAdd_spec v r m hm
      refine ⟨h1, fun p hp hv => ?_, ?_⟩
      · rcases List.mem_cons.1 hp with rfl | hp
        · exact absurd hv hq
        · exact h2 p hp hv
      · rcases h3 with h3 | ⟨p, hp, hv, h3⟩
        · exact .inl h3
        · right; exact ⟨p, by simp [hp], hv, h3⟩

theorem le_gAdd {v y : Int} (hy : 0 ≤ y) (ys : List (Int × Int)) : y ≤ gAdd v ys ↔ ∃ q ∈ ys, q.1 = v ∧ y ≤ q.2 := by
  obtain ⟨_, h2, h3⟩ := gAdd_spec v ys (-1) (Int.le_refl _)
  unfold gAdd
  constructor
  · intro h
    rcases h3 with h3 | ⟨p, hp, hv, h3⟩
    · omega
    · exact ⟨p, hp, hv, by omega⟩
  · rintro ⟨q, hq, hv, h⟩
    have := h2 q hq hv; omega

theorem tidy_self {T : List (Int × Int)} (hT : T.Pairwise (fun p q => p.1 < q.1)) : tidyL T = T :=
  (tidyL_is T).unique ⟨hT, fun p => ⟨fun hp => ⟨hp, fun q hq hk => by rw [eq_of_key hT hq hp hk]; exact Int.le_refl _⟩, fun h => h.1⟩⟩
end Go.Proofs.Ytphemmifckdjjaa
