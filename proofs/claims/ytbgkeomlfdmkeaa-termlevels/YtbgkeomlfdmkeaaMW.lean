/- Plain facts: what the reference's SubstLevel answers is what the code's Subst answers, and which number it has. -/
import Derived.Test.YtbgkeomlfdmkeaaRI
namespace Go.Proofs.Ytbgkeomlfdmkeaa

abbrev Lv := Int × List (Int × Int)

/-- the level that stands for a variable -/
def argOf (ls : List Lv) (p : Int × Int) : Lv := ls[p.1.toNat]?.getD (0, [])

/-- one variable replaced, as the reference does it -/
def rStep (ls : List Lv) (acc : Lv) (p : Int × Int) : Lv :=
  let x := (nOf (argOf ls p).1 (tidyL (argOf ls p).2), tidyL (argOf ls p).2)
  (if acc.1 < x.1 + p.2 ∧ (0 < x.1 ∨ x.2.length = 0) then x.1 + p.2 else acc.1, acc.2 ++ rmap p.2 x.2)

def rFold (ls : List Lv) (n : Int) (xs : List (Int × Int)) : Lv := xs.foldl (rStep ls) (n, [])

theorem sFold_mem {ls : List Lv} : ∀ (xs : List (Int × Int)) (acc : Lv) (q : Int × Int), (∀ p ∈ xs, p.2 ≤ 1001) → (q ∈ (xs.foldl (sStep ls) acc).2 ↔ q ∈ acc.2 ∨ ∃ p ∈ xs, q ∈ rmap p.2 (argOf ls p).2)
  | [], acc, q, _ => by simp
  | p :: r, acc, q, h => by
    rw [List.foldl_cons, sFold_mem r _ q (fun p hp => h p (by simp [hp]))]
    have hp : min p.2 1001 = p.2 := by have := h p (by simp); omega
    simp only [sStep, hp, List.mem_append, List.mem_cons, exists_eq_or_imp]
    unfold argOf
    rw [or_assoc]

theorem rFold_mem {ls : List Lv} : ∀ (xs : List (Int × Int)) (acc : Lv) (q : Int × Int), q ∈ (xs.foldl (rStep ls) acc).2 ↔ q ∈ acc.2 ∨ ∃ p ∈ xs, q ∈ rmap p.2 (tidyL (argOf ls p).2)
  | [], acc, q => by simp
  | p :: r, acc, q => by
    rw [List.foldl_cons, rFold_mem r _ q]
    simp only [rStep, List.mem_append, List.mem_cons, exists_eq_or_imp]
    rw [or_assoc]

theorem sFold_n {ls : List Lv} : ∀ (xs : List (Int × Int)) (acc : Lv), (∀ p ∈ xs, p.2 ≤ 1001) → (acc.1 ≤ (xs.foldl (sStep ls) acc).1 ∧ (∀ p ∈ xs, (argOf ls p).1 + p.2 ≤ (xs.foldl (sStep ls) acc).1) ∧ ((xs.foldl (sStep ls) acc).1 = acc.1 ∨ ∃ p ∈ xs, (xs.foldl (sStep ls) acc).1 = (argOf ls p).1 + p.2))
  | [], acc, _ => ⟨Int.le_refl _, by simp, .inl rfl⟩
  | p :: r, acc, h => by
    obtain ⟨h1, h2, h3⟩ := sFold_n (ls := ls) r (sStep ls acc p) (fun p hp => h p (by simp [hp]))
    have hp : min p.2 1001 = p.2 := by have := h p (by simp); omega
    have e : (sStep ls acc p).1 = max acc.1 ((argOf ls p).1 + p.2) := by simp only [sStep, hp]; rfl
    rw [List.foldl_cons]
    rw [e] at h1 h3
    refine ⟨by omega, fun q hq => ?_, ?_⟩
    · rcases List.mem_cons.1 hq with rfl | hq
      · omega
      · exact h2 q hq
    · rcases h3 with h3 | ⟨q, hq, h3⟩
      · rcases Int.le_total acc.1 ((argOf ls p).1 + p.2) with h | h
        · right; exact ⟨p, by simp, by omega⟩
        · left; omega
      · right; exact ⟨q, by simp [hq], h3⟩

/-- a candidate for the reference's number -/
def cand (ls : List Lv) (p : Int × Int) : Prop := 0 < nOf (argOf ls p).1 (tidyL (argOf ls p).2) ∨ (tidyL (argOf ls p).2).length = 0

theorem rFold_n {ls : List Lv} : ∀ (xs : List (Int × Int)) (acc : Lv), (acc.1 ≤ (xs.foldl (rStep ls) acc).1 ∧ (∀ p ∈ xs, cand ls p → nOf (argOf ls p).1 (tidyL (argOf ls p).2) + p.2 ≤ (xs.foldl (rStep ls) acc).1) ∧ ((xs.foldl (rStep ls) acc).1 = acc.1 ∨ ∃ p ∈ xs, (xs.foldl (rStep ls) acc).1 = nOf (argOf ls p).1 (tidyL (argOf ls p).2) + p.2))
  | [], acc => ⟨Int.le_refl _, by simp, .inl rfl⟩
  | p :: r, acc => by
    obtain ⟨h1, h2, h3⟩ := rFold_n (ls := ls) r (rStep ls acc p)
    rw [List.foldl_cons]
    by_cases hc : acc.1 < nOf (argOf ls p).1 (tidyL (argOf ls p).2) + p.2 ∧ cand ls p
    · have e : (rStep ls acc p).1 = nOf (argOf ls p).1 (tidyL (argOf ls p).2) + p.2 := by
        simp only [rStep]; exact if_pos hc
      rw [e] at h1 h3
      refine ⟨by omega, fun q hq hq2 => ?_, ?_⟩
      · rcases List.mem_cons.1 hq with rfl | hq
        · exact h1
        · exact h2 q hq hq2
      · rcases h3 with h3 | ⟨q, hq, h3⟩
        · right; exact ⟨p, by simp, h3⟩
        · right; exact ⟨q, by simp [hq], h3⟩
    · have e : (rStep ls acc p).1 = acc.1 := by
        simp only [rStep]; exact if_neg hc
      rw [e] at h1 h3
      refine ⟨h1, fun q hq hq2 => ?_, ?_⟩
      · rcases List.mem_cons.1 hq with rfl | hq
        · have : ¬ acc.1 < nOf (argOf ls q).1 (tidyL (argOf ls q).2) + q.2 := fun h => hc ⟨h, hq2⟩
          omega
        · exact h2 q hq hq2
      · rcases h3 with h3 | ⟨q, hq, h3⟩
        · exact .inl h3
        · right; exact ⟨q, by simp [hq], h3⟩

theorem tidy_dom {V1 V2 : List (Int × Int)} (h1 : ∀ p ∈ V2, p ∈ V1) (h2 : ∀ p ∈ V1, ∃ q ∈ V2, q.1 = p.1 ∧ p.2 ≤ q.2) : tidyL V2 = tidyL V1 := by
  refine (tidyL_is V2).unique ⟨(tidyL_is V1).1, fun p => ?_⟩
  rw [(tidyL_is V1).2 p]
  constructor
  · rintro ⟨hp, hmax⟩
    obtain ⟨q, hq, e, hl⟩ := h2 p hp
    have := hmax q (h1 q hq) e
    have : q = p := Prod.ext (by omega) (by omega)
    subst this
    exact ⟨hq, fun r hr hk => hmax r (h1 r hr) hk⟩
  · rintro ⟨hp, hmax⟩
    refine ⟨h1 p hp, fun q hq hk => ?_⟩
    obtain ⟨r, hr, e, hl⟩ := h2 q hq
    have := hmax r hr (by omega)
    omega

theorem arg_right {ls : List Lv} (hw : ls.any wrongL = false) (p : Int × Int) : rightB (argOf ls p).1 (argOf ls p).2 = true := by
  unfold argOf
  rcases Nat.lt_or_ge p.1.toNat ls.length with h | h
  · have hk : ls[p.1.toNat]? = some (ls[p.1.toNat].1, ls[p.1.toNat].2) := by simp [h]
    rw [hk]
    exact right_of_any hw hk
  · rw [List.getElem?_eq_none h]; rfl

theorem rsubst_eq {n : Int} {xs : List (Int × Int)} {ls : List Lv} (hr : rightB n xs = true) (hb : boundL xs ≤ ls.length) (hw : ls.any wrongL = false) :
    canonR (rFold ls (nOf n (tidyL xs)) (tidyL xs)).1 (rFold ls (nOf n (tidyL xs)) (tidyL xs)).2 = substR n xs ls := by
  unfold substR
  rw [if_pos ⟨hr, hb, hw⟩]
  have hpos := (right_pos hr).2
  have hn := (right_pos hr).1
  have hle : ∀ p ∈ xs, p.2 ≤ 1001 := fun p hp => by
    simp only [rightB, Bool.and_eq_true, List.all_eq_true, decide_eq_true_eq, inR] at hr
    have := ((hr.2 p hp).2).2; omega
  have hap := fun p => (right_pos (arg_right hw p))
  obtain ⟨s1, s2, s3⟩ := sFold_n (ls := ls) xs (n, []) hle
  obtain ⟨r1, r2, r3⟩ := rFold_n (ls := ls) (tidyL xs) (nOf n (tidyL xs), [])
  have m1 := fun q => sFold_mem (ls := ls) xs (n, []) q hle
  have m2 := fun q => rFold_mem (ls := ls) (tidyL xs) (nOf n (tidyL xs), []) q
  simp only [List.not_mem_nil, false_or] at m1 m2
  simp only at s1 s3 r1 r3
  change _ ≤ (rFold ls (nOf n (tidyL xs)) (tidyL xs)).1 at r1
  change ∀ p ∈ tidyL xs, cand ls p → _ ≤ (rFold ls (nOf n (tidyL xs)) (tidyL xs)).1 at r2
  change (rFold ls (nOf n (tidyL xs)) (tidyL xs)).1 = _ ∨ ∃ p ∈ tidyL xs, (rFold ls (nOf n (tidyL xs)) (tidyL xs)).1 = _ at r3
  change ∀ q, q ∈ (rFold ls (nOf n (tidyL xs)) (tidyL xs)).2 ↔ _ at m2
  change _ ≤ (sFold ls n xs).1 at s1
  change ∀ p ∈ xs, _ ≤ (sFold ls n xs).1 at s2
  change (sFold ls n xs).1 = _ ∨ ∃ p ∈ xs, (sFold ls n xs).1 = _ at s3
  change ∀ q, q ∈ (sFold ls n xs).2 ↔ _ at m1
  generalize rFold ls (nOf n (tidyL xs)) (tidyL xs) = R at *
  generalize sFold ls n xs = S at *
  have key : ∀ p q : Int × Int, q.1 = p.1 → argOf ls q = argOf ls p := fun p q e => by unfold argOf; rw [e]
  have hT : tidyL R.2 = tidyL S.2 := by
    refine tidy_dom (fun q hq => ?_) (fun q hq => ?_)
    · obtain ⟨p, hp, hq⟩ := (m2 q).1 hq
      obtain ⟨t, ht, rfl⟩ := rmap_mem.1 hq
      exact (m1 _).2 ⟨p, tidy_mem hp, rmap_mem.2 ⟨t, tidy_mem ht, rfl⟩⟩
    · obtain ⟨p, hp, hq⟩ := (m1 q).1 hq
      obtain ⟨t, ht, rfl⟩ := rmap_mem.1 hq
      obtain ⟨p', hp', e, hl⟩ := ex_max hp
      obtain ⟨t', ht', e', hl'⟩ := ex_max ht
      refine ⟨(t'.1, t'.2 + p'.2), (m2 _).2 ⟨p', hp', rmap_mem.2 ⟨t', by rw [key p p' e]; exact ht', rfl⟩⟩, e', by simp only; omega⟩
  have hle2 : R.1 ≤ S.1 := by
    rcases r3 with h | ⟨p, hp, h⟩
    · rw [h]; exact Int.le_trans (nOf_le hn _) s1
    · rw [h]
      have := s2 p (tidy_mem hp)
      have := nOf_le (hap p).1 (tidyL (argOf ls p).2)
      omega
  have hN : nOf R.1 (tidyL S.2) = nOf S.1 (tidyL S.2) := by
    rcases nOf_cases S.1 (tidyL S.2) with ⟨q, hq, hl⟩ | hno
    · rw [nOf_yes ⟨q, hq, hl⟩, nOf_yes ⟨q, hq, by omega⟩]
    · have hno' : ∀ q ∈ S.2, q.2 < S.1 := fun q hq => by
        obtain ⟨r, hr, _, hl⟩ := ex_max hq
        have := hno r hr; omega
      -- an argument of a variable whose sum is the greatest
      have top : ∀ p ∈ xs, (argOf ls p).1 + p.2 = S.1 → S.1 ≤ R.1 := fun p hp he => by
        obtain ⟨p', hp', e, hl⟩ := ex_max hp
        have ea := key p p' e
        have h2 := s2 p' (tidy_mem hp')
        rw [ea] at h2
        have hp2 : p'.2 = p.2 := by omega
        have hnoT : ∀ t ∈ tidyL (argOf ls p').2, t.2 < (argOf ls p').1 := fun t ht => by
          have := hno' (t.1, t.2 + p'.2) ((m1 _).2 ⟨p', tidy_mem hp', rmap_mem.2 ⟨t, tidy_mem ht, rfl⟩⟩)
          simp only at this
          rw [ea]; omega
        have hnx : nOf (argOf ls p').1 (tidyL (argOf ls p').2) = (argOf ls p').1 := nOf_no hnoT
        have hc : cand ls p' := by
          unfold cand
          rw [hnx]
          by_cases h0 : 0 < (argOf ls p').1
          · exact .inl h0
          · right
            rcases List.eq_nil_or_concat (tidyL (argOf ls p').2) with h | ⟨l, t, h⟩
            · rw [h]; rfl
            · have ht : t ∈ tidyL (argOf ls p').2 := by rw [h]; simp
              have := hnoT t ht
              have := (hap p').2 t (tidy_mem ht)
              omega
        have := r2 p' hp' hc
        rw [hnx, ea] at this
        omega
      have : S.1 ≤ R.1 := by
        rcases s3 with h | ⟨p, hp, h⟩
        · rcases nOf_cases n (tidyL xs) with ⟨p, hp, hl⟩ | hno2
          · have h2 := s2 p (tidy_mem hp)
            have h3 := (hap p).1
            exact top p (tidy_mem hp) (by omega)
          · rw [nOf_no hno2] at r1; omega
        · exact top p hp h.symm
      rw [show R.1 = S.1 by omega]
  unfold canonR
  rw [hT, hN]

theorem subst_far {n : Int} {xs : List (Int × Int)} {ls : List Lv} {j : Nat} {x y : Int} (hj : (tidyL xs)[j]? = some (x, y)) (h : (ls.length : Int) ≤ x) : substR n xs ls = (0, [], 13) := by
  have hm : (x, y) ∈ xs := tidy_mem (List.mem_of_getElem? hj)
  obtain ⟨i, hi, e⟩ := List.getElem_of_mem hm
  have := bound_at (xs := xs) (j := i) (x := x) (y := y) (by simp [hi, e])
  unfold substR
  rw [if_neg]
  rintro ⟨-, h2, -⟩
  omega

theorem subst_near {xs : List (Int × Int)} {ls : List Lv} (h : ∀ p ∈ tidyL xs, p.1 < (ls.length : Int)) : boundL xs ≤ ls.length := by
  obtain ⟨_, _, h3⟩ := fold_max_ge (fun p => p.1 + 1) xs 0
  unfold boundL
  rcases h3 with h3 | ⟨p, hp, h3⟩
  · rw [h3]; omega
  · rw [h3]
    obtain ⟨q, hq, e, -⟩ := ex_max hp
    have := h q hq
    omega

/-- the values of the arguments -/
def inVals (vs : List Int) (ls : List Lv) : List Int := ls.map fun l => evR vs l.1 l.2

theorem ev_subst {vs : List Int} (hv : ∀ x ∈ vs, x ≤ 1000000) {n : Int} {xs : List (Int × Int)} {ls : List Lv} (h : (substR n xs ls).2.2 = 0) :
    evR vs (substR n xs ls).1 (substR n xs ls).2.1 = evR (inVals vs ls) n xs := by
  by_cases hc : rightB n xs = true ∧ boundL xs ≤ ls.length ∧ ls.any wrongL = false
  · have e : substR n xs ls = canonR (sFold ls n xs).1 (sFold ls n xs).2 := by unfold substR; rw [if_pos hc]
    obtain ⟨hr, hb, hw⟩ := hc
    rw [e] at h ⊢
    have hn := (right_pos hr).1
    have hle : ∀ p ∈ xs, p.2 ≤ 1001 := fun p hp => by
      have hr := hr
      simp only [rightB, Bool.and_eq_true, List.all_eq_true, decide_eq_true_eq, inR] at hr
      have := ((hr.2 p hp).2).2; omega
    obtain ⟨s1, s2, s3⟩ := sFold_n (ls := ls) xs (n, []) hle
    have m1 := fun q => sFold_mem (ls := ls) xs (n, []) q hle
    simp only [List.not_mem_nil, false_or] at m1
    simp only at s1 s3
    change _ ≤ (sFold ls n xs).1 at s1
    change ∀ p ∈ xs, _ ≤ (sFold ls n xs).1 at s2
    change (sFold ls n xs).1 = _ ∨ ∃ p ∈ xs, (sFold ls n xs).1 = _ at s3
    change ∀ q, q ∈ (sFold ls n xs).2 ↔ _ at m1
    rw [ev_canon (by omega) h]
    generalize sFold ls n xs = S at *
    have hval : ∀ p ∈ xs, valOf (inVals vs ls) p.1.toNat = evalL vs (argOf ls p).1 (argOf ls p).2 := fun p hp => by
      obtain ⟨i, hi, e⟩ := List.getElem_of_mem hp
      have hbp := bound_at (xs := xs) (j := i) (x := p.1) (y := p.2) (by simp [hi, e])
      have h0 := right_nonneg hr p hp
      have hlt : p.1.toNat < ls.length := by omega
      have hbd := ev_bd hv (argOf ls p).1 (argOf ls p).2
      have hev : evR vs (argOf ls p).1 (argOf ls p).2 = evalL vs (argOf ls p).1 (argOf ls p).2 := by unfold evR; rw [if_pos (arg_right hw p)]
      have hg : (inVals vs ls)[p.1.toNat]? = some (evR vs (argOf ls p).1 (argOf ls p).2) := by
        unfold inVals argOf
        rw [List.getElem?_map, List.getElem?_eq_getElem hlt]; simp
      unfold valOf
      rw [hg, Option.getD_some, hev]
      rw [hev] at hbd
      omega
    unfold evR
    rw [if_pos hr]
    refine eq_of_bounds fun m => ?_
    rw [evalL_le, evalL_le]
    constructor
    · rintro ⟨h1, h2⟩
      refine ⟨by omega, fun p hp => ?_⟩
      rw [hval p hp]
      have : evalL vs (argOf ls p).1 (argOf ls p).2 ≤ m - p.2 := evalL_le.2 ⟨by have := s2 p hp; omega, fun t ht => by
        have := h2 (t.1, t.2 + p.2) ((m1 _).2 ⟨p, hp, rmap_mem.2 ⟨t, ht, rfl⟩⟩)
        simp only at this; omega⟩
      omega
    · rintro ⟨h1, h2⟩
      refine ⟨?_, fun q hq => ?_⟩
      · rcases s3 with h3 | ⟨p, hp, h3⟩
        · omega
        · have := h2 p hp
          rw [hval p hp] at this
          have := (evalL_le.1 (show evalL vs (argOf ls p).1 (argOf ls p).2 ≤ m - p.2 by omega)).1
          omega
      · obtain ⟨p, hp, hq⟩ := (m1 q).1 hq
        obtain ⟨t, ht, rfl⟩ := rmap_mem.1 hq
        have := h2 p hp
        rw [hval p hp] at this
        have := (evalL_le.1 (show evalL vs (argOf ls p).1 (argOf ls p).2 ≤ m - p.2 by omega)).2 t ht
        simp only; omega
  · unfold substR at h
    rw [if_neg hc] at h
    simp at h
end Go.Proofs.Ytbgkeomlfdmkeaa
