/- Plain facts: what the reference's Suc and Max answer is what the code's answer. -/
import Derived.Test.YtbgkeomlfdmkeaaME
import Derived.Test.YtbgkeomlfdmkeaaSC
namespace Go.Proofs.Ytbgkeomlfdmkeaa

theorem tidyL_tidyL (xs : List (Int × Int)) : tidyL (tidyL xs) = tidyL xs := tidy_self (tidyL_is xs).1

/-- raising goes through tidying -/
theorem tidy_rmap (k : Int) (xs : List (Int × Int)) : tidyL (rmap k xs) = rmap k (tidyL xs) := by
  refine (tidyL_is (rmap k xs)).unique ⟨?_, fun p => ?_⟩
  · unfold rmap
    rw [List.pairwise_map]
    exact (tidyL_is xs).1
  · rw [rmap_mem]
    constructor
    · rintro ⟨q, hq, rfl⟩
      obtain ⟨h1, h2⟩ := ((tidyL_is xs).2 q).1 hq
      refine ⟨rmap_mem.2 ⟨q, h1, rfl⟩, fun r hr hk => ?_⟩
      obtain ⟨s, hs, rfl⟩ := rmap_mem.1 hr
      have := h2 s hs hk
      simp; omega
    · rintro ⟨hp, hmax⟩
      obtain ⟨q, hq, rfl⟩ := rmap_mem.1 hp
      refine ⟨q, ((tidyL_is xs).2 q).2 ⟨hq, fun r hr hk => ?_⟩, rfl⟩
      have := hmax (r.1, r.2 + k) (rmap_mem.2 ⟨r, hr, rfl⟩) hk
      simp at this; omega

/-- tidying the parts first changes nothing -/
theorem tidy_parts (xs ys : List (Int × Int)) : tidyL (tidyL xs ++ tidyL ys) = tidyL (xs ++ ys) := by
  refine (tidyL_is _).unique ⟨(tidyL_is (xs ++ ys)).1, fun p => ?_⟩
  rw [(tidyL_is (xs ++ ys)).2 p]
  constructor
  · rintro ⟨hp, hmax⟩
    refine ⟨?_, fun q hq hk => ?_⟩
    · rcases List.mem_append.1 hp with hp | hp
      · exact List.mem_append.2 (.inl (((tidyL_is xs).2 p).2 ⟨hp, fun q hq hk => hmax q (by simp [hq]) hk⟩))
      · exact List.mem_append.2 (.inr (((tidyL_is ys).2 p).2 ⟨hp, fun q hq hk => hmax q (by simp [hq]) hk⟩))
    · rcases List.mem_append.1 hq with hq | hq
      · exact hmax q (by simp [tidy_mem hq]) hk
      · exact hmax q (by simp [tidy_mem hq]) hk
  · rintro ⟨hp, hmax⟩
    refine ⟨?_, fun q hq hk => ?_⟩
    · rcases List.mem_append.1 hp with hp | hp
      · exact List.mem_append.2 (.inl (tidy_mem hp))
      · exact List.mem_append.2 (.inr (tidy_mem hp))
    · rcases List.mem_append.1 hq with hq | hq
      · obtain ⟨r, hr, h1, h2⟩ := ex_max hq
        have := hmax r (by simp [hr]) (by omega); omega
      · obtain ⟨r, hr, h1, h2⟩ := ex_max hq
        have := hmax r (by simp [hr]) (by omega); omega

theorem nOf_self (n : Int) (ys : List (Int × Int)) : nOf (nOf n ys) ys = nOf n ys := by
  unfold nOf
  by_cases h : ys.any (fun p => decide (n ≤ p.2)) = true
  · rw [if_pos h]
    split <;> rfl
  · rw [if_neg h, if_neg h]
end Go.Proofs.Ytbgkeomlfdmkeaa

/- Plain facts: what the reference's Suc and Max answer is what the code's answer. -/
namespace Go.Proofs.Ytbgkeomlfdmkeaa

/-- what the reference's fits answers -/
def fitsR (n : Int) (xs : List (Int × Int)) : Int × List (Int × Int) × Int := normR (nOf n (tidyL xs)) (tidyL xs)

theorem fitsR_eq (n : Int) (xs : List (Int × Int)) : fitsR n xs = canonR n xs := by
  unfold fitsR normR
  by_cases h : rightB (nOf n (tidyL xs)) (tidyL xs) = true
  · rw [if_pos h, canonR_right h, tidyL_tidyL, nOf_self]; unfold canonR; rw [if_pos h]
  · rw [if_neg h]; unfold canonR; rw [if_neg h]

theorem nOf_yes {n : Int} {ys : List (Int × Int)} (h : ∃ p ∈ ys, n ≤ p.2) : nOf n ys = 0 := by
  unfold nOf; rw [if_pos]; rw [List.any_eq_true]; obtain ⟨p, hp, hl⟩ := h; exact ⟨p, hp, by simpa using hl⟩

theorem nOf_no {n : Int} {ys : List (Int × Int)} (h : ∀ p ∈ ys, p.2 < n) : nOf n ys = n := by
  unfold nOf; rw [if_neg]; rw [List.any_eq_true]; rintro ⟨p, hp, hl⟩; have := h p hp; simp at hl; omega

theorem nOf_cases (n : Int) (ys : List (Int × Int)) : (∃ p ∈ ys, n ≤ p.2) ∨ (∀ p ∈ ys, p.2 < n) := by
  by_cases h : ∃ p ∈ ys, n ≤ p.2
  · exact .inl h
  · right; intro p hp; by_cases h' : p.2 < n
    · exact h'
    · exact absurd ⟨p, hp, by omega⟩ h

theorem nOf_le {n : Int} (hn : 0 ≤ n) (ys : List (Int × Int)) : nOf n ys ≤ n := by unfold nOf; split <;> omega

theorem right_posT {n : Int} {xs : List (Int × Int)} (h : rightB n xs = true) : ∀ p ∈ tidyL xs, 0 ≤ p.2 := fun p hp => (right_pos h).2 p (tidy_mem hp)

/-- the number from which the reference's Suc goes on -/
def sucN (m : Int) (T : List (Int × Int)) (k : Int) : Int := if m = 0 ∧ 0 < T.length then 0 else m + k

theorem rsuc_eq {n k : Int} {xs : List (Int × Int)} (h : rightB n xs = true) (h0 : 0 ≤ k) (h1 : k ≤ 1000) : canonR (sucN (nOf n (tidyL xs)) (tidyL xs) k) (rmap k (tidyL xs)) = sucR n xs k := by
  unfold sucR
  rw [if_pos h, if_neg (by omega), show min k 1001 = k by omega]
  have hN : nOf (sucN (nOf n (tidyL xs)) (tidyL xs) k) (rmap k (tidyL xs)) = nOf (n + k) (rmap k (tidyL xs)) := by
    rcases nOf_cases n (tidyL xs) with ⟨p, hp, hl⟩ | hno
    · rw [nOf_yes ⟨p, hp, hl⟩]
      rw [nOf_yes (n := n + k) ⟨(p.1, p.2 + k), rmap_mem.2 ⟨p, hp, rfl⟩, by simp; omega⟩]
      have hlen : 0 < (tidyL xs).length := List.length_pos_of_mem hp
      unfold sucN
      rw [if_pos ⟨rfl, hlen⟩]
      unfold nOf; split <;> rfl
    · rw [nOf_no hno]
      unfold sucN
      split
      · rename_i hz
        obtain ⟨p, hp⟩ := List.exists_mem_of_length_pos hz.2
        have := hno p hp
        have := right_posT h p hp
        omega
      · rfl
  unfold canonR
  rw [tidy_rmap, tidyL_tidyL, tidy_rmap, hN]

theorem rsuc_big {n k : Int} {xs : List (Int × Int)} (h : rightB n xs = true) (h1 : 1000 < k) : sucR n xs k = (0, [], 13) := by
  unfold sucR
  rw [if_pos h, if_neg (by omega), show min k 1001 = 1001 by omega]
  unfold canonR
  rw [if_neg]
  rw [tidy_rmap]
  intro hr
  rcases List.eq_nil_or_concat (tidyL xs) with hn | ⟨l, p, hp⟩
  · rw [hn] at hr
    have := (right_n hr).2.1
    simp [rmap, nOf] at this
    have := (right_n h).1
    omega
  · have hm : (p.1, p.2 + 1001) ∈ rmap 1001 (tidyL xs) := rmap_mem.2 ⟨p, by rw [hp]; simp, rfl⟩
    have h0 := right_posT h p (by rw [hp]; simp)
    simp only [rightB, Bool.and_eq_true, List.all_eq_true, inR, decide_eq_true_eq] at hr
    have := (hr.2 _ hm).2.2
    simp at this
    omega

theorem rmax_eq {na nb : Int} {xs ys : List (Int × Int)} (ha : rightB na xs = true) (hb : rightB nb ys = true) : canonR (max (nOf na (tidyL xs)) (nOf nb (tidyL ys))) (tidyL xs ++ tidyL ys) = maxR na xs nb ys := by
  rw [maxR_eq ha hb]
  have hpa := (right_n ha).1
  have hpb := (right_n hb).1
  have hN : nOf (max (nOf na (tidyL xs)) (nOf nb (tidyL ys))) (tidyL (xs ++ ys)) = nOf (max na nb) (tidyL (xs ++ ys)) := by
    have l1 := nOf_le hpa (tidyL xs)
    have l2 := nOf_le hpb (tidyL ys)
    rcases nOf_cases (max na nb) (tidyL (xs ++ ys)) with ⟨p, hp, hl⟩ | hno
    · rw [nOf_yes ⟨p, hp, hl⟩, nOf_yes ⟨p, hp, by omega⟩]
    · have hx : ∀ p ∈ tidyL xs, p.2 < max na nb := fun p hp => by
        obtain ⟨q, hq, _, h2⟩ := ex_max (xs := xs ++ ys) (q := p) (by simp [tidy_mem hp])
        have := hno q hq; omega
      have hy : ∀ p ∈ tidyL ys, p.2 < max na nb := fun p hp => by
        obtain ⟨q, hq, _, h2⟩ := ex_max (xs := xs ++ ys) (q := p) (by simp [tidy_mem hp])
        have := hno q hq; omega
      have : max (nOf na (tidyL xs)) (nOf nb (tidyL ys)) = max na nb := by
        rcases Int.le_total na nb with hab | hab
        · have hm : max na nb = nb := by omega
          rw [hm] at hy ⊢
          rw [nOf_no hy]; omega
        · have hm : max na nb = na := by omega
          rw [hm] at hx ⊢
          rw [nOf_no hx]; omega
      rw [this]
  unfold canonR
  rw [tidy_parts, hN]
end Go.Proofs.Ytbgkeomlfdmkeaa

/- Plain facts: levels and the numbers that they have. -/
namespace Go.Proofs.Ytbgkeomlfdmkeaa

/-- the number of a level by vs; 0, if it is not right -/
def evR (vs : List Int) (n : Int) (xs : List (Int × Int)) : Int := if rightB n xs then evalL vs n xs else 0

theorem evalL_le {vs : List Int} {n : Int} {xs : List (Int × Int)} {m : Int} : evalL vs n xs ≤ m ↔ n ≤ m ∧ ∀ p ∈ xs, valOf vs p.1.toNat + p.2 ≤ m := by
  obtain ⟨h1, h2, h3⟩ := fold_max_ge (fun p => valOf vs p.1.toNat + p.2) xs n
  unfold evalL
  constructor
  · intro h
    exact ⟨by omega, fun p hp => by have := h2 p hp; omega⟩
  · rintro ⟨h, h'⟩
    rcases h3 with h3 | ⟨p, hp, h3⟩
    · omega
    · have := h' p hp; omega

theorem eq_of_bounds {a b : Int} (h : ∀ m, a ≤ m ↔ b ≤ m) : a = b := by
  have h1 := (h b).2 (Int.le_refl _)
  have h2 := (h a).1 (Int.le_refl _)
  omega

theorem val_pos (vs : List Int) (p : Int × Int) : 0 ≤ valOf vs p.1.toNat := (valOf_bd vs _).1

theorem eval_canon (vs : List Int) {n : Int} (hn : 0 ≤ n) (xs : List (Int × Int)) : evalL vs (nOf n (tidyL xs)) (tidyL xs) = evalL vs n xs := by
  refine eq_of_bounds fun m => ?_
  rw [evalL_le, evalL_le]
  constructor
  · rintro ⟨h1, h2⟩
    refine ⟨?_, fun p hp => ?_⟩
    · rcases nOf_cases n (tidyL xs) with ⟨q, hq, hl⟩ | hno
      · have := h2 q hq; have := val_pos vs q; omega
      · rw [nOf_no hno] at h1; exact h1
    · obtain ⟨q, hq, e, hl⟩ := ex_max hp
      have := h2 q hq
      rw [e] at this; omega
  · rintro ⟨h1, h2⟩
    exact ⟨Int.le_trans (nOf_le hn _) h1, fun p hp => h2 p (tidy_mem hp)⟩

theorem eval_max (vs : List Int) (na nb : Int) (xs ys : List (Int × Int)) : evalL vs (max na nb) (xs ++ ys) = max (evalL vs na xs) (evalL vs nb ys) := by
  refine eq_of_bounds fun m => ?_
  rw [Int.max_le, evalL_le, evalL_le, evalL_le]
  constructor
  · rintro ⟨h1, h2⟩
    exact ⟨⟨by omega, fun p hp => h2 p (by simp [hp])⟩, ⟨by omega, fun p hp => h2 p (by simp [hp])⟩⟩
  · rintro ⟨⟨h1, h2⟩, ⟨h3, h4⟩⟩
    exact ⟨by omega, fun p hp => by rcases List.mem_append.1 hp with h | h; exact h2 p h; exact h4 p h⟩

theorem eval_suc (vs : List Int) (n k : Int) (xs : List (Int × Int)) : evalL vs (n + k) (rmap k xs) = evalL vs n xs + k := by
  refine eq_of_bounds fun m => ?_
  rw [show evalL vs n xs + k ≤ m ↔ evalL vs n xs ≤ m - k by omega, evalL_le, evalL_le]
  constructor
  · rintro ⟨h1, h2⟩
    refine ⟨by omega, fun p hp => ?_⟩
    have := h2 (p.1, p.2 + k) (rmap_mem.2 ⟨p, hp, rfl⟩)
    simp only at this; omega
  · rintro ⟨h1, h2⟩
    refine ⟨by omega, fun p hp => ?_⟩
    obtain ⟨q, hq, rfl⟩ := rmap_mem.1 hp
    have := h2 q hq
    simp only; omega

theorem ev_canon {vs : List Int} {n : Int} {xs : List (Int × Int)} (hn : 0 ≤ n) (h : (canonR n xs).2.2 = 0) : evR vs (canonR n xs).1 (canonR n xs).2.1 = evalL vs n xs := by
  obtain ⟨h1, h2, h3⟩ := canonR_ok h
  unfold evR
  rw [if_pos h1, h2, h3, eval_canon vs hn]

theorem ev_leq {vs : List Int} {na nb : Int} {xs ys : List (Int × Int)} (h : leqB na xs nb ys = true) : evR vs na xs ≤ evR vs nb ys := by
  have hh := h
  rw [leqB_eq] at hh
  simp only [Bool.and_eq_true] at hh
  obtain ⟨⟨ha, hb⟩, -⟩ := hh
  have hl := (leq_iff ha hb).1 h
  unfold evR
  rw [if_pos ha, if_pos hb]
  obtain ⟨e1, e2⟩ := evalL_le.1 (Int.le_refl (evalL vs nb ys))
  refine evalL_le.2 ⟨?_, fun p hp => ?_⟩
  · rcases hl.1 with h1 | ⟨q, hq, h1⟩
    · omega
    · have := e2 q hq; have := val_pos vs q; omega
  · obtain ⟨q, hq, h1, h2⟩ := hl.2 p hp
    have := e2 q hq
    rw [h1] at this; omega

theorem ev_max {vs : List Int} {na nb : Int} {xs ys : List (Int × Int)} (h : (maxR na xs nb ys).2.2 = 0) : evR vs (maxR na xs nb ys).1 (maxR na xs nb ys).2.1 = max (evR vs na xs) (evR vs nb ys) := by
  by_cases hr : rightB na xs = true ∧ rightB nb ys = true
  · rw [maxR_eq hr.1 hr.2] at *
    have h1 := (right_n hr.1).1
    rw [ev_canon (by omega) h, eval_max]
    unfold evR
    rw [if_pos hr.1, if_pos hr.2]
  · unfold maxR at h
    rw [if_neg (by simpa using hr)] at h
    simp at h

theorem ev_suc {vs : List Int} {n k : Int} {xs : List (Int × Int)} (hk : 0 ≤ k) (hk1 : k ≤ 1000) (h : (sucR n xs k).2.2 = 0) : evR vs (sucR n xs k).1 (sucR n xs k).2.1 = evR vs n xs + k := by
  by_cases hr : rightB n xs = true
  · have e : sucR n xs k = canonR (n + k) (rmap k xs) := by unfold sucR; rw [if_pos hr, if_neg (by omega), show min k 1001 = k by omega]
    rw [e] at h ⊢
    have h1 := (right_n hr).1
    rw [ev_canon (by omega) h, eval_suc]
    unfold evR
    rw [if_pos hr]
  · unfold sucR at h
    rw [if_neg hr] at h
    simp at h

theorem ev_bd {vs : List Int} (hv : ∀ x ∈ vs, x ≤ 1000000) (n : Int) (xs : List (Int × Int)) : 0 ≤ evR vs n xs ∧ evR vs n xs ≤ 1001000 := by
  unfold evR
  split
  · rename_i hr
    have h1 := right_n hr
    obtain ⟨e1, e2⟩ := evalL_le.1 (Int.le_refl (evalL vs n xs))
    refine ⟨by omega, evalL_le.2 ⟨by omega, fun p hp => ?_⟩⟩
    have hp2 : p.2 ≤ 1000 := by
      simp only [rightB, Bool.and_eq_true, List.all_eq_true, decide_eq_true_eq, inR] at hr
      exact ((hr.2 p hp).2).2
    have : valOf vs p.1.toNat ≤ 1000000 := by
      unfold valOf
      rcases Nat.lt_or_ge p.1.toNat vs.length with hl | hl
      · have hm := hv _ (List.getElem_mem hl)
        rw [List.getElem?_eq_getElem hl]; simp only [Option.getD_some]; omega
      · rw [List.getElem?_eq_none hl]; simp only [Option.getD_none]; omega
    omega
  · exact ⟨by omega, by omega⟩
end Go.Proofs.Ytbgkeomlfdmkeaa

/- The contracts of telamonref1.fits, Suc and Max. -/
namespace Go.Proofs.Ytbgkeomlfdmkeaa
open Go.RowKit Go.Sort Go.Shelf Go.Lib

theorem fitsR_def (n : Int) (xs : List (Int × Int)) : normR (nOf n (tidyL xs)) (tidyL xs) = canonR n xs := fitsR_eq n xs

set_option maxHeartbeats 1000000 in
theorem fits_any (n : Int) (xs : List (Int × Int)) (a : Option Addr) (cap : Nat) (w : World) (hS : SL w a xs) (hn : xs.length ≤ 4398046511104) (h0 : ∀ p ∈ xs, 0 ≤ p.1) :
    Calls Try.prog 84 #[.agg #[.int .i64 n, .slice a xs.length cap]] w fun e w' => Res w w' e (canonR n xs) := by
  have HT := fun (W : World) (h : SL W a xs) => tidy_any n xs a cap W h hn h0
  have HN := fun (a' : Option Addr) (cap' : Nat) (W : World) (h : SL W a' (tidyL xs)) => rNorm_any (nOf n (tidyL xs)) (tidyL xs) a' cap' W h (Nat.le_trans (tidyL_le xs) hn)
  simp only [fitsR_def] at HN
  obtain ⟨W0, hW0⟩ : ∃ W0, (w.alloc (.cells #[.int .i64 n, .slice a xs.length cap] 43)).alloc (.cells #[.int .i64 0, .slice none 0 0] 43) = W0 := ⟨_, rfl⟩
  have hA : Grew w W0 := by rw [← hW0]; exact ((Grew.refl w).alloc _).alloc _
  have HT := HT W0 (hS.below hA.below)
  have H0 : Hid (W0.heap[w.heap.size]? = some (.cells #[.int .i64 n, .slice a xs.length cap] 43 (0, 0))) := by rw [← hW0]; exact box_at
  have H1 : Hid (W0.heap[w.heap.size + 1]? = some (.cells #[.int .i64 0, .slice none 0 0] 43 (0, 0))) := by rw [← hW0]; exact box_at1
  have HSZ : Hid (W0.heap.size = w.heap.size + 2) := by unfold Hid; rw [← hW0]; simp
  have HW0 := Hid.mk hW0
  have HA := Hid.mk hA
  clear hS h0 hW0 hA
  generalize canonR n xs = D at *
  generalize nOf n (tidyL xs) = m at *
  generalize tidyL xs = T at *
  go_enter Try.func84, Try.ntmps84
  go_wp2_with fail
  rw [HW0.out]
  refine HT.mono ?_
  rintro e w1 ⟨v1, rfl, hO1, hb1⟩
  obtain ⟨a1, c1, rfl, -, -⟩ := hO1.shape
  have hz1 := hb1.size
  have hzz := HSZ.out
  have hL1 := (hb1.block w.heap.size (by omega)).trans H0.out
  have hM1 := (hb1.block (w.heap.size + 1) (by omega)).trans H1.out
  obtain ⟨p0, p1, p2, p3, p4⟩ := cells2 hL1
  have HL1 := Hid.mk hL1
  have HM1 := Hid.mk hM1
  have HO1 := Hid.mk hO1
  have HB1 : Hid (RowKit.Below w.heap.size w w1) := HA.out.below.trans (hb1.mono HA.out.below.size)
  clear hL1 hM1 hO1 hb1 HT
  go_wp2_with fail
  obtain ⟨W2, hW2⟩ : ∃ W2, (w1.setCell ⟨w.heap.size, 0, none⟩ (.int .i64 m)).setCell ⟨w.heap.size, 1, none⟩ (.slice a1 T.length c1) = W2 := ⟨_, rfl⟩
  have hO2 : OR W0.heap.size W2 (.slice a1 T.length c1) T := by rw [← hW2]; exact (HO1.out.setBelow (a := ⟨w.heap.size, 0, none⟩) (by simp only; omega) _).setBelow (a := ⟨w.heap.size, 1, none⟩) (by simp only; omega) _
  have hS2 : SL W2 a1 T := by obtain ⟨p, q, hv, hs, -⟩ := hO2.shape; simp at hv; rw [hv.1]; exact hs
  have HB2 : Hid (RowKit.Below w.heap.size w W2) := by unfold Hid; rw [← hW2]; exact (HB1.out.setCell (p := ⟨w.heap.size, 0, none⟩) (Nat.le_refl _) _).setCell (p := ⟨w.heap.size, 1, none⟩) (Nat.le_refl _) _
  have HM2 : Hid (W2.heap[w.heap.size + 1]? = some (.cells #[.int .i64 0, .slice none 0 0] 43 (0, 0))) := by unfold Hid; rw [← hW2]; exact (Below.heap_setCell _ _ _ _ (by simp)).trans ((Below.heap_setCell _ _ _ _ (by simp)).trans HM1.out)
  have hz2 : w.heap.size + 2 ≤ W2.heap.size := by rw [← hW2]; simp; omega
  rw [hW2]
  refine (HN a1 c1 W2 hS2).mono ?_
  rintro e w3 ⟨v3, rfl, hO3, hb3⟩
  obtain ⟨a3, c3, rfl, -, -⟩ := hO3.shape
  have hz3 := hb3.size
  have hR3 := (hb3.block (w.heap.size + 1) (by omega)).trans HM2.out
  obtain ⟨r0, r1, r2, r3, r4⟩ := cells2 hR3
  clear hR3 p0 p1 p2 p3 p4 hW2
  go_wp2
  refine bodyPost_ret (v := .tuple #[.agg #[.int .i64 D.1, .slice a3 D.2.1.length c3], .int .i64 D.2.2]) (by simp [results, Try.results84, go_sem, r0, r1]) rfl ⟨_, rfl, ?_, ?_⟩
  · exact OR.mono ((hO3.setBelow (a := ⟨w.heap.size + 1, 0, none⟩) (by simp only; omega) _).setBelow (a := ⟨w.heap.size + 1, 1, none⟩) (by simp only; omega) _) (by omega)
  · exact ((HB2.out.trans (hb3.mono (by omega))).setCell (p := ⟨w.heap.size + 1, 0, none⟩) (Nat.le_succ _) _).setCell (p := ⟨w.heap.size + 1, 1, none⟩) (Nat.le_succ _) _

theorem app_step {wr w3 : World} {b2 : Nat} {zs : List (Int × Int)} {p1 p2 : Int} {v v' m : Value} (hO : OR (b2 + 1) wr v zs) (hH : wr.heap[b2]? = some (.cells #[m, v] 43 (0, 0))) (hz : b2 + 1 ≤ wr.heap.size)
    (hown : w3.ownsRow (b2 + 1) 89 2 v' (zs.length + 1) (flat zs ++ [.int .i64 p1, .int .i64 p2])) (hg : (wr.alloc (.cells #[.int .i64 p1, .int .i64 p2] 89)).grownBy w3 v.ownBlock) :
    OR (b2 + 1) w3 v' (zs ++ [(p1, p2)]) ∧ RowKit.Below b2 wr w3 ∧ w3.heap[b2]? = some (.cells #[m, v] 43 (0, 0)) := by
  have hne : ∀ b, b < b2 + 1 → some b ≠ v.ownBlock := fun b hb e => hO.ne hb e.symm
  refine ⟨?_, ((Below.refl _ wr).alloc (by omega) _).grown hg (by simp; omega) (fun k e => by have := (World.ownsRow.lt hO k e).1; omega), ?_⟩
  · unfold OR; rw [flat_append]; simpa [flat] using hown
  · rw [hg.block b2 (by simp; omega) (hne _ (by omega))]; exact alloc_old hH _

end Go.Proofs.Ytbgkeomlfdmkeaa

/- The contract of telamonref1.Max. -/
namespace Go.Proofs.Ytbgkeomlfdmkeaa
open Go.RowKit Go.Sort Go.Shelf Go.Lib

theorem OR.nil_cap {B : Nat} {w : World} {a : Option Addr} {n c : Nat} {xs : List (Int × Int)} (h : OR B w (.slice a n c) xs) : a = none → c = 0 := by
  intro ha
  subst ha
  rcases h.2 with ⟨hv, _⟩ | ⟨g, cap', cur, hv, _⟩
  · simp at hv; exact hv.2
  · simp at hv

theorem OR.setNe {B : Nat} {w : World} {v : Value} {xs : List (Int × Int)} (h : OR B w v xs) {a : Addr} (ha : v.ownBlock ≠ some a.block) (u : Value) : OR B (w.setCell a u) v xs := by
  obtain ⟨h1, h2⟩ := h
  refine ⟨h1, ?_⟩
  rcases h2 with h2 | ⟨g, cap, cur, hv, hg, hh, r⟩
  · exact Or.inl h2
  · refine Or.inr ⟨g, cap, cur, hv, hg, (Below.heap_setCell _ _ _ _ ?_).trans hh, r⟩
    rintro rfl
    exact ha (by rw [hv]; rfl)

theorem OR.box {B b : Nat} {w : World} {v : Value} {xs : List (Int × Int)} {cs : Array Value} {fr : Nat × Nat} (h : OR B w v xs) (hb : w.heap[b]? = some (.cells cs 43 fr)) : v.ownBlock ≠ some b := by
  rcases h.2 with ⟨hv, _⟩ | ⟨g, cap, cur, hv, hg, hh, r⟩
  · rw [hv]; simp [Value.ownBlock]
  · rw [hv]
    intro e
    simp [Value.ownBlock] at e
    subst e
    rw [hb] at hh
    simp at hh

/-- append(v, x...) at a step of a region that draws its order -/
theorem step_app {w : World} {ops : Array Oper} {o : Oper} {a : Act} {K : Act → World → Prop} {Q : Exit → Act → World → Prop} {E : Prop} (hgd : o.guard = none) (s x : Operand) (ho : o.op = .call { callee := .builtin .append, args := #[s, x], argTypes := #[41, 41] })
    (B : Nat) (v : Value) (zs xs : List (Int × Int)) (a1 : Option Addr) (c1 : Nat) (hs : a.eval s = v) (hx : a.eval x = .slice a1 xs.length c1) (hO : OR B w v zs) (hS : SL w a1 xs) (hn : a1 = none → c1 = 0) (hl : zs.length + xs.length ≤ 4398046511104) (hB : B ≤ w.heap.size)
    (h : ∀ v' w', OR B w' v' (zs ++ xs) → w.grownBy w' v.ownBlock → K (a.put o.dst v') w') : if Region.wanted o (yielded ops a.tmps) = true then Oper.wp Try.prog o a w K Q else E := by
  have hw : Region.wanted o (yielded ops a.tmps) = true := by simp [Region.wanted, hgd]
  rw [if_pos hw]
  obtain ⟨i0, hi, hz0, hz1, hz2⟩ := info_parts infoLVar
  cases a1 with
  | none =>
    have hxe : xs = [] := by
      rcases hS with h | ⟨b, off, ha, _⟩
      · exact h
      · cases ha
    subst hxe
    rw [hn rfl] at hx
    have hrun := run_append_owned_none (P := Try.prog) (w := w) B 41 o.type 89 i0 2 Try.underlying41 hi v zs.length (flat zs) hO
    unfold Oper.wp
    simp [execOp, ho, resolve, invoke, builtin, hs, hx, hrun, Result.andThen]
    exact h v w (by simpa using hO) (grownBy_refl w _)
  | some ad =>
    have hnews : ∀ j u, (flat xs)[j]? = some u → w.cell? (ad.add j) = some u := by
      rcases hS with h | ⟨b, off, ha, hr⟩
      · subst h; intro j u hu; simp [flat] at hu
      · have ha' : ad = ⟨b, off, none⟩ := by simpa using ha
        subst ha'
        exact SL.flat (Or.inr ⟨b, off, rfl, hr⟩)
    refine wp_append_own _ s x 41 ho B 89 i0 _ 2 16 Try.underlying41 hi hz0 hz1 hz2 rfl (by decide) v zs.length (flat zs) hs hO ad xs.length c1 (flat xs) hx (flat_length xs) hnews (flat_one xs) (by simp [maxLen]; omega) (by omega) hB ?_
    intro v' w' hown hgr _
    exact h v' w' (by unfold OR; rw [flat_append, List.length_append]; exact hown) hgr

theorem norm_len (n : Int) (xs : List (Int × Int)) : (normR n xs).2.1.length ≤ 64 := by
  rcases Bool.eq_false_or_eq_true (rightB n xs) with h | h
  · rw [normR_right h]; exact Nat.le_trans (tidyL_le xs) (right_n h).2.2
  · simp [normR, h]

theorem norm_nonneg (n : Int) (xs : List (Int × Int)) : ∀ p ∈ (normR n xs).2.1, 0 ≤ p.1 := by
  rcases Bool.eq_false_or_eq_true (rightB n xs) with h | h
  · rw [normR_right h]; exact fun p hp => right_nonneg h p (tidy_mem hp)
  · simp [normR, h]

theorem rmaxR (na nb : Int) (xs ys : List (Int × Int)) : maxR na xs nb ys = if (normR na xs).2.2 = 0 ∧ (normR nb ys).2.2 = 0 then canonR (max (normR na xs).1 (normR nb ys).1) ((normR na xs).2.1 ++ (normR nb ys).2.1) else (0, [], 13) := by
  by_cases h1 : rightB na xs = true
  · by_cases h2 : rightB nb ys = true
    · rw [if_pos ⟨(norm_err na xs).2 h1, (norm_err nb ys).2 h2⟩, normR_right h1, normR_right h2, rmax_eq h1 h2]
    · rw [if_neg (fun h => h2 ((norm_err nb ys).1 h.2))]; unfold maxR; simp [h2]
  · rw [if_neg (fun h => h1 ((norm_err na xs).1 h.1))]; unfold maxR; simp [h1]

end Go.Proofs.Ytbgkeomlfdmkeaa
