/- The contract of telamonref1.Norm. -/
import Derived.Test.YtndjdeiccmhelaaGreatRB
import Derived.Test.YtndjdeiccmhelaaGreatRA
import Derived.Test.YtndjdeiccmhelaaGreatWD
import Derived.Test.YtndjdeiccmhelaaGreatOC
namespace Go.Proofs.YtndjdeiccmhelaaGreat
open Go.RowKit Go.Sort Go.Shelf Go.Lib

theorem right_tidy {n : Int} {xs : List (Int × Int)} (h : rightB n xs = true) : rightB (nOf n (tidyL xs)) (tidyL xs) = true := by
  have hm : ∀ p ∈ tidyL xs, p ∈ xs := fun p hp => (((tidyL_is xs).2 p).1 hp).1
  have hl := tidyL_le xs
  have hN := right_n h
  simp only [rightB, Bool.and_eq_true, List.all_eq_true, decide_eq_true_eq, inR] at h ⊢
  refine ⟨⟨by omega, ?_⟩, fun p hp => h.2 p (hm p hp)⟩
  unfold nOf; split <;> omega

theorem canonR_right {n : Int} {xs : List (Int × Int)} (h : rightB n xs = true) : canonR n xs = (nOf n (tidyL xs), tidyL xs, 0) := by
  unfold canonR; rw [if_pos (right_tidy h)]

theorem normR_right {n : Int} {xs : List (Int × Int)} (h : rightB n xs = true) : normR n xs = (nOf n (tidyL xs), tidyL xs, 0) := by
  unfold normR; rw [if_pos h, canonR_right h]

theorem right_nonneg {n : Int} {xs : List (Int × Int)} (h : rightB n xs = true) : ∀ p ∈ xs, 0 ≤ p.1 := fun p hp => by
  simp only [rightB, Bool.and_eq_true, List.all_eq_true, decide_eq_true_eq, inR] at h
  exact ((h.2 p hp).1).1

set_option maxHeartbeats 1000000 in
theorem rNorm_any (n : Int) (xs : List (Int × Int)) (a : Option Addr) (cap : Nat) (w : World) (hS : SL w a xs) (hn : xs.length ≤ 4398046511104) :
    Calls Tryz.prog 133 #[.agg #[.int .i64 n, .slice a xs.length cap]] w fun e w' => Res w w' e (normR n xs) := by
  have HR := rright_any n xs a cap ((w.alloc (.cells #[.int .i64 n, .slice a xs.length cap] 105)).alloc (.cells #[.int .i64 0, .slice none 0 0] 105)) (hS.below (((Grew.refl w).alloc _).alloc _).below) (by omega)
  have HS := Hid.mk hS
  clear hS
  have hA : Grew w ((w.alloc (.cells #[.int .i64 n, .slice a xs.length cap] 105)).alloc (.cells #[.int .i64 0, .slice none 0 0] 105)) := ((Grew.refl w).alloc _).alloc _
  have HA := Hid.mk hA
  clear hA
  cases hr : rightB n xs
  · have HC : Hid (normR n xs = (0, [], 13)) := by unfold Hid normR; rw [hr]; rfl
    rw [hr] at HR
    generalize normR n xs = D at HC ⊢
    go_enter Tryz.func133, Tryz.ntmps133
    go_wp2_with (go_at_call 140; refine HR.mono ?_; rintro e w1 ⟨rfl, hg⟩; obtain ⟨p0, p1, p2, p3, p4⟩ := cells2 ((hg.below.block (w.heap.size + 1) (by simp)).trans box_at1))
    have hCe := HC.out
    subst hCe
    refine bodyPost_ret (v := .tuple #[.agg #[.int .i64 0, .slice none 0 0], .int .i64 13]) (by simp [results, Tryz.results133, go_sem, p0, p1]) rfl ⟨_, rfl, OR.nil _ _, ?_⟩
    exact ((HA.out.trans hg).below.setCell (p := ⟨w.heap.size + 1, 0, none⟩) (Nat.le_succ _) _).setCell (p := ⟨w.heap.size + 1, 1, none⟩) (Nat.le_succ _) _
  · have HC : Hid (normR n xs = (nOf n (tidyL xs), tidyL xs, 0)) := normR_right hr
    rw [hr] at HR
    have HCa := fun (W : World) (h : SL W a xs) => tidy_any n xs a cap W h hn (right_nonneg hr)
    generalize nOf n (tidyL xs) = m at HC HCa
    generalize tidyL xs = T at HC HCa
    generalize normR n xs = D at HC ⊢
    go_enter Tryz.func133, Tryz.ntmps133
    go_wp2_with (first | (go_at_call 140; refine HR.mono ?_; rintro e w1 ⟨rfl, hg⟩; obtain ⟨r0, r1, r2, r3, r4⟩ := cells2 ((hg.below.block w.heap.size (by simp; omega)).trans box_at); have hR1 := (hg.below.block (w.heap.size + 1) (by simp)).trans box_at1; have hlt1 : w.heap.size + 1 < w1.heap.size := (Array.getElem?_eq_some_iff.1 hR1).1) | (go_at_call 141; refine (HCa _ (by exact HS.out.below (HA.out.trans hg).below)).mono ?_; rintro e w2 ⟨v, rfl, hO, hb2⟩; obtain ⟨a', cap', rfl, -⟩ := hO.shape; obtain ⟨p0, p1, p2, p3, p4⟩ := cells2 ((hb2.block (w.heap.size + 1) hlt1).trans hR1)))
    have hCe := HC.out
    subst hCe
    refine bodyPost_ret (v := .tuple #[.agg #[.int .i64 m, .slice a' T.length cap'], .int .i64 0]) (by simp [results, Tryz.results133, go_sem, p0, p1]) rfl ⟨_, rfl, ?_, ?_⟩
    · exact OR.mono ((hO.setBelow (a := ⟨w.heap.size + 1, 0, none⟩) hlt1 _).setBelow (a := ⟨w.heap.size + 1, 1, none⟩) hlt1 _) (by omega)
    · exact (((HA.out.trans hg).below.trans (hb2.mono (by omega))).setCell (p := ⟨w.heap.size + 1, 0, none⟩) (Nat.le_succ _) _).setCell (p := ⟨w.heap.size + 1, 1, none⟩) (Nat.le_succ _) _
end Go.Proofs.YtndjdeiccmhelaaGreat

/- The contract of telamonref1.Leq. -/
namespace Go.Proofs.YtndjdeiccmhelaaGreat
open Go.RowKit Go.Sort Go.Shelf Go.Lib

/-- the greatest number that a level has by the valuation of noughts -/
def topL (nb : Int) (ys : List (Int × Int)) : Int := ys.foldl (fun m p => if m < p.2 then p.2 else m) nb

/-- is a variable of a covered by one of b? -/
def covered (x y : Int) (ys : List (Int × Int)) : Bool := ys.any fun q => decide (x = q.1) && decide (y ≤ q.2)

/-- what the reference's comparison tells of two canonical levels -/
def rleq (na : Int) (xs : List (Int × Int)) (nb : Int) (ys : List (Int × Int)) : Bool := decide (na ≤ topL nb ys) && xs.all fun p => covered p.1 p.2 ys

/-- what the reference's Leq answers -/
def rleqB (na : Int) (xs : List (Int × Int)) (nb : Int) (ys : List (Int × Int)) : Bool := rightB na xs && rightB nb ys && rleq (nOf na (tidyL xs)) (tidyL xs) (nOf nb (tidyL ys)) (tidyL ys)

theorem top_take {nb : Int} {ys : List (Int × Int)} {k : Nat} {x y : Int} (h : ys[k]? = some (x, y)) : topL nb (ys.take (k + 1)) = if topL nb (ys.take k) < y then y else topL nb (ys.take k) := by
  unfold topL; rw [take_fold h]

theorem cov_take {x y : Int} {ys : List (Int × Int)} {k : Nat} {q1 q2 : Int} (h : ys[k]? = some (q1, q2)) : covered x y (ys.take (k + 1)) = (covered x y (ys.take k) || (decide (x = q1) && decide (y ≤ q2))) := by
  unfold covered; rw [take_any h]

theorem norm_err (n : Int) (xs : List (Int × Int)) : (normR n xs).2.2 = 0 ↔ rightB n xs = true := by
  rcases Bool.eq_false_or_eq_true (rightB n xs) with h | h
  · rw [normR_right h]; simp [h]
  · simp [normR, h]

end Go.Proofs.YtndjdeiccmhelaaGreat

/- The contract of telamonref1.SameLevel; canonical levels are one where each is at most the other one. -/
namespace Go.Proofs.YtndjdeiccmhelaaGreat
open Go.RowKit Go.Sort Go.Shelf Go.Lib

/-- a canonical level is right, tidy, and its number is above the sums or nought -/
theorem canon_is {l : LvT} (h : canonB l = true) : rightB l.1 l.2 = true ∧ tidyL l.2 = l.2 ∧ nOf l.1 l.2 = l.1 := by
  unfold canonB at h
  rw [Bool.and_eq_true, beq_iff_eq] at h
  have hr := (norm_err l.1 l.2).1 h.1
  have h2 := h.2
  rw [normR_right hr] at h2
  unfold exactB at h2
  simp only [Bool.and_eq_true, decide_eq_true_eq] at h2
  refine ⟨hr, h2.2, ?_⟩
  have := h2.1
  rwa [h2.2] at this

theorem topl_ge (ys : List (Int × Int)) : ∀ m : Int, m ≤ topL m ys ∧ (topL m ys = m ∨ ∃ p ∈ ys, topL m ys = p.2) := by
  induction ys with
  | nil => intro m; exact ⟨by simp [topL], Or.inl rfl⟩
  | cons a r ih =>
    intro m
    have e : topL m (a :: r) = topL (if m < a.2 then a.2 else m) r := rfl
    rw [e]
    by_cases hc : m < a.2
    · rw [if_pos hc]
      obtain ⟨h1, h2⟩ := ih a.2
      refine ⟨by omega, Or.inr ?_⟩
      rcases h2 with h2 | ⟨p, hp, h2⟩
      · exact ⟨a, by simp, h2⟩
      · exact ⟨p, by simp [hp], h2⟩
    · rw [if_neg hc]
      obtain ⟨h1, h2⟩ := ih m
      refine ⟨h1, ?_⟩
      rcases h2 with h2 | ⟨p, hp, h2⟩
      · exact Or.inl h2
      · exact Or.inr ⟨p, by simp [hp], h2⟩

theorem cov_is {x y : Int} {ys : List (Int × Int)} (h : covered x y ys = true) : ∃ q ∈ ys, q.1 = x ∧ y ≤ q.2 := by
  unfold covered at h
  rw [List.any_eq_true] at h
  obtain ⟨q, hq, h⟩ := h
  simp only [Bool.and_eq_true, decide_eq_true_eq] at h
  exact ⟨q, hq, h.1.symm, h.2⟩

theorem both_mem {xs ys : List (Int × Int)} (hx : xs.Pairwise (fun p q => p.1 < q.1)) (h1 : (xs.all fun p => covered p.1 p.2 ys) = true) (h2 : (ys.all fun p => covered p.1 p.2 xs) = true) : ∀ p ∈ xs, p ∈ ys := fun p hp => by
  obtain ⟨q, hq, e1, e2⟩ := cov_is (List.all_eq_true.1 h1 p hp)
  obtain ⟨r, hr, e3, e4⟩ := cov_is (List.all_eq_true.1 h2 q hq)
  have := eq_of_key hx hp hr (by omega)
  subst this
  have : q = p := Prod.ext e1 (by omega)
  rwa [← this]

theorem nOf_top {na nb : Int} {xs : List (Int × Int)} (hb : nOf nb xs = nb) (ha0 : 0 ≤ na) (h : nb ≤ topL na xs) : nb ≤ na := by
  rcases (topl_ge xs na).2 with e | ⟨p, hp, e⟩
  · omega
  · unfold nOf at hb
    by_cases hc : (xs.any fun p => decide (nb ≤ p.2)) = true
    · rw [if_pos hc] at hb; omega
    · exact absurd (List.any_eq_true.2 ⟨p, hp, by simpa using (by omega : nb ≤ p.2)⟩) hc

/-- canonical levels are one where each is at most the other one -/
theorem canon_same {l k : LvT} (hl : canonB l = true) (hk : canonB k = true) : (rleqB l.1 l.2 k.1 k.2 && rleqB k.1 k.2 l.1 l.2) = decide (l = k) := by
  obtain ⟨r1, t1, n1⟩ := canon_is hl
  obtain ⟨r2, t2, n2⟩ := canon_is hk
  have s1 : l.2.Pairwise (fun p q => p.1 < q.1) := by have := (tidyL_is l.2).1; rwa [t1] at this
  have s2 : k.2.Pairwise (fun p q => p.1 < q.1) := by have := (tidyL_is k.2).1; rwa [t2] at this
  unfold rleqB
  rw [r1, r2, t1, t2, n1, n2]
  simp only [Bool.true_and]
  unfold rleq
  have z1 : 0 ≤ l.1 := (right_n r1).1
  have z2 : 0 ≤ k.1 := (right_n r2).1
  rw [Bool.eq_iff_iff]
  simp only [Bool.and_eq_true, decide_eq_true_eq]
  constructor
  · rintro ⟨⟨a1, a2⟩, b1, b2⟩
    have hxy : l.2 = k.2 := sorted_ext s1 s2 (fun p => ⟨both_mem s1 a2 b2 p, both_mem s2 b2 a2 p⟩)
    refine Prod.ext ?_ hxy
    have c1 := nOf_top (na := l.1) (nb := k.1) (xs := l.2) (by rw [hxy]; exact n2) z1 b1
    have c2 := nOf_top (na := k.1) (nb := l.1) (xs := k.2) (by rw [← hxy]; exact n1) z2 a1
    omega
  · rintro rfl
    have hc : (l.2.all fun p => covered p.1 p.2 l.2) = true := by
      rw [List.all_eq_true]
      intro p hp
      unfold covered
      rw [List.any_eq_true]
      exact ⟨p, hp, by simp⟩
    exact ⟨⟨(topl_ge _ _).1, hc⟩, (topl_ge _ _).1, hc⟩
end Go.Proofs.YtndjdeiccmhelaaGreat

/- The contracts of the reference's Canonical, formed, Check, Size. -/
namespace Go.Proofs.YtndjdeiccmhelaaGreat
open Go.RowKit Go.Sort

set_option maxRecDepth 100000 in
set_option maxHeartbeats 2000000 in
theorem rCanonical_any (n : Int) (xs : List (Int × Int)) (a : Option Addr) (cap : Nat) (w : World) (hS : SL w a xs) (hn : xs.length ≤ 4398046511104) :
    Calls Tryz.prog 119 #[.agg #[.int .i64 n, .slice a xs.length cap]] w fun e w' => e = .returned (.bool (canonB (n, xs))) ∧ RowKit.Below w.heap.size w w' := by
  have HN := rNorm_any n xs a cap (w.alloc (.cells #[.int .i64 n, .slice a xs.length cap] 105)) (hS.below ((Grew.refl w).alloc _).below) hn
  have HL := normR_len n xs
  have HC : Hid (canonB (n, xs) = ((normR n xs).2.2 == 0 && exactB (normR n xs).1 (normR n xs).2.1 n xs)) := rfl
  generalize canonB (n, xs) = C at HC ⊢
  obtain ⟨m, ys, e, hD⟩ : ∃ m ys e, normR n xs = (m, ys, e) := ⟨_, _, _, rfl⟩
  rw [hD] at HN HC HL
  simp only [] at HC HL
  clear hD
  have HS := Hid.mk hS
  have mx := mixed
  clear hS
  have pre : ∀ w1, RowKit.Below (w.alloc (.cells #[.int .i64 n, .slice a xs.length cap] 105)).heap.size (w.alloc (.cells #[.int .i64 n, .slice a xs.length cap] 105)) w1 → w.heap.size < w1.heap.size ∧ Hid (RowKit.Below w.heap.size w w1) ∧ Hid (w1.heap[w.heap.size]? = some (.cells #[.int .i64 n, .slice a xs.length cap] 105 (0, 0))) := fun w1 hb1 => ⟨by have := hb1.size; simp at this; omega, ((Below.refl w.heap.size w).alloc (Nat.le_refl _) _).trans (hb1.mono (by simp)), (hb1.block w.heap.size (by simp)).trans (alloc_new _ _)⟩
  by_cases he : e = 0
  · subst he
    have HC : Hid (C = exactB m ys n xs) := by unfold Hid; rw [HC.out]; rfl
    by_cases hm : m = n
    · subst hm
      have hmb : (m != m) = false := by simp
      by_cases hl : ys.length = xs.length
      · have hlb : ((ys.length : Int) != (xs.length : Int)) = false := by simp [hl]
        have HLQ := Hid.mk hl
        clear hl
        go_enter Tryz.func119, Tryz.ntmps119
        go_wp2_with fail
        refine HN.mono ?_
        rintro e w1 ⟨v, rfl, hO, hb1⟩
        obtain ⟨a', cap', rfl, hS1, -⟩ := hO.shape
        obtain ⟨hz1, HB1, HX1⟩ := pre w1 hb1
        obtain ⟨x0, x1, -, -, -⟩ := cells2 HX1.out
        have HS1 := Hid.mk hS1
        clear hO hS1 hb1 pre
        go_wp2
        obtain ⟨W1, hW1⟩ : ∃ W, w1.alloc (.cells #[.int .i64 m, .slice a' ys.length cap'] 105) = W := ⟨_, rfl⟩
        have HG1 : Hid (Grew w1 W1) := by unfold Hid; rw [← hW1]; exact (Grew.refl w1).alloc _
        have HN1 : Hid (W1.heap[w1.heap.size]? = some (.cells #[.int .i64 m, .slice a' ys.length cap'] 105 (0, 0))) := by unfold Hid; rw [← hW1]; exact alloc_new _ _
        rw [hW1]
        clear hW1 x0 x1
        go_loopw [5] (fun i wr => ∃ k : Nat, k ≤ ys.length ∧ i = .int .i64 k ∧ Grew W1 wr ∧ ys.take k = xs.take k) (fun i _ => ys.length - (intOf i).toNat)
        case atStart => exact ⟨0, Nat.zero_le _, rfl, Grew.refl _, rfl⟩
        case round =>
          obtain ⟨k, hk, rfl, hb, htk⟩ := hrel
          have HT := Hid.mk htk
          clear htk
          have hg1 := HG1.out.trans hb
          have hzr := hg1.below.size
          obtain ⟨a0, a1, -, -, -⟩ := cells2 ((hb.below.block w1.heap.size (heap_lt HN1.out)).trans HN1.out)
          obtain ⟨b0, b1, -, -, -⟩ := cells2 ((hg1.below.block w.heap.size hz1).trans HX1.out)
          by_cases hlt : k < ys.length
          · obtain ⟨b, off, x, y, rfl, hbl, hc0, hc1, hxy⟩ := (HS1.out.below hg1.below).at hlt
            obtain ⟨b', off', x', y', rfl, hbl', hc0', hc1', hxy'⟩ := (HS.out.below (HB1.out.trans (hg1.below.mono HB1.out.size))).at (k := k) (by rw [← HLQ.out]; exact hlt)
            have z1 : (k : Int) < (ys.length : Int) := by omega
            have z2 : (k : Int) < (xs.length : Int) := by have := HLQ.out; omega
            have hq := fun W => run_neqLVar x y x' y' W
            have hgu := run_guardLVar
            by_cases he : x = x' ∧ y = y'
            · have hb1 : (x == x' && y == y') = true := by simp [he.1, he.2]
              simp only [hb1] at hq
              have HX : Hid (ys[k]? = some (x', y')) := by have := hxy.out; rwa [he.1, he.2] at this
              clear he hb1
              go_wp2_with fail
              go_quiet (fail)
              go_wp2
              refine ⟨⟨k + 1, hlt, by go_num, hb.drewN _, take_eq HX.out hxy'.out HT.out⟩, by simp [intOf]; omega⟩
            · have hb1 : (x == x' && y == y') = false := by rw [Bool.eq_false_iff]; simpa using he
              simp only [hb1] at hq
              have HE : Hid (exactB m ys m xs = false) := exact_at hxy.out hxy'.out (by simpa using he)
              clear he hb1
              go_wp2_with fail
              go_quiet (fail)
              go_wp2
              go_ret
              exact ⟨by rw [HC.out, HE.out]; rfl, HB1.out.trans ((hg1.drewN _).below.mono HB1.out.size)⟩
          · have HE : Hid (exactB m ys m xs = true) := by
              have h1 : ys.take k = ys := List.take_of_length_le (by omega)
              have h2 : xs.take k = xs := List.take_of_length_le (by have := HLQ.out; omega)
              have h3 := HT.out
              rw [h1, h2] at h3
              unfold Hid; simp [exactB, h3]
            go_wp2
            go_ret
            exact ⟨by rw [HC.out, HE.out]; rfl, HB1.out.trans (hg1.below.mono HB1.out.size)⟩
      · have hlb : ((ys.length : Int) != (xs.length : Int)) = true := by simp; omega
        have HE : Hid (exactB m ys m xs = false) := exact_len hl
        clear hl
        go_enter Tryz.func119, Tryz.ntmps119
        go_wp2_with fail
        refine HN.mono ?_
        rintro e w1 ⟨v, rfl, hO, hb1⟩
        obtain ⟨a', cap', rfl, -, -⟩ := hO.shape
        obtain ⟨hz1, HB1, HX1⟩ := pre w1 hb1
        obtain ⟨x0, x1, -, -, -⟩ := cells2 HX1.out
        clear hO hb1 pre
        go_wp2
        go_ret
        exact ⟨by rw [HC.out, HE.out]; rfl, HB1.out.alloc HB1.out.size _⟩
    · have hmb : (m != n) = true := by simpa using hm
      have HE : Hid (exactB m ys n xs = false) := by unfold Hid; simp [exactB, hm]
      clear hm
      go_enter Tryz.func119, Tryz.ntmps119
      go_wp2_with fail
      refine HN.mono ?_
      rintro e w1 ⟨v, rfl, hO, hb1⟩
      obtain ⟨a', cap', rfl, -, -⟩ := hO.shape
      obtain ⟨hz1, HB1, HX1⟩ := pre w1 hb1
      obtain ⟨x0, x1, -, -, -⟩ := cells2 HX1.out
      clear hO hb1 pre
      go_wp2
      go_ret
      exact ⟨by rw [HC.out, HE.out]; rfl, HB1.out.alloc HB1.out.size _⟩
  · have heb : (e != 0) = true := by simpa using he
    have HC : Hid (C = false) := by unfold Hid; rw [HC.out]; simp [he]
    clear he
    go_enter Tryz.func119, Tryz.ntmps119
    go_wp2_with fail
    refine HN.mono ?_
    rintro e w1 ⟨v, rfl, hO, hb1⟩
    obtain ⟨a', cap', rfl, -, -⟩ := hO.shape
    obtain ⟨hz1, HB1, HX1⟩ := pre w1 hb1
    clear hO hb1 pre
    go_wp2
    go_ret
    exact ⟨by rw [HC.out]; rfl, HB1.out.alloc HB1.out.size _⟩
end Go.Proofs.YtndjdeiccmhelaaGreat
