/- The contract of telamonref1.SameLevel; canonical levels are one where each is at most the other one. -/
import Derived.Test.YtbgkeomlfdmkeaaRD
import Derived.Test.YtbgkeomlfdmkeaaWD
namespace Go.Proofs.Ytbgkeomlfdmkeaa
open Go.RowKit Go.Sort Go.Shelf Go.Lib

set_option maxHeartbeats 1000000 in
theorem rSameB_any (na nb : Int) (xs ys : List (Int × Int)) (aa ab : Option Addr) (ca cb : Nat) (w : World) (hSa : SL w aa xs) (hSb : SL w ab ys) (hxn : xs.length ≤ 4398046511104) (hyn : ys.length ≤ 4398046511104) :
    Calls Try.prog 73 #[.agg #[.int .i64 na, .slice aa xs.length ca], .agg #[.int .i64 nb, .slice ab ys.length cb]] w fun e w' => e = .returned (.bool (rleqB na xs nb ys && rleqB nb ys na xs)) ∧ RowKit.Below w.heap.size w w' := by
  obtain ⟨W0, hW0⟩ : ∃ W0, (w.alloc (.cells #[.int .i64 na, .slice aa xs.length ca] 43)).alloc (.cells #[.int .i64 nb, .slice ab ys.length cb] 43) = W0 := ⟨_, rfl⟩
  have hA : Grew w W0 := by rw [← hW0]; exact ((Grew.refl w).alloc _).alloc _
  obtain ⟨hb0, hb1⟩ : W0.heap[w.heap.size]? = some (.cells #[.int .i64 na, .slice aa xs.length ca] 43 (0, 0)) ∧ W0.heap[w.heap.size + 1]? = some (.cells #[.int .i64 nb, .slice ab ys.length cb] 43 (0, 0)) := by rw [← hW0]; exact ⟨box_at, box_at1⟩
  have hsz : W0.heap.size = w.heap.size + 2 := by rw [← hW0]; simp
  have H1 := rLeq_any na nb xs ys aa ab ca cb W0 (hSa.below hA.below) (hSb.below hA.below) hxn hyn
  have H2 := fun (W : World) (g : RowKit.Below w.heap.size w W) => rLeq_any nb na ys xs ab aa cb ca W (hSb.below g) (hSa.below g) hyn hxn
  obtain ⟨a0, a1, -, -, -⟩ := cells2 hb0
  obtain ⟨b0, b1, -, -, -⟩ := cells2 hb1
  have HA := Hid.mk hA
  have HW0 := Hid.mk hW0
  have HSZ := Hid.mk hsz
  have HB0 := Hid.mk hb0
  have HB1 := Hid.mk hb1
  clear hA hW0 hsz hSa hSb hb0 hb1
  cases h1 : rleqB na xs nb ys
  · rw [h1] at H1
    clear H2
    go_enter Try.func73, Try.ntmps73
    go_wp2_with (go_at_call 87; rw [HW0.out]; refine H1.mono ?_; rintro e w1 ⟨rfl, hg⟩)
    go_ret
    exact ⟨rfl, HA.out.below.trans (hg.mono HA.out.below.size)⟩
  · rw [h1] at H1
    go_enter Try.func73, Try.ntmps73
    go_wp2_with fail
    rw [HW0.out]
    refine H1.mono ?_
    rintro e w1 ⟨rfl, hg⟩
    have hgw : RowKit.Below w.heap.size w w1 := HA.out.below.trans (hg.mono HA.out.below.size)
    clear H1 a0 a1 b0 b1
    obtain ⟨a0, a1, -, -, -⟩ := cells2 ((hg.block w.heap.size (by rw [HSZ.out]; omega)).trans HB0.out)
    obtain ⟨b0, b1, -, -, -⟩ := cells2 ((hg.block (w.heap.size + 1) (by rw [HSZ.out]; omega)).trans HB1.out)
    go_wp2_with (go_at_call 87; refine (H2 _ hgw).mono ?_; rintro e w2 ⟨rfl, hg2⟩)
    go_ret
    exact ⟨rfl, hgw.trans (hg2.mono hgw.size)⟩

/-- a canonical level is right, tidy, and its number is above the sums or nought -/
theorem canon_is {l : LvT} (h : canonB l = true) : rightB l.1 l.2 = true ∧ tidyL l.2 = l.2 ∧ nOf l.1 l.2 = l.1 := by
  unfold canonB at h
  rw [Bool.and_eq_true, beq_iff_eq] at h
  have hr := (norm_err l.1 l.2).1 h.1
  have h2 := h.2
  rw [normR_right hr] at h2
  unfold exactB at h2
  simp only [Bool.and_eq_true, decide_eq_true_eq] at h2
  refine ⟨hr, h2.2, ?_⟩
  have := h2.1
  rwa [h2.2] at this

theorem topl_ge (ys : List (Int × Int)) : ∀ m : Int, m ≤ topL m ys ∧ (topL m ys = m ∨ ∃ p ∈ ys, topL m ys = p.2) := by
  induction ys with
  | nil => intro m; exact ⟨by simp [topL], Or.inl rfl⟩
  | cons a r ih =>
    intro m
    have e : topL m (a :: r) = topL (if m < a.2 then a.2 else m) r := rfl
    rw [e]
    by_cases hc : m < a.2
    · rw [if_pos hc]
      obtain ⟨h1, h2⟩ := ih a.2
      refine ⟨by omega, Or.inr ?_⟩
      rcases h2 with h2 | ⟨p, hp, h2⟩
      · exact ⟨a, by simp, h2⟩
      · exact ⟨p, by simp [hp], h2⟩
    · rw [if_neg hc]
      obtain ⟨h1, h2⟩ := ih m
      refine ⟨h1, ?_⟩
      rcases h2 with h2 | ⟨p, hp, h2⟩
      · exact Or.inl h2
      · exact Or.inr ⟨p, by simp [hp], h2⟩

theorem cov_is {x y : Int} {ys : List (Int × Int)} (h : covered x y ys = true) : ∃ q ∈ ys, q.1 = x ∧ y ≤ q.2 := by
  unfold covered at h
  rw [List.any_eq_true] at h
  obtain ⟨q, hq, h⟩ := h
  simp only [Bool.and_eq_true, decide_eq_true_eq] at h
  exact ⟨q, hq, h.1.symm, h.2⟩

theorem both_mem {xs ys : List (Int × Int)} (hx : xs.Pairwise (fun p q => p.1 < q.1)) (h1 : (xs.all fun p => covered p.1 p.2 ys) = true) (h2 : (ys.all fun p => covered p.1 p.2 xs) = true) : ∀ p ∈ xs, p ∈ ys := fun p hp => by
  obtain ⟨q, hq, e1, e2⟩ := cov_is (List.all_eq_true.1 h1 p hp)
  obtain ⟨r, hr, e3, e4⟩ := cov_is (List.all_eq_true.1 h2 q hq)
  have := eq_of_key hx hp hr (by omega)
  subst this
  have : q = p := Prod.ext e1 (by omega)
  rwa [← this]

theorem nOf_top {na nb : Int} {xs : List (Int × Int)} (hb : nOf nb xs = nb) (ha0 : 0 ≤ na) (h : nb ≤ topL na xs) : nb ≤ na := by
  rcases (topl_ge xs na).2 with e | ⟨p, hp, e⟩
  · omega
  · unfold nOf at hb
    by_cases hc : (xs.any fun p => decide (nb ≤ p.2)) = true
    · rw [if_pos hc] at hb; omega
    · exact absurd (List.any_eq_true.2 ⟨p, hp, by simpa using (by omega : nb ≤ p.2)⟩) hc

/-- canonical levels are one where each is at most the other one -/
theorem canon_same {l k : LvT} (hl : canonB l = true) (hk : canonB k = true) : (rleqB l.1 l.2 k.1 k.2 && rleqB k.1 k.2 l.1 l.2) = decide (l = k) := by
  obtain ⟨r1, t1, n1⟩ := canon_is hl
  obtain ⟨r2, t2, n2⟩ := canon_is hk
  have s1 : l.2.Pairwise (fun p q => p.1 < q.1) := by have := (tidyL_is l.2).1; rwa [t1] at this
  have s2 : k.2.Pairwise (fun p q => p.1 < q.1) := by have := (tidyL_is k.2).1; rwa [t2] at this
  unfold rleqB
  rw [r1, r2, t1, t2, n1, n2]
  simp only [Bool.true_and]
  unfold rleq
  have z1 : 0 ≤ l.1 := (right_n r1).1
  have z2 : 0 ≤ k.1 := (right_n r2).1
  rw [Bool.eq_iff_iff]
  simp only [Bool.and_eq_true, decide_eq_true_eq]
  constructor
  · rintro ⟨⟨a1, a2⟩, b1, b2⟩
    have hxy : l.2 = k.2 := sorted_ext s1 s2 (fun p => ⟨both_mem s1 a2 b2 p, both_mem s2 b2 a2 p⟩)
    refine Prod.ext ?_ hxy
    have c1 := nOf_top (na := l.1) (nb := k.1) (xs := l.2) (by rw [hxy]; exact n2) z1 b1
    have c2 := nOf_top (na := k.1) (nb := l.1) (xs := k.2) (by rw [← hxy]; exact n1) z2 a1
    omega
  · rintro rfl
    have hc : (l.2.all fun p => covered p.1 p.2 l.2) = true := by
      rw [List.all_eq_true]
      intro p hp
      unfold covered
      rw [List.any_eq_true]
      exact ⟨p, hp, by simp⟩
    exact ⟨⟨(topl_ge _ _).1, hc⟩, (topl_ge _ _).1, hc⟩
end Go.Proofs.Ytbgkeomlfdmkeaa
