/- The contract of telamonref1.Norm. -/
import Derived.Test.YtggiibkboblknaaRB
namespace Go.Proofs.Ytggiibkboblknaa
open Go.RowKit Go.Sort Go.Shelf Go.Lib

theorem right_tidy {n : Int} {xs : List (Int × Int)} (h : rightB n xs = true) : rightB (nOf n (tidyL xs)) (tidyL xs) = true := by
  have hm : ∀ p ∈ tidyL xs, p ∈ xs := fun p hp => (((tidyL_is xs).2 p).1 hp).1
  have hl := tidyL_le xs
  have hN := right_n h
  simp only [rightB, Bool.and_eq_true, List.all_eq_true, decide_eq_true_eq, inR] at h ⊢
  refine ⟨⟨by omega, ?_⟩, fun p hp => h.2 p (hm p hp)⟩
  unfold nOf; split <;> omega

theorem canonR_right {n : Int} {xs : List (Int × Int)} (h : rightB n xs = true) : canonR n xs = (nOf n (tidyL xs), tidyL xs, 0) := by
  unfold canonR; rw [if_pos (right_tidy h)]

theorem normR_right {n : Int} {xs : List (Int × Int)} (h : rightB n xs = true) : normR n xs = (nOf n (tidyL xs), tidyL xs, 0) := by
  unfold normR; rw [if_pos h, canonR_right h]

theorem right_nonneg {n : Int} {xs : List (Int × Int)} (h : rightB n xs = true) : ∀ p ∈ xs, 0 ≤ p.1 := fun p hp => by
  simp only [rightB, Bool.and_eq_true, List.all_eq_true, decide_eq_true_eq, inR] at h
  exact ((h.2 p hp).1).1

set_option maxHeartbeats 1000000 in
theorem rNorm_any (n : Int) (xs : List (Int × Int)) (a : Option Addr) (cap : Nat) (w : World) (hS : SL w a xs) (hn : xs.length ≤ 4398046511104) :
    Calls Try.prog 76 #[.agg #[.int .i64 n, .slice a xs.length cap]] w fun e w' => Res w w' e (normR n xs) := by
  have HR := rright_any n xs a cap ((w.alloc (.cells #[.int .i64 n, .slice a xs.length cap] 43)).alloc (.cells #[.int .i64 0, .slice none 0 0] 43)) (hS.below (((Grew.refl w).alloc _).alloc _).below) (by omega)
  have HS := Hid.mk hS
  clear hS
  have hA : Grew w ((w.alloc (.cells #[.int .i64 n, .slice a xs.length cap] 43)).alloc (.cells #[.int .i64 0, .slice none 0 0] 43)) := ((Grew.refl w).alloc _).alloc _
  have HA := Hid.mk hA
  clear hA
  cases hr : rightB n xs
  · have HC : Hid (normR n xs = (0, [], 13)) := by unfold Hid normR; rw [hr]; rfl
    rw [hr] at HR
    generalize normR n xs = D at HC ⊢
    go_enter Try.func76, Try.ntmps76
    go_wp2_with (go_at_call 80; refine HR.mono ?_; rintro e w1 ⟨rfl, hg⟩; obtain ⟨p0, p1, p2, p3, p4⟩ := cells2 ((hg.below.block (w.heap.size + 1) (by simp)).trans box_at1))
    have hCe := HC.out
    subst hCe
    refine bodyPost_ret (v := .tuple #[.agg #[.int .i64 0, .slice none 0 0], .int .i64 13]) (by simp [results, Try.results76, go_sem, p0, p1]) rfl ⟨_, rfl, OR.nil _ _, ?_⟩
    exact ((HA.out.trans hg).below.setCell (p := ⟨w.heap.size + 1, 0, none⟩) (Nat.le_succ _) _).setCell (p := ⟨w.heap.size + 1, 1, none⟩) (Nat.le_succ _) _
  · have HC : Hid (normR n xs = (nOf n (tidyL xs), tidyL xs, 0)) := normR_right hr
    rw [hr] at HR
    have HCa := fun (W : World) (h : SL W a xs) => tidy_any n xs a cap W h hn (right_nonneg hr)
    generalize nOf n (tidyL xs) = m at HC HCa
    generalize tidyL xs = T at HC HCa
    generalize normR n xs = D at HC ⊢
    go_enter Try.func76, Try.ntmps76
    go_wp2_with (first | (go_at_call 80; refine HR.mono ?_; rintro e w1 ⟨rfl, hg⟩; obtain ⟨r0, r1, r2, r3, r4⟩ := cells2 ((hg.below.block w.heap.size (by simp; omega)).trans box_at); have hR1 := (hg.below.block (w.heap.size + 1) (by simp)).trans box_at1; have hlt1 : w.heap.size + 1 < w1.heap.size := (Array.getElem?_eq_some_iff.1 hR1).1) | (go_at_call 81; refine (HCa _ (by exact HS.out.below (HA.out.trans hg).below)).mono ?_; rintro e w2 ⟨v, rfl, hO, hb2⟩; obtain ⟨a', cap', rfl, -⟩ := hO.shape; obtain ⟨p0, p1, p2, p3, p4⟩ := cells2 ((hb2.block (w.heap.size + 1) hlt1).trans hR1)))
    have hCe := HC.out
    subst hCe
    refine bodyPost_ret (v := .tuple #[.agg #[.int .i64 m, .slice a' T.length cap'], .int .i64 0]) (by simp [results, Try.results76, go_sem, p0, p1]) rfl ⟨_, rfl, ?_, ?_⟩
    · exact OR.mono ((hO.setBelow (a := ⟨w.heap.size + 1, 0, none⟩) hlt1 _).setBelow (a := ⟨w.heap.size + 1, 1, none⟩) hlt1 _) (by omega)
    · exact (((HA.out.trans hg).below.trans (hb2.mono (by omega))).setCell (p := ⟨w.heap.size + 1, 0, none⟩) (Nat.le_succ _) _).setCell (p := ⟨w.heap.size + 1, 1, none⟩) (Nat.le_succ _) _
end Go.Proofs.Ytggiibkboblknaa
