/- The contract of level.Suc. -/
import Derived.Test.YtphemmifckdjjaaJ
namespace Go.Proofs.Ytphemmifckdjjaa
open Go.RowKit Go.Sort Go.Shelf Go.Lib

/-- what Suc answers -/
def sucR (n : Int) (xs : List (Int × Int)) (k : Int) : Int × List (Int × Int) × Int :=
  if rightB n xs then (if k < 0 then (0, [], 1) else canonR (n + min k 1001) (rmap (min k 1001) xs)) else (0, [], 13)

set_option maxHeartbeats 1000000 in
theorem Suc_any (n k : Int) (xs : List (Int × Int)) (a : Option Addr) (cap : Nat) (w : World) (hS : SL w a xs) (hn : xs.length ≤ 4398046511104) :
    Calls Try.prog 17 #[.agg #[.int .i64 n, .slice a xs.length cap], .int .i64 k] w fun e w' => Res w w' e (sucR n xs k) := by
  have HR := right_any n xs a cap ((w.alloc (.cells #[.int .i64 n, .slice a xs.length cap] 24)).alloc (.cells #[.int .i64 0, .slice none 0 0] 24)) (hS.below (((Grew.refl w).alloc _).alloc _).below) (by omega)
  have HC : Hid (sucR n xs k = if rightB n xs then (if k < 0 then (0, [], 1) else canonR (n + min k 1001) (rmap (min k 1001) xs)) else (0, [], 13)) := rfl
  have HCa := fun (a' : Option Addr) (cap' : Nat) (W : World) (h : SL W a' (rmap (min k 1001) xs)) => canonical_any (n + min k 1001) a' cap' (rmap (min k 1001) xs) W h (by rw [rmap_len]; exact hn)
  have HF : Hid (∀ (B : Nat) (W : World) (g c : Nat), OR B W (.slice (some ⟨g, 0, none⟩) xs.length c) (rmap (min k 1001) xs) → SL W (some ⟨g, 0, none⟩) (rmap (min k 1001) xs)) := fun B W g c h => by
    obtain ⟨a', c', hv, hs, -⟩ := h.shape
    simp at hv
    rw [hv.1]; exact hs
  have HL : Hid ((rmap (min k 1001) xs).length = xs.length) := rmap_len _ _
  have HRa := fun (W : World) (h : SL W a xs) (h1 : rightB n xs = true) (h2 : 0 ≤ k) => raised_any n k xs a cap W h h1 h2
  generalize canonR (n + min k 1001) (rmap (min k 1001) xs) = C at HC HCa
  generalize rmap (min k 1001) xs = ys at HCa HRa HF HL
  generalize n + min k 1001 = m at HCa HRa
  rw [HL.out] at HCa
  generalize sucR n xs k = D at HC ⊢
  have HS := Hid.mk hS
  clear hS
  have hA : Grew w ((w.alloc (.cells #[.int .i64 n, .slice a xs.length cap] 24)).alloc (.cells #[.int .i64 0, .slice none 0 0] 24)) := ((Grew.refl w).alloc _).alloc _
  have HA := Hid.mk hA
  clear hA
  cases hr : rightB n xs
  · rw [hr, if_neg (by simp)] at HC
    simp only [hr] at HR
    clear HRa HCa
    go_enter Try.func17, Try.ntmps17
    go_wp2_with (go_at_call 33; refine HR.mono ?_; rintro e w1 ⟨rfl, hg⟩; obtain ⟨p0, p1, p2, p3, p4⟩ := cells2 ((hg.below.block (w.heap.size + 1) (by simp)).trans box_at1))
    have hCe := HC.out
    subst hCe
    refine bodyPost_ret (v := .tuple #[.agg #[.int .i64 0, .slice none 0 0], .int .i64 13]) (by simp [results, Try.results17, go_sem, p0, p1]) rfl ⟨_, rfl, OR.nil _ _, ?_⟩
    exact ((HA.out.trans hg).below.setCell (p := ⟨w.heap.size + 1, 0, none⟩) (Nat.le_succ _) _).setCell (p := ⟨w.heap.size + 1, 1, none⟩) (Nat.le_succ _) _
  · rw [hr, if_pos rfl] at HC
    simp only [hr] at HR
    by_cases hk : k < 0
    · rw [if_pos hk] at HC
      clear HRa HCa
      go_enter Try.func17, Try.ntmps17
      go_wp2_with (go_at_call 33; refine HR.mono ?_; rintro e w1 ⟨rfl, hg⟩; obtain ⟨p0, p1, p2, p3, p4⟩ := cells2 ((hg.below.block (w.heap.size + 1) (by simp)).trans box_at1))
      have hCe := HC.out
      subst hCe
      refine bodyPost_ret (v := .tuple #[.agg #[.int .i64 0, .slice none 0 0], .int .i64 1]) (by simp [results, Try.results17, go_sem, p0, p1]) rfl ⟨_, rfl, OR.nil _ _, ?_⟩
      exact ((HA.out.trans hg).below.setCell (p := ⟨w.heap.size + 1, 0, none⟩) (Nat.le_succ _) _).setCell (p := ⟨w.heap.size + 1, 1, none⟩) (Nat.le_succ _) _
    · rw [if_neg hk] at HC
      have HRb := fun (W : World) (h : SL W a xs) => HRa W h hr (by omega)
      clear HRa
      have HRt := Hid.mk hr
      clear hr
      go_enter Try.func17, Try.ntmps17
      go_wp2_with (first | (go_at_call 33; refine HR.mono ?_; rintro e w1 ⟨rfl, hg⟩; obtain ⟨r0, r1, r2, r3, r4⟩ := cells2 ((hg.below.block w.heap.size (by simp; omega)).trans box_at); have hR1 := (hg.below.block (w.heap.size + 1) (by simp)).trans box_at1; have hlt1 : w.heap.size + 1 < w1.heap.size := (Array.getElem?_eq_some_iff.1 hR1).1; have hbA := (HA.out.trans hg).below) | (go_at_call 37; refine (HRb _ (by exact HS.out.below hbA)).mono ?_; rintro e w2 ⟨g2, cap2, rfl, hO2, hb2⟩; have hS2 := HF.out _ _ _ _ hO2; have hR2 := (hb2.block (w.heap.size + 1) hlt1).trans hR1; have hlt2 : w.heap.size + 1 < w2.heap.size := (Array.getElem?_eq_some_iff.1 hR2).1) | (go_at_call 34; refine (HCa _ _ _ (by exact hS2)).mono ?_; rintro e w3 ⟨v, rfl, hO, hb3⟩; obtain ⟨a', cap', rfl, -⟩ := hO.shape; obtain ⟨p0, p1, p2, p3, p4⟩ := cells2 ((hb3.block (w.heap.size + 1) hlt2).trans hR2)))
      have hCe := HC.out
      subst hCe
      refine bodyPost_ret (v := .tuple #[.agg #[.int .i64 D.1, .slice a' D.2.1.length cap'], .int .i64 D.2.2]) (by simp [results, Try.results17, go_sem, p0, p1]) rfl ⟨_, rfl, ?_, ?_⟩
      · exact OR.mono ((hO.setBelow (a := ⟨w.heap.size + 1, 0, none⟩) hlt2 _).setBelow (a := ⟨w.heap.size + 1, 1, none⟩) hlt2 _) (by omega)
      · exact (((hbA.trans (hb2.mono (by omega))).trans (hb3.mono (by omega))).setCell (p := ⟨w.heap.size + 1, 0, none⟩) (Nat.le_succ _) _).setCell (p := ⟨w.heap.size + 1, 1, none⟩) (Nat.le_succ _) _
end Go.Proofs.Ytphemmifckdjjaa
