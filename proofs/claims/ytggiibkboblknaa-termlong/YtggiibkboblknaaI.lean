/- The contracts of level.Norm, level.raised and level.Suc. -/
import Derived.Test.YtggiibkboblknaaH
namespace Go.Proofs.Ytggiibkboblknaa
open Go.RowKit Go.Sort Go.Shelf Go.Lib

/-- what Norm answers -/
def normR (n : Int) (xs : List (Int × Int)) : Int × List (Int × Int) × Int := if rightB n xs then canonR n xs else (0, [], 13)

set_option maxHeartbeats 1000000 in
theorem Norm_any (n : Int) (xs : List (Int × Int)) (a : Option Addr) (cap : Nat) (w : World) (hS : SL w a xs) (hn : xs.length ≤ 4398046511104) :
    Calls Try.prog 86 #[.agg #[.int .i64 n, .slice a xs.length cap]] w fun e w' => Res w w' e (normR n xs) := by
  have HR := right_any n xs a cap ((w.alloc (.cells #[.int .i64 n, .slice a xs.length cap] 43)).alloc (.cells #[.int .i64 0, .slice none 0 0] 43)) (hS.below (((Grew.refl w).alloc _).alloc _).below) (by omega)
  have HC : Hid (normR n xs = if rightB n xs then canonR n xs else (0, [], 13)) := rfl
  have HCa := fun (W : World) (h : SL W a xs) => canonical_any n a cap xs W h hn
  generalize canonR n xs = C at HC HCa
  generalize normR n xs = D at HC ⊢
  have HS := Hid.mk hS
  clear hS
  have hA : Grew w ((w.alloc (.cells #[.int .i64 n, .slice a xs.length cap] 43)).alloc (.cells #[.int .i64 0, .slice none 0 0] 43)) := ((Grew.refl w).alloc _).alloc _
  have HA := Hid.mk hA
  clear hA
  cases hr : rightB n xs
  · rw [hr, if_neg (by simp)] at HC
    simp only [hr] at HR
    go_enter Try.func86, Try.ntmps86
    go_wp2_with (go_at_call 88; refine HR.mono ?_; rintro e w1 ⟨rfl, hg⟩; obtain ⟨p0, p1, p2, p3, p4⟩ := cells2 ((hg.below.block (w.heap.size + 1) (by simp)).trans box_at1))
    have hCe := HC.out
    subst hCe
    refine bodyPost_ret (v := .tuple #[.agg #[.int .i64 0, .slice none 0 0], .int .i64 13]) (by simp [results, Try.results86, go_sem, p0, p1]) rfl ⟨_, rfl, OR.nil _ _, ?_⟩
    exact ((HA.out.trans hg).below.setCell (p := ⟨w.heap.size + 1, 0, none⟩) (Nat.le_succ _) _).setCell (p := ⟨w.heap.size + 1, 1, none⟩) (Nat.le_succ _) _
  · rw [hr, if_pos rfl] at HC
    simp only [hr] at HR
    go_enter Try.func86, Try.ntmps86
    go_wp2_with (first | (go_at_call 88; refine HR.mono ?_; rintro e w1 ⟨rfl, hg⟩; obtain ⟨r0, r1, r2, r3, r4⟩ := cells2 ((hg.below.block w.heap.size (by simp; omega)).trans box_at); have hR1 := (hg.below.block (w.heap.size + 1) (by simp)).trans box_at1; have hlt1 : w.heap.size + 1 < w1.heap.size := (Array.getElem?_eq_some_iff.1 hR1).1) | (go_at_call 91; refine (HCa _ (by exact HS.out.below (HA.out.trans hg).below)).mono ?_; rintro e w2 ⟨v, rfl, hO, hb2⟩; obtain ⟨a', cap', rfl, -⟩ := hO.shape; obtain ⟨p0, p1, p2, p3, p4⟩ := cells2 ((hb2.block (w.heap.size + 1) hlt1).trans hR1)))
    have hCe := HC.out
    subst hCe
    refine bodyPost_ret (v := .tuple #[.agg #[.int .i64 D.1, .slice a' D.2.1.length cap'], .int .i64 D.2.2]) (by simp [results, Try.results86, go_sem, p0, p1]) rfl ⟨_, rfl, ?_, ?_⟩
    · exact OR.mono ((hO.setBelow (a := ⟨w.heap.size + 1, 0, none⟩) hlt1 _).setBelow (a := ⟨w.heap.size + 1, 1, none⟩) hlt1 _) (by omega)
    · exact (((HA.out.trans hg).below.trans (hb2.mono (by omega))).setCell (p := ⟨w.heap.size + 1, 0, none⟩) (Nat.le_succ _) _).setCell (p := ⟨w.heap.size + 1, 1, none⟩) (Nat.le_succ _) _
end Go.Proofs.Ytggiibkboblknaa
