/- The contract of telamonref1.SameLevel. -/
import Derived.Test.YtphemmifckdjjaaMC
namespace Go.Proofs.Ytphemmifckdjjaa
open Go.RowKit Go.Sort Go.Shelf Go.Lib

set_option maxHeartbeats 1000000 in
theorem rSame_any (na nb : Int) (xs ys : List (Int × Int)) (aa ab : Option Addr) (ca cb : Nat) (w : World) (hSa : SL w aa xs) (hSb : SL w ab ys) (hxn : xs.length ≤ 4398046511104) (hyn : ys.length ≤ 4398046511104) :
    Calls Try.prog 24 #[.agg #[.int .i64 na, .slice aa xs.length ca], .agg #[.int .i64 nb, .slice ab ys.length cb]] w fun e w' => e = .returned (.bool (leqB na xs nb ys && leqB nb ys na xs)) ∧ RowKit.Below w.heap.size w w' := by
  obtain ⟨W0, hW0⟩ : ∃ W0, (w.alloc (.cells #[.int .i64 na, .slice aa xs.length ca] 24)).alloc (.cells #[.int .i64 nb, .slice ab ys.length cb] 24) = W0 := ⟨_, rfl⟩
  have hA : Grew w W0 := by rw [← hW0]; exact ((Grew.refl w).alloc _).alloc _
  obtain ⟨hb0, hb1⟩ : W0.heap[w.heap.size]? = some (.cells #[.int .i64 na, .slice aa xs.length ca] 24 (0, 0)) ∧ W0.heap[w.heap.size + 1]? = some (.cells #[.int .i64 nb, .slice ab ys.length cb] 24 (0, 0)) := by rw [← hW0]; exact ⟨box_at, box_at1⟩
  have hsz : W0.heap.size = w.heap.size + 2 := by rw [← hW0]; simp
  have H1 := rLeq_any na nb xs ys aa ab ca cb W0 (hSa.below hA.below) (hSb.below hA.below) hxn hyn
  have H2 := fun (W : World) (g : RowKit.Below w.heap.size w W) => rLeq_any nb na ys xs ab aa cb ca W (hSb.below g) (hSa.below g) hyn hxn
  rw [← leq_same] at H1
  simp only [← leq_same] at H2
  obtain ⟨a0, a1, -, -, -⟩ := cells2 hb0
  obtain ⟨b0, b1, -, -, -⟩ := cells2 hb1
  have HA := Hid.mk hA
  have HW0 := Hid.mk hW0
  have HSZ := Hid.mk hsz
  have HB0 := Hid.mk hb0
  have HB1 := Hid.mk hb1
  clear hA hW0 hsz hSa hSb hb0 hb1
  cases h1 : leqB na xs nb ys
  · rw [h1] at H1
    clear H2
    go_enter Try.func24, Try.ntmps24
    go_wp2_with (go_at_call 22; rw [HW0.out]; refine H1.mono ?_; rintro e w1 ⟨rfl, hg⟩)
    go_ret
    exact ⟨rfl, HA.out.below.trans (hg.mono HA.out.below.size)⟩
  · rw [h1] at H1
    go_enter Try.func24, Try.ntmps24
    go_wp2_with fail
    rw [HW0.out]
    refine H1.mono ?_
    rintro e w1 ⟨rfl, hg⟩
    have hgw : RowKit.Below w.heap.size w w1 := HA.out.below.trans (hg.mono HA.out.below.size)
    clear H1 a0 a1 b0 b1
    obtain ⟨a0, a1, -, -, -⟩ := cells2 ((hg.block w.heap.size (by rw [HSZ.out]; omega)).trans HB0.out)
    obtain ⟨b0, b1, -, -, -⟩ := cells2 ((hg.block (w.heap.size + 1) (by rw [HSZ.out]; omega)).trans HB1.out)
    go_wp2_with (go_at_call 22; refine (H2 _ hgw).mono ?_; rintro e w2 ⟨rfl, hg2⟩)
    go_ret
    exact ⟨rfl, hgw.trans (hg2.mono hgw.size)⟩

set_option maxHeartbeats 400000 in
theorem big_any (n : Int) (a : Option Addr) (l cap : Nat) (w : World) :
    Calls Try.prog 10 #[.agg #[.int .i64 n, .slice a l cap]] w fun e w' => e = .returned (.bool (decide (200 < l))) ∧ Grew w w' := by
  by_cases h : 200 < l
  · have h' : decide ((200 : Int) < (l : Int)) = true := by simp; omega
    go_enter Try.func10, Try.ntmps10
    go_wp2
    go_ret
    exact ⟨by simp [h], (Grew.refl _).alloc _⟩
  · have h' : decide ((200 : Int) < (l : Int)) = false := by simp; omega
    go_enter Try.func10, Try.ntmps10
    go_wp2
    go_ret
    exact ⟨by simp [h], (Grew.refl _).alloc _⟩
end Go.Proofs.Ytphemmifckdjjaa
