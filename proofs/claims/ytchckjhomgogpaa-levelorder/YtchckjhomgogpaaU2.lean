/- The contract of level.Same. -/
import Derived.Test.YtchckjhomgogpaaU
namespace Go.Proofs.Ytchckjhomgogpaa
open Go.RowKit Go.Sort Go.Shelf Go.Lib

set_option maxHeartbeats 1000000 in
theorem Same_any (na nb : Int) (xs ys : List (Int × Int)) (aa ab : Option Addr) (ca cb : Nat) (w : World) (hSa : SL w aa xs) (hSb : SL w ab ys) (hxn : xs.length ≤ 4398046511104) (hyn : ys.length ≤ 4398046511104) :
    Calls Try.prog 23 #[.agg #[.int .i64 na, .slice aa xs.length ca], .agg #[.int .i64 nb, .slice ab ys.length cb]] w fun e w' => e = .returned (.bool (leqB na xs nb ys && leqB nb ys na xs)) ∧ RowKit.Below w.heap.size w w' := by
  obtain ⟨W0, hW0⟩ : ∃ W0, (w.alloc (.cells #[.int .i64 na, .slice aa xs.length ca] 24)).alloc (.cells #[.int .i64 nb, .slice ab ys.length cb] 24) = W0 := ⟨_, rfl⟩
  have hA : Grew w W0 := by rw [← hW0]; exact ((Grew.refl w).alloc _).alloc _
  obtain ⟨hb0, hb1⟩ : W0.heap[w.heap.size]? = some (.cells #[.int .i64 na, .slice aa xs.length ca] 24 (0, 0)) ∧ W0.heap[w.heap.size + 1]? = some (.cells #[.int .i64 nb, .slice ab ys.length cb] 24 (0, 0)) := by rw [← hW0]; exact ⟨box_at, box_at1⟩
  have hsz : W0.heap.size = w.heap.size + 2 := by rw [← hW0]; simp
  have H1 := Leq_any na nb xs ys aa ab ca cb W0 (hSa.below hA.below) (hSb.below hA.below) hxn hyn
  have H2 := fun (W : World) (g : RowKit.Below w.heap.size w W) => Leq_any nb na ys xs ab aa cb ca W (hSb.below g) (hSa.below g) hyn hxn
  obtain ⟨a0, a1, -, -, -⟩ := cells2 hb0
  obtain ⟨b0, b1, -, -, -⟩ := cells2 hb1
  have HA := Hid.mk hA
  have HW0 := Hid.mk hW0
  have HSZ := Hid.mk hsz
  have HB0 := Hid.mk hb0
  have HB1 := Hid.mk hb1
  clear hA hW0 hsz hSa hSb hb0 hb1
  cases h1 : leqB na xs nb ys
  · rw [h1] at H1
    clear H2
    go_enter Try.func23, Try.ntmps23
    go_wp2_with (go_at_call 21; rw [HW0.out]; refine H1.mono ?_; rintro e w1 ⟨rfl, hg⟩)
    go_ret
    exact ⟨rfl, HA.out.below.trans (hg.mono HA.out.below.size)⟩
  · rw [h1] at H1
    go_enter Try.func23, Try.ntmps23
    go_wp2_with fail
    rw [HW0.out]
    refine H1.mono ?_
    rintro e w1 ⟨rfl, hg⟩
    have hgw : RowKit.Below w.heap.size w w1 := HA.out.below.trans (hg.mono HA.out.below.size)
    clear H1 a0 a1 b0 b1
    obtain ⟨a0, a1, -, -, -⟩ := cells2 ((hg.block w.heap.size (by rw [HSZ.out]; omega)).trans HB0.out)
    obtain ⟨b0, b1, -, -, -⟩ := cells2 ((hg.block (w.heap.size + 1) (by rw [HSZ.out]; omega)).trans HB1.out)
    go_wp2_with (go_at_call 21; refine (H2 _ hgw).mono ?_; rintro e w2 ⟨rfl, hg2⟩)
    go_ret
    exact ⟨rfl, hgw.trans (hg2.mono hgw.size)⟩
end Go.Proofs.Ytchckjhomgogpaa
