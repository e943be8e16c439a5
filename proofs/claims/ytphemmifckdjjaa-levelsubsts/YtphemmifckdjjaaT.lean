/- The contracts of level.compared, level.Leq and level.Same. -/
import Derived.Test.YtphemmifckdjjaaQ
namespace Go.Proofs.Ytphemmifckdjjaa
open Go.RowKit Go.Sort Go.Shelf Go.Lib
attribute [local go_sem] Oper.semAt_some

/-- what Leq answers -/
def leqB (na : Int) (xs : List (Int × Int)) (nb : Int) (ys : List (Int × Int)) : Bool := rightB na xs && rightB nb ys && (cmpPairs na xs nb ys).all fun p => decide (p.1 ≤ p.2)

set_option maxHeartbeats 400000 in
theorem compared_any (na nb : Int) (aa ab : Option Addr) (la lb ca cb : Nat) (w : World) :
    Calls Try.prog 40 #[.agg #[.int .i64 na, .slice aa la ca], .agg #[.int .i64 nb, .slice ab lb cb]] w fun e w' => e = .returned (.func (.func 49) #[] #[.pointer (some ⟨w.heap.size, 0, none⟩), .pointer (some ⟨w.heap.size + 1, 0, none⟩)]) ∧
      w' = (w.alloc (.cells #[.int .i64 na, .slice aa la ca] 24)).alloc (.cells #[.int .i64 nb, .slice ab lb cb] 24) := by
  go_enter Try.func40, Try.ntmps40
  go_wp2
  go_ret
  exact ⟨rfl, rfl⟩

theorem box3 {w : World} {o p q : Obj} : (((w.alloc o).alloc p).alloc q).heap[w.heap.size]? = some o ∧ (((w.alloc o).alloc p).alloc q).heap[w.heap.size + 1]? = some p ∧ (((w.alloc o).alloc p).alloc q).heap[w.heap.size + 2]? = some q :=
  ⟨alloc_old box_at q, alloc_old box_at1 q, by have := alloc_new ((w.alloc o).alloc p) q; simpa using this⟩

theorem cells1 {w : World} {b : Nat} {u : Value} {t : TypeId} (h : w.heap[b]? = some (.cells #[u] t (0, 0))) : w.cell? ⟨b, 0, none⟩ = some u ∧ w.frozen? ⟨b, 0, none⟩ = false ∧ b < w.heap.size :=
  ⟨by rw [cell_of_row _ b 0 _ _ _ h]; rfl, by simp [World.frozen?, h], (Array.getElem?_eq_some_iff.1 h).1⟩

set_option maxHeartbeats 1000000 in
theorem Leq_no (na nb : Int) (xs ys : List (Int × Int)) (aa ab : Option Addr) (ca cb : Nat) (w : World) (hSa : SL w aa xs) (hSb : SL w ab ys) (hxn : xs.length ≤ 4398046511104) (hyn : ys.length ≤ 4398046511104) (h : (rightB na xs && rightB nb ys) = false) :
    Calls Try.prog 21 #[.agg #[.int .i64 na, .slice aa xs.length ca], .agg #[.int .i64 nb, .slice ab ys.length cb]] w fun e w' => e = .returned (.bool false) ∧ RowKit.Below w.heap.size w w' := by
  obtain ⟨W0, hW0⟩ : ∃ W0, ((w.alloc (.cells #[.int .i64 na, .slice aa xs.length ca] 24)).alloc (.cells #[.int .i64 nb, .slice ab ys.length cb] 24)).alloc (.cells #[.bool false] 4) = W0 := ⟨_, rfl⟩
  have hA : Grew w W0 := by rw [← hW0]; exact (((Grew.refl w).alloc _).alloc _).alloc _
  obtain ⟨hb0, hb1, hb2⟩ : W0.heap[w.heap.size]? = some (.cells #[.int .i64 na, .slice aa xs.length ca] 24 (0, 0)) ∧ W0.heap[w.heap.size + 1]? = some (.cells #[.int .i64 nb, .slice ab ys.length cb] 24 (0, 0)) ∧ W0.heap[w.heap.size + 2]? = some (.cells #[.bool false] 4 (0, 0)) := by rw [← hW0]; exact box3
  have hsz : W0.heap.size = w.heap.size + 3 := by rw [← hW0]; simp
  have HRa := right_any na xs aa ca W0 (hSa.below hA.below) (by omega)
  have HRb := fun (W : World) (g : Grew w W) => right_any nb ys ab cb W (hSb.below g.below) (by omega)
  have HA := Hid.mk hA
  have HW0 := Hid.mk hW0
  have HSZ := Hid.mk hsz
  have H1 := Hid.mk hb1
  have H2 := Hid.mk hb2
  obtain ⟨a0, a1, -, -, -⟩ := cells2 hb0
  clear hA hW0 hsz hb0 hb1 hb2 hSa hSb
  cases hr : rightB na xs
  · rw [hr] at HRa
    clear HRb
    go_enter Try.func21, Try.ntmps21
    go_wp2_with (go_at_call 33; rw [HW0.out]; refine HRa.mono ?_; rintro e w1 ⟨rfl, hg⟩; obtain ⟨p0, p1, p2⟩ := cells1 ((hg.below.block (w.heap.size + 2) (by rw [HSZ.out]; omega)).trans H2.out))
    exact bodyPost_ret (v := .bool false) (by simp [results, Try.results21, go_sem, p0]) rfl ⟨rfl, (HA.out.trans hg).below.setCell (p := ⟨w.heap.size + 2, 0, none⟩) (by simp) _⟩
  · have hr2 : rightB nb ys = false := by rw [hr] at h; simpa using h
    rw [hr] at HRa
    simp only [hr2] at HRb
    clear h hr2
    go_enter Try.func21, Try.ntmps21
    go_wp2_with fail
    rw [HW0.out]
    refine HRa.mono ?_
    rintro e w1 ⟨rfl, hg⟩
    obtain ⟨b0, b1, -, -, -⟩ := cells2 ((hg.below.block (w.heap.size + 1) (by rw [HSZ.out]; omega)).trans H1.out)
    have hl1 : w.heap.size + 2 < w1.heap.size := by have := hg.below.size; rw [HSZ.out] at this; omega
    have hg1 := HA.out.trans hg
    clear HRa
    go_wp2_with (go_at_call 33; refine (HRb _ hg1).mono ?_; rintro e w2 ⟨rfl, hg2⟩; obtain ⟨p0, p1, p2⟩ := cells1 ((hg2.below.block (w.heap.size + 2) hl1).trans ((hg.below.block (w.heap.size + 2) (by rw [HSZ.out]; omega)).trans H2.out)))
    exact bodyPost_ret (v := .bool false) (by simp [results, Try.results21, go_sem, p0]) rfl ⟨rfl, (hg1.trans hg2).below.setCell (p := ⟨w.heap.size + 2, 0, none⟩) (by simp) _⟩
end Go.Proofs.Ytphemmifckdjjaa
