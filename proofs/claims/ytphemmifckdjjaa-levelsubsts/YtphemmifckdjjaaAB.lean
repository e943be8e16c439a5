/- The contract of level.Max. -/
import Derived.Test.YtphemmifckdjjaaAA
namespace Go.Proofs.Ytphemmifckdjjaa
open Go.RowKit Go.Sort Go.Shelf Go.Lib

/-- what Max answers -/
def maxR (na : Int) (xs : List (Int × Int)) (nb : Int) (ys : List (Int × Int)) : Int × List (Int × Int) × Int :=
  if (rightB na xs && rightB nb ys) = true then canonR (max na nb) (xs ++ ys) else (0, [], 13)

theorem cell_set2 {w : World} {p : Addr} {b : Nat} {u v : Value} (h : p.block ≠ b) : ((w.setCell ⟨b, 0, none⟩ u).setCell ⟨b, 1, none⟩ v).cell? p = w.cell? p :=
  World.cell?_of_block (w := w) ((Below.heap_setCell _ _ _ _ h).trans (Below.heap_setCell _ _ _ _ h))

set_option maxRecDepth 100000 in
set_option maxHeartbeats 4000000 in
theorem Max_any (na nb : Int) (xs ys : List (Int × Int)) (aa ab : Option Addr) (ca cb : Nat) (w : World) (hSa : SL w aa xs) (hSb : SL w ab ys) (hxn : xs.length ≤ 4398046511104) (hyn : ys.length ≤ 4398046511104) (hna : aa = none → ca = 0) (hnb : ab = none → cb = 0) :
    Calls Try.prog 18 #[.agg #[.int .i64 na, .slice aa xs.length ca], .agg #[.int .i64 nb, .slice ab ys.length cb]] w fun e w' => Res w w' e (maxR na xs nb ys) := by
  have mx := mixed
  obtain ⟨W0, hW0⟩ : ∃ W0, ((w.alloc (.cells #[.int .i64 na, .slice aa xs.length ca] 24)).alloc (.cells #[.int .i64 nb, .slice ab ys.length cb] 24)).alloc (.cells #[.int .i64 0, .slice none 0 0] 24) = W0 := ⟨_, rfl⟩
  have hA : Grew w W0 := by rw [← hW0]; exact (((Grew.refl w).alloc _).alloc _).alloc _
  obtain ⟨hb0, hb1, hb2⟩ : W0.heap[w.heap.size]? = some (.cells #[.int .i64 na, .slice aa xs.length ca] 24 (0, 0)) ∧ W0.heap[w.heap.size + 1]? = some (.cells #[.int .i64 nb, .slice ab ys.length cb] 24 (0, 0)) ∧ W0.heap[w.heap.size + 2]? = some (.cells #[.int .i64 0, .slice none 0 0] 24 (0, 0)) := by rw [← hW0]; exact box3
  have hsz : W0.heap.size = w.heap.size + 3 := by rw [← hW0]; simp
  have HRa := right_any na xs aa ca W0 (hSa.below hA.below) (by omega)
  have HRb := fun (W : World) (g : Grew w W) => right_any nb ys ab cb W (hSb.below g.below) (by omega)
  have HA := Hid.mk hA
  have HW0 := Hid.mk hW0
  have HSZ := Hid.mk hsz
  have H0 := Hid.mk hb0
  have H1 := Hid.mk hb1
  have H2 := Hid.mk hb2
  have HSa := Hid.mk hSa
  have HSb := Hid.mk hSb
  have HNa := Hid.mk hna
  have HNb := Hid.mk hnb
  have HD : Hid (maxR na xs nb ys = if (rightB na xs && rightB nb ys) = true then canonR (max na nb) (xs ++ ys) else (0, [], 13)) := rfl
  generalize maxR na xs nb ys = D at HD ⊢
  obtain ⟨a0, a1, -, -, -⟩ := cells2 hb0
  clear hA hW0 hsz hb0 hb1 hb2 hSa hSb hna hnb
  cases hr : rightB na xs
  · rw [hr] at HRa
    have hD := HD.out
    rw [hr] at hD
    simp only [Bool.false_and, Bool.false_eq_true, if_false] at hD
    have HD2 := Hid.mk hD
    clear HRb HD hD
    go_enter Try.func18, Try.ntmps18
    go_wp2_with (go_at_call 33; rw [HW0.out]; refine HRa.mono ?_; rintro e w1 ⟨rfl, hg⟩; obtain ⟨p0, p1, p2, p3, p4⟩ := cells2 ((hg.below.block (w.heap.size + 2) (by rw [HSZ.out]; omega)).trans H2.out))
    have hD := HD2.out
    subst hD
    refine bodyPost_ret (v := .tuple #[.agg #[.int .i64 0, .slice none 0 0], .int .i64 13]) (by simp [results, Try.results18, go_sem, p0, p1]) rfl ⟨_, rfl, OR.nil _ _, ?_⟩
    exact ((HA.out.trans hg).below.setCell (p := ⟨w.heap.size + 2, 0, none⟩) (by simp) _).setCell (p := ⟨w.heap.size + 2, 1, none⟩) (by simp) _
  · rw [hr] at HRa
    cases hr2 : rightB nb ys
    · simp only [hr2] at HRb
      have hD := HD.out
      rw [hr, hr2] at hD
      simp only [Bool.and_false, Bool.false_eq_true, if_false] at hD
      have HD2 := Hid.mk hD
      clear HD hD
      go_enter Try.func18, Try.ntmps18
      go_wp2_with fail
      rw [HW0.out]
      refine HRa.mono ?_
      rintro e w1 ⟨rfl, hg⟩
      obtain ⟨b0, b1, -, -, -⟩ := cells2 ((hg.below.block (w.heap.size + 1) (by rw [HSZ.out]; omega)).trans H1.out)
      have hl1 : w.heap.size + 2 < w1.heap.size := by have := hg.below.size; rw [HSZ.out] at this; omega
      have hg1 := HA.out.trans hg
      clear HRa
      go_wp2_with (go_at_call 33; refine (HRb _ hg1).mono ?_; rintro e w2 ⟨rfl, hg2⟩; obtain ⟨p0, p1, p2, p3, p4⟩ := cells2 ((hg2.below.block (w.heap.size + 2) hl1).trans ((hg.below.block (w.heap.size + 2) (by rw [HSZ.out]; omega)).trans H2.out)))
      have hD := HD2.out
      subst hD
      refine bodyPost_ret (v := .tuple #[.agg #[.int .i64 0, .slice none 0 0], .int .i64 13]) (by simp [results, Try.results18, go_sem, p0, p1]) rfl ⟨_, rfl, OR.nil _ _, ?_⟩
      exact ((hg1.trans hg2).below.setCell (p := ⟨w.heap.size + 2, 0, none⟩) (by simp) _).setCell (p := ⟨w.heap.size + 2, 1, none⟩) (by simp) _
    · simp only [hr2] at HRb
      have hlx := (right_n hr).2.2
      have hly := (right_n hr2).2.2
      have hD := HD.out
      rw [hr, hr2] at hD
      simp only [Bool.and_self, if_true] at hD
      have HCa := fun (a' : Option Addr) (cap' : Nat) (W : World) (h : SL W a' (xs ++ ys)) => canonical_any (max na nb) a' cap' (xs ++ ys) W h (by simp; omega)
      rw [← hD] at HCa
      clear HD hD
      have HCo := fun (B : Nat) (W : World) t h1 (h2 : RowKit.Below w.heap.size w W) => Concat_any B xs ys aa ab ca cb W t h1 (HSa.out.below h2) (HSb.out.below h2) HNa.out HNb.out (by omega) (by omega)
      have HLL : Hid ((xs ++ ys).length = xs.length + ys.length) := by unfold Hid; simp
      generalize xs ++ ys = zs at HCa HCo HLL
      go_enter Try.func18, Try.ntmps18
      go_wp2_with fail
      rw [HW0.out]
      refine HRa.mono ?_
      rintro e w1 ⟨rfl, hg⟩
      obtain ⟨b0, b1, -, -, -⟩ := cells2 ((hg.below.block (w.heap.size + 1) (by rw [HSZ.out]; omega)).trans H1.out)
      have hg1 := HA.out.trans hg
      clear HRa a0 a1
      go_wp2_with fail
      refine (HRb _ hg1).mono ?_
      rintro e w2 ⟨rfl, hg2⟩
      have hg02 := hg.trans hg2
      have hz2 := hg02.below.size
      have hzz := HSZ.out
      have HBW : Hid (RowKit.Below w.heap.size w w2) := (hg1.trans hg2).below
      obtain ⟨l0, l1, -, -, l4⟩ := cells2 ((hg02.below.block w.heap.size (by omega)).trans H0.out)
      obtain ⟨m0, m1, -, -, m4⟩ := cells2 ((hg02.below.block (w.heap.size + 1) (by omega)).trans H1.out)
      have HR2 := Hid.mk ((hg02.below.block (w.heap.size + 2) (by omega)).trans H2.out)
      have hw2 : w.heap.size + 3 ≤ w2.heap.size := by omega
      clear HRb b0 b1 hg hg1 hg2 hg02
      go_wp2_with fail
      · go_region_held3 (fun w' => w'.cell? ⟨w.heap.size, 0, none⟩ = some (.int .i64 na) ∧ w'.cell? ⟨w.heap.size, 1, none⟩ = some (.slice aa xs.length ca) ∧ w'.cell? ⟨w.heap.size + 1, 0, none⟩ = some (.int .i64 nb) ∧ w'.cell? ⟨w.heap.size + 1, 1, none⟩ = some (.slice ab ys.length cb)) (first | (go_split_ands; refine ⟨?_, ?_, ?_, ?_⟩ <;> (first | (rw [cell_set2] <;> first | assumption | (dsimp only; omega)) | (rw [hk2.cell (by first | (simp; done) | (simp; omega))]; assumption) | (rw [hk1.cell (by first | (simp; done) | (simp; omega))]; assumption))) | (go_keep; done))
          (first | (go_at_call 38; refine (HCo w2.heap.size _ _ (by exact alloc_new _ _) (by exact (HBW.out.alloc (by omega) _).drew)).mono ?_; rintro e w3 ⟨v3, rfl, hO3, hk1⟩; obtain ⟨a3, c3, rfl, hS3, -⟩ := hO3.shape; have hz3 : w2.heap.size + 1 ≤ w3.heap.size := by (have := hk1.size; simp at this; omega)) | (go_at_call 34; refine (HCa a3 c3 w3 hS3).mono ?_; rintro e w4 ⟨v4, rfl, hO4, hk2⟩; obtain ⟨a4, c4, rfl, -, -⟩ := hO4.shape; have hz4 : w3.heap.size ≤ w4.heap.size := hk2.size; obtain ⟨p0, p1, p2, p3, p4⟩ := cells2 ((hk2.block (w.heap.size + 2) (by omega)).trans ((hk1.block (w.heap.size + 2) (by simp; omega)).trans (alloc_old HR2.out _)))))
        all_goals
          go_wp2
          have hB1 : RowKit.Below w.heap.size w w3 := (HBW.out.alloc (by omega) _).drew.trans (hk1.mono (by simp; omega))
          refine bodyPost_ret (v := .tuple #[.agg #[.int .i64 D.1, .slice a4 D.2.1.length c4], .int .i64 D.2.2]) (by simp [results, Try.results18, go_sem, p0, p1]) rfl ⟨_, rfl, ?_, ?_⟩
          · exact OR.mono ((hO4.setBelow (a := ⟨w.heap.size + 2, 0, none⟩) (by simp only; omega) _).setBelow (a := ⟨w.heap.size + 2, 1, none⟩) (by simp only; omega) _) (by omega)
          · exact ((hB1.trans (hk2.mono (by omega))).setCell (p := ⟨w.heap.size + 2, 0, none⟩) (by simp) _).setCell (p := ⟨w.heap.size + 2, 1, none⟩) (by simp) _
end Go.Proofs.Ytphemmifckdjjaa
