/- For every two levels: LevelCompares answers true, and leaves its arguments as they were; no condition. -/
import Derived.Test.YtchckjhomgogpaaRF
import Derived.Test.YtchckjhomgogpaaU2
namespace Go.Proofs.Ytchckjhomgogpaa
namespace levelCompares
open Go.ChangeShapes Go.WideShapes Go.ChangeAt Go.RowKit Go.Sort

set_option maxRecDepth 100000 in
set_option maxHeartbeats 4000000 in
theorem walk (na : Int) (xs : List (Int × Int)) (aa : Option Addr) (ca : Nat) (nb : Int) (ys : List (Int × Int)) (ab : Option Addr) (cb : Nat) (w : World) (hSa : SL w aa xs) (hSb : SL w ab ys) :
    Calls Try.prog 5 #[.agg #[.int .i64 na, .slice aa xs.length ca], .agg #[.int .i64 nb, .slice ab ys.length cb]] w fun e w' => e = .returned (.bool true) ∧ RowKit.Below w.heap.size w w' := by
  have mx := mixed
  obtain ⟨W0, hW0⟩ : ∃ W0, (w.alloc (.cells #[.int .i64 na, .slice aa xs.length ca] 24)).alloc (.cells #[.int .i64 nb, .slice ab ys.length cb] 24) = W0 := ⟨_, rfl⟩
  have hA : Grew w W0 := by rw [← hW0]; exact ((Grew.refl w).alloc _).alloc _
  obtain ⟨hb0, hb1⟩ : W0.heap[w.heap.size]? = some (.cells #[.int .i64 na, .slice aa xs.length ca] 24 (0, 0)) ∧ W0.heap[w.heap.size + 1]? = some (.cells #[.int .i64 nb, .slice ab ys.length cb] 24 (0, 0)) := by rw [← hW0]; exact ⟨box_at, box_at1⟩
  have hsz : W0.heap.size = w.heap.size + 2 := by rw [← hW0]; simp
  have HA := Hid.mk hA
  have HW0 := Hid.mk hW0
  have HSZ := Hid.mk hsz
  have HB0 := Hid.mk hb0
  have HB1 := Hid.mk hb1
  have HSa := Hid.mk hSa
  have HSb := Hid.mk hSb
  clear hA hW0 hsz hSa hSb hb0 hb1
  go_enter Try.func5, Try.ntmps5
  go_wp2_with fail
  rw [HW0.out]
  refine (alive_any W0).mono ?_
  rintro e w1 ⟨rfl, hb1⟩
  have hz1 := hb1.size
  have hzz := HSZ.out
  have HL1 := Hid.mk ((hb1.block w.heap.size (by omega)).trans HB0.out)
  have HM1 := Hid.mk ((hb1.block (w.heap.size + 1) (by omega)).trans HB1.out)
  have HBW1 : Hid (RowKit.Below w.heap.size w w1) := HA.out.below.trans (hb1.mono HA.out.below.size)
  obtain ⟨a0, a1, -, -, a4⟩ := cells2 HL1.out
  clear hb1 hzz
  by_cases hx : 200 < xs.length
  · have hxd : decide (200 < xs.length) = true := by simp [hx]
    have HBG := fun W => big_any na aa xs.length ca W
    simp only [hxd] at HBG
    go_wp2_with (go_at_call 10; refine (HBG _).mono ?_; rintro e w2 ⟨rfl, hg2⟩)
    go_ret
    exact ⟨rfl, HBW1.out.trans (hg2.below.mono HBW1.out.size)⟩
  · have hxd : decide (200 < xs.length) = false := by simp; omega
    have HBG := fun W => big_any na aa xs.length ca W
    simp only [hxd] at HBG
    go_wp2_with fail
    refine (HBG _).mono ?_
    rintro e w2 ⟨rfl, hg2⟩
    have hz2 := hg2.below.size
    obtain ⟨b0, b1, -, -, b4⟩ := cells2 ((hg2.below.block (w.heap.size + 1) (by have := HSZ.out; omega)).trans HM1.out)
    clear HBG a0 a1
    by_cases hy : 200 < ys.length
    · have hyd : decide (200 < ys.length) = true := by simp [hy]
      have HBH := fun W => big_any nb ab ys.length cb W
      simp only [hyd] at HBH
      go_wp2_with (go_at_call 10; refine (HBH _).mono ?_; rintro e w3 ⟨rfl, hg3⟩)
      go_ret
      exact ⟨rfl, HBW1.out.trans ((hg2.trans hg3).below.mono HBW1.out.size)⟩
    · have hyd : decide (200 < ys.length) = false := by simp; omega
      have HBH := fun W => big_any nb ab ys.length cb W
      simp only [hyd] at HBH
      go_wp2_with fail
      refine (HBH _).mono ?_
      rintro e w3 ⟨rfl, hg3⟩
      have hg13 := hg2.trans hg3
      have hz3 := hg13.below.size
      have hzz := HSZ.out
      obtain ⟨l0, l1, -, -, l4⟩ := cells2 ((hg13.below.block w.heap.size (by omega)).trans HL1.out)
      obtain ⟨m0, m1, -, -, m4⟩ := cells2 ((hg13.below.block (w.heap.size + 1) (by omega)).trans HM1.out)
      have HB3 : Hid (RowKit.Below w.heap.size w w3) := HBW1.out.trans (hg13.below.mono HBW1.out.size)
      have hw3 := HB3.out.size
      have C1 := fun (W : World) (g : RowKit.Below w.heap.size w W) => Leq_any na nb xs ys aa ab ca cb W (HSa.out.below g) (HSb.out.below g) (by omega) (by omega)
      have C2 := fun (W : World) (g : RowKit.Below w.heap.size w W) => rLeq_any na nb xs ys aa ab ca cb W (HSa.out.below g) (HSb.out.below g) (by omega) (by omega)
      simp only [← leq_same] at C2
      have C3 := fun (W : World) (g : RowKit.Below w.heap.size w W) => Same_any na nb xs ys aa ab ca cb W (HSa.out.below g) (HSb.out.below g) (by omega) (by omega)
      have C4 := fun (W : World) (g : RowKit.Below w.heap.size w W) => rSame_any na nb xs ys aa ab ca cb W (HSa.out.below g) (HSb.out.below g) (by omega) (by omega)
      generalize (leqB na xs nb ys && leqB nb ys na xs) = s at *
      generalize leqB na xs nb ys = r at *
      clear HBH b0 b1 b4 hg2 hg3 hg13
      go_wp2_with fail
      go_region_held3 (fun w' => w'.cell? ⟨w.heap.size, 0, none⟩ = some (.int .i64 na) ∧ w'.cell? ⟨w.heap.size, 1, none⟩ = some (.slice aa xs.length ca) ∧ w'.cell? ⟨w.heap.size + 1, 0, none⟩ = some (.int .i64 nb) ∧ w'.cell? ⟨w.heap.size + 1, 1, none⟩ = some (.slice ab ys.length cb)) (first | go_keep | (go_split_ands; refine ⟨?_, ?_, ?_, ?_⟩ <;> (first | (rw [hk4.cell (by first | (simp; done) | (simp; omega))]; assumption) | (rw [hk3.cell (by first | (simp; done) | (simp; omega))]; assumption) | (rw [hk2.cell (by first | (simp; done) | (simp; omega))]; assumption) | (rw [hk1.cell (by first | (simp; done) | (simp; omega))]; assumption))))
        (first | (go_at_call 21; refine (C1 _ HB3.out.drew).mono ?_; rintro e w4 ⟨rfl, hk1⟩; have hz4 : w3.heap.size ≤ w4.heap.size := hk1.size; have HB4 : Hid (RowKit.Below w.heap.size w w4) := HB3.out.drew.trans (hk1.mono hw3)) | (go_at_call 22; refine (C2 _ HB4.out).mono ?_; rintro e w5 ⟨rfl, hk2⟩; have hz5 : w4.heap.size ≤ w5.heap.size := hk2.size; have HB5 : Hid (RowKit.Below w.heap.size w w5) := HB4.out.trans (hk2.mono HB4.out.size)) | (go_at_call 23; refine (C3 _ HB5.out).mono ?_; rintro e w6 ⟨rfl, hk3⟩; have hz6 : w5.heap.size ≤ w6.heap.size := hk3.size; have HB6 : Hid (RowKit.Below w.heap.size w w6) := HB5.out.trans (hk3.mono HB5.out.size)) | (go_at_call 24; refine (C4 _ HB6.out).mono ?_; rintro e w7 ⟨rfl, hk4⟩; have hz7 : w6.heap.size ≤ w7.heap.size := hk4.size; have HB7 : Hid (RowKit.Below w.heap.size w w7) := HB6.out.trans (hk4.mono HB6.out.size)))
      go_wp2
      go_ret
      exact ⟨rfl, HB7.out⟩

set_option maxRecDepth 100000 in
theorem lifted (os : Os) (started : os.Started) (H : Type) (enc : TypeId × Value → H) :
    ReturnsInHanded {} Try.checked os 5 .any (Rows.levelComparesSpec.pre6 enc Try.prog Try.f5 Rows.levelComparesRow.domain false) (Rows.levelComparesSpec.post enc Try.prog Try.f5 false true false false) := by
  refine returnsInHanded_of_change (C := Try.checked) own started (by kernel_rfl) Try.func5
    (ChangeSpec.witness6 (enc := enc) (C := Try.checked) false ⟨#[], #[.agg #[.int .i64 0, .slice none 0 0], .agg #[.int .i64 0, .slice none 0 0]], []⟩ 8 (by kernel_rfl) (by kernel_rfl) (by kernel_rfl) (by kernel_rfl)) ?_
  intro W base args ds gs before hval0 hW hcnd _
  have hval : ∀ (j : Nat) t v, Try.f5.params[j]? = some t → args[j]? = some v → Value.okWide Try.prog W .any base t v := hval0
  have hW' := hW
  obtain ⟨p, q, hA0, hV, rfl, hfz, hnd⟩ := hW
  have hA : DataW.TrodAll enc Try.prog W 0 (fun _ => true) true Try.f5.params.toList args.toList ds p := hA0
  rw [Try.params5] at hA hval
  obtain ⟨v0, v1, d0, d1, p0, p1, rfl, rfl, rfl, h0, h1⟩ := trodAll_two hA
  obtain ⟨rfl, rfl⟩ := trodVars_none hV
  have k0 := h0
  have lt0 : ∀ x ∈ p0, x.block < W.heap.size := by obtain ⟨m, hm⟩ := k0; exact DataW.trod_lt m _ _ _ hm
  obtain ⟨n0, xs0, a0, c0, rfl, hS0⟩ := open_level (hval 0 24 v0 rfl rfl) h0
  have k1 := h1
  have lt1 : ∀ x ∈ p1, x.block < W.heap.size := by obtain ⟨m, hm⟩ := k1; exact DataW.trod_lt m _ _ _ hm
  obtain ⟨n1, xs1, a1, c1, rfl, hS1⟩ := open_level (hval 1 24 v1 rfl rfl) h1
  clear hA0 hval0
  refine (walk n0 xs0 a0 c0 n1 xs1 a1 c1 W hS0 hS1).mono fun e W' ⟨he, bel⟩ => ?_
  subst he
  exact ⟨_, rfl, _, _, _, [], _, [], hW', trodAll_mk1 (shut_bool Try.underlying4 _), trodAll_mk2 (Below.trod laidOut (by kernel_rfl) (of_decide_eq_true (by kernel_rfl)) k0 bel lt0) (Below.trod laidOut (by kernel_rfl) (of_decide_eq_true (by kernel_rfl)) k1 bel lt1), rfl, bel.frame _, fun h => by cases h⟩

theorem over : Rows.levelComparesRow.holds Try.pinned (OpenSpec.ofChange Rows.levelComparesSpec) :=
  OpenClaim.holds_of_wide 5 Try.f5 rfl rfl rfl rfl rfl rfl rfl ⟨rfl, rfl, rfl, rfl, rfl⟩ rfl rfl rfl rfl rfl (by kernel_rfl) Try.func5 (by kernel_rfl)
    (of_decide_eq_true (by kernel_rfl)) (by unfold Func.isWrapper; first | (rw [if_pos (by decide +kernel)]; kernel_rfl) | (rw [if_neg (by decide +kernel)]; exact ⟨rfl, rfl⟩))
    (fun os started H enc _ => lifted os started H enc)

end levelCompares

theorem levelCompares_holds : Rows.LevelComparesSaid := levelCompares.over
#print axioms levelCompares_holds
end Go.Proofs.Ytchckjhomgogpaa
