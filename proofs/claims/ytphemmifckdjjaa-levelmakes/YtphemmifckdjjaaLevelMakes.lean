/- For every two levels and every number: LevelMakes answers true, and leaves its arguments as they were; no condition. -/
import Derived.Test.YtphemmifckdjjaaRI
import Derived.Test.YtphemmifckdjjaaLB
namespace Go.Proofs.Ytphemmifckdjjaa
namespace levelMakes
open Go.ChangeShapes Go.WideShapes Go.ChangeAt Go.RowKit Go.Sort

theorem canon_len (n : Int) (xs : List (Int × Int)) : (canonR n xs).2.1.length ≤ 64 := by
  unfold canonR
  split
  · rename_i h; exact (right_n h).2.2
  · simp

theorem suc_len (n : Int) (xs : List (Int × Int)) (k : Int) : (sucR n xs k).2.1.length ≤ 64 := by
  unfold sucR
  split
  · split
    · simp
    · exact canon_len _ _
  · simp

theorem max_len (na nb : Int) (xs ys : List (Int × Int)) : (maxR na xs nb ys).2.1.length ≤ 64 := by
  unfold maxR
  split
  · exact canon_len _ _
  · simp

theorem exact_self (n : Int) (xs : List (Int × Int)) : exactB n xs n xs = true := by simp [exactB]

set_option maxRecDepth 100000 in
set_option maxHeartbeats 4000000 in
theorem walk (na : Int) (xs : List (Int × Int)) (aa : Option Addr) (ca : Nat) (nb : Int) (ys : List (Int × Int)) (ab : Option Addr) (cb : Nat) (k : Int) (w : World) (hSa : SL w aa xs) (hNa : aa = none → ca = 0) (hSb : SL w ab ys) (hNb : ab = none → cb = 0) :
    Calls Try.prog 4 #[.agg #[.int .i64 na, .slice aa xs.length ca], .agg #[.int .i64 nb, .slice ab ys.length cb], .int .i64 k] w fun e w' => e = .returned (.bool true) ∧ RowKit.Below w.heap.size w w' := by
  have mx := mixed
  obtain ⟨W0, hW0⟩ : ∃ W0, (w.alloc (.cells #[.int .i64 na, .slice aa xs.length ca] 24)).alloc (.cells #[.int .i64 nb, .slice ab ys.length cb] 24) = W0 := ⟨_, rfl⟩
  have hA : Grew w W0 := by rw [← hW0]; exact ((Grew.refl w).alloc _).alloc _
  have HA0 : Hid (LB W0 w.heap.size na aa ca xs) := ⟨by rw [← hW0]; exact box_at, hSa.below hA.below⟩
  have HB0 : Hid (LB W0 (w.heap.size + 1) nb ab cb ys) := ⟨by rw [← hW0]; exact box_at1, hSb.below hA.below⟩
  have HW0 := Hid.mk hW0
  have HG0 : Hid (RowKit.Below w.heap.size w W0) := hA.below
  have HNa := Hid.mk hNa
  have HNb := Hid.mk hNb
  clear hA hW0 hSa hSb hNa hNb
  go_enter Try.func4, Try.ntmps4
  go_wp2_with fail
  rw [HW0.out]
  refine (alive_any W0).mono ?_
  rintro e w1 ⟨rfl, hb1⟩
  have HA1 := Hid.mk (HA0.out.on hb1)
  have HB1 := Hid.mk (HB0.out.on hb1)
  have HG1 : Hid (RowKit.Below w.heap.size w w1) := HG0.out.trans (hb1.mono HG0.out.size)
  obtain ⟨a0, a1, a2⟩ := HA1.out.cells
  clear hb1 HA0 HB0 HG0 HW0
  by_cases hx : 200 < xs.length
  · have hxd : decide (200 < xs.length) = true := by simp [hx]
    have HBG := fun W => big_any na aa xs.length ca W
    simp only [hxd] at HBG
    go_wp2_with (go_at_call 10; refine (HBG _).mono ?_; rintro e w2 ⟨rfl, hg2⟩)
    go_ret
    exact ⟨rfl, HG1.out.trans (hg2.below.mono HG1.out.size)⟩
  · have hxd : decide (200 < xs.length) = false := by simp; omega
    have HBG := fun W => big_any na aa xs.length ca W
    simp only [hxd] at HBG
    go_wp2_with fail
    refine (HBG _).mono ?_
    rintro e w2 ⟨rfl, hg2⟩
    have HA2 := Hid.mk (HA1.out.on hg2.below)
    have HB2 := Hid.mk (HB1.out.on hg2.below)
    have HG2 : Hid (RowKit.Below w.heap.size w w2) := HG1.out.trans (hg2.below.mono HG1.out.size)
    obtain ⟨b0, b1, b2⟩ := HB2.out.cells
    clear HBG a0 a1 hg2 HA1 HB1 HG1
    by_cases hy : 200 < ys.length
    · have hyd : decide (200 < ys.length) = true := by simp [hy]
      have HBH := fun W => big_any nb ab ys.length cb W
      simp only [hyd] at HBH
      go_wp2_with (go_at_call 10; refine (HBH _).mono ?_; rintro e w3 ⟨rfl, hg3⟩)
      go_ret
      exact ⟨rfl, HG2.out.trans (hg3.below.mono HG2.out.size)⟩
    · have hyd : decide (200 < ys.length) = false := by simp; omega
      have HBH := fun W => big_any nb ab ys.length cb W
      simp only [hyd] at HBH
      go_wp2_with fail
      refine (HBH _).mono ?_
      rintro e w3 ⟨rfl, hg3⟩
      have HA3 := Hid.mk (HA2.out.on hg3.below)
      have HB3 := Hid.mk (HB2.out.on hg3.below)
      have HG3 : Hid (RowKit.Below w.heap.size w w3) := HG2.out.trans (hg3.below.mono HG2.out.size)
      obtain ⟨a0, a1, a2⟩ := HA3.out.cells
      clear HBH b0 b1 hg3 HA2 HB2 HG2 hxd hyd
      go_wp2_with fail
      refine (Suc_any na k xs aa ca w3 HA3.out.sl (by omega)).mono ?_
      rintro e w4 ⟨v4, rfl, hO4, hb4⟩
      obtain ⟨a4, c4, hv4, hS4, hl4⟩ := hO4.shape
      subst hv4
      obtain ⟨W4, hW4⟩ : ∃ W4, w4.alloc (.cells #[.int .i64 (sucR na xs k).1, .slice a4 (sucR na xs k).2.1.length c4] 24) = W4 := ⟨_, rfl⟩
      have hbb4 : RowKit.Below w4.heap.size w4 W4 := by rw [← hW4]; exact ((Grew.refl _).alloc _).below
      have HX4 : Hid (LB W4 w4.heap.size (sucR na xs k).1 a4 c4 (sucR na xs k).2.1) := by unfold Hid; rw [← hW4]; exact LB.new hS4
      have hA4 := HA3.out.on hb4
      have hB4 := HB3.out.on hb4
      obtain ⟨a0, a1, a2⟩ := hA4.cells
      obtain ⟨b0, b1, b2⟩ := hB4.cells
      have HA4 := Hid.mk (hA4.on hbb4)
      have HB4 := Hid.mk (hB4.on hbb4)
      have HG4 : Hid (RowKit.Below w.heap.size w W4) := (HG3.out.trans (hb4.mono HG3.out.size)).trans (hbb4.mono (HG3.out.trans (hb4.mono HG3.out.size)).size)
      have HW4 := Hid.mk hW4
      clear hW4 hA4 hB4 hS4 hO4 hb4 hbb4 HA3 HB3 HG3
      go_wp2_with fail
      rw [HW4.out]
      refine (Max_any na nb xs ys aa ab ca cb W4 HA4.out.sl HB4.out.sl (by omega) (by omega) HNa.out HNb.out).mono ?_
      rintro e w5 ⟨v5, rfl, hO5, hb5⟩
      obtain ⟨a5, c5, hv5, hS5, hl5⟩ := hO5.shape
      subst hv5
      obtain ⟨W5, hW5⟩ : ∃ W5, w5.alloc (.cells #[.int .i64 (maxR na xs nb ys).1, .slice a5 (maxR na xs nb ys).2.1.length c5] 24) = W5 := ⟨_, rfl⟩
      have hbb5 : RowKit.Below w5.heap.size w5 W5 := by rw [← hW5]; exact ((Grew.refl _).alloc _).below
      have HX5 : Hid (LB W5 w5.heap.size (maxR na xs nb ys).1 a5 c5 (maxR na xs nb ys).2.1) := by unfold Hid; rw [← hW5]; exact LB.new hS5
      have hA5 := HA4.out.on hb5
      obtain ⟨a0, a1, a2⟩ := hA5.cells
      have HA5 := Hid.mk (hA5.on hbb5)
      have HB5 := Hid.mk ((HB4.out.on hb5).on hbb5)
      have HX45 := Hid.mk ((HX4.out.on hb5).on hbb5)
      have HG5 : Hid (RowKit.Below w.heap.size w W5) := (HG4.out.trans (hb5.mono HG4.out.size)).trans (hbb5.mono (HG4.out.trans (hb5.mono HG4.out.size)).size)
      have HW5 := Hid.mk hW5
      clear hW5 hA5 hS5 hO5 hb5 hbb5 HA4 HB4 HX4 HG4 HW4
      go_wp2_with fail
      rw [HW5.out]
      refine (rSuc_any na k xs aa ca W5 HA5.out.sl (by omega)).mono ?_
      rintro e w6 ⟨v6, rfl, hO6, hb6⟩
      obtain ⟨a6, c6, hv6, hS6, hl6⟩ := hO6.shape
      subst hv6
      obtain ⟨W6, hW6⟩ : ∃ W6, w6.alloc (.cells #[.int .i64 (sucR na xs k).1, .slice a6 (sucR na xs k).2.1.length c6] 24) = W6 := ⟨_, rfl⟩
      have hbb6 : RowKit.Below w6.heap.size w6 W6 := by rw [← hW6]; exact ((Grew.refl _).alloc _).below
      have HX6 : Hid (LB W6 w6.heap.size (sucR na xs k).1 a6 c6 (sucR na xs k).2.1) := by unfold Hid; rw [← hW6]; exact LB.new hS6
      have hA6 := HA5.out.on hb6
      have hB6 := HB5.out.on hb6
      obtain ⟨a0, a1, a2⟩ := hA6.cells
      obtain ⟨b0, b1, b2⟩ := hB6.cells
      have HA6 := Hid.mk (hA6.on hbb6)
      have HB6 := Hid.mk (hB6.on hbb6)
      have HX46 := Hid.mk ((HX45.out.on hb6).on hbb6)
      have HX56 := Hid.mk ((HX5.out.on hb6).on hbb6)
      have HG6 : Hid (RowKit.Below w.heap.size w W6) := (HG5.out.trans (hb6.mono HG5.out.size)).trans (hbb6.mono (HG5.out.trans (hb6.mono HG5.out.size)).size)
      have HW6 := Hid.mk hW6
      clear hW6 hA6 hB6 hS6 hO6 hb6 hbb6 HA5 HB5 HX45 HX5 HG5 HW5
      go_wp2_with fail
      rw [HW6.out]
      refine (rMax_any na nb xs ys aa ab ca cb W6 HA6.out.sl HB6.out.sl (by omega) (by omega)).mono ?_
      rintro e w7 ⟨v7, rfl, hO7, hb7⟩
      obtain ⟨a7, c7, hv7, hS7, hl7⟩ := hO7.shape
      subst hv7
      obtain ⟨W7, hW7⟩ : ∃ W7, w7.alloc (.cells #[.int .i64 (maxR na xs nb ys).1, .slice a7 (maxR na xs nb ys).2.1.length c7] 24) = W7 := ⟨_, rfl⟩
      have hbb7 : RowKit.Below w7.heap.size w7 W7 := by rw [← hW7]; exact ((Grew.refl _).alloc _).below
      have HX7 : Hid (LB W7 w7.heap.size (maxR na xs nb ys).1 a7 c7 (maxR na xs nb ys).2.1) := by unfold Hid; rw [← hW7]; exact LB.new hS7
      have HX47 := Hid.mk ((HX46.out.on hb7).on hbb7)
      have HX57 := Hid.mk ((HX56.out.on hb7).on hbb7)
      have HX67 := Hid.mk ((HX6.out.on hb7).on hbb7)
      have HG7 : Hid (RowKit.Below w.heap.size w W7) := (HG6.out.trans (hb7.mono HG6.out.size)).trans (hbb7.mono (HG6.out.trans (hb7.mono HG6.out.size)).size)
      have HW7 := Hid.mk hW7
      clear hW7 hS7 hO7 hb7 hbb7 HA6 HB6 HX46 HX56 HX6 HG6 HW6
      have l47 := HX47.out.lt
      have l57 := HX57.out.lt
      have l67 := HX67.out.lt
      have l77 := HX7.out.lt
      have hs1 : (sucR na xs k).2.1.length ≤ 4398046511104 := Nat.le_trans (suc_len na xs k) (by decide)
      have hs2 : (maxR na xs nb ys).2.1.length ≤ 4398046511104 := Nat.le_trans (max_len na nb xs ys) (by decide)
      have E1 := fun (W : World) (h1 : SL W a4 (sucR na xs k).2.1) (h2 : SL W a6 (sucR na xs k).2.1) => Exact_any (sucR na xs k).1 (sucR na xs k).1 (sucR na xs k).2.1 (sucR na xs k).2.1 a4 a6 c4 c6 W h1 h2 hs1 hs1
      have E2 := fun (W : World) (h1 : SL W a5 (maxR na xs nb ys).2.1) (h2 : SL W a7 (maxR na xs nb ys).2.1) => Exact_any (maxR na xs nb ys).1 (maxR na xs nb ys).1 (maxR na xs nb ys).2.1 (maxR na xs nb ys).2.1 a5 a7 c5 c7 W h1 h2 hs2 hs2
      simp only [exact_self] at E1 E2
      clear hs1 hs2
      generalize sucR na xs k = D1 at *
      generalize maxR na xs nb ys = D2 at *
      go_wp2_with fail
      rw [HW7.out]
      refine (num_any _ _).mono ?_
      rintro e w8 ⟨rfl, hw8⟩
      have hw8' := hw8.symm
      subst hw8'
      obtain ⟨s0, s1, -⟩ := HX47.out.cells
      obtain ⟨t0, t1, -⟩ := HX67.out.cells
      go_wp2_with fail
      refine (E1 W7 HX47.out.sl HX67.out.sl).mono ?_
      rintro e w9 ⟨rfl, hg9⟩
      have HG9 : Hid (RowKit.Below w.heap.size w w9) := HG7.out.trans (hg9.below.mono HG7.out.size)
      have HX59 := Hid.mk (HX57.out.on hg9.below)
      have HX79 := Hid.mk (HX7.out.on hg9.below)
      obtain ⟨u0, u1, -⟩ := HX59.out.cells
      obtain ⟨v0, v1, -⟩ := HX79.out.cells
      clear s0 s1 t0 t1 hg9
      go_wp2_with fail
      refine (num_any _ _).mono ?_
      rintro e w8 ⟨rfl, hw8⟩
      have hw8' := hw8.symm
      subst hw8'
      go_wp2_with fail
      refine (E2 w9 HX59.out.sl HX79.out.sl).mono ?_
      rintro e w10 ⟨rfl, hg10⟩
      go_wp2
      go_ret
      exact ⟨rfl, HG9.out.trans (hg10.below.mono HG9.out.size)⟩

set_option maxRecDepth 100000 in
theorem lifted (os : Os) (started : os.Started) (H : Type) (enc : TypeId × Value → H) :
    ReturnsInHanded {} Try.checked os 4 .any (Rows.levelMakesSpec.pre6 enc Try.prog Try.f4 Rows.levelMakesRow.domain false) (Rows.levelMakesSpec.post enc Try.prog Try.f4 false true false false) := by
  refine returnsInHanded_of_change (C := Try.checked) own started (by kernel_rfl) Try.func4
    (ChangeSpec.witness6 (enc := enc) (C := Try.checked) false ⟨#[], #[.agg #[.int .i64 0, .slice none 0 0], .agg #[.int .i64 0, .slice none 0 0], .int .i64 0], []⟩ 8 (by kernel_rfl) (by kernel_rfl) (by kernel_rfl) (by kernel_rfl)) ?_
  intro W base args ds gs before hval0 hW hcnd _
  have hval : ∀ (j : Nat) t v, Try.f4.params[j]? = some t → args[j]? = some v → Value.okWide Try.prog W .any base t v := hval0
  have hW' := hW
  obtain ⟨p, q, hA0, hV, rfl, hfz, hnd⟩ := hW
  have hA : DataW.TrodAll enc Try.prog W 0 (fun _ => true) true Try.f4.params.toList args.toList ds p := hA0
  rw [Try.params4] at hA hval
  obtain ⟨v0, v1, v2, d0, d1, d2, p0, p1, p2, rfl, rfl, rfl, h0, h1, h2⟩ := trodAll_three hA
  obtain ⟨rfl, rfl⟩ := trodVars_none hV
  have k0 := h0
  have lt0 : ∀ x ∈ p0, x.block < W.heap.size := by obtain ⟨m, hm⟩ := k0; exact DataW.trod_lt m _ _ _ hm
  obtain ⟨n0, xs0, a0, c0, rfl, hS0, hN0⟩ := open_level2 (hval 0 24 v0 rfl rfl) h0
  have k1 := h1
  have lt1 : ∀ x ∈ p1, x.block < W.heap.size := by obtain ⟨m, hm⟩ := k1; exact DataW.trod_lt m _ _ _ hm
  obtain ⟨n1, xs1, a1, c1, rfl, hS1, hN1⟩ := open_level2 (hval 1 24 v1 rfl rfl) h1
  have k2 := h2
  have lt2 : ∀ x ∈ p2, x.block < W.heap.size := by obtain ⟨m, hm⟩ := k2; exact DataW.trod_lt m _ _ _ hm
  obtain ⟨i2, rfl, rfl, rfl, w2⟩ := open_int Try.underlying3 (hval 2 3 v2 rfl rfl) h2
  clear hA0 hval0
  refine (walk n0 xs0 a0 c0 n1 xs1 a1 c1 i2 W hS0 hN0 hS1 hN1).mono fun e W' ⟨he, bel⟩ => ?_
  subst he
  exact ⟨_, rfl, _, _, _, [], _, [], hW', trodAll_mk1 (shut_bool Try.underlying4 _), trodAll_mk3 (Below.trod laidOut (by kernel_rfl) (of_decide_eq_true (by kernel_rfl)) k0 bel lt0) (Below.trod laidOut (by kernel_rfl) (of_decide_eq_true (by kernel_rfl)) k1 bel lt1) (Below.trod laidOut (by kernel_rfl) (of_decide_eq_true (by kernel_rfl)) k2 bel lt2), rfl, bel.frame _, fun h => by cases h⟩

theorem over : Rows.levelMakesRow.holds Try.pinned (OpenSpec.ofChange Rows.levelMakesSpec) :=
  OpenClaim.holds_of_wide 4 Try.f4 rfl rfl rfl rfl rfl rfl rfl ⟨rfl, rfl, rfl, rfl, rfl⟩ rfl rfl rfl rfl rfl (by kernel_rfl) Try.func4 (by kernel_rfl)
    (of_decide_eq_true (by kernel_rfl)) (by unfold Func.isWrapper; first | (rw [if_pos (by decide +kernel)]; kernel_rfl) | (rw [if_neg (by decide +kernel)]; exact ⟨rfl, rfl⟩))
    (fun os started H enc _ => lifted os started H enc)

end levelMakes

theorem levelMakes_holds : Rows.LevelMakesSaid := levelMakes.over
#print axioms levelMakes_holds
end Go.Proofs.Ytphemmifckdjjaa
