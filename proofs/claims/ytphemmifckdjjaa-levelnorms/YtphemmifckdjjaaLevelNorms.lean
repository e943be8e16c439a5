/- For every two levels: LevelNorms answers true, and leaves its arguments as they were; no condition. -/
import Derived.Test.YtphemmifckdjjaaRO
import Derived.Test.YtphemmifckdjjaaMV
import Derived.Test.YtphemmifckdjjaaRF
namespace Go.Proofs.Ytphemmifckdjjaa
namespace levelNorms
open Go.ChangeShapes Go.WideShapes Go.ChangeAt Go.RowKit Go.Sort

theorem owns_box {B b n : Nat} {w : World} {v : Value} {l : List Value} {cs : Array Value} {fr : Nat × Nat} (h : w.ownsRow B 32 2 v n l) (hb : w.heap[b]? = some (.cells cs 24 fr)) : v.ownBlock ≠ some b := by
  rcases h.2 with ⟨hv, _⟩ | ⟨g, cap, cur, hv, hg, hh, r⟩
  · rw [hv]; simp [Value.ownBlock]
  · rw [hv]
    intro e
    simp [Value.ownBlock] at e
    subst e
    rw [hb] at hh
    simp at hh

theorem owns_cell {B g c n j : Nat} {w : World} {l : List Value} (h : w.ownsRow B 32 2 (.slice (some ⟨g, 0, none⟩) n c) n l) (hj : j < n) : ∃ u, w.cell? ⟨g, j * 2, none⟩ = some u := by
  have hl := h.1
  have := World.ownsRow.cellAt h (j * 2) (by omega)
  rw [this]
  exact ⟨l[j * 2]'(by omega), by simp⟩

theorem exact_self (n : Int) (xs : List (Int × Int)) : exactB n xs n xs = true := by simp [exactB]

set_option maxRecDepth 100000 in
set_option maxHeartbeats 4000000 in
theorem walk (na : Int) (xs : List (Int × Int)) (aa : Option Addr) (ca : Nat) (nb : Int) (ys : List (Int × Int)) (ab : Option Addr) (cb : Nat) (w : World) (hSa : SL w aa xs) (hNa : aa = none → ca = 0) (hSb : SL w ab ys) (hNb : ab = none → cb = 0) :
    Calls Try.prog 3 #[.agg #[.int .i64 na, .slice aa xs.length ca], .agg #[.int .i64 nb, .slice ab ys.length cb]] w fun e w' => e = .returned (.bool true) ∧ RowKit.Below w.heap.size w w' := by
  have mx := mixed
  obtain ⟨W0, hW0⟩ : ∃ W0, (w.alloc (.cells #[.int .i64 na, .slice aa xs.length ca] 24)).alloc (.cells #[.int .i64 nb, .slice ab ys.length cb] 24) = W0 := ⟨_, rfl⟩
  have hA : Grew w W0 := by rw [← hW0]; exact ((Grew.refl w).alloc _).alloc _
  have HA0 : Hid (LB W0 w.heap.size na aa ca xs) := ⟨by rw [← hW0]; exact box_at, hSa.below hA.below⟩
  have HB0 : Hid (LB W0 (w.heap.size + 1) nb ab cb ys) := ⟨by rw [← hW0]; exact box_at1, hSb.below hA.below⟩
  have HW0 := Hid.mk hW0
  have HG0 : Hid (RowKit.Below w.heap.size w W0) := hA.below
  have HNa := Hid.mk hNa
  have HNb := Hid.mk hNb
  clear hA hW0 hSa hSb hNa hNb
  go_enter Try.func3, Try.ntmps3
  go_wp2_with fail
  rw [HW0.out]
  refine (alive_any W0).mono ?_
  rintro e w1 ⟨rfl, hb1⟩
  have HA1 := Hid.mk (HA0.out.on hb1)
  have HB1 := Hid.mk (HB0.out.on hb1)
  have HG1 : Hid (RowKit.Below w.heap.size w w1) := HG0.out.trans (hb1.mono HG0.out.size)
  obtain ⟨a0, a1, a2⟩ := HA1.out.cells
  clear hb1 HA0 HB0 HG0 HW0
  by_cases hx : 200 < xs.length
  · have hxd : decide (200 < xs.length) = true := by simp [hx]
    have HBG := fun W => big_any na aa xs.length ca W
    simp only [hxd] at HBG
    go_wp2_with (go_at_call 10; refine (HBG _).mono ?_; rintro e w2 ⟨rfl, hg2⟩)
    go_ret
    exact ⟨rfl, HG1.out.trans (hg2.below.mono HG1.out.size)⟩
  · have hxd : decide (200 < xs.length) = false := by simp; omega
    have HBG := fun W => big_any na aa xs.length ca W
    simp only [hxd] at HBG
    go_wp2_with fail
    refine (HBG _).mono ?_
    rintro e w2 ⟨rfl, hg2⟩
    have HA2 := Hid.mk (HA1.out.on hg2.below)
    have HB2 := Hid.mk (HB1.out.on hg2.below)
    have HG2 : Hid (RowKit.Below w.heap.size w w2) := HG1.out.trans (hg2.below.mono HG1.out.size)
    obtain ⟨b0, b1, b2⟩ := HB2.out.cells
    clear HBG a0 a1 hg2 HA1 HB1 HG1
    by_cases hy : 200 < ys.length
    · have hyd : decide (200 < ys.length) = true := by simp [hy]
      have HBH := fun W => big_any nb ab ys.length cb W
      simp only [hyd] at HBH
      go_wp2_with (go_at_call 10; refine (HBH _).mono ?_; rintro e w3 ⟨rfl, hg3⟩)
      go_ret
      exact ⟨rfl, HG2.out.trans (hg3.below.mono HG2.out.size)⟩
    · have hyd : decide (200 < ys.length) = false := by simp; omega
      have HBH := fun W => big_any nb ab ys.length cb W
      simp only [hyd] at HBH
      go_wp2_with fail
      refine (HBH _).mono ?_
      rintro e w3 ⟨rfl, hg3⟩
      have HA3 := Hid.mk (HA2.out.on hg3.below)
      have HB3 := Hid.mk (HB2.out.on hg3.below)
      have HG3 : Hid (RowKit.Below w.heap.size w w3) := HG2.out.trans (hg3.below.mono HG2.out.size)
      obtain ⟨a0, a1, a2⟩ := HA3.out.cells
      clear HBH b0 b1 hg3 HA2 HB2 HG2 hxd hyd
      go_wp2_with fail
      refine (Lent_any na xs aa ca w3 HA3.out.sl HNa.out (by omega)).mono ?_
      rintro e w4 ⟨g4, c4, rfl, hc4, hO4, hb4⟩
      obtain ⟨W4, hW4⟩ : ∃ W4, w4.alloc (.cells #[.int .i64 na, .slice (some ⟨g4, 0, none⟩) xs.length c4] 24) = W4 := ⟨_, rfl⟩
      have hbb4 : RowKit.Below w4.heap.size w4 W4 := by rw [← hW4]; exact ((Grew.refl _).alloc _).below
      have hF4 : SL w4 (some ⟨g4, 0, none⟩) (xs ++ [(-71, 0)]) := by obtain ⟨p, q, hv, hs, -⟩ := hO4.shape; simp at hv; rw [hv.1]; exact hs
      have HF4 := Hid.mk (hF4.below hbb4)
      have HX4 : Hid (LB W4 w4.heap.size na (some ⟨g4, 0, none⟩) c4 xs) := ⟨by rw [← hW4]; exact alloc_new _ _, HF4.out.prefix⟩
      have HA4 := Hid.mk ((HA3.out.on hb4).on hbb4)
      have HB4 := Hid.mk ((HB3.out.on hb4).on hbb4)
      have HG4 : Hid (RowKit.Below w.heap.size w W4) := (HG3.out.trans (hb4.mono HG3.out.size)).trans (hbb4.mono (HG3.out.trans (hb4.mono HG3.out.size)).size)
      have HW4 := Hid.mk hW4
      obtain ⟨x0, x1, x2⟩ := HX4.out.cells
      clear hW4 hO4 hb4 hbb4 hF4 HA3 HB3 HG3 a0 a1
      go_wp2_with fail
      rw [HW4.out]
      refine (Norm_any na xs (some ⟨g4, 0, none⟩) c4 W4 HX4.out.sl (by omega)).mono ?_
      rintro e w5 ⟨v5, rfl, hO5, hb5⟩
      obtain ⟨a5, c5, hv5, hS5, hl5⟩ := hO5.shape
      have NR := fun (W : World) (h : LB W w.heap.size na aa ca xs) => rNorm_any na xs aa ca W h.sl (by omega)
      have hN5 : (normR na xs).2.1.length ≤ 64 := norm_len na xs
      generalize normR na xs = D1 at *
      subst hv5
      obtain ⟨W5, hW5⟩ : ∃ W5, w5.alloc (.cells #[.int .i64 D1.1, .slice a5 D1.2.1.length c5] 24) = W5 := ⟨_, rfl⟩
      have hbb5 : RowKit.Below w5.heap.size w5 W5 := by rw [← hW5]; exact ((Grew.refl _).alloc _).below
      have HX5 : Hid (LB W5 w5.heap.size D1.1 a5 c5 D1.2.1) := by unfold Hid; rw [← hW5]; exact LB.new hS5
      have HA5 := Hid.mk ((HA4.out.on hb5).on hbb5)
      have hB5 := HB4.out.on hb5
      obtain ⟨b0, b1, b3⟩ := hB5.cells
      have HB5 := Hid.mk (hB5.on hbb5)
      have HF5 := Hid.mk ((HF4.out.below hb5).below hbb5)
      have HX45 := Hid.mk ((HX4.out.on hb5).on hbb5)
      have HG5 : Hid (RowKit.Below w.heap.size w W5) := (HG4.out.trans (hb5.mono HG4.out.size)).trans (hbb5.mono (HG4.out.trans (hb5.mono HG4.out.size)).size)
      have HW5 := Hid.mk hW5
      clear hW5 hO5 hb5 hbb5 hS5 HA4 HB4 HX4 HG4 HF4 HW4 hB5 x0 x1
      go_wp2_with fail
      rw [HW5.out]
      refine (Norm_any nb ys ab cb W5 HB5.out.sl (by omega)).mono ?_
      rintro e w6 ⟨v6, rfl, hO6, hb6⟩
      have hN6 : (normR nb ys).2.1.length ≤ 64 := norm_len nb ys
      generalize normR nb ys = D2 at *
      obtain ⟨a6, c6, hv6, hS6, hl6⟩ := hO6.shape
      subst hv6
      obtain ⟨W6, hW6⟩ : ∃ W6, w6.alloc (.cells #[.int .i64 D2.1, .slice a6 D2.2.1.length c6] 24) = W6 := ⟨_, rfl⟩
      have hbb6 : RowKit.Below w6.heap.size w6 W6 := by rw [← hW6]; exact ((Grew.refl _).alloc _).below
      have HX6 : Hid (LB W6 w6.heap.size D2.1 a6 c6 D2.2.1) := by unfold Hid; rw [← hW6]; exact LB.new hS6
      have HO6 : Hid (OR W5.heap.size W6 (.slice a6 D2.2.1.length c6) D2.2.1) := hO6.below hbb6
      have HB56 : Hid (RowKit.Below W5.heap.size W5 W6) := hb6.trans (hbb6.mono hb6.size)
      have hz6 : W5.heap.size ≤ w6.heap.size := hb6.size
      have hz66 : w6.heap.size < W6.heap.size := by rw [← hW6]; simp
      have HW6 := Hid.mk hW6
      clear hW6 hO6 hb6 hbb6 hS6 b0 b1
      go_wp2_with fail
      rw [HW6.out]
      go_loopw [11] (fun i wr => ∃ (j : Nat) (l : List Value), j ≤ D2.2.1.length ∧ i = .int .i64 j ∧ RowKit.Below W5.heap.size W5 wr ∧ wr.heap[w6.heap.size]? = some (.cells #[.int .i64 D2.1, .slice a6 D2.2.1.length c6] 24 (0, 0)) ∧ wr.ownsRow W5.heap.size 32 2 (.slice a6 D2.2.1.length c6) D2.2.1.length l) (fun i _ => D2.2.1.length - (intOf i).toNat)
      case atStart => exact ⟨0, flat D2.2.1, Nat.zero_le _, rfl, HB56.out, HX6.out.heap, HO6.out⟩
      case round =>
        obtain ⟨j, l, hj, rfl, hb, hh, hown⟩ := hrel
        have HBr := Hid.mk hb
        have HHr := Hid.mk hh
        have HOr := Hid.mk hown
        obtain ⟨q0, q1, -, -, q4⟩ := cells2 hh
        have hzr := hb.size
        clear hb hh hown
        by_cases hlt : j < D2.2.1.length
        · obtain ⟨g, cg, hv⟩ := ownsRow_some HOr.out (by omega)
          simp only [Value.slice.injEq, true_and] at hv
          obtain ⟨rfl, rfl⟩ := hv
          obtain ⟨u, hu⟩ := owns_cell HOr.out hlt
          have hfz := World.ownsRow.frozenAt HOr.out (j * 2)
          obtain ⟨hg1, hg2⟩ := World.ownsRow.lt HOr.out g rfl
          have hne : g ≠ w6.heap.size := fun e => owns_box HOr.out HHr.out (by rw [← e]; rfl)
          have zj : (j : Int) < (D2.2.1.length : Int) := by omega
          go_wp2
          refine ⟨⟨j + 1, l.set (j * 2) (.int .i64 (-1)), hlt, by go_num, HBr.out.setCell (p := ⟨g, j * 2, none⟩) hg1 _, (Below.heap_setCell _ _ _ _ (Ne.symm hne)).trans HHr.out, (World.ownsRow.stored HOr.out (j * 2) _).1⟩, by simp [intOf]; omega⟩
        · have HAr := Hid.mk (HA5.out.on HBr.out)
          have HFr := Hid.mk (HF5.out.below HBr.out)
          have HX4r := Hid.mk (HX45.out.on HBr.out)
          have HX5r := Hid.mk (HX5.out.on HBr.out)
          have HGr : Hid (RowKit.Below w.heap.size w wr) := HG5.out.trans (HBr.out.mono HG5.out.size)
          obtain ⟨a0, a1, a3⟩ := HAr.out.cells
          clear HA5 HF5 HX45 HX5 HG5 HB56 HX6 HO6 HOr HHr HBr
          go_wp2_with fail
          refine (NR _ HAr.out).mono ?_
          rintro e w7 ⟨v7, rfl, hO7, hb7⟩
          obtain ⟨a7, c7, hv7, hS7, hl7⟩ := hO7.shape
          subst hv7
          obtain ⟨W7, hW7⟩ : ∃ W7, w7.alloc (.cells #[.int .i64 D1.1, .slice a7 D1.2.1.length c7] 24) = W7 := ⟨_, rfl⟩
          have hbb7 : RowKit.Below w7.heap.size w7 W7 := by rw [← hW7]; exact ((Grew.refl _).alloc _).below
          have HX7 : Hid (LB W7 w7.heap.size D1.1 a7 c7 D1.2.1) := by unfold Hid; rw [← hW7]; exact LB.new hS7
          have hA7 := HAr.out.on hb7
          have hX47 := HX4r.out.on hb7
          obtain ⟨p0, p1, p2⟩ := hA7.cells
          obtain ⟨x0, x1, x2⟩ := hX47.cells
          have HA7 := Hid.mk (hA7.on hbb7)
          have HX57 := Hid.mk ((HX5r.out.on hb7).on hbb7)
          have HF7 := Hid.mk ((HFr.out.below hb7).below hbb7)
          have HG7 : Hid (RowKit.Below w.heap.size w W7) := (HGr.out.trans (hb7.mono HGr.out.size)).trans (hbb7.mono (HGr.out.trans (hb7.mono HGr.out.size)).size)
          have HW7 := Hid.mk hW7
          clear hW7 hO7 hb7 hbb7 hS7 hA7 hX47 HAr HFr HX4r HX5r HGr NR a0 a1
          go_wp2_with fail
          rw [HW7.out]
          refine (Stay_any na xs aa ca g4 c4 W7 HA7.out.sl HF7.out hc4 (by omega)).mono ?_
          rintro e w8 ⟨rfl, hb8⟩
          have HX58 := Hid.mk (HX57.out.on hb8)
          have HX78 := Hid.mk (HX7.out.on hb8)
          have HG8 : Hid (RowKit.Below w.heap.size w w8) := HG7.out.trans (hb8.mono HG7.out.size)
          obtain ⟨s0, s1, s2⟩ := HX58.out.cells
          obtain ⟨t0, t1, t2⟩ := HX78.out.cells
          clear hb8 HX57 HX7 HG7 p0 p1 x0 x1
          have EX := Exact_any D1.1 D1.1 D1.2.1 D1.2.1 a5 a7 c5 c7 w8 HX58.out.sl HX78.out.sl (by omega) (by omega)
          rw [exact_self] at EX
          go_wp2_with fail
          refine (num_any _ _).mono ?_
          rintro e w9 ⟨rfl, hw9⟩
          have hw9' := hw9.symm
          subst hw9'
          go_wp2_with fail
          refine EX.mono ?_
          rintro e w10 ⟨rfl, hg10⟩
          go_wp2
          go_ret
          exact ⟨rfl, HG8.out.trans (hg10.below.mono HG8.out.size)⟩

set_option maxRecDepth 100000 in
theorem lifted (os : Os) (started : os.Started) (H : Type) (enc : TypeId × Value → H) :
    ReturnsInHanded {} Try.checked os 3 .any (Rows.levelNormsSpec.pre6 enc Try.prog Try.f3 Rows.levelNormsRow.domain false) (Rows.levelNormsSpec.post enc Try.prog Try.f3 false true false false) := by
  refine returnsInHanded_of_change (C := Try.checked) own started (by kernel_rfl) Try.func3
    (ChangeSpec.witness6 (enc := enc) (C := Try.checked) false ⟨#[], #[.agg #[.int .i64 0, .slice none 0 0], .agg #[.int .i64 0, .slice none 0 0]], []⟩ 8 (by kernel_rfl) (by kernel_rfl) (by kernel_rfl) (by kernel_rfl)) ?_
  intro W base args ds gs before hval0 hW hcnd _
  have hval : ∀ (j : Nat) t v, Try.f3.params[j]? = some t → args[j]? = some v → Value.okWide Try.prog W .any base t v := hval0
  have hW' := hW
  obtain ⟨p, q, hA0, hV, rfl, hfz, hnd⟩ := hW
  have hA : DataW.TrodAll enc Try.prog W 0 (fun _ => true) true Try.f3.params.toList args.toList ds p := hA0
  rw [Try.params3] at hA hval
  obtain ⟨v0, v1, d0, d1, p0, p1, rfl, rfl, rfl, h0, h1⟩ := trodAll_two hA
  obtain ⟨rfl, rfl⟩ := trodVars_none hV
  have k0 := h0
  have lt0 : ∀ x ∈ p0, x.block < W.heap.size := by obtain ⟨m, hm⟩ := k0; exact DataW.trod_lt m _ _ _ hm
  obtain ⟨n0, xs0, a0, c0, rfl, hS0, hN0⟩ := open_level2 (hval 0 24 v0 rfl rfl) h0
  have k1 := h1
  have lt1 : ∀ x ∈ p1, x.block < W.heap.size := by obtain ⟨m, hm⟩ := k1; exact DataW.trod_lt m _ _ _ hm
  obtain ⟨n1, xs1, a1, c1, rfl, hS1, hN1⟩ := open_level2 (hval 1 24 v1 rfl rfl) h1
  clear hA0 hval0
  refine (walk n0 xs0 a0 c0 n1 xs1 a1 c1 W hS0 hN0 hS1 hN1).mono fun e W' ⟨he, bel⟩ => ?_
  subst he
  exact ⟨_, rfl, _, _, _, [], _, [], hW', trodAll_mk1 (shut_bool Try.underlying4 _), trodAll_mk2 (Below.trod laidOut (by kernel_rfl) (of_decide_eq_true (by kernel_rfl)) k0 bel lt0) (Below.trod laidOut (by kernel_rfl) (of_decide_eq_true (by kernel_rfl)) k1 bel lt1), rfl, bel.frame _, fun h => by cases h⟩

theorem over : Rows.levelNormsRow.holds Try.pinned (OpenSpec.ofChange Rows.levelNormsSpec) :=
  OpenClaim.holds_of_wide 3 Try.f3 rfl rfl rfl rfl rfl rfl rfl ⟨rfl, rfl, rfl, rfl, rfl⟩ rfl rfl rfl rfl rfl (by kernel_rfl) Try.func3 (by kernel_rfl)
    (of_decide_eq_true (by kernel_rfl)) (by unfold Func.isWrapper; first | (rw [if_pos (by decide +kernel)]; kernel_rfl) | (rw [if_neg (by decide +kernel)]; exact ⟨rfl, rfl⟩))
    (fun os started H enc _ => lifted os started H enc)

end levelNorms

theorem levelNorms_holds : Rows.LevelNormsSaid := levelNorms.over
#print axioms levelNorms_holds
end Go.Proofs.Ytphemmifckdjjaa
