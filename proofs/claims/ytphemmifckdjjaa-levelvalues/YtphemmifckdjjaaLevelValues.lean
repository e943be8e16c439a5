/- For every two levels, every number and every list of numbers: LevelValues answers true, and leaves its arguments as they were; no condition. -/
import Derived.Test.YtphemmifckdjjaaMV
import Derived.Test.YtphemmifckdjjaaRH
import Derived.Test.YtphemmifckdjjaaRJ
import Derived.Test.YtphemmifckdjjaaLB
namespace Go.Proofs.Ytphemmifckdjjaa
namespace levelValues
open Go.ChangeShapes Go.WideShapes Go.ChangeAt Go.RowKit Go.Sort

theorem ev_def (vs : List Int) (n : Int) (xs : List (Int × Int)) : (if rightB n xs then evalL vs n xs else 0) = evR vs n xs := rfl

set_option maxHeartbeats 400000 in
theorem max2_any (x y : Int) (w : World) : Calls Try.prog 29 #[.int .i64 x, .int .i64 y] w fun e w' => e = .returned (.int .i64 (max x y)) ∧ w' = w := by
  by_cases h : x < y
  · have HE : Hid (max x y = y) := by unfold Hid; omega
    go_enter Try.func29, Try.ntmps29
    go_wp2
    go_ret
    exact ⟨by rw [HE.out]; rfl, rfl⟩
  · have HE : Hid (max x y = x) := by unfold Hid; omega
    go_enter Try.func29, Try.ntmps29
    go_wp2
    go_ret
    exact ⟨by rw [HE.out]; rfl, rfl⟩

theorem canon_len (n : Int) (xs : List (Int × Int)) : (canonR n xs).2.1.length ≤ 64 := by
  unfold canonR
  split
  · rename_i h; exact (right_n h).2.2
  · simp

theorem suc_len (n : Int) (xs : List (Int × Int)) (k : Int) : (sucR n xs k).2.1.length ≤ 64 := by
  unfold sucR
  split
  · split
    · simp
    · exact canon_len _ _
  · simp

theorem max_len (na nb : Int) (xs ys : List (Int × Int)) : (maxR na xs nb ys).2.1.length ≤ 64 := by
  unfold maxR
  split
  · exact canon_len _ _
  · simp

set_option maxRecDepth 100000 in
set_option maxHeartbeats 4000000 in
theorem walk (na : Int) (xs : List (Int × Int)) (aa : Option Addr) (ca : Nat) (nb : Int) (ys : List (Int × Int)) (ab : Option Addr) (cb : Nat) (k : Int) (vs : List Int) (va : Option Addr) (vc : Nat) (w : World) (hSa : SL w aa xs) (hNa : aa = none → ca = 0) (hSb : SL w ab ys) (hNb : ab = none → cb = 0) (hV : IL w va vs) :
    Calls Try.prog 6 #[.agg #[.int .i64 na, .slice aa xs.length ca], .agg #[.int .i64 nb, .slice ab ys.length cb], .int .i64 k, .slice va vs.length vc] w fun e w' => e = .returned (.bool true) ∧ RowKit.Below w.heap.size w w' := by
  have mx := mixed
  obtain ⟨W0, hW0⟩ : ∃ W0, (w.alloc (.cells #[.int .i64 na, .slice aa xs.length ca] 24)).alloc (.cells #[.int .i64 nb, .slice ab ys.length cb] 24) = W0 := ⟨_, rfl⟩
  have hA : Grew w W0 := by rw [← hW0]; exact ((Grew.refl w).alloc _).alloc _
  have HA0 : Hid (LB W0 w.heap.size na aa ca xs) := ⟨by rw [← hW0]; exact box_at, hSa.below hA.below⟩
  have HB0 : Hid (LB W0 (w.heap.size + 1) nb ab cb ys) := ⟨by rw [← hW0]; exact box_at1, hSb.below hA.below⟩
  have HV := Hid.mk hV
  have HW0 := Hid.mk hW0
  have HG0 : Hid (RowKit.Below w.heap.size w W0) := hA.below
  have HNa := Hid.mk hNa
  have HNb := Hid.mk hNb
  clear hA hW0 hSa hSb hNa hNb hV
  go_enter Try.func6, Try.ntmps6
  go_wp2_with fail
  rw [HW0.out]
  refine (alive_any W0).mono ?_
  rintro e w1 ⟨rfl, hb1⟩
  have HA1 := Hid.mk (HA0.out.on hb1)
  have HB1 := Hid.mk (HB0.out.on hb1)
  have HG1 : Hid (RowKit.Below w.heap.size w w1) := HG0.out.trans (hb1.mono HG0.out.size)
  obtain ⟨a0, a1, a2⟩ := HA1.out.cells
  clear hb1 HA0 HB0 HG0 HW0
  by_cases hx : 200 < xs.length
  · have hxd : decide (200 < xs.length) = true := by simp [hx]
    have HBG := fun W => big_any na aa xs.length ca W
    simp only [hxd] at HBG
    go_wp2_with (go_at_call 10; refine (HBG _).mono ?_; rintro e w2 ⟨rfl, hg2⟩)
    go_ret
    exact ⟨rfl, HG1.out.trans (hg2.below.mono HG1.out.size)⟩
  · have hxd : decide (200 < xs.length) = false := by simp; omega
    have HBG := fun W => big_any na aa xs.length ca W
    simp only [hxd] at HBG
    go_wp2_with fail
    refine (HBG _).mono ?_
    rintro e w2 ⟨rfl, hg2⟩
    have HA2 := Hid.mk (HA1.out.on hg2.below)
    have HB2 := Hid.mk (HB1.out.on hg2.below)
    have HG2 : Hid (RowKit.Below w.heap.size w w2) := HG1.out.trans (hg2.below.mono HG1.out.size)
    obtain ⟨b0, b1, b2⟩ := HB2.out.cells
    clear HBG a0 a1 hg2 HA1 HB1 HG1
    by_cases hy : 200 < ys.length
    · have hyd : decide (200 < ys.length) = true := by simp [hy]
      have HBH := fun W => big_any nb ab ys.length cb W
      simp only [hyd] at HBH
      go_wp2_with (go_at_call 10; refine (HBH _).mono ?_; rintro e w3 ⟨rfl, hg3⟩)
      go_ret
      exact ⟨rfl, HG2.out.trans (hg3.below.mono HG2.out.size)⟩
    · have hyd : decide (200 < ys.length) = false := by simp; omega
      have HBH := fun W => big_any nb ab ys.length cb W
      simp only [hyd] at HBH
      go_wp2_with fail
      refine (HBH _).mono ?_
      rintro e w3 ⟨rfl, hg3⟩
      have HA3 := Hid.mk (HA2.out.on hg3.below)
      have HB3 := Hid.mk (HB2.out.on hg3.below)
      have HG3 : Hid (RowKit.Below w.heap.size w w3) := HG2.out.trans (hg3.below.mono HG2.out.size)
      obtain ⟨a0, a1, a2⟩ := HA3.out.cells
      clear HBH b0 b1 hg3 HA2 HB2 HG2 hxd hyd
      rcases (show 100 < vs.length ∨ (vs.length ≤ 100 ∧ k < 0) ∨ (vs.length ≤ 100 ∧ 0 ≤ k ∧ 100 < k) ∨ (vs.length ≤ 100 ∧ 0 ≤ k ∧ k ≤ 100) by omega) with hv | ⟨hv, hk⟩ | ⟨hv, hk, hk1⟩ | ⟨hv, hk, hk1⟩
      · go_wp2
        go_ret
        exact ⟨rfl, HG3.out⟩
      · go_wp2
        go_ret
        exact ⟨rfl, HG3.out⟩
      · go_wp2
        go_ret
        exact ⟨rfl, HG3.out⟩
      · go_wp2
        have HV3 := Hid.mk (HV.out.below HG3.out)
        go_loopw [10] (fun i wr => ∃ j : Nat, j ≤ vs.length ∧ i = .int .i64 j ∧ wr = w3 ∧ ∀ x ∈ vs.take j, x ≤ 1000000) (fun i _ => vs.length - (intOf i).toNat)
        case atStart => exact ⟨0, Nat.zero_le _, rfl, rfl, by simp⟩
        case round =>
          obtain ⟨j, hj, rfl, hwr, hall⟩ := hrel
          have hwr := hwr.symm
          subst hwr
          have HALL := Hid.mk hall
          clear hall
          by_cases hlt : j < vs.length
          · obtain ⟨b, off, x, rfl, hbl, hc0, hxy⟩ := HV3.out.at hlt
            have zj : (j : Int) < (vs.length : Int) := by omega
            by_cases hbig : 1000000 < x
            · go_wp2
              go_ret
              exact ⟨rfl, HG3.out⟩
            · have hle : x ≤ 1000000 := by omega
              go_wp2
              refine ⟨⟨j + 1, hlt, by go_num, by first | trivial | rfl, fun y hy => ?_⟩, by simp [intOf]; omega⟩
              obtain ⟨hj2, he⟩ := List.getElem?_eq_some_iff.1 hxy.out
              rw [List.take_succ_eq_append_getElem hj2] at hy
              rcases List.mem_append.1 hy with h | h
              · exact HALL.out y h
              · simp at h; rw [h, he]; exact hle
          · have hvb : ∀ x ∈ vs, x ≤ 1000000 := by have := HALL.out; rw [List.take_of_length_le (by omega)] at this; exact this
            obtain ⟨bx0, bx1⟩ := ev_bd hvb na xs
            obtain ⟨by0, by1⟩ := ev_bd hvb nb ys
            have EA := fun (W : World) (h : LB W w.heap.size na aa ca xs) (g : RowKit.Below w.heap.size w W) => Eval_any na xs aa ca vs va vc W h.sl (by omega) (HV.out.below g) (by omega)
            have EB := fun (W : World) (h : LB W (w.heap.size + 1) nb ab cb ys) (g : RowKit.Below w.heap.size w W) => Eval_any nb ys ab cb vs va vc W h.sl (by omega) (HV.out.below g) (by omega)
            have RA := fun (W : World) (h : LB W w.heap.size na aa ca xs) (g : RowKit.Below w.heap.size w W) => rEval_any na xs aa ca vs va vc W h.sl (by omega) (HV.out.below g) (by omega) hvb
            have BA := fun (W : World) (h : LB W w.heap.size na aa ca xs) => Bound_any na xs aa ca W h.sl (by omega)
            have RB := fun (W : World) (h : LB W w.heap.size na aa ca xs) => rBound_any na xs aa ca W h.sl (by omega)
            have MX := fun (W : World) (h1 : LB W w.heap.size na aa ca xs) (h2 : LB W (w.heap.size + 1) nb ab cb ys) => Max_any na nb xs ys aa ab ca cb W h1.sl h2.sl (by omega) (by omega) HNa.out HNb.out
            have SX := fun (W : World) (h1 : LB W w.heap.size na aa ca xs) => Suc_any na k xs aa ca W h1.sl (by omega)
            have LX := fun (W : World) (h1 : LB W w.heap.size na aa ca xs) (h2 : LB W (w.heap.size + 1) nb ab cb ys) => Leq_any na nb xs ys aa ab ca cb W h1.sl h2.sl (by omega) (by omega)
            have HLE : Hid (leqB na xs nb ys = true → evR vs na xs ≤ evR vs nb ys) := fun h => ev_leq h
            have HEM : Hid ((maxR na xs nb ys).2.2 = 0 → evR vs (maxR na xs nb ys).1 (maxR na xs nb ys).2.1 = max (evR vs na xs) (evR vs nb ys)) := fun h => ev_max h
            have HES : Hid ((sucR na xs k).2.2 = 0 → evR vs (sucR na xs k).1 (sucR na xs k).2.1 = evR vs na xs + k) := fun h => ev_suc hk (by omega) h
            have hML : (maxR na xs nb ys).2.1.length ≤ 64 := max_len na nb xs ys
            have hSL : (sucR na xs k).2.1.length ≤ 64 := suc_len na xs k
            generalize maxR na xs nb ys = D2 at *
            generalize sucR na xs k = D1 at *
            generalize leqB na xs nb ys = r at *
            have EM := fun (a' : Option Addr) (c' : Nat) (W : World) (h : SL W a' D2.2.1) (g : RowKit.Below w.heap.size w W) => Eval_any D2.1 D2.2.1 a' c' vs va vc W h (by omega) (HV.out.below g) (by omega)
            have ES := fun (a' : Option Addr) (c' : Nat) (W : World) (h : SL W a' D1.2.1) (g : RowKit.Below w.heap.size w W) => Eval_any D1.1 D1.2.1 a' c' vs va vc W h (by omega) (HV.out.below g) (by omega)
            simp only [ev_def] at EA EB RA EM ES
            generalize evR vs na xs = X at *
            generalize evR vs nb ys = Y at *
            generalize (if rightB na xs = true then boundL xs else 0) = Bd at *
            have HVB := Hid.mk hvb
            clear hvb
            go_wp2_with fail
            refine (EA _ HA3.out HG3.out).mono ?_
            rintro e w4 ⟨rfl, hg4⟩
            have HA4 := Hid.mk (HA3.out.on hg4.below)
            have HB4 := Hid.mk (HB3.out.on hg4.below)
            have HG4 : Hid (RowKit.Below w.heap.size w w4) := HG3.out.trans (hg4.below.mono HG3.out.size)
            obtain ⟨b0, b1, b2⟩ := HB4.out.cells
            clear hg4 a0 a1
            go_wp2_with fail
            refine (EB _ HB4.out HG4.out).mono ?_
            rintro e w5 ⟨rfl, hg5⟩
            have HA5 := Hid.mk (HA4.out.on hg5.below)
            have HB5 := Hid.mk (HB4.out.on hg5.below)
            have HG5 : Hid (RowKit.Below w.heap.size w w5) := HG4.out.trans (hg5.below.mono HG4.out.size)
            obtain ⟨a0, a1, a3⟩ := HA5.out.cells
            clear hg5 b0 b1 EA EB HA4 HB4 HA3 HB3
            go_wp2_with fail
            have cel : Hid (∀ W : World, LB W w.heap.size na aa ca xs → W.cell? ⟨w.heap.size, 0, none⟩ = some (.int .i64 na) ∧ W.cell? ⟨w.heap.size, 1, none⟩ = some (.slice aa xs.length ca)) := fun W h => ⟨h.cells.1, h.cells.2.1⟩
            go_region_held3 (fun w' => w'.cell? ⟨w.heap.size, 0, none⟩ = some (.int .i64 na) ∧ w'.cell? ⟨w.heap.size, 1, none⟩ = some (.slice aa xs.length ca)) (first | exact cel.out _ HA8.out | exact cel.out _ HA7.out | exact cel.out _ HA6.out | exact cel.out _ (HA5.out.on (Below.refl _ _).drew))
              (first | (go_at_call 26; refine (RA _ (HA5.out.on (Below.refl _ _).drew) HG5.out.drew).mono ?_; rintro e w6 ⟨rfl, hg6⟩; have HA6 := Hid.mk ((HA5.out.on (Below.refl _ _).drew).on hg6.below); have HB6 := Hid.mk ((HB5.out.on (Below.refl _ _).drew).on hg6.below); have HG6 : Hid (RowKit.Below w.heap.size w w6) := HG5.out.drew.trans (hg6.below.mono HG5.out.size); clear hg6) | (go_at_call 27; refine (BA _ HA6.out).mono ?_; rintro e w7 ⟨rfl, hg7⟩; have HA7 := Hid.mk (HA6.out.on hg7.below); have HB7 := Hid.mk (HB6.out.on hg7.below); have HG7 : Hid (RowKit.Below w.heap.size w w7) := HG6.out.trans (hg7.below.mono HG6.out.size); clear hg7) | (go_at_call 28; refine (RB _ HA7.out).mono ?_; rintro e w8 ⟨rfl, hg8⟩; have HA8 := Hid.mk (HA7.out.on hg8.below); have HB8 := Hid.mk (HB7.out.on hg8.below); have HG8 : Hid (RowKit.Below w.heap.size w w8) := HG7.out.trans (hg8.below.mono HG7.out.size); clear hg8))
            obtain ⟨a0, a1, a3⟩ := HA8.out.cells
            obtain ⟨b0, b1, b3⟩ := HB8.out.cells
            clear cel HA5 HB5 HA6 HB6 HA7 HB7 RA BA RB
            go_wp2_with fail
            refine (LX _ HA8.out HB8.out).mono ?_
            rintro e w9 ⟨rfl, hb9⟩
            have HA9 := Hid.mk (HA8.out.on hb9)
            have HB9 := Hid.mk (HB8.out.on hb9)
            have HG9 : Hid (RowKit.Below w.heap.size w w9) := HG8.out.trans (hb9.mono HG8.out.size)
            clear hb9 a0 a1 b0 b1 HA8 HB8 LX
            obtain ⟨a0, a1, a4⟩ := HA9.out.cells
            obtain ⟨b0, b1, b4⟩ := HB9.out.cells
            have HXY : Hid (r = true → ¬ Y < X) := fun h => by have := HLE.out h; omega
            clear HLE
            cases r
            all_goals
              try (have hxy := HXY.out rfl)
              clear HXY
              go_wp2_with fail
              refine (MX _ HA9.out HB9.out).mono ?_
              rintro e w10 ⟨v10, rfl, hO10, hb10⟩
              obtain ⟨a10, c10, hv10, hS10, hl10⟩ := hO10.shape
              subst hv10
              obtain ⟨W10, hW10⟩ : ∃ W10, w10.alloc (.cells #[.int .i64 D2.1, .slice a10 D2.2.1.length c10] 24) = W10 := ⟨_, rfl⟩
              have hbb10 : RowKit.Below w10.heap.size w10 W10 := by rw [← hW10]; exact ((Grew.refl _).alloc _).below
              have HX10 : Hid (LB W10 w10.heap.size D2.1 a10 c10 D2.2.1) := by unfold Hid; rw [← hW10]; exact LB.new hS10
              have HA10 := Hid.mk ((HA9.out.on hb10).on hbb10)
              have HG10 : Hid (RowKit.Below w.heap.size w W10) := (HG9.out.trans (hb10.mono HG9.out.size)).trans (hbb10.mono (HG9.out.trans (hb10.mono HG9.out.size)).size)
              have HW10 := Hid.mk hW10
              obtain ⟨m0, m1, m2⟩ := HX10.out.cells
              clear hW10 hO10 hb10 hbb10 hS10 a0 a1 b0 b1 MX
              by_cases hem : D2.2.2 = 0
              · have hev := HEM.out hem
                simp only [hev] at EM
                go_wp2_with fail
                rw [HW10.out]
                refine (num_any _ _).mono ?_
                rintro e w11 ⟨rfl, hw11⟩
                have hw11' := hw11.symm
                subst hw11'
                go_wp2_with fail
                refine (EM a10 c10 _ HX10.out.sl HG10.out).mono ?_
                rintro e w15 ⟨rfl, hg15⟩
                have HA15 := Hid.mk (HA10.out.on hg15.below)
                have HG15 : Hid (RowKit.Below w.heap.size w w15) := HG10.out.trans (hg15.below.mono HG10.out.size)
                clear hg15
                go_wp2_with fail
                refine (max2_any _ _ _).mono ?_
                rintro e w16 ⟨rfl, hw16⟩
                have hw16' := hw16.symm
                subst hw16'
                have HA11 := HA15
                have HG11 := HG15
                obtain ⟨p0, p1, p2⟩ := HA11.out.cells
                go_wp2_with fail
                refine (SX _ HA11.out).mono ?_
                rintro e w12 ⟨v12, rfl, hO12, hb12⟩
                obtain ⟨a12, c12, hv12, hS12, hl12⟩ := hO12.shape
                subst hv12
                obtain ⟨W12, hW12⟩ : ∃ W12, w12.alloc (.cells #[.int .i64 D1.1, .slice a12 D1.2.1.length c12] 24) = W12 := ⟨_, rfl⟩
                have hbb12 : RowKit.Below w12.heap.size w12 W12 := by rw [← hW12]; exact ((Grew.refl _).alloc _).below
                have HX12 : Hid (LB W12 w12.heap.size D1.1 a12 c12 D1.2.1) := by unfold Hid; rw [← hW12]; exact LB.new hS12
                have HG12 : Hid (RowKit.Below w.heap.size w W12) := (HG11.out.trans (hb12.mono HG11.out.size)).trans (hbb12.mono (HG11.out.trans (hb12.mono HG11.out.size)).size)
                have HW12 := Hid.mk hW12
                obtain ⟨s0, s1, s2⟩ := HX12.out.cells
                clear hW12 hO12 hb12 hbb12 hS12
                by_cases hes : D1.2.2 = 0
                · have hev := HES.out hes
                  simp only [hev] at ES
                  go_wp2_with fail
                  rw [HW12.out]
                  refine (num_any _ _).mono ?_
                  rintro e w13 ⟨rfl, hw13⟩
                  have hw13' := hw13.symm
                  subst hw13'
                  go_wp2_with fail
                  refine (ES a12 c12 _ HX12.out.sl HG12.out).mono ?_
                  rintro e w14 ⟨rfl, hg14⟩
                  go_wp2
                  go_ret
                  exact ⟨rfl, HG12.out.trans (hg14.below.mono HG12.out.size)⟩
                · have hes' : (D1.2.2 != 0) = true := by simp [hes]
                  go_wp2_with fail
                  rw [HW12.out]
                  refine (num_any _ _).mono ?_
                  rintro e w13 ⟨rfl, hw13⟩
                  have hw13' := hw13.symm
                  subst hw13'
                  go_wp2
                  go_ret
                  exact ⟨rfl, HG12.out⟩
              · have hem' : (D2.2.2 == 0) = false := by simp [hem]
                go_wp2_with fail
                rw [HW10.out]
                refine (num_any _ _).mono ?_
                rintro e w11 ⟨rfl, hw11⟩
                have hw11' := hw11.symm
                subst hw11'
                have HA11 := HA10
                have HG11 := HG10
                obtain ⟨p0, p1, p2⟩ := HA11.out.cells
                go_wp2_with fail
                refine (SX _ HA11.out).mono ?_
                rintro e w12 ⟨v12, rfl, hO12, hb12⟩
                obtain ⟨a12, c12, hv12, hS12, hl12⟩ := hO12.shape
                subst hv12
                obtain ⟨W12, hW12⟩ : ∃ W12, w12.alloc (.cells #[.int .i64 D1.1, .slice a12 D1.2.1.length c12] 24) = W12 := ⟨_, rfl⟩
                have hbb12 : RowKit.Below w12.heap.size w12 W12 := by rw [← hW12]; exact ((Grew.refl _).alloc _).below
                have HX12 : Hid (LB W12 w12.heap.size D1.1 a12 c12 D1.2.1) := by unfold Hid; rw [← hW12]; exact LB.new hS12
                have HG12 : Hid (RowKit.Below w.heap.size w W12) := (HG11.out.trans (hb12.mono HG11.out.size)).trans (hbb12.mono (HG11.out.trans (hb12.mono HG11.out.size)).size)
                have HW12 := Hid.mk hW12
                obtain ⟨s0, s1, s2⟩ := HX12.out.cells
                clear hW12 hO12 hb12 hbb12 hS12
                by_cases hes : D1.2.2 = 0
                · have hev := HES.out hes
                  simp only [hev] at ES
                  go_wp2_with fail
                  rw [HW12.out]
                  refine (num_any _ _).mono ?_
                  rintro e w13 ⟨rfl, hw13⟩
                  have hw13' := hw13.symm
                  subst hw13'
                  go_wp2_with fail
                  refine (ES a12 c12 _ HX12.out.sl HG12.out).mono ?_
                  rintro e w14 ⟨rfl, hg14⟩
                  go_wp2
                  go_ret
                  exact ⟨rfl, HG12.out.trans (hg14.below.mono HG12.out.size)⟩
                · have hes' : (D1.2.2 != 0) = true := by simp [hes]
                  go_wp2_with fail
                  rw [HW12.out]
                  refine (num_any _ _).mono ?_
                  rintro e w13 ⟨rfl, hw13⟩
                  have hw13' := hw13.symm
                  subst hw13'
                  go_wp2
                  go_ret
                  exact ⟨rfl, HG12.out⟩

set_option maxRecDepth 100000 in
theorem lifted (os : Os) (started : os.Started) (H : Type) (enc : TypeId × Value → H) :
    ReturnsInHanded {} Try.checked os 6 .any (Rows.levelValuesSpec.pre6 enc Try.prog Try.f6 Rows.levelValuesRow.domain false) (Rows.levelValuesSpec.post enc Try.prog Try.f6 false true false false) := by
  refine returnsInHanded_of_change (C := Try.checked) own started (by kernel_rfl) Try.func6
    (ChangeSpec.witness6 (enc := enc) (C := Try.checked) false ⟨#[], #[.agg #[.int .i64 0, .slice none 0 0], .agg #[.int .i64 0, .slice none 0 0], .int .i64 0, .slice none 0 0], []⟩ 8 (by kernel_rfl) (by kernel_rfl) (by kernel_rfl) (by kernel_rfl)) ?_
  intro W base args ds gs before hval0 hW hcnd _
  have hval : ∀ (j : Nat) t v, Try.f6.params[j]? = some t → args[j]? = some v → Value.okWide Try.prog W .any base t v := hval0
  have hW' := hW
  obtain ⟨p, q, hA0, hV, rfl, hfz, hnd⟩ := hW
  have hA : DataW.TrodAll enc Try.prog W 0 (fun _ => true) true Try.f6.params.toList args.toList ds p := hA0
  rw [Try.params6] at hA hval
  obtain ⟨v0, v1, v2, v3, d0, d1, d2, d3, p0, p1, p2, p3, rfl, rfl, rfl, h0, h1, h2, h3⟩ := trodAll_four hA
  obtain ⟨rfl, rfl⟩ := trodVars_none hV
  have k0 := h0
  have lt0 : ∀ x ∈ p0, x.block < W.heap.size := by obtain ⟨m, hm⟩ := k0; exact DataW.trod_lt m _ _ _ hm
  obtain ⟨n0, xs0, a0, c0, rfl, hS0, hN0⟩ := open_level2 (hval 0 24 v0 rfl rfl) h0
  have k1 := h1
  have lt1 : ∀ x ∈ p1, x.block < W.heap.size := by obtain ⟨m, hm⟩ := k1; exact DataW.trod_lt m _ _ _ hm
  obtain ⟨n1, xs1, a1, c1, rfl, hS1, hN1⟩ := open_level2 (hval 1 24 v1 rfl rfl) h1
  have k2 := h2
  have lt2 : ∀ x ∈ p2, x.block < W.heap.size := by obtain ⟨m, hm⟩ := k2; exact DataW.trod_lt m _ _ _ hm
  obtain ⟨i2, rfl, rfl, rfl, w2⟩ := open_int Try.underlying3 (hval 2 3 v2 rfl rfl) h2
  have k3 := h3
  have lt3 : ∀ x ∈ p3, x.block < W.heap.size := by obtain ⟨m, hm⟩ := k3; exact DataW.trod_lt m _ _ _ hm
  obtain ⟨vs3, a3, c3, rfl, hS3⟩ := open_ints1 (hval 3 42 v3 rfl rfl) h3
  clear hA0 hval0
  refine (walk n0 xs0 a0 c0 n1 xs1 a1 c1 i2 vs3 a3 c3 W hS0 hN0 hS1 hN1 hS3).mono fun e W' ⟨he, bel⟩ => ?_
  subst he
  exact ⟨_, rfl, _, _, _, [], _, [], hW', trodAll_mk1 (shut_bool Try.underlying4 _), trodAll_mk4 (Below.trod laidOut (by kernel_rfl) (of_decide_eq_true (by kernel_rfl)) k0 bel lt0) (Below.trod laidOut (by kernel_rfl) (of_decide_eq_true (by kernel_rfl)) k1 bel lt1) (Below.trod laidOut (by kernel_rfl) (of_decide_eq_true (by kernel_rfl)) k2 bel lt2) (Below.trod laidOut (by kernel_rfl) (of_decide_eq_true (by kernel_rfl)) k3 bel lt3), rfl, bel.frame _, fun h => by cases h⟩

theorem over : Rows.levelValuesRow.holds Try.pinned (OpenSpec.ofChange Rows.levelValuesSpec) :=
  OpenClaim.holds_of_wide 6 Try.f6 rfl rfl rfl rfl rfl rfl rfl ⟨rfl, rfl, rfl, rfl, rfl⟩ rfl rfl rfl rfl rfl (by kernel_rfl) Try.func6 (by kernel_rfl)
    (of_decide_eq_true (by kernel_rfl)) (by unfold Func.isWrapper; first | (rw [if_pos (by decide +kernel)]; kernel_rfl) | (rw [if_neg (by decide +kernel)]; exact ⟨rfl, rfl⟩))
    (fun os started H enc _ => lifted os started H enc)

end levelValues

theorem levelValues_holds : Rows.LevelValuesSaid := levelValues.over
#print axioms levelValues_holds
end Go.Proofs.Ytphemmifckdjjaa
