/- For every level, every list of levels and every list of numbers: LevelSubsts answers true, and leaves its arguments as they were; no condition. -/
import Derived.Test.YtphemmifckdjjaaRP
import Derived.Test.YtphemmifckdjjaaRQ
import Derived.Test.YtphemmifckdjjaaRK
import Derived.Test.YtphemmifckdjjaaRH2
import Derived.Test.YtphemmifckdjjaaLB
namespace Go.Proofs.Ytphemmifckdjjaa
namespace levelSubsts
open Go.ChangeShapes Go.WideShapes Go.ChangeAt Go.RowKit Go.Sort

theorem infoInt : (Try.prog.info? 3).map (fun i => (i.zero, i.size, i.bytes)) = some (some (.int .i64 0), 1, 8) := by kernel_rfl

theorem ev_def (vs : List Int) (n : Int) (xs : List (Int × Int)) : (if rightB n xs then evalL vs n xs else 0) = evR vs n xs := rfl

theorem exact_self (n : Int) (xs : List (Int × Int)) : exactB n xs n xs = true := by simp [exactB]

theorem canon_len (n : Int) (xs : List (Int × Int)) : (canonR n xs).2.1.length ≤ 64 := by
  unfold canonR
  split
  · rename_i h; exact (right_n h).2.2
  · simp

theorem subst_len (n : Int) (xs : List (Int × Int)) (ls : List Lv) : (substR n xs ls).2.1.length ≤ 64 := by
  unfold substR
  split
  · exact canon_len _ _
  · simp

theorem in_take {vs : List Int} {ls : List Lv} {j : Nat} {n : Int} {xs : List (Int × Int)} (h : ls[j]? = some (n, xs)) : (inVals vs ls).take (j + 1) = (inVals vs ls).take j ++ [evR vs n xs] := by
  obtain ⟨hj, e⟩ := List.getElem?_eq_some_iff.1 h
  have hl : j < (inVals vs ls).length := by unfold inVals; simpa using hj
  rw [List.take_succ_eq_append_getElem hl]
  simp [inVals, e]

theorem in_bd {vs : List Int} (hv : ∀ x ∈ vs, x ≤ 1000000) (ls : List Lv) : ∀ x ∈ inVals vs ls, x ≤ 1001000 := fun x hx => by
  unfold inVals at hx
  obtain ⟨l, -, rfl⟩ := List.mem_map.1 hx
  exact (ev_bd hv _ _).2

set_option maxRecDepth 100000 in
set_option maxHeartbeats 4000000 in
theorem walk (n : Int) (xs : List (Int × Int)) (a : Option Addr) (c : Nat) (ls : List Lv) (la : Option Addr) (lc : Nat) (vs : List Int) (va : Option Addr) (vc : Nat) (w : World) (hS : SL w a xs) (hL : LL w la ls) (hV : IL w va vs) :
    Calls Try.prog 7 #[.agg #[.int .i64 n, .slice a xs.length c], .slice la ls.length lc, .slice va vs.length vc] w fun e w' => e = .returned (.bool true) ∧ RowKit.Below w.heap.size w w' := by
  have mx := mixed
  obtain ⟨i0, hi, iz0, iz1, iz2⟩ := info_parts infoInt
  obtain ⟨W0, hW0⟩ : ∃ W0, w.alloc (.cells #[.int .i64 n, .slice a xs.length c] 24) = W0 := ⟨_, rfl⟩
  have hA : RowKit.Below w.heap.size w W0 := by rw [← hW0]; exact ((Grew.refl w).alloc _).below
  have HX0 : Hid (LB W0 w.heap.size n a c xs) := ⟨by rw [← hW0]; exact alloc_new _ _, hS.below hA⟩
  have HG0 := Hid.mk hA
  have HW0 := Hid.mk hW0
  have HL := Hid.mk hL
  have HV := Hid.mk hV
  clear hS hL hV hA hW0
  go_enter Try.func7, Try.ntmps7
  go_wp2_with fail
  rw [HW0.out]
  refine (alive_any _).mono ?_
  rintro e w1 ⟨rfl, hb1⟩
  have HG1 : Hid (RowKit.Below w.heap.size w w1) := HG0.out.trans (hb1.mono HG0.out.size)
  have HX1 := Hid.mk (HX0.out.on hb1)
  obtain ⟨x0, x1, x2⟩ := HX1.out.cells
  clear hb1 HG0 HX0 HW0
  by_cases hx : 200 < xs.length
  · have hxd : decide (200 < xs.length) = true := by simp [hx]
    have HBG := fun W => big_any n a xs.length c W
    simp only [hxd] at HBG
    go_wp2_with (go_at_call 10; refine (HBG _).mono ?_; rintro e w2 ⟨rfl, hg2⟩)
    go_ret
    exact ⟨rfl, HG1.out.trans (hg2.below.mono HG1.out.size)⟩
  · have hxd : decide (200 < xs.length) = false := by simp; omega
    have HBG := fun W => big_any n a xs.length c W
    simp only [hxd] at HBG
    go_wp2_with fail
    refine (HBG _).mono ?_
    rintro e w2 ⟨rfl, hg2⟩
    have HG2 : Hid (RowKit.Below w.heap.size w w2) := HG1.out.trans (hg2.below.mono HG1.out.size)
    have HX2 := Hid.mk (HX1.out.on hg2.below)
    clear HBG hg2 HG1 hxd HX1 x0 x1
    rcases (show 100 < ls.length ∨ (ls.length ≤ 100 ∧ 100 < vs.length) ∨ (ls.length ≤ 100 ∧ vs.length ≤ 100) by omega) with hl | ⟨hl, hv⟩ | ⟨hl, hv⟩
    · go_wp2
      go_ret
      exact ⟨rfl, HG2.out⟩
    · go_wp2
      go_ret
      exact ⟨rfl, HG2.out⟩
    · go_wp2
      have HL2 := Hid.mk (HL.out.below HG2.out)
      have HV2 := Hid.mk (HV.out.below HG2.out)
      clear HL HV
      go_loopw [8, 9] (fun vin i wr => ∃ (j : Nat) (is : List Int), j ≤ ls.length ∧ i = .int .i64 j ∧ RowKit.Below w2.heap.size w2 wr ∧ OI w2.heap.size wr vin is ∧ is.length = j ∧ ((∀ x ∈ vs, x ≤ 1000000) → is = (inVals vs ls).take j) ∧ ∀ l ∈ ls.take j, l.2.length ≤ 200) (fun _ i _ => ls.length - (intOf i).toNat)
      case atStart => exact ⟨0, [], Nat.zero_le _, rfl, Below.refl _ _, OI.nil _ _, rfl, fun _ => by simp, by simp⟩
      case round =>
        obtain ⟨j, is, hj, rfl, hb, hO, hlen, hin, hall⟩ := hrel
        have HB := Hid.mk hb
        have HO := Hid.mk hO
        have HIN := Hid.mk hin
        have HALL := Hid.mk hall
        have HLEN := Hid.mk hlen
        have hzr := hb.size
        obtain ⟨w3, rfl⟩ : ∃ W, W = wr := ⟨_, rfl⟩
        obtain ⟨via, vic, hvi, -⟩ := hO.shape
        rw [hlen] at hvi
        subst hvi
        clear hb hO hin hall hlen
        by_cases hlt : j < ls.length
        · obtain ⟨b, off, an, axs, a', cap', rfl, hbl, hc0, hc1, hsl, hxy⟩ := (HL2.out.below HB.out).at hlt
          have zj : (j : Int) < (ls.length : Int) := by omega
          by_cases hax : 200 < axs.length
          · have hxd : decide (200 < axs.length) = true := by simp [hax]
            have HBG := fun W => big_any an a' axs.length cap' W
            simp only [hxd] at HBG
            go_wp2_with (go_at_call 10; refine (HBG _).mono ?_; rintro e w4 ⟨rfl, hg4⟩)
            go_ret
            exact ⟨rfl, HG2.out.trans ((HB.out.trans (hg4.below.mono HB.out.size)).mono HG2.out.size)⟩
          · have hxd : decide (200 < axs.length) = false := by simp; omega
            have HBG := fun W => big_any an a' axs.length cap' W
            simp only [hxd] at HBG
            go_wp2_with fail
            refine (HBG _).mono ?_
            rintro e w4 ⟨rfl, hg4⟩
            have HB4 : Hid (RowKit.Below w2.heap.size w2 w4) := HB.out.trans (hg4.below.mono HB.out.size)
            have HO4 := Hid.mk (HO.out.below hg4.below)
            have hd0 := (hg4.below.cell (p := ⟨b, off + j * 2, none⟩) hbl).trans hc0
            have hd1 := (hg4.below.cell (p := ⟨b, off + j * 2 + 1, none⟩) hbl).trans hc1
            have hz4 := hg4.below.size
            have HSL4 := Hid.mk (hsl.below hg4.below)
            have hbl4 : b < w4.heap.size := by omega
            clear HBG hg4 hc0 hc1 hsl HO HB
            go_wp2_with fail
            refine (rEval_both an axs a' cap' vs va vc w4 HSL4.out (by omega) (HV2.out.below HB4.out) (by omega)).mono ?_
            rintro e w5 ⟨r, rfl, hg5, hr⟩
            have HR := Hid.mk hr
            have HB5 : Hid (RowKit.Below w2.heap.size w2 w5) := HB4.out.trans (hg5.below.mono HB4.out.size)
            have HO5 := Hid.mk (HO4.out.below hg5.below)
            have hz5 := HB5.out.size
            clear hg5 hr HO4 HB4 hd0 hd1
            go_wp2_with (first | (at_builtin; refine wpList_append_own _ rfl _ _ 42 rfl w2.heap.size 3 i0 _ 1 8 Try.underlying42 hi iz0 iz1 iz2 rfl (by decide) _ is.length (flatI is) rfl (World.ownsRow.alloc HO5.out _) ⟨w5.heap.size, 0, none⟩ 1 1 [.int .i64 r] rfl rfl (World.news_of_block (cs := #[.int .i64 r]) (t := 3) (fr := (0, 0)) (alloc_new _ _)) (by simp [Value.oneCell']) (by rw [HLEN.out]; simp [maxLen]; omega) (by rw [HLEN.out]; omega) (by simp; omega) ?_; intro v' w6 hown' hgrow _; have HO6 : Hid (OI w2.heap.size w6 v' (is ++ [r])) := (by unfold Hid OI; rw [List.length_append]; simpa [flatI] using hown'); have HB6 : Hid (RowKit.Below w2.heap.size w2 w6) := (HB5.out.alloc hz5 _).grown hgrow (by simp; omega) (fun k e => (World.ownsRow.lt HO5.out k e).1); clear hown' hgrow))
            refine ⟨⟨j + 1, is ++ [r], hlt, by go_num, HB6.out, HO6.out, by simp [HLEN.out], fun h => ?_, fun l hl' => ?_⟩, by simp [intOf]; omega⟩
            · rw [in_take hxy.out, HIN.out h, HR.out h]
            · obtain ⟨hj2, he⟩ := List.getElem?_eq_some_iff.1 hxy.out
              rw [List.take_succ_eq_append_getElem hj2] at hl'
              rcases List.mem_append.1 hl' with h | h
              · exact HALL.out l h
              · simp only [List.mem_singleton] at h
                rw [h, he]; dsimp only; omega
        · have hj' : j = ls.length := by omega
          subst hj'
          rw [List.take_length] at HALL
          have hzi : (inVals vs ls).length = ls.length := by simp [inVals]
          have hin2 : (∀ x ∈ vs, x ≤ 1000000) → is = inVals vs ls := fun h => by rw [HIN.out h, List.take_of_length_le (by omega)]
          have HIN2 := Hid.mk hin2
          have HV3 := Hid.mk (HV2.out.below HB.out)
          have HL3 := Hid.mk (HL2.out.below HB.out)
          have HX3 := Hid.mk (HX2.out.on HB.out)
          have HG3 : Hid (RowKit.Below w.heap.size w w3) := HG2.out.trans (HB.out.mono HG2.out.size)
          clear hzi hin2 HIN HV2 HL2 HX2
          go_wp2
          go_loopw [10] (fun i wr => ∃ j : Nat, j ≤ vs.length ∧ i = .int .i64 j ∧ wr = w3 ∧ ∀ x ∈ vs.take j, x ≤ 1000000) (fun i _ => vs.length - (intOf i).toNat)
          case atStart => exact ⟨0, Nat.zero_le _, rfl, rfl, by simp⟩
          case round =>
            obtain ⟨k, hk, rfl, hwr, hall⟩ := hrel
            have hwr := hwr.symm
            subst hwr
            have HVALL := Hid.mk hall
            clear hall
            by_cases hlt2 : k < vs.length
            · obtain ⟨b, off, x, rfl, hbl, hc0, hxy⟩ := HV3.out.at hlt2
              have zj : (k : Int) < (vs.length : Int) := by omega
              by_cases hbig : 1000000 < x
              · go_wp2
                go_ret
                exact ⟨rfl, HG3.out⟩
              · have hle : x ≤ 1000000 := by omega
                go_wp2
                refine ⟨⟨k + 1, hlt2, by go_num, by first | trivial | rfl, fun y hy => ?_⟩, by simp [intOf]; omega⟩
                obtain ⟨hj2, he⟩ := List.getElem?_eq_some_iff.1 hxy.out
                rw [List.take_succ_eq_append_getElem hj2] at hy
                rcases List.mem_append.1 hy with h | h
                · exact HVALL.out y h
                · simp at h; rw [h, he]; exact hle
            · have hvb : ∀ x ∈ vs, x ≤ 1000000 := by have := HVALL.out; rw [List.take_of_length_le (by omega)] at this; exact this
              have HIS := Hid.mk (HIN2.out hvb)
              have hisb : ∀ x ∈ is, x ≤ 2000000 := fun x hx => by rw [HIS.out] at hx; exact Int.le_trans (in_bd hvb ls x hx) (by decide)
              have HSX := fun (W : World) (h1 : LB W w.heap.size n a c xs) (h2 : LL W la ls) => Subst_any n xs a c ls la lc W h1.sl (by omega) h2 (by omega) (fun l hl => by have := HALL.out l hl; omega)
              have HRX := fun (W : World) (h1 : LB W w.heap.size n a c xs) (h2 : LL W la ls) => rSubst_any n xs a c ls la lc W h1.sl (by omega) h2 (by omega) (fun l hl => by have := HALL.out l hl; omega)
              have HEV : Hid ((substR n xs ls).2.2 = 0 → evR vs (substR n xs ls).1 (substR n xs ls).2.1 = evR is n xs) := fun h => by rw [HIS.out]; exact ev_subst hvb h
              have hDl : (substR n xs ls).2.1.length ≤ 64 := subst_len n xs ls
              generalize substR n xs ls = D at *
              obtain ⟨x0, x1, x2⟩ := HX3.out.cells
              have HISB := Hid.mk hisb
              clear hvb hisb HVALL HIS HIN2
              go_wp2_with fail
              refine (HSX _ HX3.out HL3.out).mono ?_
              rintro e w7 ⟨v7, rfl, hO7, hb7⟩
              obtain ⟨a7, c7, hv7, hS7, -⟩ := hO7.shape
              subst hv7
              obtain ⟨W7, hW7⟩ : ∃ W7, w7.alloc (.cells #[.int .i64 D.1, .slice a7 D.2.1.length c7] 24) = W7 := ⟨_, rfl⟩
              have hbb7 : RowKit.Below w7.heap.size w7 W7 := by rw [← hW7]; exact ((Grew.refl _).alloc _).below
              have HY7 : Hid (LB W7 w7.heap.size D.1 a7 c7 D.2.1) := by unfold Hid; rw [← hW7]; exact LB.new hS7
              have hX7 := HX3.out.on hb7
              obtain ⟨y0, y1, y2⟩ := hX7.cells
              have HX7 := Hid.mk (hX7.on hbb7)
              have HB37 : Hid (RowKit.Below w3.heap.size w3 W7) := hb7.trans (hbb7.mono hb7.size)
              have HW7 := Hid.mk hW7
              clear hW7 hO7 hb7 hbb7 hS7 hX7 x0 x1
              go_wp2_with fail
              rw [HW7.out]
              refine (HRX _ HX7.out (HL3.out.below HB37.out)).mono ?_
              rintro e w8 ⟨v8, rfl, hO8, hb8⟩
              obtain ⟨a8, c8, hv8, hS8, -⟩ := hO8.shape
              subst hv8
              obtain ⟨W8, hW8⟩ : ∃ W8, w8.alloc (.cells #[.int .i64 D.1, .slice a8 D.2.1.length c8] 24) = W8 := ⟨_, rfl⟩
              have hbb8 : RowKit.Below w8.heap.size w8 W8 := by rw [← hW8]; exact ((Grew.refl _).alloc _).below
              have HZ8 : Hid (LB W8 w8.heap.size D.1 a8 c8 D.2.1) := by unfold Hid; rw [← hW8]; exact LB.new hS8
              have HY8 := Hid.mk ((HY7.out.on hb8).on hbb8)
              have HX8 := Hid.mk ((HX7.out.on hb8).on hbb8)
              have HB38 : Hid (RowKit.Below w3.heap.size w3 W8) := HB37.out.trans ((hb8.trans (hbb8.mono hb8.size)).mono HB37.out.size)
              have HW8 := Hid.mk hW8
              obtain ⟨s0, s1, s2⟩ := HY8.out.cells
              obtain ⟨t0, t1, t2⟩ := HZ8.out.cells
              clear hW8 hO8 hb8 hbb8 hS8 HX7 HY7 HB37 y0 y1 HSX HRX HW7
              have EX := Exact_any D.1 D.1 D.2.1 D.2.1 a7 a8 c7 c8 W8 HY8.out.sl HZ8.out.sl (by omega) (by omega)
              rw [exact_self] at EX
              go_wp2_with fail
              rw [HW8.out]
              refine (num_any _ _).mono ?_
              rintro e w9 ⟨rfl, hw9⟩
              have hw9' := hw9.symm
              subst hw9'
              go_wp2_with fail
              refine EX.mono ?_
              rintro e w9 ⟨rfl, hg9⟩
              have HX9 := Hid.mk (HX8.out.on hg9.below)
              have HY9 := Hid.mk (HY8.out.on hg9.below)
              have HB39 : Hid (RowKit.Below w3.heap.size w3 w9) := HB38.out.trans (hg9.below.mono HB38.out.size)
              have HG9 : Hid (RowKit.Below w.heap.size w w9) := HG3.out.trans (HB39.out.mono HG3.out.size)
              obtain ⟨x0, x1, x3⟩ := HX9.out.cells
              obtain ⟨y0, y1, y3⟩ := HY9.out.cells
              clear hg9 s0 s1 t0 t1 HX8 HY8 HB38
              by_cases hD : D.2.2 = 0
              · have hev := HEV.out hD
                have E1 := fun (W : World) (h : LB W w7.heap.size D.1 a7 c7 D.2.1) (g : RowKit.Below w3.heap.size w3 W) => Eval_any D.1 D.2.1 a7 c7 vs va vc W h.sl (by omega) (HV3.out.below g) (by omega)
                obtain ⟨via', vic', hvv, hIL⟩ := HO.out.shape
                simp only [Value.slice.injEq, HLEN.out, true_and] at hvv
                obtain ⟨hva1, hva2⟩ := hvv
                subst hva1 hva2
                have HIL := Hid.mk hIL
                have E2 := fun (W : World) (h : LB W w.heap.size n a c xs) (g : RowKit.Below w3.heap.size w3 W) => rEval_big n xs a c is via vic W h.sl (by omega) (HIL.out.below g) (by rw [HLEN.out]; omega) HISB.out
                simp only [ev_def, hev, HLEN.out] at E1 E2
                clear hIL hev
                have cel : Hid (∀ W : World, LB W w.heap.size n a c xs → LB W w7.heap.size D.1 a7 c7 D.2.1 → W.cell? ⟨w.heap.size, 0, none⟩ = some (.int .i64 n) ∧ W.cell? ⟨w.heap.size, 1, none⟩ = some (.slice a xs.length c) ∧ W.cell? ⟨w7.heap.size, 0, none⟩ = some (.int .i64 D.1) ∧ W.cell? ⟨w7.heap.size, 1, none⟩ = some (.slice a7 D.2.1.length c7)) := fun W h k => ⟨h.cells.1, h.cells.2.1, k.cells.1, k.cells.2.1⟩
                go_wp2_with fail
                go_region_held3 (fun w' => w'.cell? ⟨w.heap.size, 0, none⟩ = some (.int .i64 n) ∧ w'.cell? ⟨w.heap.size, 1, none⟩ = some (.slice a xs.length c) ∧ w'.cell? ⟨w7.heap.size, 0, none⟩ = some (.int .i64 D.1) ∧ w'.cell? ⟨w7.heap.size, 1, none⟩ = some (.slice a7 D.2.1.length c7)) (first | exact cel.out _ HX11.out HY11.out | exact cel.out _ HX10.out HY10.out | exact cel.out _ (HX9.out.on (Below.refl _ _).drew) (HY9.out.on (Below.refl _ _).drew))
                  (first | (go_at_call 25; refine (E1 _ (HY9.out.on (Below.refl _ _).drew) HB39.out.drew).mono ?_; rintro e w10 ⟨rfl, hg10⟩; have HX10 := Hid.mk ((HX9.out.on (Below.refl _ _).drew).on hg10.below); have HY10 := Hid.mk ((HY9.out.on (Below.refl _ _).drew).on hg10.below); have HB10 : Hid (RowKit.Below w3.heap.size w3 w10) := HB39.out.drew.trans (hg10.below.mono HB39.out.size); clear hg10) | (go_at_call 26; refine (E2 _ HX10.out HB10.out).mono ?_; rintro e w11 ⟨rfl, hg11⟩; have HX11 := Hid.mk (HX10.out.on hg11.below); have HY11 := Hid.mk (HY10.out.on hg11.below); have HB11 : Hid (RowKit.Below w3.heap.size w3 w11) := HB10.out.trans (hg11.below.mono HB10.out.size); clear hg11))
                go_wp2
                go_ret
                exact ⟨rfl, HG3.out.trans (HB11.out.mono HG3.out.size)⟩
              · have hD' : (D.2.2 != 0) = true := by simp [hD]
                have HD := Hid.mk hD
                clear hD
                go_wp2_with fail
                go_quiet (fail)
                go_wp2
                go_ret
                exact ⟨rfl, HG9.out.trans ((((Grew.refl w9).drewN _).below).mono HG9.out.size)⟩

set_option maxRecDepth 100000 in
theorem lifted (os : Os) (started : os.Started) (H : Type) (enc : TypeId × Value → H) :
    ReturnsInHanded {} Try.checked os 7 .any (Rows.levelSubstsSpec.pre6 enc Try.prog Try.f7 Rows.levelSubstsRow.domain false) (Rows.levelSubstsSpec.post enc Try.prog Try.f7 false true false false) := by
  refine returnsInHanded_of_change (C := Try.checked) own started (by kernel_rfl) Try.func7
    (ChangeSpec.witness6 (enc := enc) (C := Try.checked) false ⟨#[], #[.agg #[.int .i64 0, .slice none 0 0], .slice none 0 0, .slice none 0 0], []⟩ 8 (by kernel_rfl) (by kernel_rfl) (by kernel_rfl) (by kernel_rfl)) ?_
  intro W base args ds gs before hval0 hW hcnd _
  have hval : ∀ (j : Nat) t v, Try.f7.params[j]? = some t → args[j]? = some v → Value.okWide Try.prog W .any base t v := hval0
  have hW' := hW
  obtain ⟨p, q, hA0, hV, rfl, hfz, hnd⟩ := hW
  have hA : DataW.TrodAll enc Try.prog W 0 (fun _ => true) true Try.f7.params.toList args.toList ds p := hA0
  rw [Try.params7] at hA hval
  obtain ⟨v0, v1, v2, d0, d1, d2, p0, p1, p2, rfl, rfl, rfl, h0, h1, h2⟩ := trodAll_three hA
  obtain ⟨rfl, rfl⟩ := trodVars_none hV
  have k0 := h0
  have lt0 : ∀ x ∈ p0, x.block < W.heap.size := by obtain ⟨m, hm⟩ := k0; exact DataW.trod_lt m _ _ _ hm
  obtain ⟨n0, xs0, a0, c0, rfl, hS0⟩ := open_level (hval 0 24 v0 rfl rfl) h0
  have k1 := h1
  have lt1 : ∀ x ∈ p1, x.block < W.heap.size := by obtain ⟨m, hm⟩ := k1; exact DataW.trod_lt m _ _ _ hm
  obtain ⟨ls1, a1, c1, rfl, hS1⟩ := open_levels (hval 1 47 v1 rfl rfl) h1
  have k2 := h2
  have lt2 : ∀ x ∈ p2, x.block < W.heap.size := by obtain ⟨m, hm⟩ := k2; exact DataW.trod_lt m _ _ _ hm
  obtain ⟨vs2, a2, c2, rfl, hS2⟩ := open_ints1 (hval 2 42 v2 rfl rfl) h2
  clear hA0 hval0
  refine (walk n0 xs0 a0 c0 ls1 a1 c1 vs2 a2 c2 W hS0 hS1 hS2).mono fun e W' ⟨he, bel⟩ => ?_
  subst he
  exact ⟨_, rfl, _, _, _, [], _, [], hW', trodAll_mk1 (shut_bool Try.underlying4 _), trodAll_mk3 (Below.trod laidOut (by kernel_rfl) (of_decide_eq_true (by kernel_rfl)) k0 bel lt0) (Below.trod laidOut (by kernel_rfl) (of_decide_eq_true (by kernel_rfl)) k1 bel lt1) (Below.trod laidOut (by kernel_rfl) (of_decide_eq_true (by kernel_rfl)) k2 bel lt2), rfl, bel.frame _, fun h => by cases h⟩

theorem over : Rows.levelSubstsRow.holds Try.pinned (OpenSpec.ofChange Rows.levelSubstsSpec) :=
  OpenClaim.holds_of_wide 7 Try.f7 rfl rfl rfl rfl rfl rfl rfl ⟨rfl, rfl, rfl, rfl, rfl⟩ rfl rfl rfl rfl rfl (by kernel_rfl) Try.func7 (by kernel_rfl)
    (of_decide_eq_true (by kernel_rfl)) (by unfold Func.isWrapper; first | (rw [if_pos (by decide +kernel)]; kernel_rfl) | (rw [if_neg (by decide +kernel)]; exact ⟨rfl, rfl⟩))
    (fun os started H enc _ => lifted os started H enc)

end levelSubsts

theorem levelSubsts_holds : Rows.LevelSubstsSaid := levelSubsts.over
#print axioms levelSubsts_holds
end Go.Proofs.Ytphemmifckdjjaa
