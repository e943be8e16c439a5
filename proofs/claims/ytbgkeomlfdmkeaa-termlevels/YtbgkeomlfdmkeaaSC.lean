/- The contract of telamonref1.Leq. -/
import Derived.Test.YtbgkeomlfdmkeaaRS
import Derived.Test.YtbgkeomlfdmkeaaWD
namespace Go.Proofs.Ytbgkeomlfdmkeaa
open Go.RowKit Go.Sort Go.Shelf Go.Lib

/-- the greatest number that a level has by the valuation of noughts -/
def topL (nb : Int) (ys : List (Int × Int)) : Int := ys.foldl (fun m p => if m < p.2 then p.2 else m) nb

/-- is a variable of a covered by one of b? -/
def covered (x y : Int) (ys : List (Int × Int)) : Bool := ys.any fun q => decide (x = q.1) && decide (y ≤ q.2)

/-- what the reference's comparison tells of two canonical levels -/
def rleq (na : Int) (xs : List (Int × Int)) (nb : Int) (ys : List (Int × Int)) : Bool := decide (na ≤ topL nb ys) && xs.all fun p => covered p.1 p.2 ys

/-- what the reference's Leq answers -/
def rleqB (na : Int) (xs : List (Int × Int)) (nb : Int) (ys : List (Int × Int)) : Bool := rightB na xs && rightB nb ys && rleq (nOf na (tidyL xs)) (tidyL xs) (nOf nb (tidyL ys)) (tidyL ys)

theorem top_take {nb : Int} {ys : List (Int × Int)} {k : Nat} {x y : Int} (h : ys[k]? = some (x, y)) : topL nb (ys.take (k + 1)) = if topL nb (ys.take k) < y then y else topL nb (ys.take k) := by
  unfold topL; rw [take_fold h]

theorem cov_take {x y : Int} {ys : List (Int × Int)} {k : Nat} {q1 q2 : Int} (h : ys[k]? = some (q1, q2)) : covered x y (ys.take (k + 1)) = (covered x y (ys.take k) || (decide (x = q1) && decide (y ≤ q2))) := by
  unfold covered; rw [take_any h]

theorem norm_err (n : Int) (xs : List (Int × Int)) : (normR n xs).2.2 = 0 ↔ rightB n xs = true := by
  rcases Bool.eq_false_or_eq_true (rightB n xs) with h | h
  · rw [normR_right h]; simp [h]
  · simp [normR, h]

set_option maxRecDepth 100000 in
set_option maxHeartbeats 8000000 in
theorem rLeq_any (na nb : Int) (xs ys : List (Int × Int)) (aa ab : Option Addr) (ca cb : Nat) (w : World) (hSa : SL w aa xs) (hSb : SL w ab ys) (hxn : xs.length ≤ 4398046511104) (hyn : ys.length ≤ 4398046511104) :
    Calls Try.prog 87 #[.agg #[.int .i64 na, .slice aa xs.length ca], .agg #[.int .i64 nb, .slice ab ys.length cb]] w fun e w' => e = .returned (.bool (rleqB na xs nb ys)) ∧ RowKit.Below w.heap.size w w' := by
  obtain ⟨W0, hW0⟩ : ∃ W0, (w.alloc (.cells #[.int .i64 na, .slice aa xs.length ca] 43)).alloc (.cells #[.int .i64 nb, .slice ab ys.length cb] 43) = W0 := ⟨_, rfl⟩
  have hA : Grew w W0 := by rw [← hW0]; exact ((Grew.refl w).alloc _).alloc _
  obtain ⟨hb0, hb1⟩ : W0.heap[w.heap.size]? = some (.cells #[.int .i64 na, .slice aa xs.length ca] 43 (0, 0)) ∧ W0.heap[w.heap.size + 1]? = some (.cells #[.int .i64 nb, .slice ab ys.length cb] 43 (0, 0)) := by rw [← hW0]; exact ⟨box_at, box_at1⟩
  have hsz : W0.heap.size = w.heap.size + 2 := by rw [← hW0]; simp
  have HNa := rNorm_any na xs aa ca W0 (hSa.below hA.below) hxn
  have HNb := fun (W : World) (g : RowKit.Below w.heap.size w W) => rNorm_any nb ys ab cb W (hSb.below g) hyn
  have HRES : Hid (rleqB na xs nb ys = if (normR na xs).2.2 = 0 ∧ (normR nb ys).2.2 = 0 then rleq (normR na xs).1 (normR na xs).2.1 (normR nb ys).1 (normR nb ys).2.1 else false) := by
    unfold Hid rleqB
    by_cases h1 : rightB na xs = true
    · by_cases h2 : rightB nb ys = true
      · rw [if_pos ⟨(norm_err na xs).2 h1, (norm_err nb ys).2 h2⟩, normR_right h1, normR_right h2, h1, h2]; rfl
      · rw [if_neg (fun h => h2 ((norm_err nb ys).1 h.2))]; simp [h2]
    · rw [if_neg (fun h => h1 ((norm_err na xs).1 h.1))]; simp [h1]
  have hAl : (normR na xs).2.1.length ≤ 64 := by
    rcases Bool.eq_false_or_eq_true (rightB na xs) with h | h
    · rw [normR_right h]; exact Nat.le_trans (tidyL_le xs) (right_n h).2.2
    · simp [normR, h]
  have hBl : (normR nb ys).2.1.length ≤ 64 := by
    rcases Bool.eq_false_or_eq_true (rightB nb ys) with h | h
    · rw [normR_right h]; exact Nat.le_trans (tidyL_le ys) (right_n h).2.2
    · simp [normR, h]
  generalize normR na xs = A at *
  generalize normR nb ys = B at *
  obtain ⟨n1, xs1, e1⟩ := A
  obtain ⟨n2, ys1, e2⟩ := B
  simp only at HRES hAl hBl
  have HW0 := Hid.mk hW0
  have HSZ := Hid.mk hsz
  have HA := Hid.mk hA
  have H1 := Hid.mk hb1
  have H0 := Hid.mk hb0
  have mx := mixed
  generalize rleqB na xs nb ys = R at HRES ⊢
  clear hSa hSb hW0 hsz hA hb1
  obtain ⟨a0, a1, a2, a3, -⟩ := cells2 hb0
  clear hb0
  go_enter Try.func87, Try.ntmps87
  go_wp2_with fail
  rw [HW0.out]
  refine HNa.mono ?_
  rintro e w1 ⟨v1, rfl, hO1, hb1⟩
  simp only at hO1
  obtain ⟨aa1, ca1, rfl, -, -⟩ := hO1.shape
  have hz1 := hb1.size
  have hzz := HSZ.out
  have hL1 := (hb1.block w.heap.size (by omega)).trans H0.out
  have hM1 := (hb1.block (w.heap.size + 1) (by omega)).trans H1.out
  obtain ⟨c0, c1, c2, c3, c4⟩ := cells2 hL1
  obtain ⟨d0, d1, d2, d3, d4⟩ := cells2 hM1
  have HL1 := Hid.mk hL1
  have HM1 := Hid.mk hM1
  have HO1 := Hid.mk hO1
  have HBW1 : Hid (RowKit.Below w.heap.size w w1) := HA.out.below.trans (hb1.mono HA.out.below.size)
  clear HNa hL1 hM1 hO1 hb1 a0 a1 a2 a3 hzz
  go_wp2_with fail
  have hBW2 : RowKit.Below w.heap.size w ((w1.setCell ⟨w.heap.size, 0, none⟩ (.int .i64 n1)).setCell ⟨w.heap.size, 1, none⟩ (.slice aa1 xs1.length ca1)) := (HBW1.out.setCell (p := ⟨w.heap.size, 0, none⟩) (Nat.le_refl _) _).setCell (p := ⟨w.heap.size, 1, none⟩) (Nat.le_refl _) _
  refine (HNb _ hBW2).mono ?_
  rintro e w2 ⟨v2, rfl, hO2, hb2⟩
  simp only at hO2
  obtain ⟨aa2, ca2, rfl, -, -⟩ := hO2.shape
  have hz2 := hb2.size
  simp only [World.size_setCell] at hz2
  have hzz := HSZ.out
  have HL2 := Hid.mk ((hb2.block w.heap.size (by simp; omega)).trans (set1_heap (heap_set0 HL1.out)))
  have HM2 : Hid (w2.heap[w.heap.size + 1]? = some (.cells #[.int .i64 nb, .slice ab ys.length cb] 43 (0, 0))) := (hb2.block (w.heap.size + 1) (by simp; omega)).trans ((Below.heap_setCell _ _ _ _ (by simp)).trans ((Below.heap_setCell _ _ _ _ (by simp)).trans HM1.out))
  have HO12 := Hid.mk ((((HO1.out.setBelow (a := ⟨w.heap.size, 0, none⟩) (by simp only; omega) (.int .i64 n1)).setBelow (a := ⟨w.heap.size, 1, none⟩) (by simp only; omega) (.slice aa1 xs1.length ca1)).below hb2))
  have HO2 := Hid.mk hO2
  have HBW2 := Hid.mk (hBW2.trans (hb2.mono (by simp; omega)))
  obtain ⟨q0, q1, q2, q3, q4⟩ := cells2 HM2.out
  clear hBW2 hb2 hO2 HNb c0 c1 c2 c3 d0 d1 d2 d3 HO1 HL1 HM1 HBW1
  have hW1sz : w.heap.size + 2 ≤ w1.heap.size := by omega
  by_cases hE : e1 = 0 ∧ e2 = 0
  · obtain ⟨rfl, rfl⟩ := hE
    have HRES2 : Hid (R = rleq n1 xs1 n2 ys1) := by unfold Hid; rw [HRES.out, if_pos ⟨rfl, rfl⟩]
    clear HRES
    obtain ⟨W3, hW3⟩ : ∃ W3, (w2.setCell ⟨w.heap.size + 1, 0, none⟩ (.int .i64 n2)).setCell ⟨w.heap.size + 1, 1, none⟩ (.slice aa2 ys1.length ca2) = W3 := ⟨_, rfl⟩
    have HB3 : Hid (RowKit.Below w.heap.size w W3) := by unfold Hid; rw [← hW3]; exact (HBW2.out.setCell (p := ⟨w.heap.size + 1, 0, none⟩) (Nat.le_succ _) _).setCell (p := ⟨w.heap.size + 1, 1, none⟩) (Nat.le_succ _) _
    have HLa : Hid (W3.heap[w.heap.size]? = some (.cells #[.int .i64 n1, .slice aa1 xs1.length ca1] 43 (0, 0))) := by unfold Hid; rw [← hW3]; exact (Below.heap_setCell _ _ _ _ (by simp)).trans ((Below.heap_setCell _ _ _ _ (by simp)).trans HL2.out)
    have HLb : Hid (W3.heap[w.heap.size + 1]? = some (.cells #[.int .i64 n2, .slice aa2 ys1.length ca2] 43 (0, 0))) := by unfold Hid; rw [← hW3]; exact set1_heap (heap_set0 HM2.out)
    have hOa : OR W0.heap.size W3 (.slice aa1 xs1.length ca1) xs1 := by rw [← hW3]; exact (HO12.out.setBelow (a := ⟨w.heap.size + 1, 0, none⟩) (by simp only; omega) _).setBelow (a := ⟨w.heap.size + 1, 1, none⟩) (by simp only; omega) _
    have hOb : OR w1.heap.size W3 (.slice aa2 ys1.length ca2) ys1 := by rw [← hW3]; simp only [World.size_setCell] at HO2; exact (HO2.out.setBelow (a := ⟨w.heap.size + 1, 0, none⟩) (by simp only; omega) _).setBelow (a := ⟨w.heap.size + 1, 1, none⟩) (by simp only; omega) _
    have HSa : Hid (SL W3 aa1 xs1) := by obtain ⟨p, q, hv, hs, -⟩ := hOa.shape; simp at hv; unfold Hid; rw [hv.1]; exact hs
    have HSb : Hid (SL W3 aa2 ys1) := by obtain ⟨p, q, hv, hs, -⟩ := hOb.shape; simp at hv; unfold Hid; rw [hv.1]; exact hs
    have HW3 := Hid.mk hW3
    have hz3 : w2.heap.size = W3.heap.size := by rw [← hW3]; simp
    have hlb3 : w.heap.size + 1 < W3.heap.size := by rw [← hz3]; exact q4
    clear hW3 hOa hOb hz3 HO12 HO2
    go_wp2
    rw [HW3.out]
    obtain ⟨f0, f1, -, -, -⟩ := cells2 HLa.out
    obtain ⟨g0, g1, -, -, -⟩ := cells2 HLb.out
    clear q0 q1 q2 q3 q4 HL2 HM2
    go_loopw [7, 8] (fun t i wr => ∃ k : Nat, k ≤ ys1.length ∧ i = .int .i64 k ∧ t = .int .i64 (topL n2 (ys1.take k)) ∧ wr = W3) (fun _ i _ => ys1.length - (intOf i).toNat)
    case atStart => exact ⟨0, Nat.zero_le _, rfl, rfl, rfl⟩
    case round =>
      obtain ⟨k, hk, rfl, rfl, hww⟩ := hrel
      have hww := hww.symm
      subst hww
      by_cases hlt : k < ys1.length
      · obtain ⟨b, off, x, y, rfl, hbl, hc0, hc1, hxy⟩ := HSb.out.at hlt
        have HE := Hid.mk (top_take (nb := n2) hxy.out)
        generalize topL n2 (ys1.take k) = m at *
        by_cases hmy : m < y
        all_goals
          go_wp2
          refine ⟨⟨k + 1, hlt, by go_num, ?_, by simp⟩, by simp [intOf]; omega⟩
          rw [HE.out]
          first | rw [if_pos hmy] | rw [if_neg hmy]
      · have htk : ys1.take k = ys1 := List.take_of_length_le (by omega)
        rw [htk]
        have HTOP : Hid (rleq n1 xs1 n2 ys1 = (decide (n1 ≤ topL n2 ys1) && xs1.all fun p => covered p.1 p.2 ys1)) := rfl
        generalize topL n2 ys1 = top at *
        by_cases hnt : n1 ≤ top
        · have hdt : decide (top < n1) = false := by simp; omega
          go_wp2
          go_loopw [9] (fun i wr => ∃ k : Nat, k ≤ xs1.length ∧ i = .int .i64 k ∧ Grew W3 wr ∧ (xs1.take k).all (fun p => covered p.1 p.2 ys1) = true) (fun i _ => xs1.length - (intOf i).toNat)
          case atStart => exact ⟨0, Nat.zero_le _, rfl, Grew.refl _, by simp⟩
          case round =>
            obtain ⟨k3, hk3, rfl, hg, hall⟩ := hrel
            have HALL := Hid.mk hall
            clear hall f0 f1 g0 g1
            obtain ⟨f0, f1, -, -, -⟩ := cells2 ((hg.below.block w.heap.size (by omega)).trans HLa.out)
            obtain ⟨g0, g1, -, -, -⟩ := cells2 ((hg.below.block (w.heap.size + 1) hlb3).trans HLb.out)
            by_cases hlt3 : k3 < xs1.length
            · obtain ⟨b, off, x, y, rfl, hbl, hc0, hc1, hxy⟩ := (HSa.out.below hg.below).at hlt3
              generalize wr = w6 at *
              go_wp2
              go_loopw [10, 11] (fun ok i wi => ∃ k : Nat, k ≤ ys1.length ∧ i = .int .i64 k ∧ ok = .bool (covered x y (ys1.take k)) ∧ ∃ q, wi = w6.drewN q) (fun _ i _ => ys1.length - (intOf i).toNat)
              case atStart => exact ⟨0, Nat.zero_le _, rfl, rfl, 0, rfl⟩
              case round =>
                obtain ⟨k4, hk4, rfl, rfl, q, rfl⟩ := hrel
                by_cases hlt4 : k4 < ys1.length
                · obtain ⟨b', off', q1, q2, rfl, hbl', hc0', hc1', hxy'⟩ := (HSb.out.below hg.below).at hlt4
                  have HE := Hid.mk (cov_take (x := x) (y := y) hxy'.out)
                  have zk3 : (k3 : Int) < (xs1.length : Int) := by omega
                  have zk4 : (k4 : Int) < (ys1.length : Int) := by omega
                  cases hcv : covered x y (ys1.take k4)
                  · by_cases hxq : x = q1
                    · have hxq' : (x == q1) = true := by simp [hxq]
                      have HX := Hid.mk hxq
                      clear hxq
                      by_cases hyq : y ≤ q2
                      · have hyd : decide (y ≤ q2) = true := by simp [hyq]
                        have HN : Hid (covered x y (ys1.take (k4 + 1)) = true) := by unfold Hid; rw [HE.out, hcv]; simp [HX.out, hyq]
                        clear HE hcv
                        go_wp2_with fail
                        go_quiet (fail)
                        go_wp2
                        refine ⟨⟨k4 + 1, hlt4, by go_num, by rw [HN.out], _, rfl⟩, by simp [intOf]; omega⟩
                      · have hyd : decide (y ≤ q2) = false := by simp; omega
                        have HN : Hid (covered x y (ys1.take (k4 + 1)) = false) := by unfold Hid; rw [HE.out, hcv]; simp [hyd]
                        clear HE hcv
                        go_wp2_with fail
                        go_quiet (fail)
                        go_wp2
                        refine ⟨⟨k4 + 1, hlt4, by go_num, by rw [HN.out], _, rfl⟩, by simp [intOf]; omega⟩
                    · have hxq' : (x == q1) = false := by simp [hxq]
                      have HN : Hid (covered x y (ys1.take (k4 + 1)) = false) := by unfold Hid; rw [HE.out, hcv]; simp [hxq]
                      clear HE hcv hxq
                      go_wp2_with fail
                      go_quiet (fail)
                      go_wp2
                      refine ⟨⟨k4 + 1, hlt4, by go_num, by rw [HN.out], _, rfl⟩, by simp [intOf]; omega⟩
                  · have HN : Hid (covered x y (ys1.take (k4 + 1)) = true) := by unfold Hid; rw [HE.out, hcv]; rfl
                    clear HE hcv
                    go_wp2_with fail
                    go_quiet (fail)
                    go_wp2
                    refine ⟨⟨k4 + 1, hlt4, by go_num, by rw [HN.out], _, rfl⟩, by simp [intOf]; omega⟩
                · have htk4 : ys1.take k4 = ys1 := List.take_of_length_le (by omega)
                  rw [htk4]
                  clear htk4
                  cases hcv : covered x y ys1
                  · have HR : Hid (R = false) := by
                      unfold Hid
                      rw [HRES2.out, HTOP.out, all_no (p := fun p => covered p.1 p.2 ys1) hxy.out hcv]; simp
                    clear hcv
                    go_wp2
                    go_ret
                    exact ⟨by rw [HR.out]; rfl, HB3.out.trans ((hg.drewN q).below.mono HB3.out.size)⟩
                  · have HN : Hid ((xs1.take (k3 + 1)).all (fun p => covered p.1 p.2 ys1) = true) := by unfold Hid; rw [take_all hxy.out, HALL.out]; simpa using hcv
                    clear hcv
                    go_wp2
                    refine ⟨⟨k3 + 1, hlt3, by go_num, hg.drewN q, HN.out⟩, by simp [intOf]; omega⟩
            · have HR : Hid (R = true) := by
                have h1 : xs1.take k3 = xs1 := List.take_of_length_le (by omega)
                have h2 := HALL.out
                rw [h1] at h2
                unfold Hid
                rw [HRES2.out, HTOP.out, h2]; simp [hnt]
              go_wp2
              go_ret
              exact ⟨by rw [HR.out]; rfl, HB3.out.trans (hg.below.mono HB3.out.size)⟩
        · have hR : R = false := by rw [HRES2.out, HTOP.out]; simp [hnt]
          have HR := Hid.mk hR
          clear hR
          go_wp2
          go_ret
          exact ⟨by rw [HR.out]; rfl, HB3.out⟩
  · have hR : R = false := by rw [HRES.out, if_neg hE]
    have HR := Hid.mk hR
    have hbad : (e1 != 0) = true ∨ ((e1 != 0) = false ∧ (e2 != 0) = true) := by
      by_cases h1 : e1 = 0
      · right; exact ⟨by simp [h1], by simp; exact fun h => hE ⟨h1, h⟩⟩
      · left; simp [h1]
    clear hR hE
    rcases hbad with h | ⟨h, h'⟩
    all_goals
      go_wp2
      go_ret
      exact ⟨by rw [HR.out]; rfl, (HBW2.out.setCell (p := ⟨w.heap.size + 1, 0, none⟩) (Nat.le_succ _) _).setCell (p := ⟨w.heap.size + 1, 1, none⟩) (Nat.le_succ _) _⟩
end Go.Proofs.Ytbgkeomlfdmkeaa

/- The contract of telamonref1.SameLevel; canonical levels are one where each is at most the other one. -/
namespace Go.Proofs.Ytbgkeomlfdmkeaa
open Go.RowKit Go.Sort Go.Shelf Go.Lib

set_option maxHeartbeats 1000000 in
theorem rSameB_any (na nb : Int) (xs ys : List (Int × Int)) (aa ab : Option Addr) (ca cb : Nat) (w : World) (hSa : SL w aa xs) (hSb : SL w ab ys) (hxn : xs.length ≤ 4398046511104) (hyn : ys.length ≤ 4398046511104) :
    Calls Try.prog 73 #[.agg #[.int .i64 na, .slice aa xs.length ca], .agg #[.int .i64 nb, .slice ab ys.length cb]] w fun e w' => e = .returned (.bool (rleqB na xs nb ys && rleqB nb ys na xs)) ∧ RowKit.Below w.heap.size w w' := by
  obtain ⟨W0, hW0⟩ : ∃ W0, (w.alloc (.cells #[.int .i64 na, .slice aa xs.length ca] 43)).alloc (.cells #[.int .i64 nb, .slice ab ys.length cb] 43) = W0 := ⟨_, rfl⟩
  have hA : Grew w W0 := by rw [← hW0]; exact ((Grew.refl w).alloc _).alloc _
  obtain ⟨hb0, hb1⟩ : W0.heap[w.heap.size]? = some (.cells #[.int .i64 na, .slice aa xs.length ca] 43 (0, 0)) ∧ W0.heap[w.heap.size + 1]? = some (.cells #[.int .i64 nb, .slice ab ys.length cb] 43 (0, 0)) := by rw [← hW0]; exact ⟨box_at, box_at1⟩
  have hsz : W0.heap.size = w.heap.size + 2 := by rw [← hW0]; simp
  have H1 := rLeq_any na nb xs ys aa ab ca cb W0 (hSa.below hA.below) (hSb.below hA.below) hxn hyn
  have H2 := fun (W : World) (g : RowKit.Below w.heap.size w W) => rLeq_any nb na ys xs ab aa cb ca W (hSb.below g) (hSa.below g) hyn hxn
  obtain ⟨a0, a1, -, -, -⟩ := cells2 hb0
  obtain ⟨b0, b1, -, -, -⟩ := cells2 hb1
  have HA := Hid.mk hA
  have HW0 := Hid.mk hW0
  have HSZ := Hid.mk hsz
  have HB0 := Hid.mk hb0
  have HB1 := Hid.mk hb1
  clear hA hW0 hsz hSa hSb hb0 hb1
  cases h1 : rleqB na xs nb ys
  · rw [h1] at H1
    clear H2
    go_enter Try.func73, Try.ntmps73
    go_wp2_with (go_at_call 87; rw [HW0.out]; refine H1.mono ?_; rintro e w1 ⟨rfl, hg⟩)
    go_ret
    exact ⟨rfl, HA.out.below.trans (hg.mono HA.out.below.size)⟩
  · rw [h1] at H1
    go_enter Try.func73, Try.ntmps73
    go_wp2_with fail
    rw [HW0.out]
    refine H1.mono ?_
    rintro e w1 ⟨rfl, hg⟩
    have hgw : RowKit.Below w.heap.size w w1 := HA.out.below.trans (hg.mono HA.out.below.size)
    clear H1 a0 a1 b0 b1
    obtain ⟨a0, a1, -, -, -⟩ := cells2 ((hg.block w.heap.size (by rw [HSZ.out]; omega)).trans HB0.out)
    obtain ⟨b0, b1, -, -, -⟩ := cells2 ((hg.block (w.heap.size + 1) (by rw [HSZ.out]; omega)).trans HB1.out)
    go_wp2_with (go_at_call 87; refine (H2 _ hgw).mono ?_; rintro e w2 ⟨rfl, hg2⟩)
    go_ret
    exact ⟨rfl, hgw.trans (hg2.mono hgw.size)⟩

/-- a canonical level is right, tidy, and its number is above the sums or nought -/
theorem canon_is {l : LvT} (h : canonB l = true) : rightB l.1 l.2 = true ∧ tidyL l.2 = l.2 ∧ nOf l.1 l.2 = l.1 := by
  unfold canonB at h
  rw [Bool.and_eq_true, beq_iff_eq] at h
  have hr := (norm_err l.1 l.2).1 h.1
  have h2 := h.2
  rw [normR_right hr] at h2
  unfold exactB at h2
  simp only [Bool.and_eq_true, decide_eq_true_eq] at h2
  refine ⟨hr, h2.2, ?_⟩
  have := h2.1
  rwa [h2.2] at this

theorem topl_ge (ys : List (Int × Int)) : ∀ m : Int, m ≤ topL m ys ∧ (topL m ys = m ∨ ∃ p ∈ ys, topL m ys = p.2) := by
  induction ys with
  | nil => intro m; exact ⟨by simp [topL], Or.inl rfl⟩
  | cons a r ih =>
    intro m
    have e : topL m (a :: r) = topL (if m < a.2 then a.2 else m) r := rfl
    rw [e]
    by_cases hc : m < a.2
    · rw [if_pos hc]
      obtain ⟨h1, h2⟩ := ih a.2
      refine ⟨by omega, Or.inr ?_⟩
      rcases h2 with h2 | ⟨p, hp, h2⟩
      · exact ⟨a, by simp, h2⟩
      · exact ⟨p, by simp [hp], h2⟩
    · rw [if_neg hc]
      obtain ⟨h1, h2⟩ := ih m
      refine ⟨h1, ?_⟩
      rcases h2 with h2 | ⟨p, hp, h2⟩
      · exact Or.inl h2
      · exact Or.inr ⟨p, by simp [hp], h2⟩

theorem cov_is {x y : Int} {ys : List (Int × Int)} (h : covered x y ys = true) : ∃ q ∈ ys, q.1 = x ∧ y ≤ q.2 := by
  unfold covered at h
  rw [List.any_eq_true] at h
  obtain ⟨q, hq, h⟩ := h
  simp only [Bool.and_eq_true, decide_eq_true_eq] at h
  exact ⟨q, hq, h.1.symm, h.2⟩

theorem both_mem {xs ys : List (Int × Int)} (hx : xs.Pairwise (fun p q => p.1 < q.1)) (h1 : (xs.all fun p => covered p.1 p.2 ys) = true) (h2 : (ys.all fun p => covered p.1 p.2 xs) = true) : ∀ p ∈ xs, p ∈ ys := fun p hp => by
  obtain ⟨q, hq, e1, e2⟩ := cov_is (List.all_eq_true.1 h1 p hp)
  obtain ⟨r, hr, e3, e4⟩ := cov_is (List.all_eq_true.1 h2 q hq)
  have := eq_of_key hx hp hr (by omega)
  subst this
  have : q = p := Prod.ext e1 (by omega)
  rwa [← this]

theorem nOf_top {na nb : Int} {xs : List (Int × Int)} (hb : nOf nb xs = nb) (ha0 : 0 ≤ na) (h : nb ≤ topL na xs) : nb ≤ na := by
  rcases (topl_ge xs na).2 with e | ⟨p, hp, e⟩
  · omega
  · unfold nOf at hb
    by_cases hc : (xs.any fun p => decide (nb ≤ p.2)) = true
    · rw [if_pos hc] at hb; omega
    · exact absurd (List.any_eq_true.2 ⟨p, hp, by simpa using (by omega : nb ≤ p.2)⟩) hc

/-- canonical levels are one where each is at most the other one -/
theorem canon_same {l k : LvT} (hl : canonB l = true) (hk : canonB k = true) : (rleqB l.1 l.2 k.1 k.2 && rleqB k.1 k.2 l.1 l.2) = decide (l = k) := by
  obtain ⟨r1, t1, n1⟩ := canon_is hl
  obtain ⟨r2, t2, n2⟩ := canon_is hk
  have s1 : l.2.Pairwise (fun p q => p.1 < q.1) := by have := (tidyL_is l.2).1; rwa [t1] at this
  have s2 : k.2.Pairwise (fun p q => p.1 < q.1) := by have := (tidyL_is k.2).1; rwa [t2] at this
  unfold rleqB
  rw [r1, r2, t1, t2, n1, n2]
  simp only [Bool.true_and]
  unfold rleq
  have z1 : 0 ≤ l.1 := (right_n r1).1
  have z2 : 0 ≤ k.1 := (right_n r2).1
  rw [Bool.eq_iff_iff]
  simp only [Bool.and_eq_true, decide_eq_true_eq]
  constructor
  · rintro ⟨⟨a1, a2⟩, b1, b2⟩
    have hxy : l.2 = k.2 := sorted_ext s1 s2 (fun p => ⟨both_mem s1 a2 b2 p, both_mem s2 b2 a2 p⟩)
    refine Prod.ext ?_ hxy
    have c1 := nOf_top (na := l.1) (nb := k.1) (xs := l.2) (by rw [hxy]; exact n2) z1 b1
    have c2 := nOf_top (na := k.1) (nb := l.1) (xs := k.2) (by rw [← hxy]; exact n1) z2 a1
    omega
  · rintro rfl
    have hc : (l.2.all fun p => covered p.1 p.2 l.2) = true := by
      rw [List.all_eq_true]
      intro p hp
      unfold covered
      rw [List.any_eq_true]
      exact ⟨p, hp, by simp⟩
    exact ⟨⟨(topl_ge _ _).1, hc⟩, (topl_ge _ _).1, hc⟩
end Go.Proofs.Ytbgkeomlfdmkeaa
