/- The contract of telamonref1.Eval at values up to 2,000,000. -/
import Derived.Test.YtphemmifckdjjaaRH
namespace Go.Proofs.Ytphemmifckdjjaa
open Go.RowKit Go.Sort Go.Shelf Go.Lib

theorem vs_at2 {vs : List Int} (hb : ∀ x ∈ vs, x ≤ 2000000) {v : Nat} {x : Int} (h : vs[v]? = some x) : x ≤ 2000000 := hb x (List.mem_of_getElem? h)

set_option maxHeartbeats 2000000 in
theorem rEval_big (n : Int) (xs : List (Int × Int)) (a : Option Addr) (cap : Nat) (vs : List Int) (va : Option Addr) (vcap : Nat) (w : World) (hS : SL w a xs) (hn : xs.length ≤ 35184372088832) (hV : IL w va vs) (_hvn : vs.length ≤ 35184372088832) (hvb : ∀ x ∈ vs, x ≤ 2000000) :
    Calls Try.prog 26 #[.agg #[.int .i64 n, .slice a xs.length cap], .slice va vs.length vcap] w fun e w' => e = .returned (.int .i64 (if rightB n xs then evalL vs n xs else 0)) ∧ Grew w w' := by
  have HS := Hid.mk hS
  have HV := Hid.mk hV
  have HVB := Hid.mk hvb
  clear hS hV hvb
  have HR := fun (W : World) (h : SL W a xs) => rright_any n xs a cap W h hn
  have HA : Hid (Grew w (w.alloc (.cells #[.int .i64 n, .slice a xs.length cap] 24))) := (Grew.refl w).alloc _
  cases hr : rightB n xs
  · simp only [hr] at HR
    go_enter Try.func26, Try.ntmps26
    go_wp2_with (first | (go_at_call 35; refine (HR _ (HS.out.below ((Grew.refl _).alloc _).below)).mono ?_; rintro e w' ⟨rfl, hb⟩))
    go_ret
    exact ⟨rfl, ((Grew.refl _).alloc _).trans hb⟩
  · simp only [hr] at HR
    obtain ⟨hn0, hn1, hl64⟩ := right_n hr
    have HRt := Hid.mk hr
    clear hr
    go_enter Try.func26, Try.ntmps26
    go_wp2_with (first | (go_at_call 35; refine (HR _ (HS.out.below ((Grew.refl _).alloc _).below)).mono ?_; rintro e w1 ⟨rfl, hb1⟩; obtain ⟨p0, p1, -, -, p4⟩ := cells2 ((hb1.below.block w.heap.size (by simp)).trans (alloc_new _ _)); have HL1 := Hid.mk ((hb1.below.block w.heap.size (by simp)).trans (alloc_new w (.cells #[.int .i64 n, .slice a xs.length cap] 24))); have HB1 : Hid (Grew w w1) := ((Grew.refl _).alloc _).trans hb1; clear HR hb1))
    go_loopw [6, 7] (fun m i wr => ∃ k : Nat, k ≤ xs.length ∧ i = .int .i64 k ∧ Grew w1 wr ∧ m = .int .i64 (evalL vs n (xs.take k)) ∧ evalL vs n (xs.take k) ≤ 2001000) (fun _ i _ => xs.length - (intOf i).toNat)
    case atStart => exact ⟨0, Nat.zero_le _, rfl, Grew.refl _, rfl, by simp [evalL]; omega⟩
    case round =>
      obtain ⟨k, hk, rfl, hb, rfl, hm⟩ := hrel
      clear p0 p1
      obtain ⟨q0, q1, -, -, q4⟩ := cells2 ((hb.below.block w.heap.size p4).trans HL1.out)
      have hgw : Grew w wr := HB1.out.trans hb
      by_cases hlt : k < xs.length
      · obtain ⟨b, off, x, y, rfl, hbl, hc0, hc1, hxy⟩ := (HS.out.below hgw.below).at hlt
        obtain ⟨hx0, hx1, hy0, hy1⟩ := right_at HRt.out hxy.out
        obtain ⟨v, rfl⟩ := Int.eq_ofNat_of_zero_le hx0
        have zk : (k : Int) < (xs.length : Int) := by omega
        have HE : Hid (evalL vs n (xs.take (k + 1)) = max (evalL vs n (xs.take k)) (valOf vs v + y)) := by unfold Hid evalL; rw [take_fold hxy.out]; simp
        generalize evalL vs n (xs.take k) = m at *
        by_cases hv : v < vs.length
        · obtain ⟨b', off', z, rfl, hbl', hcv, hz⟩ := (HV.out.below hgw.below).at hv
          have hz1 := vs_at2 HVB.out hz.out
          have HZ : Hid (valOf vs v = max z 0) := by unfold Hid; simp [valOf, hz.out]; omega
          by_cases hz0 : 0 < z
          · have hE := HE.out
            rw [HZ.out, show max z 0 = z by omega] at hE
            have HE' := Hid.mk hE
            clear hE HE HZ
            by_cases hc : m < z + y
            · go_wp2
              all_goals
                refine ⟨⟨k + 1, hlt, by go_num, by first | exact hb | exact hb.alloc _ | exact (hb.alloc _).alloc _, ?_, ?_⟩, by simp [intOf]; omega⟩
                · rw [HE'.out, show max m (z + y) = z + y by omega]
                · rw [HE'.out]; omega
            · go_wp2
              all_goals
                refine ⟨⟨k + 1, hlt, by go_num, by first | exact hb | exact hb.alloc _ | exact (hb.alloc _).alloc _, ?_, ?_⟩, by simp [intOf]; omega⟩
                · rw [HE'.out, show max m (z + y) = m by omega]
                · rw [HE'.out]; omega
          · have hE := HE.out
            rw [HZ.out, show max z 0 = 0 by omega] at hE
            have HE' := Hid.mk hE
            clear hE HE HZ
            by_cases hc : m < y
            · go_wp2
              all_goals
                refine ⟨⟨k + 1, hlt, by go_num, by first | exact hb | exact hb.alloc _ | exact (hb.alloc _).alloc _, ?_, ?_⟩, by simp [intOf]; omega⟩
                · rw [HE'.out, show max m (0 + y) = y by omega]
                · rw [HE'.out]; omega
            · go_wp2
              all_goals
                refine ⟨⟨k + 1, hlt, by go_num, by first | exact hb | exact hb.alloc _ | exact (hb.alloc _).alloc _, ?_, ?_⟩, by simp [intOf]; omega⟩
                · rw [HE'.out, show max m (0 + y) = m by omega]
                · rw [HE'.out]; omega
        · have HZ : Hid (valOf vs v = 0) := by unfold Hid; simp [valOf, List.getElem?_eq_none (by omega : vs.length ≤ v)]; omega
          have hE := HE.out
          rw [HZ.out] at hE
          have HE' := Hid.mk hE
          clear hE HE HZ
          by_cases hc : m < y
          · go_wp2
            all_goals
              refine ⟨⟨k + 1, hlt, by go_num, by first | exact hb | exact hb.alloc _ | exact (hb.alloc _).alloc _, ?_, ?_⟩, by simp [intOf]; omega⟩
              · rw [HE'.out, show max m (0 + y) = y by omega]
              · rw [HE'.out]; omega
          · go_wp2
            all_goals
              refine ⟨⟨k + 1, hlt, by go_num, by first | exact hb | exact hb.alloc _ | exact (hb.alloc _).alloc _, ?_, ?_⟩, by simp [intOf]; omega⟩
              · rw [HE'.out, show max m (0 + y) = m by omega]
              · rw [HE'.out]; omega
      · go_wp2
        go_ret
        have hk' : k = xs.length := by omega
        subst hk'
        rw [List.take_length]
        exact ⟨by simp, hgw⟩
end Go.Proofs.Ytphemmifckdjjaa
