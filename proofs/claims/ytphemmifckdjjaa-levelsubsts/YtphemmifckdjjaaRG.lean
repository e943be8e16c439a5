/- The contracts of telamonref1.fits, Suc and Max. -/
import Derived.Test.YtphemmifckdjjaaMG
import Derived.Test.YtphemmifckdjjaaRD
namespace Go.Proofs.Ytphemmifckdjjaa
open Go.RowKit Go.Sort Go.Shelf Go.Lib

theorem fitsR_def (n : Int) (xs : List (Int × Int)) : normR (nOf n (tidyL xs)) (tidyL xs) = canonR n xs := fitsR_eq n xs

set_option maxHeartbeats 1000000 in
theorem fits_any (n : Int) (xs : List (Int × Int)) (a : Option Addr) (cap : Nat) (w : World) (hS : SL w a xs) (hn : xs.length ≤ 4398046511104) (h0 : ∀ p ∈ xs, 0 ≤ p.1) :
    Calls Try.prog 39 #[.agg #[.int .i64 n, .slice a xs.length cap]] w fun e w' => Res w w' e (canonR n xs) := by
  have HT := fun (W : World) (h : SL W a xs) => tidy_any n xs a cap W h hn h0
  have HN := fun (a' : Option Addr) (cap' : Nat) (W : World) (h : SL W a' (tidyL xs)) => rNorm_any (nOf n (tidyL xs)) (tidyL xs) a' cap' W h (Nat.le_trans (tidyL_le xs) hn)
  simp only [fitsR_def] at HN
  obtain ⟨W0, hW0⟩ : ∃ W0, (w.alloc (.cells #[.int .i64 n, .slice a xs.length cap] 24)).alloc (.cells #[.int .i64 0, .slice none 0 0] 24) = W0 := ⟨_, rfl⟩
  have hA : Grew w W0 := by rw [← hW0]; exact ((Grew.refl w).alloc _).alloc _
  have HT := HT W0 (hS.below hA.below)
  have H0 : Hid (W0.heap[w.heap.size]? = some (.cells #[.int .i64 n, .slice a xs.length cap] 24 (0, 0))) := by rw [← hW0]; exact box_at
  have H1 : Hid (W0.heap[w.heap.size + 1]? = some (.cells #[.int .i64 0, .slice none 0 0] 24 (0, 0))) := by rw [← hW0]; exact box_at1
  have HSZ : Hid (W0.heap.size = w.heap.size + 2) := by unfold Hid; rw [← hW0]; simp
  have HW0 := Hid.mk hW0
  have HA := Hid.mk hA
  clear hS h0 hW0 hA
  generalize canonR n xs = D at *
  generalize nOf n (tidyL xs) = m at *
  generalize tidyL xs = T at *
  go_enter Try.func39, Try.ntmps39
  go_wp2_with fail
  rw [HW0.out]
  refine HT.mono ?_
  rintro e w1 ⟨v1, rfl, hO1, hb1⟩
  obtain ⟨a1, c1, rfl, -, -⟩ := hO1.shape
  have hz1 := hb1.size
  have hzz := HSZ.out
  have hL1 := (hb1.block w.heap.size (by omega)).trans H0.out
  have hM1 := (hb1.block (w.heap.size + 1) (by omega)).trans H1.out
  obtain ⟨p0, p1, p2, p3, p4⟩ := cells2 hL1
  have HL1 := Hid.mk hL1
  have HM1 := Hid.mk hM1
  have HO1 := Hid.mk hO1
  have HB1 : Hid (RowKit.Below w.heap.size w w1) := HA.out.below.trans (hb1.mono HA.out.below.size)
  clear hL1 hM1 hO1 hb1 HT
  go_wp2_with fail
  obtain ⟨W2, hW2⟩ : ∃ W2, (w1.setCell ⟨w.heap.size, 0, none⟩ (.int .i64 m)).setCell ⟨w.heap.size, 1, none⟩ (.slice a1 T.length c1) = W2 := ⟨_, rfl⟩
  have hO2 : OR W0.heap.size W2 (.slice a1 T.length c1) T := by rw [← hW2]; exact (HO1.out.setBelow (a := ⟨w.heap.size, 0, none⟩) (by simp only; omega) _).setBelow (a := ⟨w.heap.size, 1, none⟩) (by simp only; omega) _
  have hS2 : SL W2 a1 T := by obtain ⟨p, q, hv, hs, -⟩ := hO2.shape; simp at hv; rw [hv.1]; exact hs
  have HB2 : Hid (RowKit.Below w.heap.size w W2) := by unfold Hid; rw [← hW2]; exact (HB1.out.setCell (p := ⟨w.heap.size, 0, none⟩) (Nat.le_refl _) _).setCell (p := ⟨w.heap.size, 1, none⟩) (Nat.le_refl _) _
  have HM2 : Hid (W2.heap[w.heap.size + 1]? = some (.cells #[.int .i64 0, .slice none 0 0] 24 (0, 0))) := by unfold Hid; rw [← hW2]; exact (Below.heap_setCell _ _ _ _ (by simp)).trans ((Below.heap_setCell _ _ _ _ (by simp)).trans HM1.out)
  have hz2 : w.heap.size + 2 ≤ W2.heap.size := by rw [← hW2]; simp; omega
  rw [hW2]
  refine (HN a1 c1 W2 hS2).mono ?_
  rintro e w3 ⟨v3, rfl, hO3, hb3⟩
  obtain ⟨a3, c3, rfl, -, -⟩ := hO3.shape
  have hz3 := hb3.size
  have hR3 := (hb3.block (w.heap.size + 1) (by omega)).trans HM2.out
  obtain ⟨r0, r1, r2, r3, r4⟩ := cells2 hR3
  clear hR3 p0 p1 p2 p3 p4 hW2
  go_wp2
  refine bodyPost_ret (v := .tuple #[.agg #[.int .i64 D.1, .slice a3 D.2.1.length c3], .int .i64 D.2.2]) (by simp [results, Try.results39, go_sem, r0, r1]) rfl ⟨_, rfl, ?_, ?_⟩
  · exact OR.mono ((hO3.setBelow (a := ⟨w.heap.size + 1, 0, none⟩) (by simp only; omega) _).setBelow (a := ⟨w.heap.size + 1, 1, none⟩) (by simp only; omega) _) (by omega)
  · exact ((HB2.out.trans (hb3.mono (by omega))).setCell (p := ⟨w.heap.size + 1, 0, none⟩) (Nat.le_succ _) _).setCell (p := ⟨w.heap.size + 1, 1, none⟩) (Nat.le_succ _) _

theorem app_step {wr w3 : World} {b2 : Nat} {zs : List (Int × Int)} {p1 p2 : Int} {v v' m : Value} (hO : OR (b2 + 1) wr v zs) (hH : wr.heap[b2]? = some (.cells #[m, v] 24 (0, 0))) (hz : b2 + 1 ≤ wr.heap.size)
    (hown : w3.ownsRow (b2 + 1) 32 2 v' (zs.length + 1) (flat zs ++ [.int .i64 p1, .int .i64 p2])) (hg : (wr.alloc (.cells #[.int .i64 p1, .int .i64 p2] 32)).grownBy w3 v.ownBlock) :
    OR (b2 + 1) w3 v' (zs ++ [(p1, p2)]) ∧ RowKit.Below b2 wr w3 ∧ w3.heap[b2]? = some (.cells #[m, v] 24 (0, 0)) := by
  have hne : ∀ b, b < b2 + 1 → some b ≠ v.ownBlock := fun b hb e => hO.ne hb e.symm
  refine ⟨?_, ((Below.refl _ wr).alloc (by omega) _).grown hg (by simp; omega) (fun k e => by have := (World.ownsRow.lt hO k e).1; omega), ?_⟩
  · unfold OR; rw [flat_append]; simpa [flat] using hown
  · rw [hg.block b2 (by simp; omega) (hne _ (by omega))]; exact alloc_old hH _

set_option maxRecDepth 100000 in
set_option maxHeartbeats 4000000 in
theorem rSuc_any (n k : Int) (xs : List (Int × Int)) (a : Option Addr) (cap : Nat) (w : World) (hS : SL w a xs) (hn : xs.length ≤ 4398046511104) :
    Calls Try.prog 19 #[.agg #[.int .i64 n, .slice a xs.length cap], .int .i64 k] w fun e w' => Res w w' e (sucR n xs k) := by
  obtain ⟨i0, hi, hz0, hz1, hz2⟩ := info_parts infoLVar
  obtain ⟨W0, hW0⟩ : ∃ W0, (w.alloc (.cells #[.int .i64 n, .slice a xs.length cap] 24)).alloc (.cells #[.int .i64 0, .slice none 0 0] 24) = W0 := ⟨_, rfl⟩
  have hA : Grew w W0 := by rw [← hW0]; exact ((Grew.refl w).alloc _).alloc _
  have HN := rNorm_any n xs a cap W0 (hS.below hA.below) hn
  have H0 : Hid (W0.heap[w.heap.size]? = some (.cells #[.int .i64 n, .slice a xs.length cap] 24 (0, 0))) := by rw [← hW0]; exact box_at
  have H1 : Hid (W0.heap[w.heap.size + 1]? = some (.cells #[.int .i64 0, .slice none 0 0] 24 (0, 0))) := by rw [← hW0]; exact box_at1
  have HSZ : Hid (W0.heap.size = w.heap.size + 2) := by unfold Hid; rw [← hW0]; simp
  have HW0 := Hid.mk hW0
  have HA := Hid.mk hA
  have HS := Hid.mk hS
  clear hS hW0 hA
  cases hr : rightB n xs
  · have HD : Hid (sucR n xs k = (0, [], 13)) := by unfold Hid sucR; rw [hr]; rfl
    have hN : normR n xs = (0, [], 13) := by unfold normR; rw [hr]; rfl
    rw [hN] at HN
    generalize sucR n xs k = D at *
    go_enter Try.func19, Try.ntmps19
    go_wp2_with fail
    rw [HW0.out]
    refine HN.mono ?_
    rintro e w1 ⟨v1, rfl, hO1, hb1⟩
    obtain ⟨a1, c1, rfl, -, -⟩ := hO1.shape
    have hz1 := hb1.size
    have hzz := HSZ.out
    have hL1 := (hb1.block w.heap.size (by omega)).trans H0.out
    have hM1 := (hb1.block (w.heap.size + 1) (by omega)).trans H1.out
    obtain ⟨p0, p1, p2, p3, p4⟩ := cells2 hL1
    obtain ⟨q0, q1, q2, q3, q4⟩ := cells2 hM1
    clear hL1 hM1 HN
    go_wp2
    have hD := HD.out
    subst hD
    refine bodyPost_ret (v := .tuple #[.agg #[.int .i64 0, .slice none 0 0], .int .i64 13]) (by simp [results, Try.results19, go_sem, q0, q1]) rfl ⟨_, rfl, OR.nil _ _, ?_⟩
    exact ((((HA.out.below.trans (hb1.mono HA.out.below.size)).setCell (p := ⟨w.heap.size, 0, none⟩) (Nat.le_refl _) _).setCell (p := ⟨w.heap.size, 1, none⟩) (Nat.le_refl _) _).setCell (p := ⟨w.heap.size + 1, 0, none⟩) (Nat.le_succ _) _).setCell (p := ⟨w.heap.size + 1, 1, none⟩) (Nat.le_succ _) _
  · have hN := normR_right hr
    rw [hN] at HN
    have HRt := Hid.mk hr
    have HTR : Hid (∀ p ∈ tidyL xs, 0 ≤ p.1 ∧ p.1 ≤ 1000 ∧ 0 ≤ p.2 ∧ p.2 ≤ 1000) := fun p hp => by
      obtain ⟨i, hi, e⟩ := List.getElem_of_mem (tidy_mem hp)
      exact right_at hr (k := i) (x := p.1) (y := p.2) (by simp [hi, e])
    have hTl : (tidyL xs).length ≤ 64 := Nat.le_trans (tidyL_le xs) (right_n hr).2.2
    have hm0 : 0 ≤ nOf n (tidyL xs) := by have := (right_n hr).1; unfold nOf; split <;> omega
    have hm1 : nOf n (tidyL xs) ≤ 1000 := by have := (right_n hr).2.1; have := (right_n hr).1; unfold nOf; split <;> omega
    have HD0 : Hid (k < 0 → sucR n xs k = (0, [], 1)) := fun h => by unfold sucR; rw [hr, if_pos rfl, if_pos h]
    have HD1 : Hid (1000 < k → sucR n xs k = (0, [], 13)) := fun h => rsuc_big hr h
    have HD2 : Hid (0 ≤ k → k ≤ 1000 → canonR (sucN (nOf n (tidyL xs)) (tidyL xs) k) (rmap k (tidyL xs)) = sucR n xs k) := fun h h' => rsuc_eq hr h h'
    generalize sucR n xs k = D at *
    generalize nOf n (tidyL xs) = m at *
    generalize tidyL xs = T at *
    clear hr hN
    go_enter Try.func19, Try.ntmps19
    go_wp2_with fail
    rw [HW0.out]
    refine HN.mono ?_
    rintro e w1 ⟨v1, rfl, hO1, hb1⟩
    simp only at hO1
    obtain ⟨a1, c1, rfl, -, -⟩ := hO1.shape
    have hz1 := hb1.size
    have hzz := HSZ.out
    have hL1 := (hb1.block w.heap.size (by omega)).trans H0.out
    have hM1 := (hb1.block (w.heap.size + 1) (by omega)).trans H1.out
    obtain ⟨p0, p1, p2, p3, p4⟩ := cells2 hL1
    obtain ⟨q0, q1, q2, q3, q4⟩ := cells2 hM1
    have HL1 := Hid.mk hL1
    have HM1 := Hid.mk hM1
    have HO1 := Hid.mk hO1
    have HB1 : Hid (RowKit.Below w.heap.size w w1) := HA.out.below.trans (hb1.mono HA.out.below.size)
    clear hL1 hM1 HN hO1 hb1
    rcases (show k < 0 ∨ 1000 < k ∨ (0 ≤ k ∧ k ≤ 1000) by omega) with hk | hk | ⟨hk0, hk1⟩
    · go_wp2
      have hD := HD0.out hk
      subst hD
      refine bodyPost_ret (v := .tuple #[.agg #[.int .i64 0, .slice none 0 0], .int .i64 1]) (by simp [results, Try.results19, go_sem, q0, q1]) rfl ⟨_, rfl, OR.nil _ _, ?_⟩
      exact (((HB1.out.setCell (p := ⟨w.heap.size, 0, none⟩) (Nat.le_refl _) _).setCell (p := ⟨w.heap.size, 1, none⟩) (Nat.le_refl _) _).setCell (p := ⟨w.heap.size + 1, 0, none⟩) (Nat.le_succ _) _).setCell (p := ⟨w.heap.size + 1, 1, none⟩) (Nat.le_succ _) _
    · go_wp2
      have hD := HD1.out hk
      subst hD
      refine bodyPost_ret (v := .tuple #[.agg #[.int .i64 0, .slice none 0 0], .int .i64 13]) (by simp [results, Try.results19, go_sem, q0, q1]) rfl ⟨_, rfl, OR.nil _ _, ?_⟩
      exact (((HB1.out.setCell (p := ⟨w.heap.size, 0, none⟩) (Nat.le_refl _) _).setCell (p := ⟨w.heap.size, 1, none⟩) (Nat.le_refl _) _).setCell (p := ⟨w.heap.size + 1, 0, none⟩) (Nat.le_succ _) _).setCell (p := ⟨w.heap.size + 1, 1, none⟩) (Nat.le_succ _) _
    · have HD3 := Hid.mk (HD2.out hk0 hk1)
      clear HD0 HD1 HD2
      obtain ⟨M, hM⟩ : ∃ M, sucN m T k = M := ⟨_, rfl⟩
      rw [hM] at HD3
      obtain ⟨W2, hW2⟩ : ∃ W2, (w1.setCell ⟨w.heap.size, 0, none⟩ (.int .i64 m)).setCell ⟨w.heap.size, 1, none⟩ (.slice a1 T.length c1) = W2 := ⟨_, rfl⟩
      have hO2 : OR W0.heap.size W2 (.slice a1 T.length c1) T := by rw [← hW2]; exact (HO1.out.setBelow (a := ⟨w.heap.size, 0, none⟩) (by simp only; omega) _).setBelow (a := ⟨w.heap.size, 1, none⟩) (by simp only; omega) _
      have HS2 : Hid (SL W2 a1 T) := by obtain ⟨p, q, hv, hs, -⟩ := hO2.shape; simp at hv; unfold Hid; rw [hv.1]; exact hs
      have HB2 : Hid (RowKit.Below w.heap.size w W2) := by unfold Hid; rw [← hW2]; exact (HB1.out.setCell (p := ⟨w.heap.size, 0, none⟩) (Nat.le_refl _) _).setCell (p := ⟨w.heap.size, 1, none⟩) (Nat.le_refl _) _
      have HM2 : Hid (W2.heap[w.heap.size + 1]? = some (.cells #[.int .i64 0, .slice none 0 0] 24 (0, 0))) := by unfold Hid; rw [← hW2]; exact (Below.heap_setCell _ _ _ _ (by simp)).trans ((Below.heap_setCell _ _ _ _ (by simp)).trans HM1.out)
      have HL2 : Hid (W2.heap[w.heap.size]? = some (.cells #[.int .i64 m, .slice a1 T.length c1] 24 (0, 0))) := by unfold Hid; rw [← hW2]; exact set1_heap (heap_set0 HL1.out)
      have HZ2 : Hid (W2.heap.size = w1.heap.size) := by unfold Hid; rw [← hW2]; simp
      have hw1 : w.heap.size + 2 ≤ w1.heap.size := by omega
      have HW2 := Hid.mk hW2
      clear hW2 hO2 hzz hz1
      have HMc : Hid ((M = 0 ∧ m = 0 ∧ 0 < T.length) ∨ (M = m + k ∧ m = 0 ∧ ¬ 0 < T.length) ∨ (M = m + k ∧ m ≠ 0)) := by
        unfold Hid; rw [← hM]; unfold sucN
        by_cases h1 : m = 0 <;> by_cases h2 : 0 < T.length <;> simp [h1, h2]
      have HMb : Hid (0 ≤ M ∧ M ≤ 2000) := by unfold Hid; rcases HMc.out with ⟨h, -⟩ | ⟨h, -⟩ | ⟨h, -⟩ <;> omega
      clear hM
      rcases HMc.out with ⟨h1, h2, h3⟩ | ⟨h1, h2, h3⟩ | ⟨h1, h2⟩
      · subst h1 h2
        clear HMc
        have HE : Hid (∃ M, M = 0) := ⟨_, rfl⟩
        go_wp2_with fail
        rw [HW2.out]
        obtain ⟨W3, hW3⟩ : ∃ W3, W2.alloc (.cells #[.int .i64 0, .slice none 0 0] 24) = W3 := ⟨_, rfl⟩
        have HB3 : Hid (RowKit.Below W2.heap.size W2 W3) := by unfold Hid; rw [← hW3]; exact ((Grew.refl _).alloc _).below
        have HH3 : Hid (W3.heap[w1.heap.size]? = some (.cells #[.int .i64 0, .slice none 0 0] 24 (0, 0))) := by unfold Hid; rw [← hW3, ← HZ2.out]; exact alloc_new _ _
        have hz3 : w1.heap.size + 1 ≤ W3.heap.size := by rw [← hW3, ← HZ2.out]; simp
        rw [hW3]
        clear hW3 p0 p1 p2 p3 q0 q1 q2 q3
        go_loopw [8] (fun i wr => ∃ (j : Nat) (v : Value), j ≤ T.length ∧ i = .int .i64 j ∧ RowKit.Below w1.heap.size W3 wr ∧ wr.heap[w1.heap.size]? = some (.cells #[.int .i64 0, v] 24 (0, 0)) ∧ OR (w1.heap.size + 1) wr v (rmap k (T.take j))) (fun i _ => T.length - (intOf i).toNat)
        case atStart => exact ⟨0, .slice none 0 0, Nat.zero_le _, rfl, Below.refl _ _, HH3.out, OR.nil _ _⟩
        case round =>
          obtain ⟨j, v, hj, rfl, hb, hh, hO⟩ := hrel
          have hbw : RowKit.Below w1.heap.size W2 wr := (HB3.out.mono (by rw [HZ2.out]; exact Nat.le_refl _)).trans hb
          have hL := (hbw.block w.heap.size (by omega)).trans HL2.out
          obtain ⟨l0, l1, -, -, -⟩ := cells2 hL
          obtain ⟨o0, o1, o2, o3, o4⟩ := cells2 hh
          have HHr := Hid.mk hh
          have HOr := Hid.mk hO
          have HBr := Hid.mk hbw
          have HB3r := Hid.mk hb
          have HLr := Hid.mk hL
          have hzr : w1.heap.size + 1 ≤ wr.heap.size := o4
          have hlen : (rmap k (T.take j)).length = j := by rw [rmap_len]; simp; omega
          have HLEN := Hid.mk hlen
          obtain ⟨va, vc, hv, -, -⟩ := hO.shape
          rw [hlen] at hv
          subst hv
          clear hlen hh hO hbw hb hL
          by_cases hlt : j < T.length
          · obtain ⟨b, off, x, y, rfl, hbl, hd0, hd1, hxy⟩ := HS2.out.at hlt
            have hbl1 : b < w1.heap.size := by have := HZ2.out; omega
            have hc0 := (HBr.out.cell (p := ⟨b, off + j * 2, none⟩) hbl1).trans hd0
            have hc1 := (HBr.out.cell (p := ⟨b, off + j * 2 + 1, none⟩) hbl1).trans hd1
            have hx := HTR.out (x, y) (List.mem_of_getElem? hxy.out)
            simp only at hx
            obtain ⟨hx0, hx1, hy0, hy1⟩ := hx
            have zj : (j : Int) < (T.length : Int) := by omega
            have HRM := Hid.mk (rmap_take (k := k) hxy.out)
            have hbr : b < wr.heap.size := by omega
            clear hd0 hd1 hbl o0
            have HAP : Hid (∀ (v' : Value) (w3 : World), w3.ownsRow (w1.heap.size + 1) 32 2 v' ((rmap k (T.take j)).length + 1) (flat (rmap k (T.take j)) ++ [.int .i64 x, .int .i64 (y + k)]) → (wr.alloc (.cells #[.int .i64 x, .int .i64 (y + k)] 32)).drew.grownBy w3 (Value.slice va j vc).ownBlock → OR (w1.heap.size + 1) w3 v' (rmap k (T.take j) ++ [(x, y + k)]) ∧ RowKit.Below w1.heap.size wr w3 ∧ w3.heap[w1.heap.size]? = some (.cells #[.int .i64 0, .slice va j vc] 24 (0, 0))) := fun v' w3 h1 h2 => app_step (wr := wr) HOr.out HHr.out hzr h1 ⟨h2.1, h2.2, h2.3, h2.4, h2.5⟩
            have hyk : IntKind.i64.wrap (y + k) = y + k := Go.IntWalk.i64_in _ (by omega)
            go_wp2_with fail
            refine wp_region_held_drew (S := fun w' => w'.cell? ⟨w.heap.size, 1, none⟩ = some (.slice (some ⟨b, off, none⟩) T.length c1) ∧ w'.cell? ⟨b, off + j * 2, none⟩ = some (.int .i64 x) ∧ w'.cell? ⟨b, off + j * 2 + 1, none⟩ = some (.int .i64 y)) (by kernel_rfl) ?_ (fun hHeld => ?_)
            · (try dsimp only)
              first | (go_keep; done) | (go_split_ands; refine ⟨?_, ?_, ?_⟩ <;> (first | (rw [hB3.cell (by simp; omega)]; assumption) | (rw [World.cell?_setCell_far _ _ _ _ (by simp; omega), hB3.cell (by simp; omega)]; assumption) | (rw [World.cell?_setCell_far _ _ _ _ (by simp; omega)]; assumption)))
            refine wpAnyH_take (i := 0) (v := ?_) rfl (by kernel_rfl) (by kernel_rfl) (by kernel_rfl) (fun _ _ _ h => h) (Or.inl ⟨by rfl, ?_⟩) (by assumption) ?_
            rotate_left
            · (intro w hSw; (try dsimp only at hSw); go_simp; (try with_reducible rfl))
            refine wpAnyH_take (i := 2) (v := ?_) rfl (by kernel_rfl) (by kernel_rfl) (by kernel_rfl) (fun _ _ _ h => h) (Or.inl ⟨by rfl, ?_⟩) (by assumption) ?_
            rotate_left
            · (intro w hSw; (try dsimp only at hSw); go_simp; (try with_reducible rfl))
            refine wpAnyH_take (i := 3) (v := ?_) rfl (by kernel_rfl) (by kernel_rfl) (by kernel_rfl) (fun _ _ _ h => h) (Or.inl ⟨by rfl, ?_⟩) (by assumption) ?_
            rotate_left
            · (intro w hSw; (try dsimp only at hSw); go_simp; (try with_reducible rfl))
            refine wpAnyH_take (i := 4) (v := ?_) rfl (by kernel_rfl) (by kernel_rfl) (by kernel_rfl) (fun _ _ _ h => h) (Or.inl ⟨by rfl, ?_⟩) (by assumption) ?_
            rotate_left
            · (intro w hSw; (try dsimp only at hSw); go_simp; (try with_reducible rfl))
            refine wpAnyH_take (i := 5) (v := ?_) rfl (by kernel_rfl) (by kernel_rfl) (by kernel_rfl) (fun _ _ _ h => h) (Or.inl ⟨by rfl, ?_⟩) (by assumption) ?_
            rotate_left
            · (intro w hSw; (try dsimp only at hSw); go_simp; (try with_reducible rfl))
            refine wpAnyH_take (i := 6) (v := ?_) rfl (by kernel_rfl) (by kernel_rfl) (by kernel_rfl) (fun _ _ _ h => h) (Or.inl ⟨by rfl, ?_⟩) (by assumption) ?_
            rotate_left
            · (intro w hSw; (try dsimp only at hSw); go_simp; (try with_reducible rfl))
            refine wpAnyH_take (i := 7) (v := ?_) rfl (by kernel_rfl) (by kernel_rfl) (by kernel_rfl) (fun _ _ _ h => h) (Or.inl ⟨by rfl, ?_⟩) (by assumption) ?_
            rotate_left
            · (intro w hSw; (try dsimp only at hSw); go_simp; (try with_reducible rfl))
            refine wpAnyH_take (i := 8) (v := ?_) rfl (by kernel_rfl) (by kernel_rfl) (by kernel_rfl) (fun _ _ _ h => h) (Or.inl ⟨by rfl, ?_⟩) (by assumption) ?_
            rotate_left
            · (intro w hSw; (try dsimp only at hSw); go_simp; (try with_reducible rfl))
            refine wpAnyH_take (i := 9) (v := ?_) rfl (by kernel_rfl) (by kernel_rfl) (by kernel_rfl) (fun _ _ _ h => h) (Or.inl ⟨by rfl, ?_⟩) (by assumption) ?_
            rotate_left
            · (intro w hSw; (try dsimp only at hSw); go_simp; (try with_reducible rfl))
            refine wpAnyH_take (i := 10) (v := ?_) rfl (by kernel_rfl) (by kernel_rfl) (by kernel_rfl) (fun _ _ _ h => h) (Or.inl ⟨by rfl, ?_⟩) (by assumption) ?_
            rotate_left
            · (intro w hSw; (try dsimp only at hSw); go_simp; (try with_reducible rfl))
            refine wpAnyH_take (i := 11) (v := ?_) rfl (by kernel_rfl) (by kernel_rfl) (by kernel_rfl) (fun _ _ _ h => h) (Or.inl ⟨by rfl, ?_⟩) (by assumption) ?_
            rotate_left
            · (intro w hSw; (try dsimp only at hSw); go_simp; (try with_reducible rfl))
            refine wpAnyH_take (i := 12) (v := ?_) rfl (by kernel_rfl) (by kernel_rfl) (by kernel_rfl) (fun _ _ _ h => h) (Or.inl ⟨by rfl, ?_⟩) (by assumption) ?_
            rotate_left
            · (intro w hSw; (try dsimp only at hSw); go_simp; (try with_reducible rfl))
            refine wpAnyH_take (i := 13) (v := ?_) rfl (by kernel_rfl) (by kernel_rfl) (by kernel_rfl) (fun _ _ _ h => h) (Or.inl ⟨by rfl, ?_⟩) (by assumption) ?_
            rotate_left
            · (intro w hSw; (try dsimp only at hSw); go_simp; (try with_reducible rfl))
            refine wpAnyH_take (i := 14) (v := ?_) rfl (by kernel_rfl) (by kernel_rfl) (by kernel_rfl) (fun _ _ _ h => h) (Or.inl ⟨by rfl, ?_⟩) (by assumption) ?_
            rotate_left
            · (intro w hSw; (try dsimp only at hSw); go_simp; (try with_reducible rfl))
            refine wpAnyH_take (i := 15) (v := ?_) rfl (by kernel_rfl) (by kernel_rfl) (by kernel_rfl) (fun _ _ _ h => h) (Or.inl ⟨by rfl, ?_⟩) (by assumption) ?_
            rotate_left
            · (intro w hSw; (try dsimp only at hSw); go_simp; (try with_reducible rfl))
            refine wpAnyH_take (i := 16) (v := ?_) rfl (by kernel_rfl) (by kernel_rfl) (by kernel_rfl) (fun _ _ _ h => h) (Or.inl ⟨by rfl, ?_⟩) (by assumption) ?_
            rotate_left
            · (intro w hSw; (try dsimp only at hSw); go_simp; (try with_reducible rfl))
            refine wpAnyH_ready (rs := [1, 17]) (by kernel_rfl) (by simp) ?_
            refine AllReadyH.cons rfl (fun K hK => ?_) (AllReadyH.cons rfl (fun K hK => ?_) AllReadyH.nil)
            · skip
              go_simp
              refine hK.out _ _ ?_ (fun hHeld => ?_)
              · (try dsimp only)
                first | (go_keep; done) | (go_split_ands; refine ⟨?_, ?_, ?_⟩ <;> (first | (rw [hB3.cell (by simp; omega)]; assumption) | (rw [World.cell?_setCell_far _ _ _ _ (by simp; omega), hB3.cell (by simp; omega)]; assumption) | (rw [World.cell?_setCell_far _ _ _ _ (by simp; omega)]; assumption)))
              clear hK K
              refine wpAnyH_ready (rs := [17]) (by kernel_rfl) (by simp) ?_
              refine AllReadyH.cons rfl (fun K hK => ?_) AllReadyH.nil
              go_simp
              refine hK.out _ _ ?_ (fun hHeld => ?_)
              · (try dsimp only)
                first | (go_keep; done) | (go_split_ands; refine ⟨?_, ?_, ?_⟩ <;> (first | (rw [hB3.cell (by simp; omega)]; assumption) | (rw [World.cell?_setCell_far _ _ _ _ (by simp; omega), hB3.cell (by simp; omega)]; assumption) | (rw [World.cell?_setCell_far _ _ _ _ (by simp; omega)]; assumption)))
              clear hK K
              refine wpAnyH_ready (rs := [18]) (by kernel_rfl) (by simp) ?_
              refine AllReadyH.cons rfl (fun K hK => ?_) AllReadyH.nil
              ((try rw [hyk]); refine step_append_lies _ (by rfl) _ _ _ (by rfl) (w1.heap.size + 1) 32 i0 _ 2 16 Try.underlying22 hi hz0 hz1 hz2 rfl (by omega) _ (rmap k (T.take j)).length (flat (rmap k (T.take j))) (by rfl) ((HOr.out.alloc _).drew) ⟨wr.heap.size, 0, none⟩ 1 1 [.int .i64 x, .int .i64 (y + k)] (by rfl) (by rfl) (World.news_of_block (cs := #[.int .i64 x, .int .i64 (y + k)]) (t := 32) (fr := (0, 0)) (alloc_new _ _)) (by simp [Value.oneCell']) (by omega) (by rw [HLEN.out]; simp [maxLen]; omega) (by rw [HLEN.out]; omega) (by simp; omega) (wr.heap.size + 1) (by simp) ?_; intro gg cap1 w3 hown1 hgrow hat hlt1; obtain ⟨hO3, hB3, hH3⟩ := HAP.out _ _ hown1 hgrow; obtain ⟨t0, t1, t2, t3, t4⟩ := cells2 hH3; have HO3 := Hid.mk hO3; have HH3' := Hid.mk hH3; clear hO3 hH3 hown1 hgrow hat)
              refine hK.out _ _ ?_ (fun hHeld => ?_)
              · (try dsimp only)
                first | (go_keep; done) | (go_split_ands; refine ⟨?_, ?_, ?_⟩ <;> (first | (rw [hB3.cell (by simp; omega)]; assumption) | (rw [World.cell?_setCell_far _ _ _ _ (by simp; omega), hB3.cell (by simp; omega)]; assumption) | (rw [World.cell?_setCell_far _ _ _ _ (by simp; omega)]; assumption)))
              clear hK K
              refine wpAnyH_take (i := 19) (v := ?_) rfl (by kernel_rfl) (by kernel_rfl) (by kernel_rfl) (fun _ _ _ h => h) (Or.inl ⟨by rfl, ?_⟩) (by assumption) ?_
              rotate_left
              · (intro w hSw; (try dsimp only at hSw); go_simp; (try with_reducible rfl))
              refine wpAnyH_ready (rs := [20]) (by kernel_rfl) (by simp) ?_
              refine AllReadyH.cons rfl (fun K hK => ?_) AllReadyH.nil
              go_simp
              refine hK.out _ _ ?_ (fun hHeld => ?_)
              · (try dsimp only)
                first | (go_keep; done) | (go_split_ands; refine ⟨?_, ?_, ?_⟩ <;> (first | (rw [hB3.cell (by simp; omega)]; assumption) | (rw [World.cell?_setCell_far _ _ _ _ (by simp; omega), hB3.cell (by simp; omega)]; assumption) | (rw [World.cell?_setCell_far _ _ _ _ (by simp; omega)]; assumption)))
              clear hK K
              refine wpAnyH_done (by kernel_rfl) ?_ _
              go_wp2
              refine ⟨⟨j + 1, .slice (some ⟨gg, 0, none⟩) ((rmap k (T.take j)).length + 1) cap1, hlt, by go_num, (HB3r.out.trans hB3).setCell (p := ⟨w1.heap.size, 1, none⟩) (Nat.le_refl _) _, set1_heap HH3'.out, ?_⟩, by simp [intOf]; omega⟩
              rw [HRM.out]
              exact HO3.out.setBelow (a := ⟨w1.heap.size, 1, none⟩) (by simp) _
            · skip
              go_simp
              refine hK.out _ _ ?_ (fun hHeld => ?_)
              · (try dsimp only)
                first | (go_keep; done) | (go_split_ands; refine ⟨?_, ?_, ?_⟩ <;> (first | (rw [hB3.cell (by simp; omega)]; assumption) | (rw [World.cell?_setCell_far _ _ _ _ (by simp; omega), hB3.cell (by simp; omega)]; assumption) | (rw [World.cell?_setCell_far _ _ _ _ (by simp; omega)]; assumption)))
              clear hK K
              refine wpAnyH_ready (rs := [1]) (by kernel_rfl) (by simp) ?_
              refine AllReadyH.cons rfl (fun K hK => ?_) AllReadyH.nil
              go_simp
              refine hK.out _ _ ?_ (fun hHeld => ?_)
              · (try dsimp only)
                first | (go_keep; done) | (go_split_ands; refine ⟨?_, ?_, ?_⟩ <;> (first | (rw [hB3.cell (by simp; omega)]; assumption) | (rw [World.cell?_setCell_far _ _ _ _ (by simp; omega), hB3.cell (by simp; omega)]; assumption) | (rw [World.cell?_setCell_far _ _ _ _ (by simp; omega)]; assumption)))
              clear hK K
              refine wpAnyH_ready (rs := [18]) (by kernel_rfl) (by simp) ?_
              refine AllReadyH.cons rfl (fun K hK => ?_) AllReadyH.nil
              ((try rw [hyk]); refine step_append_lies _ (by rfl) _ _ _ (by rfl) (w1.heap.size + 1) 32 i0 _ 2 16 Try.underlying22 hi hz0 hz1 hz2 rfl (by omega) _ (rmap k (T.take j)).length (flat (rmap k (T.take j))) (by rfl) ((HOr.out.alloc _).drew) ⟨wr.heap.size, 0, none⟩ 1 1 [.int .i64 x, .int .i64 (y + k)] (by rfl) (by rfl) (World.news_of_block (cs := #[.int .i64 x, .int .i64 (y + k)]) (t := 32) (fr := (0, 0)) (alloc_new _ _)) (by simp [Value.oneCell']) (by omega) (by rw [HLEN.out]; simp [maxLen]; omega) (by rw [HLEN.out]; omega) (by simp; omega) (wr.heap.size + 1) (by simp) ?_; intro gg cap1 w3 hown1 hgrow hat hlt1; obtain ⟨hO3, hB3, hH3⟩ := HAP.out _ _ hown1 hgrow; obtain ⟨t0, t1, t2, t3, t4⟩ := cells2 hH3; have HO3 := Hid.mk hO3; have HH3' := Hid.mk hH3; clear hO3 hH3 hown1 hgrow hat)
              refine hK.out _ _ ?_ (fun hHeld => ?_)
              · (try dsimp only)
                first | (go_keep; done) | (go_split_ands; refine ⟨?_, ?_, ?_⟩ <;> (first | (rw [hB3.cell (by simp; omega)]; assumption) | (rw [World.cell?_setCell_far _ _ _ _ (by simp; omega), hB3.cell (by simp; omega)]; assumption) | (rw [World.cell?_setCell_far _ _ _ _ (by simp; omega)]; assumption)))
              clear hK K
              refine wpAnyH_take (i := 19) (v := ?_) rfl (by kernel_rfl) (by kernel_rfl) (by kernel_rfl) (fun _ _ _ h => h) (Or.inl ⟨by rfl, ?_⟩) (by assumption) ?_
              rotate_left
              · (intro w hSw; (try dsimp only at hSw); go_simp; (try with_reducible rfl))
              refine wpAnyH_ready (rs := [20]) (by kernel_rfl) (by simp) ?_
              refine AllReadyH.cons rfl (fun K hK => ?_) AllReadyH.nil
              go_simp
              refine hK.out _ _ ?_ (fun hHeld => ?_)
              · (try dsimp only)
                first | (go_keep; done) | (go_split_ands; refine ⟨?_, ?_, ?_⟩ <;> (first | (rw [hB3.cell (by simp; omega)]; assumption) | (rw [World.cell?_setCell_far _ _ _ _ (by simp; omega), hB3.cell (by simp; omega)]; assumption) | (rw [World.cell?_setCell_far _ _ _ _ (by simp; omega)]; assumption)))
              clear hK K
              refine wpAnyH_done (by kernel_rfl) ?_ _
              go_wp2
              refine ⟨⟨j + 1, .slice (some ⟨gg, 0, none⟩) ((rmap k (T.take j)).length + 1) cap1, hlt, by go_num, (HB3r.out.trans hB3).setCell (p := ⟨w1.heap.size, 1, none⟩) (Nat.le_refl _) _, set1_heap HH3'.out, ?_⟩, by simp [intOf]; omega⟩
              rw [HRM.out]
              exact HO3.out.setBelow (a := ⟨w1.heap.size, 1, none⟩) (by simp) _
          · have hj' : j = T.length := by omega
            subst hj'
            rw [List.take_length] at HOr
            have hS5 : SL wr va (rmap k T) := by obtain ⟨p, q, hv, hs, -⟩ := HOr.out.shape; simp at hv; rw [hv.1]; exact hs
            have hfit := fits_any 0 (rmap k T) va vc wr hS5 (by rw [rmap_len]; omega) (fun p hp => by obtain ⟨q, hq, rfl⟩ := rmap_mem.1 hp; exact (HTR.out q hq).1)
            rw [rmap_len, HD3.out] at hfit
            have HF := Hid.mk hfit
            have hR := (HBr.out.block (w.heap.size + 1) (by omega)).trans HM2.out
            have HR5 := Hid.mk hR
            clear hfit hS5 hR
            go_wp2_with fail
            refine HF.out.mono ?_
            rintro e w6 ⟨v6, rfl, hO6, hb6⟩
            obtain ⟨a6, c6, rfl, -, -⟩ := hO6.shape
            have hz6 := hb6.size
            obtain ⟨r0, r1, r2, r3, r4⟩ := cells2 ((hb6.block (w.heap.size + 1) (by omega)).trans HR5.out)
            have hBB : RowKit.Below w.heap.size w wr := HB2.out.trans (HBr.out.mono (by omega))
            go_wp2
            refine bodyPost_ret (v := .tuple #[.agg #[.int .i64 D.1, .slice a6 D.2.1.length c6], .int .i64 D.2.2]) (by simp [results, Try.results19, go_sem, r0, r1]) rfl ⟨_, rfl, ?_, ?_⟩
            · exact OR.mono ((hO6.setBelow (a := ⟨w.heap.size + 1, 0, none⟩) (by simp only; omega) _).setBelow (a := ⟨w.heap.size + 1, 1, none⟩) (by simp only; omega) _) (by omega)
            · exact ((hBB.trans (hb6.mono (by omega))).setCell (p := ⟨w.heap.size + 1, 0, none⟩) (Nat.le_succ _) _).setCell (p := ⟨w.heap.size + 1, 1, none⟩) (Nat.le_succ _) _
      · subst h2
        rw [Int.zero_add] at h1
        have h1 := h1.symm
        subst h1
        clear HMc
        have HE : Hid (∃ M, M = k) := ⟨_, rfl⟩
        go_wp2_with fail
        rw [HW2.out]
        obtain ⟨W3, hW3⟩ : ∃ W3, W2.alloc (.cells #[.int .i64 k, .slice none 0 0] 24) = W3 := ⟨_, rfl⟩
        have HB3 : Hid (RowKit.Below W2.heap.size W2 W3) := by unfold Hid; rw [← hW3]; exact ((Grew.refl _).alloc _).below
        have HH3 : Hid (W3.heap[w1.heap.size]? = some (.cells #[.int .i64 k, .slice none 0 0] 24 (0, 0))) := by unfold Hid; rw [← hW3, ← HZ2.out]; exact alloc_new _ _
        have hz3 : w1.heap.size + 1 ≤ W3.heap.size := by rw [← hW3, ← HZ2.out]; simp
        rw [hW3]
        clear hW3 p0 p1 p2 p3 q0 q1 q2 q3
        go_loopw [8] (fun i wr => ∃ (j : Nat) (v : Value), j ≤ T.length ∧ i = .int .i64 j ∧ RowKit.Below w1.heap.size W3 wr ∧ wr.heap[w1.heap.size]? = some (.cells #[.int .i64 k, v] 24 (0, 0)) ∧ OR (w1.heap.size + 1) wr v (rmap k (T.take j))) (fun i _ => T.length - (intOf i).toNat)
        case atStart => exact ⟨0, .slice none 0 0, Nat.zero_le _, rfl, Below.refl _ _, HH3.out, OR.nil _ _⟩
        case round =>
          obtain ⟨j, v, hj, rfl, hb, hh, hO⟩ := hrel
          have hbw : RowKit.Below w1.heap.size W2 wr := (HB3.out.mono (by rw [HZ2.out]; exact Nat.le_refl _)).trans hb
          have hL := (hbw.block w.heap.size (by omega)).trans HL2.out
          obtain ⟨l0, l1, -, -, -⟩ := cells2 hL
          obtain ⟨o0, o1, o2, o3, o4⟩ := cells2 hh
          have HHr := Hid.mk hh
          have HOr := Hid.mk hO
          have HBr := Hid.mk hbw
          have HB3r := Hid.mk hb
          have HLr := Hid.mk hL
          have hzr : w1.heap.size + 1 ≤ wr.heap.size := o4
          have hlen : (rmap k (T.take j)).length = j := by rw [rmap_len]; simp; omega
          have HLEN := Hid.mk hlen
          obtain ⟨va, vc, hv, -, -⟩ := hO.shape
          rw [hlen] at hv
          subst hv
          clear hlen hh hO hbw hb hL
          by_cases hlt : j < T.length
          · omega
          · have hj' : j = T.length := by omega
            subst hj'
            rw [List.take_length] at HOr
            have hS5 : SL wr va (rmap k T) := by obtain ⟨p, q, hv, hs, -⟩ := HOr.out.shape; simp at hv; rw [hv.1]; exact hs
            have hfit := fits_any k (rmap k T) va vc wr hS5 (by rw [rmap_len]; omega) (fun p hp => by obtain ⟨q, hq, rfl⟩ := rmap_mem.1 hp; exact (HTR.out q hq).1)
            rw [rmap_len, HD3.out] at hfit
            have HF := Hid.mk hfit
            have hR := (HBr.out.block (w.heap.size + 1) (by omega)).trans HM2.out
            have HR5 := Hid.mk hR
            clear hfit hS5 hR
            go_wp2_with fail
            refine HF.out.mono ?_
            rintro e w6 ⟨v6, rfl, hO6, hb6⟩
            obtain ⟨a6, c6, rfl, -, -⟩ := hO6.shape
            have hz6 := hb6.size
            obtain ⟨r0, r1, r2, r3, r4⟩ := cells2 ((hb6.block (w.heap.size + 1) (by omega)).trans HR5.out)
            have hBB : RowKit.Below w.heap.size w wr := HB2.out.trans (HBr.out.mono (by omega))
            go_wp2
            refine bodyPost_ret (v := .tuple #[.agg #[.int .i64 D.1, .slice a6 D.2.1.length c6], .int .i64 D.2.2]) (by simp [results, Try.results19, go_sem, r0, r1]) rfl ⟨_, rfl, ?_, ?_⟩
            · exact OR.mono ((hO6.setBelow (a := ⟨w.heap.size + 1, 0, none⟩) (by simp only; omega) _).setBelow (a := ⟨w.heap.size + 1, 1, none⟩) (by simp only; omega) _) (by omega)
            · exact ((hBB.trans (hb6.mono (by omega))).setCell (p := ⟨w.heap.size + 1, 0, none⟩) (Nat.le_succ _) _).setCell (p := ⟨w.heap.size + 1, 1, none⟩) (Nat.le_succ _) _
      · subst h1
        have h2' : (m == 0) = false := by simp [h2]
        clear HMc
        have HE : Hid (∃ M, M = (m + k)) := ⟨_, rfl⟩
        go_wp2_with fail
        rw [HW2.out]
        obtain ⟨W3, hW3⟩ : ∃ W3, W2.alloc (.cells #[.int .i64 (m + k), .slice none 0 0] 24) = W3 := ⟨_, rfl⟩
        have HB3 : Hid (RowKit.Below W2.heap.size W2 W3) := by unfold Hid; rw [← hW3]; exact ((Grew.refl _).alloc _).below
        have HH3 : Hid (W3.heap[w1.heap.size]? = some (.cells #[.int .i64 (m + k), .slice none 0 0] 24 (0, 0))) := by unfold Hid; rw [← hW3, ← HZ2.out]; exact alloc_new _ _
        have hz3 : w1.heap.size + 1 ≤ W3.heap.size := by rw [← hW3, ← HZ2.out]; simp
        rw [hW3]
        clear hW3 p0 p1 p2 p3 q0 q1 q2 q3
        go_loopw [8] (fun i wr => ∃ (j : Nat) (v : Value), j ≤ T.length ∧ i = .int .i64 j ∧ RowKit.Below w1.heap.size W3 wr ∧ wr.heap[w1.heap.size]? = some (.cells #[.int .i64 (m + k), v] 24 (0, 0)) ∧ OR (w1.heap.size + 1) wr v (rmap k (T.take j))) (fun i _ => T.length - (intOf i).toNat)
        case atStart => exact ⟨0, .slice none 0 0, Nat.zero_le _, rfl, Below.refl _ _, HH3.out, OR.nil _ _⟩
        case round =>
          obtain ⟨j, v, hj, rfl, hb, hh, hO⟩ := hrel
          have hbw : RowKit.Below w1.heap.size W2 wr := (HB3.out.mono (by rw [HZ2.out]; exact Nat.le_refl _)).trans hb
          have hL := (hbw.block w.heap.size (by omega)).trans HL2.out
          obtain ⟨l0, l1, -, -, -⟩ := cells2 hL
          obtain ⟨o0, o1, o2, o3, o4⟩ := cells2 hh
          have HHr := Hid.mk hh
          have HOr := Hid.mk hO
          have HBr := Hid.mk hbw
          have HB3r := Hid.mk hb
          have HLr := Hid.mk hL
          have hzr : w1.heap.size + 1 ≤ wr.heap.size := o4
          have hlen : (rmap k (T.take j)).length = j := by rw [rmap_len]; simp; omega
          have HLEN := Hid.mk hlen
          obtain ⟨va, vc, hv, -, -⟩ := hO.shape
          rw [hlen] at hv
          subst hv
          clear hlen hh hO hbw hb hL
          by_cases hlt : j < T.length
          · obtain ⟨b, off, x, y, rfl, hbl, hd0, hd1, hxy⟩ := HS2.out.at hlt
            have hbl1 : b < w1.heap.size := by have := HZ2.out; omega
            have hc0 := (HBr.out.cell (p := ⟨b, off + j * 2, none⟩) hbl1).trans hd0
            have hc1 := (HBr.out.cell (p := ⟨b, off + j * 2 + 1, none⟩) hbl1).trans hd1
            have hx := HTR.out (x, y) (List.mem_of_getElem? hxy.out)
            simp only at hx
            obtain ⟨hx0, hx1, hy0, hy1⟩ := hx
            have zj : (j : Int) < (T.length : Int) := by omega
            have HRM := Hid.mk (rmap_take (k := k) hxy.out)
            have hbr : b < wr.heap.size := by omega
            clear hd0 hd1 hbl o0
            have HAP : Hid (∀ (v' : Value) (w3 : World), w3.ownsRow (w1.heap.size + 1) 32 2 v' ((rmap k (T.take j)).length + 1) (flat (rmap k (T.take j)) ++ [.int .i64 x, .int .i64 (y + k)]) → (wr.alloc (.cells #[.int .i64 x, .int .i64 (y + k)] 32)).drew.grownBy w3 (Value.slice va j vc).ownBlock → OR (w1.heap.size + 1) w3 v' (rmap k (T.take j) ++ [(x, y + k)]) ∧ RowKit.Below w1.heap.size wr w3 ∧ w3.heap[w1.heap.size]? = some (.cells #[.int .i64 (m + k), .slice va j vc] 24 (0, 0))) := fun v' w3 h1 h2 => app_step (wr := wr) HOr.out HHr.out hzr h1 ⟨h2.1, h2.2, h2.3, h2.4, h2.5⟩
            have hyk : IntKind.i64.wrap (y + k) = y + k := Go.IntWalk.i64_in _ (by omega)
            go_wp2_with fail
            refine wp_region_held_drew (S := fun w' => w'.cell? ⟨w.heap.size, 1, none⟩ = some (.slice (some ⟨b, off, none⟩) T.length c1) ∧ w'.cell? ⟨b, off + j * 2, none⟩ = some (.int .i64 x) ∧ w'.cell? ⟨b, off + j * 2 + 1, none⟩ = some (.int .i64 y)) (by kernel_rfl) ?_ (fun hHeld => ?_)
            · (try dsimp only)
              first | (go_keep; done) | (go_split_ands; refine ⟨?_, ?_, ?_⟩ <;> (first | (rw [hB3.cell (by simp; omega)]; assumption) | (rw [World.cell?_setCell_far _ _ _ _ (by simp; omega), hB3.cell (by simp; omega)]; assumption) | (rw [World.cell?_setCell_far _ _ _ _ (by simp; omega)]; assumption)))
            refine wpAnyH_take (i := 0) (v := ?_) rfl (by kernel_rfl) (by kernel_rfl) (by kernel_rfl) (fun _ _ _ h => h) (Or.inl ⟨by rfl, ?_⟩) (by assumption) ?_
            rotate_left
            · (intro w hSw; (try dsimp only at hSw); go_simp; (try with_reducible rfl))
            refine wpAnyH_take (i := 2) (v := ?_) rfl (by kernel_rfl) (by kernel_rfl) (by kernel_rfl) (fun _ _ _ h => h) (Or.inl ⟨by rfl, ?_⟩) (by assumption) ?_
            rotate_left
            · (intro w hSw; (try dsimp only at hSw); go_simp; (try with_reducible rfl))
            refine wpAnyH_take (i := 3) (v := ?_) rfl (by kernel_rfl) (by kernel_rfl) (by kernel_rfl) (fun _ _ _ h => h) (Or.inl ⟨by rfl, ?_⟩) (by assumption) ?_
            rotate_left
            · (intro w hSw; (try dsimp only at hSw); go_simp; (try with_reducible rfl))
            refine wpAnyH_take (i := 4) (v := ?_) rfl (by kernel_rfl) (by kernel_rfl) (by kernel_rfl) (fun _ _ _ h => h) (Or.inl ⟨by rfl, ?_⟩) (by assumption) ?_
            rotate_left
            · (intro w hSw; (try dsimp only at hSw); go_simp; (try with_reducible rfl))
            refine wpAnyH_take (i := 5) (v := ?_) rfl (by kernel_rfl) (by kernel_rfl) (by kernel_rfl) (fun _ _ _ h => h) (Or.inl ⟨by rfl, ?_⟩) (by assumption) ?_
            rotate_left
            · (intro w hSw; (try dsimp only at hSw); go_simp; (try with_reducible rfl))
            refine wpAnyH_take (i := 6) (v := ?_) rfl (by kernel_rfl) (by kernel_rfl) (by kernel_rfl) (fun _ _ _ h => h) (Or.inl ⟨by rfl, ?_⟩) (by assumption) ?_
            rotate_left
            · (intro w hSw; (try dsimp only at hSw); go_simp; (try with_reducible rfl))
            refine wpAnyH_take (i := 7) (v := ?_) rfl (by kernel_rfl) (by kernel_rfl) (by kernel_rfl) (fun _ _ _ h => h) (Or.inl ⟨by rfl, ?_⟩) (by assumption) ?_
            rotate_left
            · (intro w hSw; (try dsimp only at hSw); go_simp; (try with_reducible rfl))
            refine wpAnyH_take (i := 8) (v := ?_) rfl (by kernel_rfl) (by kernel_rfl) (by kernel_rfl) (fun _ _ _ h => h) (Or.inl ⟨by rfl, ?_⟩) (by assumption) ?_
            rotate_left
            · (intro w hSw; (try dsimp only at hSw); go_simp; (try with_reducible rfl))
            refine wpAnyH_take (i := 9) (v := ?_) rfl (by kernel_rfl) (by kernel_rfl) (by kernel_rfl) (fun _ _ _ h => h) (Or.inl ⟨by rfl, ?_⟩) (by assumption) ?_
            rotate_left
            · (intro w hSw; (try dsimp only at hSw); go_simp; (try with_reducible rfl))
            refine wpAnyH_take (i := 10) (v := ?_) rfl (by kernel_rfl) (by kernel_rfl) (by kernel_rfl) (fun _ _ _ h => h) (Or.inl ⟨by rfl, ?_⟩) (by assumption) ?_
            rotate_left
            · (intro w hSw; (try dsimp only at hSw); go_simp; (try with_reducible rfl))
            refine wpAnyH_take (i := 11) (v := ?_) rfl (by kernel_rfl) (by kernel_rfl) (by kernel_rfl) (fun _ _ _ h => h) (Or.inl ⟨by rfl, ?_⟩) (by assumption) ?_
            rotate_left
            · (intro w hSw; (try dsimp only at hSw); go_simp; (try with_reducible rfl))
            refine wpAnyH_take (i := 12) (v := ?_) rfl (by kernel_rfl) (by kernel_rfl) (by kernel_rfl) (fun _ _ _ h => h) (Or.inl ⟨by rfl, ?_⟩) (by assumption) ?_
            rotate_left
            · (intro w hSw; (try dsimp only at hSw); go_simp; (try with_reducible rfl))
            refine wpAnyH_take (i := 13) (v := ?_) rfl (by kernel_rfl) (by kernel_rfl) (by kernel_rfl) (fun _ _ _ h => h) (Or.inl ⟨by rfl, ?_⟩) (by assumption) ?_
            rotate_left
            · (intro w hSw; (try dsimp only at hSw); go_simp; (try with_reducible rfl))
            refine wpAnyH_take (i := 14) (v := ?_) rfl (by kernel_rfl) (by kernel_rfl) (by kernel_rfl) (fun _ _ _ h => h) (Or.inl ⟨by rfl, ?_⟩) (by assumption) ?_
            rotate_left
            · (intro w hSw; (try dsimp only at hSw); go_simp; (try with_reducible rfl))
            refine wpAnyH_take (i := 15) (v := ?_) rfl (by kernel_rfl) (by kernel_rfl) (by kernel_rfl) (fun _ _ _ h => h) (Or.inl ⟨by rfl, ?_⟩) (by assumption) ?_
            rotate_left
            · (intro w hSw; (try dsimp only at hSw); go_simp; (try with_reducible rfl))
            refine wpAnyH_take (i := 16) (v := ?_) rfl (by kernel_rfl) (by kernel_rfl) (by kernel_rfl) (fun _ _ _ h => h) (Or.inl ⟨by rfl, ?_⟩) (by assumption) ?_
            rotate_left
            · (intro w hSw; (try dsimp only at hSw); go_simp; (try with_reducible rfl))
            refine wpAnyH_ready (rs := [1, 17]) (by kernel_rfl) (by simp) ?_
            refine AllReadyH.cons rfl (fun K hK => ?_) (AllReadyH.cons rfl (fun K hK => ?_) AllReadyH.nil)
            · skip
              go_simp
              refine hK.out _ _ ?_ (fun hHeld => ?_)
              · (try dsimp only)
                first | (go_keep; done) | (go_split_ands; refine ⟨?_, ?_, ?_⟩ <;> (first | (rw [hB3.cell (by simp; omega)]; assumption) | (rw [World.cell?_setCell_far _ _ _ _ (by simp; omega), hB3.cell (by simp; omega)]; assumption) | (rw [World.cell?_setCell_far _ _ _ _ (by simp; omega)]; assumption)))
              clear hK K
              refine wpAnyH_ready (rs := [17]) (by kernel_rfl) (by simp) ?_
              refine AllReadyH.cons rfl (fun K hK => ?_) AllReadyH.nil
              go_simp
              refine hK.out _ _ ?_ (fun hHeld => ?_)
              · (try dsimp only)
                first | (go_keep; done) | (go_split_ands; refine ⟨?_, ?_, ?_⟩ <;> (first | (rw [hB3.cell (by simp; omega)]; assumption) | (rw [World.cell?_setCell_far _ _ _ _ (by simp; omega), hB3.cell (by simp; omega)]; assumption) | (rw [World.cell?_setCell_far _ _ _ _ (by simp; omega)]; assumption)))
              clear hK K
              refine wpAnyH_ready (rs := [18]) (by kernel_rfl) (by simp) ?_
              refine AllReadyH.cons rfl (fun K hK => ?_) AllReadyH.nil
              ((try rw [hyk]); refine step_append_lies _ (by rfl) _ _ _ (by rfl) (w1.heap.size + 1) 32 i0 _ 2 16 Try.underlying22 hi hz0 hz1 hz2 rfl (by omega) _ (rmap k (T.take j)).length (flat (rmap k (T.take j))) (by rfl) ((HOr.out.alloc _).drew) ⟨wr.heap.size, 0, none⟩ 1 1 [.int .i64 x, .int .i64 (y + k)] (by rfl) (by rfl) (World.news_of_block (cs := #[.int .i64 x, .int .i64 (y + k)]) (t := 32) (fr := (0, 0)) (alloc_new _ _)) (by simp [Value.oneCell']) (by omega) (by rw [HLEN.out]; simp [maxLen]; omega) (by rw [HLEN.out]; omega) (by simp; omega) (wr.heap.size + 1) (by simp) ?_; intro gg cap1 w3 hown1 hgrow hat hlt1; obtain ⟨hO3, hB3, hH3⟩ := HAP.out _ _ hown1 hgrow; obtain ⟨t0, t1, t2, t3, t4⟩ := cells2 hH3; have HO3 := Hid.mk hO3; have HH3' := Hid.mk hH3; clear hO3 hH3 hown1 hgrow hat)
              refine hK.out _ _ ?_ (fun hHeld => ?_)
              · (try dsimp only)
                first | (go_keep; done) | (go_split_ands; refine ⟨?_, ?_, ?_⟩ <;> (first | (rw [hB3.cell (by simp; omega)]; assumption) | (rw [World.cell?_setCell_far _ _ _ _ (by simp; omega), hB3.cell (by simp; omega)]; assumption) | (rw [World.cell?_setCell_far _ _ _ _ (by simp; omega)]; assumption)))
              clear hK K
              refine wpAnyH_take (i := 19) (v := ?_) rfl (by kernel_rfl) (by kernel_rfl) (by kernel_rfl) (fun _ _ _ h => h) (Or.inl ⟨by rfl, ?_⟩) (by assumption) ?_
              rotate_left
              · (intro w hSw; (try dsimp only at hSw); go_simp; (try with_reducible rfl))
              refine wpAnyH_ready (rs := [20]) (by kernel_rfl) (by simp) ?_
              refine AllReadyH.cons rfl (fun K hK => ?_) AllReadyH.nil
              go_simp
              refine hK.out _ _ ?_ (fun hHeld => ?_)
              · (try dsimp only)
                first | (go_keep; done) | (go_split_ands; refine ⟨?_, ?_, ?_⟩ <;> (first | (rw [hB3.cell (by simp; omega)]; assumption) | (rw [World.cell?_setCell_far _ _ _ _ (by simp; omega), hB3.cell (by simp; omega)]; assumption) | (rw [World.cell?_setCell_far _ _ _ _ (by simp; omega)]; assumption)))
              clear hK K
              refine wpAnyH_done (by kernel_rfl) ?_ _
              go_wp2
              refine ⟨⟨j + 1, .slice (some ⟨gg, 0, none⟩) ((rmap k (T.take j)).length + 1) cap1, hlt, by go_num, (HB3r.out.trans hB3).setCell (p := ⟨w1.heap.size, 1, none⟩) (Nat.le_refl _) _, set1_heap HH3'.out, ?_⟩, by simp [intOf]; omega⟩
              rw [HRM.out]
              exact HO3.out.setBelow (a := ⟨w1.heap.size, 1, none⟩) (by simp) _
            · skip
              go_simp
              refine hK.out _ _ ?_ (fun hHeld => ?_)
              · (try dsimp only)
                first | (go_keep; done) | (go_split_ands; refine ⟨?_, ?_, ?_⟩ <;> (first | (rw [hB3.cell (by simp; omega)]; assumption) | (rw [World.cell?_setCell_far _ _ _ _ (by simp; omega), hB3.cell (by simp; omega)]; assumption) | (rw [World.cell?_setCell_far _ _ _ _ (by simp; omega)]; assumption)))
              clear hK K
              refine wpAnyH_ready (rs := [1]) (by kernel_rfl) (by simp) ?_
              refine AllReadyH.cons rfl (fun K hK => ?_) AllReadyH.nil
              go_simp
              refine hK.out _ _ ?_ (fun hHeld => ?_)
              · (try dsimp only)
                first | (go_keep; done) | (go_split_ands; refine ⟨?_, ?_, ?_⟩ <;> (first | (rw [hB3.cell (by simp; omega)]; assumption) | (rw [World.cell?_setCell_far _ _ _ _ (by simp; omega), hB3.cell (by simp; omega)]; assumption) | (rw [World.cell?_setCell_far _ _ _ _ (by simp; omega)]; assumption)))
              clear hK K
              refine wpAnyH_ready (rs := [18]) (by kernel_rfl) (by simp) ?_
              refine AllReadyH.cons rfl (fun K hK => ?_) AllReadyH.nil
              ((try rw [hyk]); refine step_append_lies _ (by rfl) _ _ _ (by rfl) (w1.heap.size + 1) 32 i0 _ 2 16 Try.underlying22 hi hz0 hz1 hz2 rfl (by omega) _ (rmap k (T.take j)).length (flat (rmap k (T.take j))) (by rfl) ((HOr.out.alloc _).drew) ⟨wr.heap.size, 0, none⟩ 1 1 [.int .i64 x, .int .i64 (y + k)] (by rfl) (by rfl) (World.news_of_block (cs := #[.int .i64 x, .int .i64 (y + k)]) (t := 32) (fr := (0, 0)) (alloc_new _ _)) (by simp [Value.oneCell']) (by omega) (by rw [HLEN.out]; simp [maxLen]; omega) (by rw [HLEN.out]; omega) (by simp; omega) (wr.heap.size + 1) (by simp) ?_; intro gg cap1 w3 hown1 hgrow hat hlt1; obtain ⟨hO3, hB3, hH3⟩ := HAP.out _ _ hown1 hgrow; obtain ⟨t0, t1, t2, t3, t4⟩ := cells2 hH3; have HO3 := Hid.mk hO3; have HH3' := Hid.mk hH3; clear hO3 hH3 hown1 hgrow hat)
              refine hK.out _ _ ?_ (fun hHeld => ?_)
              · (try dsimp only)
                first | (go_keep; done) | (go_split_ands; refine ⟨?_, ?_, ?_⟩ <;> (first | (rw [hB3.cell (by simp; omega)]; assumption) | (rw [World.cell?_setCell_far _ _ _ _ (by simp; omega), hB3.cell (by simp; omega)]; assumption) | (rw [World.cell?_setCell_far _ _ _ _ (by simp; omega)]; assumption)))
              clear hK K
              refine wpAnyH_take (i := 19) (v := ?_) rfl (by kernel_rfl) (by kernel_rfl) (by kernel_rfl) (fun _ _ _ h => h) (Or.inl ⟨by rfl, ?_⟩) (by assumption) ?_
              rotate_left
              · (intro w hSw; (try dsimp only at hSw); go_simp; (try with_reducible rfl))
              refine wpAnyH_ready (rs := [20]) (by kernel_rfl) (by simp) ?_
              refine AllReadyH.cons rfl (fun K hK => ?_) AllReadyH.nil
              go_simp
              refine hK.out _ _ ?_ (fun hHeld => ?_)
              · (try dsimp only)
                first | (go_keep; done) | (go_split_ands; refine ⟨?_, ?_, ?_⟩ <;> (first | (rw [hB3.cell (by simp; omega)]; assumption) | (rw [World.cell?_setCell_far _ _ _ _ (by simp; omega), hB3.cell (by simp; omega)]; assumption) | (rw [World.cell?_setCell_far _ _ _ _ (by simp; omega)]; assumption)))
              clear hK K
              refine wpAnyH_done (by kernel_rfl) ?_ _
              go_wp2
              refine ⟨⟨j + 1, .slice (some ⟨gg, 0, none⟩) ((rmap k (T.take j)).length + 1) cap1, hlt, by go_num, (HB3r.out.trans hB3).setCell (p := ⟨w1.heap.size, 1, none⟩) (Nat.le_refl _) _, set1_heap HH3'.out, ?_⟩, by simp [intOf]; omega⟩
              rw [HRM.out]
              exact HO3.out.setBelow (a := ⟨w1.heap.size, 1, none⟩) (by simp) _
          · have hj' : j = T.length := by omega
            subst hj'
            rw [List.take_length] at HOr
            have hS5 : SL wr va (rmap k T) := by obtain ⟨p, q, hv, hs, -⟩ := HOr.out.shape; simp at hv; rw [hv.1]; exact hs
            have hfit := fits_any (m + k) (rmap k T) va vc wr hS5 (by rw [rmap_len]; omega) (fun p hp => by obtain ⟨q, hq, rfl⟩ := rmap_mem.1 hp; exact (HTR.out q hq).1)
            rw [rmap_len, HD3.out] at hfit
            have HF := Hid.mk hfit
            have hR := (HBr.out.block (w.heap.size + 1) (by omega)).trans HM2.out
            have HR5 := Hid.mk hR
            clear hfit hS5 hR
            go_wp2_with fail
            refine HF.out.mono ?_
            rintro e w6 ⟨v6, rfl, hO6, hb6⟩
            obtain ⟨a6, c6, rfl, -, -⟩ := hO6.shape
            have hz6 := hb6.size
            obtain ⟨r0, r1, r2, r3, r4⟩ := cells2 ((hb6.block (w.heap.size + 1) (by omega)).trans HR5.out)
            have hBB : RowKit.Below w.heap.size w wr := HB2.out.trans (HBr.out.mono (by omega))
            go_wp2
            refine bodyPost_ret (v := .tuple #[.agg #[.int .i64 D.1, .slice a6 D.2.1.length c6], .int .i64 D.2.2]) (by simp [results, Try.results19, go_sem, r0, r1]) rfl ⟨_, rfl, ?_, ?_⟩
            · exact OR.mono ((hO6.setBelow (a := ⟨w.heap.size + 1, 0, none⟩) (by simp only; omega) _).setBelow (a := ⟨w.heap.size + 1, 1, none⟩) (by simp only; omega) _) (by omega)
            · exact ((hBB.trans (hb6.mono (by omega))).setCell (p := ⟨w.heap.size + 1, 0, none⟩) (Nat.le_succ _) _).setCell (p := ⟨w.heap.size + 1, 1, none⟩) (Nat.le_succ _) _
end Go.Proofs.Ytphemmifckdjjaa
