/- The contract of telamonref1.SubstLevel. -/
import Derived.Test.YtbgkeomlfdmkeaaMW
import Derived.Test.YtbgkeomlfdmkeaaRI
namespace Go.Proofs.Ytbgkeomlfdmkeaa
open Go.RowKit Go.Sort Go.Shelf Go.Lib

theorem any_take {ls : List Lv} {k : Nat} {z : Lv} (h : ls[k]? = some z) : (ls.take (k + 1)).any wrongL = ((ls.take k).any wrongL || wrongL z) := take_any h

theorem app_step2 {wr w3 W7 : World} {b2 N0 g n c : Nat} {zs : List (Int × Int)} {p1 p2 : Int} {v v0 m : Value} (hO : OR (b2 + 1) wr v zs) (hH : wr.heap[b2]? = some (.cells #[m, v] 43 (0, 0))) (hz : b2 + 1 ≤ wr.heap.size) (hN : N0 ≤ wr.heap.size)
    (hkeep : ∀ b, b < N0 → b ≠ b2 → some b ≠ v0.ownBlock → wr.heap[b]? = W7.heap[b]?) (hown0 : ∀ b, v.ownBlock = some b → v0.ownBlock = some b ∨ N0 ≤ b)
    (hown : w3.ownsRow (b2 + 1) 89 2 (.slice (some ⟨g, 0, none⟩) n c) (zs.length + 1) (flat zs ++ [.int .i64 p1, .int .i64 p2])) (hg : (wr.alloc (.cells #[.int .i64 p1, .int .i64 p2] 89)).drew.grownBy w3 v.ownBlock) (hat : v.ownBlock = some g ∨ g = wr.heap.size + 1) :
    OR (b2 + 1) w3 (.slice (some ⟨g, 0, none⟩) n c) (zs ++ [(p1, p2)]) ∧ RowKit.Below b2 wr w3 ∧ w3.heap[b2]? = some (.cells #[m, v] 43 (0, 0)) ∧ (∀ b, b < N0 → b ≠ b2 → some b ≠ v0.ownBlock → w3.heap[b]? = W7.heap[b]?) ∧ (v0.ownBlock = some g ∨ N0 ≤ g) ∧ N0 ≤ w3.heap.size := by
  obtain ⟨h1, h2, h3⟩ := app_step (wr := wr) hO hH hz hown ⟨hg.1, hg.2, hg.3, hg.4, hg.5⟩
  refine ⟨h1, h2, h3, fun b hb hne hno => ?_, ?_, Nat.le_trans hN h2.size⟩
  · have hnv : some b ≠ v.ownBlock := fun e => by
      rcases hown0 b e.symm with h | h
      · exact hno h.symm
      · omega
    have hlt : b < wr.heap.size := by omega
    rw [hg.block b (by simp; omega) hnv]
    exact (Below.heap_alloc wr _ b hlt).trans (hkeep b hb hne hno)
  · rcases hat with h | h
    · exact hown0 g h
    · right; omega

theorem rFold_take {ls : List Lv} {m : Int} {T : List (Int × Int)} {j : Nat} {x y an : Int} {axs : List (Int × Int)} (h : T[j]? = some (x, y)) (hl : ls[x.toNat]? = some (an, axs)) :
    rFold ls m (T.take (j + 1)) = (if (rFold ls m (T.take j)).1 < nOf an (tidyL axs) + y ∧ (0 < nOf an (tidyL axs) ∨ (tidyL axs).length = 0) then nOf an (tidyL axs) + y else (rFold ls m (T.take j)).1, (rFold ls m (T.take j)).2 ++ rmap y (tidyL axs)) := by
  unfold rFold; rw [take_fold h]; simp [rStep, argOf, hl]

set_option maxRecDepth 100000 in
set_option maxHeartbeats 16000000 in
theorem rSubst_any (n : Int) (xs : List (Int × Int)) (a : Option Addr) (cap : Nat) (ls : List Lv) (la : Option Addr) (lcap : Nat) (w : World) (hS : SL w a xs) (hn : xs.length ≤ 4398046511104) (hLs : LL w la ls) (hln : ls.length ≤ 4398046511104) (hlx : ∀ l ∈ ls, l.2.length ≤ 4398046511104) :
    Calls Try.prog 70 #[.agg #[.int .i64 n, .slice a xs.length cap], .slice la ls.length lcap] w fun e w' => Res w w' e (substR n xs ls) := by
  have mx := mixed
  obtain ⟨i0, hi, iz0, iz1, iz2⟩ := info_parts infoLVar
  obtain ⟨W0, hW0⟩ : ∃ W0, (w.alloc (.cells #[.int .i64 n, .slice a xs.length cap] 43)).alloc (.cells #[.int .i64 0, .slice none 0 0] 43) = W0 := ⟨_, rfl⟩
  have hA : Grew w W0 := by rw [← hW0]; exact ((Grew.refl w).alloc _).alloc _
  have HN := rNorm_any n xs a cap W0 (hS.below hA.below) hn
  have H0 : Hid (W0.heap[w.heap.size]? = some (.cells #[.int .i64 n, .slice a xs.length cap] 43 (0, 0))) := by rw [← hW0]; exact box_at
  have H1 : Hid (W0.heap[w.heap.size + 1]? = some (.cells #[.int .i64 0, .slice none 0 0] 43 (0, 0))) := by rw [← hW0]; exact box_at1
  have HSZ : Hid (W0.heap.size = w.heap.size + 2) := by unfold Hid; rw [← hW0]; simp
  have HW0 := Hid.mk hW0
  have HA := Hid.mk hA
  have HLs := Hid.mk hLs
  have HLX := Hid.mk hlx
  clear hS hW0 hA hLs hlx
  cases hr : rightB n xs
  · have HD : Hid (substR n xs ls = (0, [], 13)) := by unfold Hid substR; rw [if_neg (by simp [hr])]
    have hN : normR n xs = (0, [], 13) := by unfold normR; rw [hr]; rfl
    rw [hN] at HN
    generalize substR n xs ls = D at *
    go_enter Try.func70, Try.ntmps70
    go_wp2_with fail
    rw [HW0.out]
    refine HN.mono ?_
    rintro e w1 ⟨v1, rfl, hO1, hb1⟩
    obtain ⟨a1, c1, rfl, -, -⟩ := hO1.shape
    have hz1 := hb1.size
    have hzz := HSZ.out
    have hL1 := (hb1.block w.heap.size (by omega)).trans H0.out
    have hM1 := (hb1.block (w.heap.size + 1) (by omega)).trans H1.out
    obtain ⟨p0, p1, p2, p3, p4⟩ := cells2 hL1
    obtain ⟨q0, q1, q2, q3, q4⟩ := cells2 hM1
    clear hL1 hM1 HN
    go_wp2
    have hD := HD.out
    subst hD
    refine bodyPost_ret (v := .tuple #[.agg #[.int .i64 0, .slice none 0 0], .int .i64 13]) (by simp [results, Try.results70, go_sem, q0, q1]) rfl ⟨_, rfl, OR.nil _ _, ?_⟩
    exact ((((HA.out.below.trans (hb1.mono HA.out.below.size)).setCell (p := ⟨w.heap.size, 0, none⟩) (Nat.le_refl _) _).setCell (p := ⟨w.heap.size, 1, none⟩) (Nat.le_refl _) _).setCell (p := ⟨w.heap.size + 1, 0, none⟩) (Nat.le_succ _) _).setCell (p := ⟨w.heap.size + 1, 1, none⟩) (Nat.le_succ _) _
  · have hN := normR_right hr
    rw [hN] at HN
    have HRt := Hid.mk hr
    have HTR : Hid (∀ p ∈ tidyL xs, 0 ≤ p.1 ∧ p.1 ≤ 1000 ∧ 0 ≤ p.2 ∧ p.2 ≤ 1000) := fun p hp => by
      obtain ⟨i, hi, e⟩ := List.getElem_of_mem (tidy_mem hp)
      exact right_at hr (k := i) (x := p.1) (y := p.2) (by simp [hi, e])
    have hTl : (tidyL xs).length ≤ 64 := Nat.le_trans (tidyL_le xs) (right_n hr).2.2
    have hm0 : 0 ≤ nOf n (tidyL xs) := by have := (right_n hr).1; unfold nOf; split <;> omega
    have hm1 : nOf n (tidyL xs) ≤ 1000 := by have := (right_n hr).2.1; have := (right_n hr).1; unfold nOf; split <;> omega
    have HDw : Hid (ls.any wrongL = true → substR n xs ls = (0, [], 13)) := fun h => by unfold substR; rw [if_neg]; rintro ⟨-, -, h2⟩; rw [h] at h2; cases h2
    have HDf : Hid (∀ (j : Nat) (x y : Int), (tidyL xs)[j]? = some (x, y) → (ls.length : Int) ≤ x → substR n xs ls = (0, [], 13)) := fun j x y h1 h2 => subst_far h1 h2
    have HDr : Hid (ls.any wrongL = false → (∀ p ∈ tidyL xs, p.1 < (ls.length : Int)) → canonR (rFold ls (nOf n (tidyL xs)) (tidyL xs)).1 (rFold ls (nOf n (tidyL xs)) (tidyL xs)).2 = substR n xs ls) := fun h1 h2 => rsubst_eq hr (subst_near h2) h1
    generalize substR n xs ls = D at *
    generalize nOf n (tidyL xs) = m at *
    generalize tidyL xs = T at *
    clear hr hN
    go_enter Try.func70, Try.ntmps70
    go_wp2_with fail
    rw [HW0.out]
    refine HN.mono ?_
    rintro e w1 ⟨v1, rfl, hO1, hb1⟩
    simp only at hO1
    obtain ⟨a1, c1, rfl, -, -⟩ := hO1.shape
    have hz1 := hb1.size
    have hzz := HSZ.out
    have hL1 := (hb1.block w.heap.size (by omega)).trans H0.out
    have hM1 := (hb1.block (w.heap.size + 1) (by omega)).trans H1.out
    obtain ⟨p0, p1, p2, p3, p4⟩ := cells2 hL1
    have HL1 := Hid.mk hL1
    have HM1 := Hid.mk hM1
    have HO1 := Hid.mk hO1
    have HB1 : Hid (RowKit.Below w.heap.size w w1) := HA.out.below.trans (hb1.mono HA.out.below.size)
    have hw1 : w.heap.size + 2 ≤ w1.heap.size := by omega
    obtain ⟨W2, hW2⟩ : ∃ W2, (w1.setCell ⟨w.heap.size, 0, none⟩ (.int .i64 m)).setCell ⟨w.heap.size, 1, none⟩ (.slice a1 T.length c1) = W2 := ⟨_, rfl⟩
    have hO2 : OR W0.heap.size W2 (.slice a1 T.length c1) T := by rw [← hW2]; exact (HO1.out.setBelow (a := ⟨w.heap.size, 0, none⟩) (by simp only; omega) _).setBelow (a := ⟨w.heap.size, 1, none⟩) (by simp only; omega) _
    have HS2 : Hid (SL W2 a1 T) := by obtain ⟨p, q, hv, hs, -⟩ := hO2.shape; simp at hv; unfold Hid; rw [hv.1]; exact hs
    have HB2 : Hid (RowKit.Below w.heap.size w W2) := by unfold Hid; rw [← hW2]; exact (HB1.out.setCell (p := ⟨w.heap.size, 0, none⟩) (Nat.le_refl _) _).setCell (p := ⟨w.heap.size, 1, none⟩) (Nat.le_refl _) _
    have HM2 : Hid (W2.heap[w.heap.size + 1]? = some (.cells #[.int .i64 0, .slice none 0 0] 43 (0, 0))) := by unfold Hid; rw [← hW2]; exact (Below.heap_setCell _ _ _ _ (by simp)).trans ((Below.heap_setCell _ _ _ _ (by simp)).trans HM1.out)
    have HL2 : Hid (W2.heap[w.heap.size]? = some (.cells #[.int .i64 m, .slice a1 T.length c1] 43 (0, 0))) := by unfold Hid; rw [← hW2]; exact set1_heap (heap_set0 HL1.out)
    have HLs2 := Hid.mk (HLs.out.below HB2.out)
    have hz2 : w.heap.size + 2 ≤ W2.heap.size := by rw [← hW2]; simp; omega
    have HW2 := Hid.mk hW2
    clear hW2 hO2 hzz hz1 hL1 hM1 HN hO1 hb1
    go_wp2_with fail
    rw [HW2.out]
    clear p0 p1 p2 p3 p4 HL1 HM1 HO1 HB1 HW2 HW0 H0 H1 HLs
    go_loopw [7] (fun i wr => ∃ j : Nat, j ≤ ls.length ∧ i = .int .i64 j ∧ Grew W2 wr ∧ (ls.take j).any wrongL = false) (fun i _ => ls.length - (intOf i).toNat)
    case atStart => exact ⟨0, Nat.zero_le _, rfl, Grew.refl _, by simp⟩
    case round =>
      obtain ⟨j, hj, rfl, hg, hall⟩ := hrel
      have HG := Hid.mk hg
      have HALL := Hid.mk hall
      clear hg hall
      have hzr := HG.out.below.size
      by_cases hlt : j < ls.length
      · obtain ⟨b, off, an, axs, a', cap', rfl, hbl, hc0, hc1, hsl, hxy⟩ := (HLs2.out.below HG.out.below).at hlt
        have zj : (j : Int) < (ls.length : Int) := by omega
        have hal := HLX.out (an, axs) (List.mem_of_getElem? hxy.out)
        simp only at hal
        have HR := rright_any an axs a' cap' wr hsl (by omega)
        cases hw : rightB an axs
        · rw [hw] at HR
          have HE : Hid (D = (0, [], 13)) := HDw.out (any_yes hxy.out (by simp [wrongL, hw]))
          have hM := (HG.out.below.block (w.heap.size + 1) (by omega)).trans HM2.out
          have HMr := Hid.mk hM
          clear hM
          go_wp2_with fail
          refine HR.mono ?_
          rintro e w5 ⟨rfl, hg5⟩
          obtain ⟨q0, q1, q2, q3, q4⟩ := cells2 ((hg5.below.block (w.heap.size + 1) (by omega)).trans HMr.out)
          have hBB : RowKit.Below w.heap.size w w5 := HB2.out.trans ((HG.out.trans hg5).below.mono (by omega))
          go_wp2
          have hD := HE.out
          subst hD
          refine bodyPost_ret (v := .tuple #[.agg #[.int .i64 0, .slice none 0 0], .int .i64 13]) (by simp [results, Try.results70, go_sem, q0, q1]) rfl ⟨_, rfl, OR.nil _ _, ?_⟩
          exact (hBB.setCell (p := ⟨w.heap.size + 1, 0, none⟩) (Nat.le_succ _) _).setCell (p := ⟨w.heap.size + 1, 1, none⟩) (Nat.le_succ _) _
        · rw [hw] at HR
          have HNX : Hid ((ls.take (j + 1)).any wrongL = false) := by unfold Hid; rw [any_take hxy.out, HALL.out]; simp [wrongL, hw]
          clear hw
          go_wp2_with fail
          refine HR.mono ?_
          rintro e w5 ⟨rfl, hg5⟩
          go_wp2
          refine ⟨⟨j + 1, hlt, by go_num, HG.out.trans hg5, HNX.out⟩, by simp [intOf]; omega⟩
      · have hany : ls.any wrongL = false := by have := HALL.out; rw [List.take_of_length_le (by omega)] at this; exact this
        have HANY := Hid.mk hany
        obtain ⟨W3, rfl⟩ : ∃ W, W = wr := ⟨_, rfl⟩
        have HL3 := Hid.mk ((HG.out.below.block w.heap.size (by omega)).trans HL2.out)
        have HM3 := Hid.mk ((HG.out.below.block (w.heap.size + 1) (by omega)).trans HM2.out)
        have HS3 := Hid.mk (HS2.out.below HG.out.below)
        have HLs3 := Hid.mk (HLs2.out.below HG.out.below)
        have HB3 : Hid (RowKit.Below w.heap.size w W3) := HB2.out.trans (HG.out.below.mono (by omega))
        have hz3 : w.heap.size + 2 ≤ W3.heap.size := by omega
        obtain ⟨l0, l1, -, -, l4⟩ := cells2 HL3.out
        clear hany HALL HG HL2 HM2 HS2 HLs2 HB2 hzr HDw
        go_wp2_with fail
        obtain ⟨W4, hW4⟩ : ∃ W4, W3.alloc (.cells #[.int .i64 m, .slice none 0 0] 43) = W4 := ⟨_, rfl⟩
        have HH4 : Hid (W4.heap[W3.heap.size]? = some (.cells #[.int .i64 m, .slice none 0 0] 43 (0, 0))) := by unfold Hid; rw [← hW4]; exact alloc_new _ _
        have HB4 : Hid (RowKit.Below W3.heap.size W3 W4) := by unfold Hid; rw [← hW4]; exact ((Grew.refl _).alloc _).below
        obtain ⟨b2, hb2⟩ : ∃ b2, W3.heap.size = b2 := ⟨_, rfl⟩
        have HB2 := Hid.mk hb2
        rw [hW4]
        rw [hb2] at hz3 HB4 HH4 ⊢
        clear hW4 l0 l1 hb2
        go_loopw [10] (fun i wr => ∃ (j : Nat) (v : Value), j ≤ T.length ∧ i = .int .i64 j ∧ RowKit.Below b2 W3 wr ∧ wr.heap[b2]? = some (.cells #[.int .i64 (rFold ls m (T.take j)).1, v] 43 (0, 0)) ∧ OR (b2 + 1) wr v (rFold ls m (T.take j)).2 ∧ 0 ≤ (rFold ls m (T.take j)).1 ∧ (rFold ls m (T.take j)).1 ≤ 2000 ∧ (rFold ls m (T.take j)).2.length ≤ j * 64 ∧ ∀ p ∈ T.take j, p.1 < (ls.length : Int)) (fun i _ => T.length - (intOf i).toNat)
        case atStart => exact ⟨0, .slice none 0 0, Nat.zero_le _, rfl, HB4.out, HH4.out, OR.nil _ _, hm0, Int.le_trans hm1 (by decide), Nat.zero_le _, by simp⟩
        case round =>
          obtain ⟨j, v, hj, rfl, hb, hh, hO, hR0, hR1, hR2, hnear⟩ := hrel
          obtain ⟨w4, rfl⟩ : ∃ W, W = wr := ⟨_, rfl⟩
          have HBr := Hid.mk hb
          have HHr := Hid.mk hh
          have HOr := Hid.mk hO
          have HNEAR := Hid.mk hnear
          have hzr : b2 + 1 ≤ w4.heap.size := (cells2 hh).2.2.2.2
          have hb2' := HB2.out
          have HLr := Hid.mk ((hb.block w.heap.size (by omega)).trans HL3.out)
          have HMr := Hid.mk ((hb.block (w.heap.size + 1) (by omega)).trans HM3.out)
          have HBW : Hid (RowKit.Below w.heap.size w w4) := HB3.out.trans (hb.mono (by omega))
          obtain ⟨l0, l1, -, -, l4⟩ := cells2 HLr.out
          obtain ⟨q0, q1, q2, q3, q4⟩ := cells2 HMr.out
          clear hb hh hO hnear hb2'
          by_cases hlt : j < T.length
          · obtain ⟨b, off, x, y, rfl, hbl, hd0, hd1, hxy⟩ := HS3.out.at hlt
            rw [HB2.out] at hbl
            have hc0 := (HBr.out.cell (p := ⟨b, off + j * 2, none⟩) hbl).trans hd0
            have hc1 := (HBr.out.cell (p := ⟨b, off + j * 2 + 1, none⟩) hbl).trans hd1
            have hx := HTR.out (x, y) (List.mem_of_getElem? hxy.out)
            simp only at hx
            obtain ⟨hx0, hx1, hy0, hy1⟩ := hx
            have zj : (j : Int) < (T.length : Int) := by omega
            have hbr : b < w4.heap.size := by omega
            clear hd0 hd1
            by_cases hfar : (ls.length : Int) ≤ x
            · have HE : Hid (D = (0, [], 13)) := HDf.out j x y hxy.out hfar
              go_wp2
              have hD := HE.out
              subst hD
              refine bodyPost_ret (v := .tuple #[.agg #[.int .i64 0, .slice none 0 0], .int .i64 13]) (by simp [results, Try.results70, go_sem, q0, q1, q4]) rfl ⟨_, rfl, OR.nil _ _, ?_⟩
              exact ((HBW.out.setCell (p := ⟨w.heap.size + 1, 0, none⟩) (Nat.le_succ _) _).setCell (p := ⟨w.heap.size + 1, 1, none⟩) (Nat.le_succ _) _).alloc (by simp; exact HBW.out.size) _
            · obtain ⟨xn, rfl⟩ := Int.eq_ofNat_of_zero_le hx0
              have hxl : xn < ls.length := by omega
              have zx : (xn : Int) < (ls.length : Int) := by omega
              obtain ⟨ab, aoff, an, axs, a', cap', rfl, habl, hf0, hf1, hsl, hlk⟩ := HLs3.out.at hxl
              rw [HB2.out] at habl
              have hg0 := (HBr.out.cell (p := ⟨ab, aoff + xn * 2, none⟩) habl).trans hf0
              have hg1 := (HBr.out.cell (p := ⟨ab, aoff + xn * 2 + 1, none⟩) habl).trans hf1
              have habr : ab < w4.heap.size := by omega
              have hrx := right_of_any HANY.out hlk.out
              have hal := HLX.out (an, axs) (List.mem_of_getElem? hlk.out)
              simp only at hal
              have hslr : SL w4 a' axs := hsl.below (by rw [HB2.out]; exact HBr.out)
              have HTI := tidy_any an axs a' cap' (w4.alloc (.cells #[.int .i64 xn, .int .i64 y] 89)) (hslr.below ((Grew.refl _).alloc _).below) hal (right_nonneg hrx)
              have HFT0 := rFold_take (m := m) hxy.out (by simpa using hlk.out)
              have HTP : Hid (∀ p ∈ tidyL axs, 0 ≤ p.1 ∧ p.1 ≤ 1000 ∧ 0 ≤ p.2 ∧ p.2 ≤ 1000) := fun p hp => by
                obtain ⟨i, hi, e⟩ := List.getElem_of_mem (tidy_mem hp)
                exact right_at hrx (k := i) (x := p.1) (y := p.2) (by simp [hi, e])
              have hTxl : (tidyL axs).length ≤ 64 := Nat.le_trans (tidyL_le axs) (right_n hrx).2.2
              have hnx0 : 0 ≤ nOf an (tidyL axs) := by have := (right_n hrx).1; unfold nOf; split <;> omega
              have hnx1 : nOf an (tidyL axs) ≤ 1000 := by have := (right_n hrx).2.1; have := (right_n hrx).1; unfold nOf; split <;> omega
              generalize nOf an (tidyL axs) = nx at *
              generalize tidyL axs = Tx at *
              have HFT1 := Hid.mk HFT0
              obtain ⟨R1, R2, hR⟩ : ∃ R1 R2, rFold ls m (T.take j) = (R1, R2) := ⟨_, _, rfl⟩
              rw [hR] at HFT1 HHr HOr hR0 hR1 hR2
              simp only at HFT1 HHr HOr hR0 hR1 hR2
              clear HFT0 hR hf0 hf1 hsl hslr hrx hal
              obtain ⟨u0, u1, u2, u3, u4⟩ := cells2 HHr.out
              go_wp2_with fail
              refine HTI.mono ?_
              rintro e w5 ⟨v5, rfl, hO5, hb5⟩
              obtain ⟨ax, cx, hv5, hS5, -⟩ := hO5.shape
              subst hv5
              have hz5 : w4.heap.size + 1 ≤ w5.heap.size := by have := hb5.size; simpa using this
              have hV5 : w5.heap[w4.heap.size]? = some (.cells #[.int .i64 xn, .int .i64 y] 89 (0, 0)) := (hb5.block w4.heap.size (by simp)).trans (alloc_new w4 _)
              have hH5 : w5.heap[b2]? = some (.cells #[.int .i64 R1, v] 43 (0, 0)) := (hb5.block b2 (by simp; omega)).trans (alloc_old HHr.out _)
              have hOv5 : OR (b2 + 1) w5 v R2 := OR.below (show OR (b2 + 1) (w4.alloc (.cells #[.int .i64 xn, .int .i64 y] 89)) v R2 from World.ownsRow.alloc HOr.out _) hb5
              have hB5 : RowKit.Below b2 W3 w5 := (HBr.out.alloc (by omega) _).trans (hb5.mono (by simp; omega))
              have hT5 : OR (w4.heap.size + 1) w5 (.slice ax Tx.length cx) Tx := OR.mono hO5 (by simp)
              obtain ⟨c0, c1, -, -, c4⟩ := cells2 hV5
              obtain ⟨u0, u1, u2, u3, u4⟩ := cells2 hH5
              have HV5 := Hid.mk hV5
              have HH5 := Hid.mk hH5
              have HO5 := Hid.mk hOv5
              have HB5 := Hid.mk hB5
              have HT5 := Hid.mk hT5
              have hvlt : ∀ b, v.ownBlock = some b → b < w4.heap.size := fun b hb => (World.ownsRow.lt HOr.out b hb).2
              have HVLT := Hid.mk hvlt
              clear hV5 hH5 hOv5 hB5 hT5 hb5 hO5 hS5 HTI hvlt hg0 hg1 hc0 hc1 l0 l1
              rcases (show (¬ R1 < nx + y) ∨ (R1 < nx + y ∧ 0 < nx) ∨ (R1 < nx + y ∧ ¬ 0 < nx ∧ Tx.length = 0) ∨ (R1 < nx + y ∧ ¬ 0 < nx ∧ ¬ Tx.length = 0) by omega) with k1 | ⟨k1, k2⟩ | ⟨k1, k2, k3⟩ | ⟨k1, k2, k3⟩
              · skip
                have HFT : Hid (rFold ls m (T.take (j + 1)) = (R1, R2 ++ rmap y Tx)) := by
                  unfold Hid; rw [HFT1.out]; rw [if_neg (fun h => k1 h.1)]
                clear HFT1
                go_wp2_with fail
                obtain ⟨W7, hW7, HX7, HV7, HH7, HO7, HB7, HT7, HZ7⟩ : ∃ W7, w5.alloc (.cells #[.int .i64 nx, .slice ax Tx.length cx] 43) = W7 ∧ Hid (W7.heap[w5.heap.size]? = some (.cells #[.int .i64 nx, .slice ax Tx.length cx] 43 (0, 0))) ∧ Hid (W7.heap[w4.heap.size]? = some (.cells #[.int .i64 xn, .int .i64 y] 89 (0, 0))) ∧ Hid (W7.heap[b2]? = some (.cells #[.int .i64 R1, v] 43 (0, 0))) ∧ Hid (OR (b2 + 1) W7 v R2) ∧ Hid (RowKit.Below b2 W3 W7) ∧ Hid (OR (w4.heap.size + 1) W7 (.slice ax Tx.length cx) Tx) ∧ Hid (W7.heap.size = w5.heap.size + 1) := ⟨_, rfl, alloc_new _ _, alloc_old HV5.out _, alloc_old HH5.out _, World.ownsRow.alloc HO5.out _, HB5.out.alloc (by omega) _, World.ownsRow.alloc HT5.out _, by unfold Hid; simp⟩
                rw [hW7]
                clear hW7
                generalize hN' : R1 = N' at HH7 HFT ⊢
                have hNb : 0 ≤ N' ∧ N' ≤ 2000 := by omega
                obtain ⟨hNb0, hNb1⟩ := hNb
                obtain ⟨bx, hbx⟩ : ∃ bx, bx = w5.heap.size := ⟨_, rfl⟩
                obtain ⟨bv, hbv⟩ : ∃ bv, bv = w4.heap.size := ⟨_, rfl⟩
                obtain ⟨N0, hN0⟩ : ∃ N0, N0 = W7.heap.size := ⟨_, rfl⟩
                have hN0' : N0 = bx + 1 := by rw [hN0, HZ7.out, hbx]
                have HGX : Hid (0 < Tx.length → ∃ gx, ax = some ⟨gx, 0, none⟩ ∧ bv + 1 ≤ gx ∧ gx < N0 ∧ some gx ≠ v.ownBlock) := fun h => by
                  obtain ⟨gx, cg, hv⟩ := ownsRow_some HT7.out h
                  simp only [Value.slice.injEq, true_and] at hv
                  obtain ⟨rfl, rfl⟩ := hv
                  obtain ⟨h1, h2, -⟩ := HT7.out.lt
                  simp only at h1 h2
                  refine ⟨gx, rfl, by omega, by omega, fun e => ?_⟩
                  have := HVLT.out gx e.symm
                  omega
                have HTX : Hid (∀ gx, ax = some ⟨gx, 0, none⟩ → ∀ kk, kk < Tx.length → ∃ tx ty, W7.cell? ⟨gx, kk * 2, none⟩ = some (.int .i64 tx) ∧ W7.cell? ⟨gx, kk * 2 + 1, none⟩ = some (.int .i64 ty) ∧ Hid (Tx[kk]? = some (tx, ty))) := fun gx he kk hk => by
                  subst he
                  obtain ⟨tx, ty, h1, h2, -, -, h3⟩ := HT7.out.at hk
                  exact ⟨tx, ty, h1, h2, h3⟩
                have hvx : some bx ≠ v.ownBlock := fun e => by have := HVLT.out bx e.symm; omega
                have hvv : some bv ≠ v.ownBlock := fun e => by have := HVLT.out bv e.symm; omega
                rw [← hbx] at HX7
                rw [← hbv] at HV7
                try rw [← hbx]
                try rw [← hbv]
                have i1 : b2 < bv := by omega
                have i2 : bv < bx := by omega
                have i3 : bx < N0 := by omega
                have HN0 := Hid.mk hN0
                clear hbx hbv hN0 hN0' hN' HZ7 HT7 HVLT HV5 HH5 HO5 HB5 HT5 u0 u1 u2 u3 u4 c0 c1 c4
                go_loopw [13] (fun i wi => ∃ (kk : Nat) (vi : Value), kk ≤ Tx.length ∧ i = .int .i64 kk ∧ RowKit.Below b2 W3 wi ∧ wi.heap[b2]? = some (.cells #[.int .i64 N', vi] 43 (0, 0)) ∧ OR (b2 + 1) wi vi (R2 ++ rmap y (Tx.take kk)) ∧ (∀ b, b < N0 → b ≠ b2 → some b ≠ v.ownBlock → wi.heap[b]? = W7.heap[b]?) ∧ (∀ b, vi.ownBlock = some b → v.ownBlock = some b ∨ N0 ≤ b) ∧ N0 ≤ wi.heap.size) (fun i _ => Tx.length - (intOf i).toNat)
                case atStart => exact ⟨0, v, Nat.zero_le _, rfl, HB7.out, HH7.out, by simpa [rmap] using HO7.out, fun _ _ _ _ => rfl, fun b hb => .inl hb, by rw [HN0.out]; exact Nat.le_refl _⟩
                case round =>
                  obtain ⟨kk, vi, hkk0, rfl, hb, hh, hO, hk, hw, hNi⟩ := hrel
                  obtain ⟨wi, rfl⟩ : ∃ W, W = wr := ⟨_, rfl⟩
                  obtain ⟨o0, o1, o2, o3, o4⟩ := cells2 hh
                  have HBi := Hid.mk hb
                  have HHi := Hid.mk hh
                  have HKi := Hid.mk hk
                  have HWi := Hid.mk hw
                  have hzi : b2 + 1 ≤ wi.heap.size := o4
                  have hX := (hk bx (by omega) (by omega) hvx).trans HX7.out
                  obtain ⟨x0, x1, -, -, -⟩ := cells2 hX
                  have HRM0 : Hid ((R2 ++ rmap y (Tx.take kk)).length = R2.length + kk) := by unfold Hid; rw [List.length_append, rmap_len]; simp; omega
                  obtain ⟨va, vc, hv, -, -⟩ := hO.shape
                  rw [HRM0.out] at hv
                  subst hv
                  have HOi := Hid.mk hO
                  clear hb hh hO hk hw hX
                  by_cases hkk : kk < Tx.length
                  · obtain ⟨gx, rfl, hgx1, hgx2, hvg⟩ := HGX.out (by omega)
                    obtain ⟨tx, ty, hd0, hd1, htk⟩ := HTX.out gx rfl kk hkk
                    have hE := HTP.out (tx, ty) (List.mem_of_getElem? htk.out)
                    simp only at hE
                    obtain ⟨ht0, ht1, ht2, ht3⟩ := hE
                    have HCE : Hid (∀ W : World, (∀ b, b < N0 → b ≠ b2 → some b ≠ v.ownBlock → W.heap[b]? = W7.heap[b]?) → W.cell? ⟨bx, 1, none⟩ = some (.slice (some ⟨gx, 0, none⟩) Tx.length cx) ∧ W.cell? ⟨gx, kk * 2, none⟩ = some (.int .i64 tx) ∧ W.cell? ⟨gx, kk * 2 + 1, none⟩ = some (.int .i64 ty) ∧ W.cell? ⟨bv, 1, none⟩ = some (.int .i64 y)) := fun W h => by
                      refine ⟨(cells2 ((h bx (by omega) (by omega) hvx).trans HX7.out)).2.1, ?_, ?_, (cells2 ((h bv (by omega) (by omega) hvv).trans HV7.out)).2.1⟩
                      · rw [World.cell?_of_block (w := W7) (a := ⟨gx, kk * 2, none⟩) (h gx (by omega) (by omega) hvg)]; exact hd0
                      · rw [World.cell?_of_block (w := W7) (a := ⟨gx, kk * 2 + 1, none⟩) (h gx (by omega) (by omega) hvg)]; exact hd1
                    obtain ⟨e0, e1, e2, e3⟩ := HCE.out _ HKi.out
                    have HRM := Hid.mk (rmap_take (k := y) htk.out)
                    have HZS : Hid (∃ q, q = R2 ++ rmap y (Tx.take kk)) := ⟨_, rfl⟩
                    obtain ⟨zs, hzs⟩ := HZS.out
                    have HZS : Hid (R2 ++ rmap y (Tx.take kk) = zs) := hzs.symm
                    rw [HZS.out] at HOi
                    have HLEN : Hid (zs.length = R2.length + kk) := by unfold Hid; rw [← HZS.out]; exact HRM0.out
                    have hyk : IntKind.i64.wrap (ty + y) = ty + y := Go.IntWalk.i64_in _ (by omega)
                    have zk : (kk : Int) < (Tx.length : Int) := by omega
                    clear hzs hd0 hd1 o0
                    go_wp2_with fail
                    refine wp_region_held_drew (S := fun w' => w'.cell? ⟨bx, 1, none⟩ = some (.slice (some ⟨gx, 0, none⟩) Tx.length cx) ∧ w'.cell? ⟨gx, kk * 2, none⟩ = some (.int .i64 tx) ∧ w'.cell? ⟨gx, kk * 2 + 1, none⟩ = some (.int .i64 ty) ∧ w'.cell? ⟨bv, 1, none⟩ = some (.int .i64 y)) (by kernel_rfl) ?_ (fun hHeld => ?_)
                    · (try dsimp only)
                      first | (go_keep; done) | (go_split_ands; exact ⟨e0, e1, e2, e3⟩) | (go_split_ands; refine ⟨?_, ?_, ?_, ?_⟩ <;> (rw [World.cell?_setCell_far _ _ _ _ (by dsimp only; omega)]; assumption))
                    refine wpAnyH_take (i := 0) (v := ?_) rfl (by kernel_rfl) (by kernel_rfl) (by kernel_rfl) (fun _ _ _ h => h) (Or.inl ⟨by rfl, ?_⟩) (by assumption) ?_
                    rotate_left
                    · (intro w hSw; (try dsimp only at hSw); go_simp; (try with_reducible rfl))
                    refine wpAnyH_take (i := 2) (v := ?_) rfl (by kernel_rfl) (by kernel_rfl) (by kernel_rfl) (fun _ _ _ h => h) (Or.inl ⟨by rfl, ?_⟩) (by assumption) ?_
                    rotate_left
                    · (intro w hSw; (try dsimp only at hSw); go_simp; (try with_reducible rfl))
                    refine wpAnyH_take (i := 3) (v := ?_) rfl (by kernel_rfl) (by kernel_rfl) (by kernel_rfl) (fun _ _ _ h => h) (Or.inl ⟨by rfl, ?_⟩) (by assumption) ?_
                    rotate_left
                    · (intro w hSw; (try dsimp only at hSw); go_simp; (try with_reducible rfl))
                    refine wpAnyH_take (i := 4) (v := ?_) rfl (by kernel_rfl) (by kernel_rfl) (by kernel_rfl) (fun _ _ _ h => h) (Or.inl ⟨by rfl, ?_⟩) (by assumption) ?_
                    rotate_left
                    · (intro w hSw; (try dsimp only at hSw); go_simp; (try with_reducible rfl))
                    refine wpAnyH_take (i := 5) (v := ?_) rfl (by kernel_rfl) (by kernel_rfl) (by kernel_rfl) (fun _ _ _ h => h) (Or.inl ⟨by rfl, ?_⟩) (by assumption) ?_
                    rotate_left
                    · (intro w hSw; (try dsimp only at hSw); go_simp; (try with_reducible rfl))
                    refine wpAnyH_take (i := 6) (v := ?_) rfl (by kernel_rfl) (by kernel_rfl) (by kernel_rfl) (fun _ _ _ h => h) (Or.inl ⟨by rfl, ?_⟩) (by assumption) ?_
                    rotate_left
                    · (intro w hSw; (try dsimp only at hSw); go_simp; (try with_reducible rfl))
                    refine wpAnyH_take (i := 7) (v := ?_) rfl (by kernel_rfl) (by kernel_rfl) (by kernel_rfl) (fun _ _ _ h => h) (Or.inl ⟨by rfl, ?_⟩) (by assumption) ?_
                    rotate_left
                    · (intro w hSw; (try dsimp only at hSw); go_simp; (try with_reducible rfl))
                    refine wpAnyH_take (i := 8) (v := ?_) rfl (by kernel_rfl) (by kernel_rfl) (by kernel_rfl) (fun _ _ _ h => h) (Or.inl ⟨by rfl, ?_⟩) (by assumption) ?_
                    rotate_left
                    · (intro w hSw; (try dsimp only at hSw); go_simp; (try with_reducible rfl))
                    refine wpAnyH_take (i := 9) (v := ?_) rfl (by kernel_rfl) (by kernel_rfl) (by kernel_rfl) (fun _ _ _ h => h) (Or.inl ⟨by rfl, ?_⟩) (by assumption) ?_
                    rotate_left
                    · (intro w hSw; (try dsimp only at hSw); go_simp; (try with_reducible rfl))
                    refine wpAnyH_take (i := 10) (v := ?_) rfl (by kernel_rfl) (by kernel_rfl) (by kernel_rfl) (fun _ _ _ h => h) (Or.inl ⟨by rfl, ?_⟩) (by assumption) ?_
                    rotate_left
                    · (intro w hSw; (try dsimp only at hSw); go_simp; (try with_reducible rfl))
                    refine wpAnyH_take (i := 11) (v := ?_) rfl (by kernel_rfl) (by kernel_rfl) (by kernel_rfl) (fun _ _ _ h => h) (Or.inl ⟨by rfl, ?_⟩) (by assumption) ?_
                    rotate_left
                    · (intro w hSw; (try dsimp only at hSw); go_simp; (try with_reducible rfl))
                    refine wpAnyH_take (i := 12) (v := ?_) rfl (by kernel_rfl) (by kernel_rfl) (by kernel_rfl) (fun _ _ _ h => h) (Or.inl ⟨by rfl, ?_⟩) (by assumption) ?_
                    rotate_left
                    · (intro w hSw; (try dsimp only at hSw); go_simp; (try with_reducible rfl))
                    refine wpAnyH_take (i := 13) (v := ?_) rfl (by kernel_rfl) (by kernel_rfl) (by kernel_rfl) (fun _ _ _ h => h) (Or.inl ⟨by rfl, ?_⟩) (by assumption) ?_
                    rotate_left
                    · (intro w hSw; (try dsimp only at hSw); go_simp; (try with_reducible rfl))
                    refine wpAnyH_take (i := 14) (v := ?_) rfl (by kernel_rfl) (by kernel_rfl) (by kernel_rfl) (fun _ _ _ h => h) (Or.inl ⟨by rfl, ?_⟩) (by assumption) ?_
                    rotate_left
                    · (intro w hSw; (try dsimp only at hSw); go_simp; (try with_reducible rfl))
                    refine wpAnyH_take (i := 15) (v := ?_) rfl (by kernel_rfl) (by kernel_rfl) (by kernel_rfl) (fun _ _ _ h => h) (Or.inl ⟨by rfl, ?_⟩) (by assumption) ?_
                    rotate_left
                    · (intro w hSw; (try dsimp only at hSw); go_simp; (try with_reducible rfl))
                    refine wpAnyH_take (i := 16) (v := ?_) rfl (by kernel_rfl) (by kernel_rfl) (by kernel_rfl) (fun _ _ _ h => h) (Or.inl ⟨by rfl, ?_⟩) (by assumption) ?_
                    rotate_left
                    · (intro w hSw; (try dsimp only at hSw); go_simp; (try with_reducible rfl))
                    refine wpAnyH_take (i := 17) (v := ?_) rfl (by kernel_rfl) (by kernel_rfl) (by kernel_rfl) (fun _ _ _ h => h) (Or.inl ⟨by rfl, ?_⟩) (by assumption) ?_
                    rotate_left
                    · (intro w hSw; (try dsimp only at hSw); go_simp; (try with_reducible rfl))
                    refine wpAnyH_ready (rs := [1, 18]) (by kernel_rfl) (by simp) ?_
                    refine AllReadyH.cons rfl (fun K hK => ?_) (AllReadyH.cons rfl (fun K hK => ?_) AllReadyH.nil)
                    · skip
                      go_simp
                      refine hK.out _ _ ?_ (fun hHeld => ?_)
                      · (try dsimp only)
                        first | (go_keep; done) | (go_split_ands; exact ⟨e0, e1, e2, e3⟩) | (go_split_ands; refine ⟨?_, ?_, ?_, ?_⟩ <;> (rw [World.cell?_setCell_far _ _ _ _ (by dsimp only; omega)]; assumption))
                      clear hK K
                      refine wpAnyH_ready (rs := [18]) (by kernel_rfl) (by simp) ?_
                      refine AllReadyH.cons rfl (fun K hK => ?_) AllReadyH.nil
                      go_simp
                      refine hK.out _ _ ?_ (fun hHeld => ?_)
                      · (try dsimp only)
                        first | (go_keep; done) | (go_split_ands; exact ⟨e0, e1, e2, e3⟩) | (go_split_ands; refine ⟨?_, ?_, ?_, ?_⟩ <;> (rw [World.cell?_setCell_far _ _ _ _ (by dsimp only; omega)]; assumption))
                      clear hK K
                      refine wpAnyH_ready (rs := [19]) (by kernel_rfl) (by simp) ?_
                      refine AllReadyH.cons rfl (fun K hK => ?_) AllReadyH.nil
                      (try rw [hyk])
                      refine step_append_lies _ (by rfl) _ _ _ (by rfl) (b2 + 1) 89 i0 _ 2 16 Try.underlying41 hi iz0 iz1 iz2 rfl (by omega) _ zs.length (flat zs) (by rfl) ((HOi.out.alloc _).drew) ⟨wi.heap.size, 0, none⟩ 1 1 [.int .i64 tx, .int .i64 (ty + y)] (by rfl) (by rfl) (World.news_of_block (cs := #[.int .i64 tx, .int .i64 (ty + y)]) (t := 89) (fr := (0, 0)) (alloc_new _ _)) (by simp [Value.oneCell']) (by omega) (by rw [HLEN.out]; simp [maxLen]; omega) (by rw [HLEN.out]; omega) (by simp; omega) (wi.heap.size + 1) (by simp) ?_
                      intro gg cap1 w8 hown1 hgrow hat hlt1
                      obtain ⟨hO8, hB8, hH8, hk8, hg8, hn8⟩ := app_step2 (b2 := b2) HOi.out HHi.out hzi hNi HKi.out HWi.out hown1 hgrow hat
                      obtain ⟨t0, t1, t2, t3, t4⟩ := cells2 hH8
                      obtain ⟨e0, e1, e2, e3⟩ := HCE.out _ hk8
                      have HO8 := Hid.mk hO8
                      have HH8 := Hid.mk hH8
                      have HK8 := Hid.mk hk8
                      clear hO8 hH8 hown1 hgrow hat hk8
                      refine hK.out _ _ ?_ (fun hHeld => ?_)
                      · (try dsimp only)
                        first | (go_keep; done) | (go_split_ands; exact ⟨e0, e1, e2, e3⟩) | (go_split_ands; refine ⟨?_, ?_, ?_, ?_⟩ <;> (rw [World.cell?_setCell_far _ _ _ _ (by dsimp only; omega)]; assumption))
                      clear hK K
                      refine wpAnyH_take (i := 20) (v := ?_) rfl (by kernel_rfl) (by kernel_rfl) (by kernel_rfl) (fun _ _ _ h => h) (Or.inl ⟨by rfl, ?_⟩) (by assumption) ?_
                      rotate_left
                      · (intro w hSw; (try dsimp only at hSw); go_simp; (try with_reducible rfl))
                      refine wpAnyH_ready (rs := [21]) (by kernel_rfl) (by simp) ?_
                      refine AllReadyH.cons rfl (fun K hK => ?_) AllReadyH.nil
                      go_simp
                      refine hK.out _ _ ?_ (fun hHeld => ?_)
                      · (try dsimp only)
                        first | (go_keep; done) | (go_split_ands; exact ⟨e0, e1, e2, e3⟩) | (go_split_ands; refine ⟨?_, ?_, ?_, ?_⟩ <;> (rw [World.cell?_setCell_far _ _ _ _ (by dsimp only; omega)]; assumption))
                      clear hK K
                      refine wpAnyH_done (by kernel_rfl) ?_ _
                      go_wp2
                      refine ⟨⟨kk + 1, .slice (some ⟨gg, 0, none⟩) (zs.length + 1) cap1, hkk, by go_num, (HBi.out.trans (hB8.mono (Nat.le_refl _))).setCell (p := ⟨b2, 1, none⟩) (Nat.le_refl _) _, set1_heap HH8.out, ?_, fun b hb h1 h2 => (Below.heap_setCell _ _ _ _ h1).trans (HK8.out b hb h1 h2), fun b hb => ?_, by simpa using hn8⟩, by simp [intOf]; omega⟩
                      · rw [HRM.out, ← List.append_assoc, HZS.out]
                        exact HO8.out.setBelow (a := ⟨b2, 1, none⟩) (by simp) _
                      · simp only [Value.ownBlock, Option.some.injEq] at hb
                        subst hb
                        exact hg8
                    · skip
                      go_simp
                      refine hK.out _ _ ?_ (fun hHeld => ?_)
                      · (try dsimp only)
                        first | (go_keep; done) | (go_split_ands; exact ⟨e0, e1, e2, e3⟩) | (go_split_ands; refine ⟨?_, ?_, ?_, ?_⟩ <;> (rw [World.cell?_setCell_far _ _ _ _ (by dsimp only; omega)]; assumption))
                      clear hK K
                      refine wpAnyH_ready (rs := [1]) (by kernel_rfl) (by simp) ?_
                      refine AllReadyH.cons rfl (fun K hK => ?_) AllReadyH.nil
                      go_simp
                      refine hK.out _ _ ?_ (fun hHeld => ?_)
                      · (try dsimp only)
                        first | (go_keep; done) | (go_split_ands; exact ⟨e0, e1, e2, e3⟩) | (go_split_ands; refine ⟨?_, ?_, ?_, ?_⟩ <;> (rw [World.cell?_setCell_far _ _ _ _ (by dsimp only; omega)]; assumption))
                      clear hK K
                      refine wpAnyH_ready (rs := [19]) (by kernel_rfl) (by simp) ?_
                      refine AllReadyH.cons rfl (fun K hK => ?_) AllReadyH.nil
                      (try rw [hyk])
                      refine step_append_lies _ (by rfl) _ _ _ (by rfl) (b2 + 1) 89 i0 _ 2 16 Try.underlying41 hi iz0 iz1 iz2 rfl (by omega) _ zs.length (flat zs) (by rfl) ((HOi.out.alloc _).drew) ⟨wi.heap.size, 0, none⟩ 1 1 [.int .i64 tx, .int .i64 (ty + y)] (by rfl) (by rfl) (World.news_of_block (cs := #[.int .i64 tx, .int .i64 (ty + y)]) (t := 89) (fr := (0, 0)) (alloc_new _ _)) (by simp [Value.oneCell']) (by omega) (by rw [HLEN.out]; simp [maxLen]; omega) (by rw [HLEN.out]; omega) (by simp; omega) (wi.heap.size + 1) (by simp) ?_
                      intro gg cap1 w8 hown1 hgrow hat hlt1
                      obtain ⟨hO8, hB8, hH8, hk8, hg8, hn8⟩ := app_step2 (b2 := b2) HOi.out HHi.out hzi hNi HKi.out HWi.out hown1 hgrow hat
                      obtain ⟨t0, t1, t2, t3, t4⟩ := cells2 hH8
                      obtain ⟨e0, e1, e2, e3⟩ := HCE.out _ hk8
                      have HO8 := Hid.mk hO8
                      have HH8 := Hid.mk hH8
                      have HK8 := Hid.mk hk8
                      clear hO8 hH8 hown1 hgrow hat hk8
                      refine hK.out _ _ ?_ (fun hHeld => ?_)
                      · (try dsimp only)
                        first | (go_keep; done) | (go_split_ands; exact ⟨e0, e1, e2, e3⟩) | (go_split_ands; refine ⟨?_, ?_, ?_, ?_⟩ <;> (rw [World.cell?_setCell_far _ _ _ _ (by dsimp only; omega)]; assumption))
                      clear hK K
                      refine wpAnyH_take (i := 20) (v := ?_) rfl (by kernel_rfl) (by kernel_rfl) (by kernel_rfl) (fun _ _ _ h => h) (Or.inl ⟨by rfl, ?_⟩) (by assumption) ?_
                      rotate_left
                      · (intro w hSw; (try dsimp only at hSw); go_simp; (try with_reducible rfl))
                      refine wpAnyH_ready (rs := [21]) (by kernel_rfl) (by simp) ?_
                      refine AllReadyH.cons rfl (fun K hK => ?_) AllReadyH.nil
                      go_simp
                      refine hK.out _ _ ?_ (fun hHeld => ?_)
                      · (try dsimp only)
                        first | (go_keep; done) | (go_split_ands; exact ⟨e0, e1, e2, e3⟩) | (go_split_ands; refine ⟨?_, ?_, ?_, ?_⟩ <;> (rw [World.cell?_setCell_far _ _ _ _ (by dsimp only; omega)]; assumption))
                      clear hK K
                      refine wpAnyH_done (by kernel_rfl) ?_ _
                      go_wp2
                      refine ⟨⟨kk + 1, .slice (some ⟨gg, 0, none⟩) (zs.length + 1) cap1, hkk, by go_num, (HBi.out.trans (hB8.mono (Nat.le_refl _))).setCell (p := ⟨b2, 1, none⟩) (Nat.le_refl _) _, set1_heap HH8.out, ?_, fun b hb h1 h2 => (Below.heap_setCell _ _ _ _ h1).trans (HK8.out b hb h1 h2), fun b hb => ?_, by simpa using hn8⟩, by simp [intOf]; omega⟩
                      · rw [HRM.out, ← List.append_assoc, HZS.out]
                        exact HO8.out.setBelow (a := ⟨b2, 1, none⟩) (by simp) _
                      · simp only [Value.ownBlock, Option.some.injEq] at hb
                        subst hb
                        exact hg8
                  · have hkk' : kk = Tx.length := by omega
                    subst hkk'
                    rw [List.take_length] at HOi HRM0
                    go_wp2
                    refine ⟨⟨j + 1, .slice va (R2.length + Tx.length) vc, hlt, by go_num, HBi.out, by rw [HFT.out]; exact HHi.out, by rw [HFT.out]; exact HOi.out, ?_, ?_, ?_, ?_⟩, by simp [intOf]; omega⟩
                    · rw [HFT.out]; dsimp only; omega
                    · rw [HFT.out]; dsimp only; omega
                    · rw [HFT.out]; dsimp only; rw [HRM0.out]; omega
                    · intro p hp
                      obtain ⟨hj2, he⟩ := List.getElem?_eq_some_iff.1 hxy.out
                      rw [List.take_succ_eq_append_getElem hj2] at hp
                      rcases List.mem_append.1 hp with h | h
                      · exact HNEAR.out p h
                      · simp only [List.mem_singleton] at h; rw [h, he]; dsimp only; omega
              · skip
                have HFT : Hid (rFold ls m (T.take (j + 1)) = ((nx + y), R2 ++ rmap y Tx)) := by
                  unfold Hid; rw [HFT1.out]; rw [if_pos ⟨k1, .inl k2⟩]
                clear HFT1
                go_wp2_with fail
                obtain ⟨W7, hW7, HX7, HV7, HH7, HO7, HB7, HT7, HZ7⟩ : ∃ W7, (w5.setCell ⟨b2, 0, none⟩ (.int .i64 (nx + y))).alloc (.cells #[.int .i64 nx, .slice ax Tx.length cx] 43) = W7 ∧ Hid (W7.heap[w5.heap.size]? = some (.cells #[.int .i64 nx, .slice ax Tx.length cx] 43 (0, 0))) ∧ Hid (W7.heap[w4.heap.size]? = some (.cells #[.int .i64 xn, .int .i64 y] 89 (0, 0))) ∧ Hid (W7.heap[b2]? = some (.cells #[.int .i64 (nx + y), v] 43 (0, 0))) ∧ Hid (OR (b2 + 1) W7 v R2) ∧ Hid (RowKit.Below b2 W3 W7) ∧ Hid (OR (w4.heap.size + 1) W7 (.slice ax Tx.length cx) Tx) ∧ Hid (W7.heap.size = w5.heap.size + 1) := ⟨_, rfl, by unfold Hid; have := alloc_new (w5.setCell ⟨b2, 0, none⟩ (.int .i64 (nx + y))) (.cells #[.int .i64 nx, .slice ax Tx.length cx] 43); simpa using this, alloc_old ((Below.heap_setCell _ _ _ _ (by dsimp only; omega)).trans HV5.out) _, alloc_old (heap_set0 HH5.out) _, World.ownsRow.alloc (OR.setNe HO5.out (OR.box HO5.out HH5.out) _) _, (HB5.out.setCell (p := ⟨b2, 0, none⟩) (Nat.le_refl _) _).alloc (by simp; omega) _, World.ownsRow.alloc (OR.setNe HT5.out (OR.box HT5.out HH5.out) _) _, by unfold Hid; simp⟩
                rw [hW7]
                clear hW7
                generalize hN' : (nx + y) = N' at HH7 HFT ⊢
                have hNb : 0 ≤ N' ∧ N' ≤ 2000 := by omega
                obtain ⟨hNb0, hNb1⟩ := hNb
                obtain ⟨bx, hbx⟩ : ∃ bx, bx = w5.heap.size := ⟨_, rfl⟩
                obtain ⟨bv, hbv⟩ : ∃ bv, bv = w4.heap.size := ⟨_, rfl⟩
                obtain ⟨N0, hN0⟩ : ∃ N0, N0 = W7.heap.size := ⟨_, rfl⟩
                have hN0' : N0 = bx + 1 := by rw [hN0, HZ7.out, hbx]
                have HGX : Hid (0 < Tx.length → ∃ gx, ax = some ⟨gx, 0, none⟩ ∧ bv + 1 ≤ gx ∧ gx < N0 ∧ some gx ≠ v.ownBlock) := fun h => by
                  obtain ⟨gx, cg, hv⟩ := ownsRow_some HT7.out h
                  simp only [Value.slice.injEq, true_and] at hv
                  obtain ⟨rfl, rfl⟩ := hv
                  obtain ⟨h1, h2, -⟩ := HT7.out.lt
                  simp only at h1 h2
                  refine ⟨gx, rfl, by omega, by omega, fun e => ?_⟩
                  have := HVLT.out gx e.symm
                  omega
                have HTX : Hid (∀ gx, ax = some ⟨gx, 0, none⟩ → ∀ kk, kk < Tx.length → ∃ tx ty, W7.cell? ⟨gx, kk * 2, none⟩ = some (.int .i64 tx) ∧ W7.cell? ⟨gx, kk * 2 + 1, none⟩ = some (.int .i64 ty) ∧ Hid (Tx[kk]? = some (tx, ty))) := fun gx he kk hk => by
                  subst he
                  obtain ⟨tx, ty, h1, h2, -, -, h3⟩ := HT7.out.at hk
                  exact ⟨tx, ty, h1, h2, h3⟩
                have hvx : some bx ≠ v.ownBlock := fun e => by have := HVLT.out bx e.symm; omega
                have hvv : some bv ≠ v.ownBlock := fun e => by have := HVLT.out bv e.symm; omega
                rw [← hbx] at HX7
                rw [← hbv] at HV7
                try rw [← hbx]
                try rw [← hbv]
                have i1 : b2 < bv := by omega
                have i2 : bv < bx := by omega
                have i3 : bx < N0 := by omega
                have HN0 := Hid.mk hN0
                clear hbx hbv hN0 hN0' hN' HZ7 HT7 HVLT HV5 HH5 HO5 HB5 HT5 u0 u1 u2 u3 u4 c0 c1 c4
                go_loopw [13] (fun i wi => ∃ (kk : Nat) (vi : Value), kk ≤ Tx.length ∧ i = .int .i64 kk ∧ RowKit.Below b2 W3 wi ∧ wi.heap[b2]? = some (.cells #[.int .i64 N', vi] 43 (0, 0)) ∧ OR (b2 + 1) wi vi (R2 ++ rmap y (Tx.take kk)) ∧ (∀ b, b < N0 → b ≠ b2 → some b ≠ v.ownBlock → wi.heap[b]? = W7.heap[b]?) ∧ (∀ b, vi.ownBlock = some b → v.ownBlock = some b ∨ N0 ≤ b) ∧ N0 ≤ wi.heap.size) (fun i _ => Tx.length - (intOf i).toNat)
                case atStart => exact ⟨0, v, Nat.zero_le _, rfl, HB7.out, HH7.out, by simpa [rmap] using HO7.out, fun _ _ _ _ => rfl, fun b hb => .inl hb, by rw [HN0.out]; exact Nat.le_refl _⟩
                case round =>
                  obtain ⟨kk, vi, hkk0, rfl, hb, hh, hO, hk, hw, hNi⟩ := hrel
                  obtain ⟨wi, rfl⟩ : ∃ W, W = wr := ⟨_, rfl⟩
                  obtain ⟨o0, o1, o2, o3, o4⟩ := cells2 hh
                  have HBi := Hid.mk hb
                  have HHi := Hid.mk hh
                  have HKi := Hid.mk hk
                  have HWi := Hid.mk hw
                  have hzi : b2 + 1 ≤ wi.heap.size := o4
                  have hX := (hk bx (by omega) (by omega) hvx).trans HX7.out
                  obtain ⟨x0, x1, -, -, -⟩ := cells2 hX
                  have HRM0 : Hid ((R2 ++ rmap y (Tx.take kk)).length = R2.length + kk) := by unfold Hid; rw [List.length_append, rmap_len]; simp; omega
                  obtain ⟨va, vc, hv, -, -⟩ := hO.shape
                  rw [HRM0.out] at hv
                  subst hv
                  have HOi := Hid.mk hO
                  clear hb hh hO hk hw hX
                  by_cases hkk : kk < Tx.length
                  · obtain ⟨gx, rfl, hgx1, hgx2, hvg⟩ := HGX.out (by omega)
                    obtain ⟨tx, ty, hd0, hd1, htk⟩ := HTX.out gx rfl kk hkk
                    have hE := HTP.out (tx, ty) (List.mem_of_getElem? htk.out)
                    simp only at hE
                    obtain ⟨ht0, ht1, ht2, ht3⟩ := hE
                    have HCE : Hid (∀ W : World, (∀ b, b < N0 → b ≠ b2 → some b ≠ v.ownBlock → W.heap[b]? = W7.heap[b]?) → W.cell? ⟨bx, 1, none⟩ = some (.slice (some ⟨gx, 0, none⟩) Tx.length cx) ∧ W.cell? ⟨gx, kk * 2, none⟩ = some (.int .i64 tx) ∧ W.cell? ⟨gx, kk * 2 + 1, none⟩ = some (.int .i64 ty) ∧ W.cell? ⟨bv, 1, none⟩ = some (.int .i64 y)) := fun W h => by
                      refine ⟨(cells2 ((h bx (by omega) (by omega) hvx).trans HX7.out)).2.1, ?_, ?_, (cells2 ((h bv (by omega) (by omega) hvv).trans HV7.out)).2.1⟩
                      · rw [World.cell?_of_block (w := W7) (a := ⟨gx, kk * 2, none⟩) (h gx (by omega) (by omega) hvg)]; exact hd0
                      · rw [World.cell?_of_block (w := W7) (a := ⟨gx, kk * 2 + 1, none⟩) (h gx (by omega) (by omega) hvg)]; exact hd1
                    obtain ⟨e0, e1, e2, e3⟩ := HCE.out _ HKi.out
                    have HRM := Hid.mk (rmap_take (k := y) htk.out)
                    have HZS : Hid (∃ q, q = R2 ++ rmap y (Tx.take kk)) := ⟨_, rfl⟩
                    obtain ⟨zs, hzs⟩ := HZS.out
                    have HZS : Hid (R2 ++ rmap y (Tx.take kk) = zs) := hzs.symm
                    rw [HZS.out] at HOi
                    have HLEN : Hid (zs.length = R2.length + kk) := by unfold Hid; rw [← HZS.out]; exact HRM0.out
                    have hyk : IntKind.i64.wrap (ty + y) = ty + y := Go.IntWalk.i64_in _ (by omega)
                    have zk : (kk : Int) < (Tx.length : Int) := by omega
                    clear hzs hd0 hd1 o0
                    go_wp2_with fail
                    refine wp_region_held_drew (S := fun w' => w'.cell? ⟨bx, 1, none⟩ = some (.slice (some ⟨gx, 0, none⟩) Tx.length cx) ∧ w'.cell? ⟨gx, kk * 2, none⟩ = some (.int .i64 tx) ∧ w'.cell? ⟨gx, kk * 2 + 1, none⟩ = some (.int .i64 ty) ∧ w'.cell? ⟨bv, 1, none⟩ = some (.int .i64 y)) (by kernel_rfl) ?_ (fun hHeld => ?_)
                    · (try dsimp only)
                      first | (go_keep; done) | (go_split_ands; exact ⟨e0, e1, e2, e3⟩) | (go_split_ands; refine ⟨?_, ?_, ?_, ?_⟩ <;> (rw [World.cell?_setCell_far _ _ _ _ (by dsimp only; omega)]; assumption))
                    refine wpAnyH_take (i := 0) (v := ?_) rfl (by kernel_rfl) (by kernel_rfl) (by kernel_rfl) (fun _ _ _ h => h) (Or.inl ⟨by rfl, ?_⟩) (by assumption) ?_
                    rotate_left
                    · (intro w hSw; (try dsimp only at hSw); go_simp; (try with_reducible rfl))
                    refine wpAnyH_take (i := 2) (v := ?_) rfl (by kernel_rfl) (by kernel_rfl) (by kernel_rfl) (fun _ _ _ h => h) (Or.inl ⟨by rfl, ?_⟩) (by assumption) ?_
                    rotate_left
                    · (intro w hSw; (try dsimp only at hSw); go_simp; (try with_reducible rfl))
                    refine wpAnyH_take (i := 3) (v := ?_) rfl (by kernel_rfl) (by kernel_rfl) (by kernel_rfl) (fun _ _ _ h => h) (Or.inl ⟨by rfl, ?_⟩) (by assumption) ?_
                    rotate_left
                    · (intro w hSw; (try dsimp only at hSw); go_simp; (try with_reducible rfl))
                    refine wpAnyH_take (i := 4) (v := ?_) rfl (by kernel_rfl) (by kernel_rfl) (by kernel_rfl) (fun _ _ _ h => h) (Or.inl ⟨by rfl, ?_⟩) (by assumption) ?_
                    rotate_left
                    · (intro w hSw; (try dsimp only at hSw); go_simp; (try with_reducible rfl))
                    refine wpAnyH_take (i := 5) (v := ?_) rfl (by kernel_rfl) (by kernel_rfl) (by kernel_rfl) (fun _ _ _ h => h) (Or.inl ⟨by rfl, ?_⟩) (by assumption) ?_
                    rotate_left
                    · (intro w hSw; (try dsimp only at hSw); go_simp; (try with_reducible rfl))
                    refine wpAnyH_take (i := 6) (v := ?_) rfl (by kernel_rfl) (by kernel_rfl) (by kernel_rfl) (fun _ _ _ h => h) (Or.inl ⟨by rfl, ?_⟩) (by assumption) ?_
                    rotate_left
                    · (intro w hSw; (try dsimp only at hSw); go_simp; (try with_reducible rfl))
                    refine wpAnyH_take (i := 7) (v := ?_) rfl (by kernel_rfl) (by kernel_rfl) (by kernel_rfl) (fun _ _ _ h => h) (Or.inl ⟨by rfl, ?_⟩) (by assumption) ?_
                    rotate_left
                    · (intro w hSw; (try dsimp only at hSw); go_simp; (try with_reducible rfl))
                    refine wpAnyH_take (i := 8) (v := ?_) rfl (by kernel_rfl) (by kernel_rfl) (by kernel_rfl) (fun _ _ _ h => h) (Or.inl ⟨by rfl, ?_⟩) (by assumption) ?_
                    rotate_left
                    · (intro w hSw; (try dsimp only at hSw); go_simp; (try with_reducible rfl))
                    refine wpAnyH_take (i := 9) (v := ?_) rfl (by kernel_rfl) (by kernel_rfl) (by kernel_rfl) (fun _ _ _ h => h) (Or.inl ⟨by rfl, ?_⟩) (by assumption) ?_
                    rotate_left
                    · (intro w hSw; (try dsimp only at hSw); go_simp; (try with_reducible rfl))
                    refine wpAnyH_take (i := 10) (v := ?_) rfl (by kernel_rfl) (by kernel_rfl) (by kernel_rfl) (fun _ _ _ h => h) (Or.inl ⟨by rfl, ?_⟩) (by assumption) ?_
                    rotate_left
                    · (intro w hSw; (try dsimp only at hSw); go_simp; (try with_reducible rfl))
                    refine wpAnyH_take (i := 11) (v := ?_) rfl (by kernel_rfl) (by kernel_rfl) (by kernel_rfl) (fun _ _ _ h => h) (Or.inl ⟨by rfl, ?_⟩) (by assumption) ?_
                    rotate_left
                    · (intro w hSw; (try dsimp only at hSw); go_simp; (try with_reducible rfl))
                    refine wpAnyH_take (i := 12) (v := ?_) rfl (by kernel_rfl) (by kernel_rfl) (by kernel_rfl) (fun _ _ _ h => h) (Or.inl ⟨by rfl, ?_⟩) (by assumption) ?_
                    rotate_left
                    · (intro w hSw; (try dsimp only at hSw); go_simp; (try with_reducible rfl))
                    refine wpAnyH_take (i := 13) (v := ?_) rfl (by kernel_rfl) (by kernel_rfl) (by kernel_rfl) (fun _ _ _ h => h) (Or.inl ⟨by rfl, ?_⟩) (by assumption) ?_
                    rotate_left
                    · (intro w hSw; (try dsimp only at hSw); go_simp; (try with_reducible rfl))
                    refine wpAnyH_take (i := 14) (v := ?_) rfl (by kernel_rfl) (by kernel_rfl) (by kernel_rfl) (fun _ _ _ h => h) (Or.inl ⟨by rfl, ?_⟩) (by assumption) ?_
                    rotate_left
                    · (intro w hSw; (try dsimp only at hSw); go_simp; (try with_reducible rfl))
                    refine wpAnyH_take (i := 15) (v := ?_) rfl (by kernel_rfl) (by kernel_rfl) (by kernel_rfl) (fun _ _ _ h => h) (Or.inl ⟨by rfl, ?_⟩) (by assumption) ?_
                    rotate_left
                    · (intro w hSw; (try dsimp only at hSw); go_simp; (try with_reducible rfl))
                    refine wpAnyH_take (i := 16) (v := ?_) rfl (by kernel_rfl) (by kernel_rfl) (by kernel_rfl) (fun _ _ _ h => h) (Or.inl ⟨by rfl, ?_⟩) (by assumption) ?_
                    rotate_left
                    · (intro w hSw; (try dsimp only at hSw); go_simp; (try with_reducible rfl))
                    refine wpAnyH_take (i := 17) (v := ?_) rfl (by kernel_rfl) (by kernel_rfl) (by kernel_rfl) (fun _ _ _ h => h) (Or.inl ⟨by rfl, ?_⟩) (by assumption) ?_
                    rotate_left
                    · (intro w hSw; (try dsimp only at hSw); go_simp; (try with_reducible rfl))
                    refine wpAnyH_ready (rs := [1, 18]) (by kernel_rfl) (by simp) ?_
                    refine AllReadyH.cons rfl (fun K hK => ?_) (AllReadyH.cons rfl (fun K hK => ?_) AllReadyH.nil)
                    · skip
                      go_simp
                      refine hK.out _ _ ?_ (fun hHeld => ?_)
                      · (try dsimp only)
                        first | (go_keep; done) | (go_split_ands; exact ⟨e0, e1, e2, e3⟩) | (go_split_ands; refine ⟨?_, ?_, ?_, ?_⟩ <;> (rw [World.cell?_setCell_far _ _ _ _ (by dsimp only; omega)]; assumption))
                      clear hK K
                      refine wpAnyH_ready (rs := [18]) (by kernel_rfl) (by simp) ?_
                      refine AllReadyH.cons rfl (fun K hK => ?_) AllReadyH.nil
                      go_simp
                      refine hK.out _ _ ?_ (fun hHeld => ?_)
                      · (try dsimp only)
                        first | (go_keep; done) | (go_split_ands; exact ⟨e0, e1, e2, e3⟩) | (go_split_ands; refine ⟨?_, ?_, ?_, ?_⟩ <;> (rw [World.cell?_setCell_far _ _ _ _ (by dsimp only; omega)]; assumption))
                      clear hK K
                      refine wpAnyH_ready (rs := [19]) (by kernel_rfl) (by simp) ?_
                      refine AllReadyH.cons rfl (fun K hK => ?_) AllReadyH.nil
                      (try rw [hyk])
                      refine step_append_lies _ (by rfl) _ _ _ (by rfl) (b2 + 1) 89 i0 _ 2 16 Try.underlying41 hi iz0 iz1 iz2 rfl (by omega) _ zs.length (flat zs) (by rfl) ((HOi.out.alloc _).drew) ⟨wi.heap.size, 0, none⟩ 1 1 [.int .i64 tx, .int .i64 (ty + y)] (by rfl) (by rfl) (World.news_of_block (cs := #[.int .i64 tx, .int .i64 (ty + y)]) (t := 89) (fr := (0, 0)) (alloc_new _ _)) (by simp [Value.oneCell']) (by omega) (by rw [HLEN.out]; simp [maxLen]; omega) (by rw [HLEN.out]; omega) (by simp; omega) (wi.heap.size + 1) (by simp) ?_
                      intro gg cap1 w8 hown1 hgrow hat hlt1
                      obtain ⟨hO8, hB8, hH8, hk8, hg8, hn8⟩ := app_step2 (b2 := b2) HOi.out HHi.out hzi hNi HKi.out HWi.out hown1 hgrow hat
                      obtain ⟨t0, t1, t2, t3, t4⟩ := cells2 hH8
                      obtain ⟨e0, e1, e2, e3⟩ := HCE.out _ hk8
                      have HO8 := Hid.mk hO8
                      have HH8 := Hid.mk hH8
                      have HK8 := Hid.mk hk8
                      clear hO8 hH8 hown1 hgrow hat hk8
                      refine hK.out _ _ ?_ (fun hHeld => ?_)
                      · (try dsimp only)
                        first | (go_keep; done) | (go_split_ands; exact ⟨e0, e1, e2, e3⟩) | (go_split_ands; refine ⟨?_, ?_, ?_, ?_⟩ <;> (rw [World.cell?_setCell_far _ _ _ _ (by dsimp only; omega)]; assumption))
                      clear hK K
                      refine wpAnyH_take (i := 20) (v := ?_) rfl (by kernel_rfl) (by kernel_rfl) (by kernel_rfl) (fun _ _ _ h => h) (Or.inl ⟨by rfl, ?_⟩) (by assumption) ?_
                      rotate_left
                      · (intro w hSw; (try dsimp only at hSw); go_simp; (try with_reducible rfl))
                      refine wpAnyH_ready (rs := [21]) (by kernel_rfl) (by simp) ?_
                      refine AllReadyH.cons rfl (fun K hK => ?_) AllReadyH.nil
                      go_simp
                      refine hK.out _ _ ?_ (fun hHeld => ?_)
                      · (try dsimp only)
                        first | (go_keep; done) | (go_split_ands; exact ⟨e0, e1, e2, e3⟩) | (go_split_ands; refine ⟨?_, ?_, ?_, ?_⟩ <;> (rw [World.cell?_setCell_far _ _ _ _ (by dsimp only; omega)]; assumption))
                      clear hK K
                      refine wpAnyH_done (by kernel_rfl) ?_ _
                      go_wp2
                      refine ⟨⟨kk + 1, .slice (some ⟨gg, 0, none⟩) (zs.length + 1) cap1, hkk, by go_num, (HBi.out.trans (hB8.mono (Nat.le_refl _))).setCell (p := ⟨b2, 1, none⟩) (Nat.le_refl _) _, set1_heap HH8.out, ?_, fun b hb h1 h2 => (Below.heap_setCell _ _ _ _ h1).trans (HK8.out b hb h1 h2), fun b hb => ?_, by simpa using hn8⟩, by simp [intOf]; omega⟩
                      · rw [HRM.out, ← List.append_assoc, HZS.out]
                        exact HO8.out.setBelow (a := ⟨b2, 1, none⟩) (by simp) _
                      · simp only [Value.ownBlock, Option.some.injEq] at hb
                        subst hb
                        exact hg8
                    · skip
                      go_simp
                      refine hK.out _ _ ?_ (fun hHeld => ?_)
                      · (try dsimp only)
                        first | (go_keep; done) | (go_split_ands; exact ⟨e0, e1, e2, e3⟩) | (go_split_ands; refine ⟨?_, ?_, ?_, ?_⟩ <;> (rw [World.cell?_setCell_far _ _ _ _ (by dsimp only; omega)]; assumption))
                      clear hK K
                      refine wpAnyH_ready (rs := [1]) (by kernel_rfl) (by simp) ?_
                      refine AllReadyH.cons rfl (fun K hK => ?_) AllReadyH.nil
                      go_simp
                      refine hK.out _ _ ?_ (fun hHeld => ?_)
                      · (try dsimp only)
                        first | (go_keep; done) | (go_split_ands; exact ⟨e0, e1, e2, e3⟩) | (go_split_ands; refine ⟨?_, ?_, ?_, ?_⟩ <;> (rw [World.cell?_setCell_far _ _ _ _ (by dsimp only; omega)]; assumption))
                      clear hK K
                      refine wpAnyH_ready (rs := [19]) (by kernel_rfl) (by simp) ?_
                      refine AllReadyH.cons rfl (fun K hK => ?_) AllReadyH.nil
                      (try rw [hyk])
                      refine step_append_lies _ (by rfl) _ _ _ (by rfl) (b2 + 1) 89 i0 _ 2 16 Try.underlying41 hi iz0 iz1 iz2 rfl (by omega) _ zs.length (flat zs) (by rfl) ((HOi.out.alloc _).drew) ⟨wi.heap.size, 0, none⟩ 1 1 [.int .i64 tx, .int .i64 (ty + y)] (by rfl) (by rfl) (World.news_of_block (cs := #[.int .i64 tx, .int .i64 (ty + y)]) (t := 89) (fr := (0, 0)) (alloc_new _ _)) (by simp [Value.oneCell']) (by omega) (by rw [HLEN.out]; simp [maxLen]; omega) (by rw [HLEN.out]; omega) (by simp; omega) (wi.heap.size + 1) (by simp) ?_
                      intro gg cap1 w8 hown1 hgrow hat hlt1
                      obtain ⟨hO8, hB8, hH8, hk8, hg8, hn8⟩ := app_step2 (b2 := b2) HOi.out HHi.out hzi hNi HKi.out HWi.out hown1 hgrow hat
                      obtain ⟨t0, t1, t2, t3, t4⟩ := cells2 hH8
                      obtain ⟨e0, e1, e2, e3⟩ := HCE.out _ hk8
                      have HO8 := Hid.mk hO8
                      have HH8 := Hid.mk hH8
                      have HK8 := Hid.mk hk8
                      clear hO8 hH8 hown1 hgrow hat hk8
                      refine hK.out _ _ ?_ (fun hHeld => ?_)
                      · (try dsimp only)
                        first | (go_keep; done) | (go_split_ands; exact ⟨e0, e1, e2, e3⟩) | (go_split_ands; refine ⟨?_, ?_, ?_, ?_⟩ <;> (rw [World.cell?_setCell_far _ _ _ _ (by dsimp only; omega)]; assumption))
                      clear hK K
                      refine wpAnyH_take (i := 20) (v := ?_) rfl (by kernel_rfl) (by kernel_rfl) (by kernel_rfl) (fun _ _ _ h => h) (Or.inl ⟨by rfl, ?_⟩) (by assumption) ?_
                      rotate_left
                      · (intro w hSw; (try dsimp only at hSw); go_simp; (try with_reducible rfl))
                      refine wpAnyH_ready (rs := [21]) (by kernel_rfl) (by simp) ?_
                      refine AllReadyH.cons rfl (fun K hK => ?_) AllReadyH.nil
                      go_simp
                      refine hK.out _ _ ?_ (fun hHeld => ?_)
                      · (try dsimp only)
                        first | (go_keep; done) | (go_split_ands; exact ⟨e0, e1, e2, e3⟩) | (go_split_ands; refine ⟨?_, ?_, ?_, ?_⟩ <;> (rw [World.cell?_setCell_far _ _ _ _ (by dsimp only; omega)]; assumption))
                      clear hK K
                      refine wpAnyH_done (by kernel_rfl) ?_ _
                      go_wp2
                      refine ⟨⟨kk + 1, .slice (some ⟨gg, 0, none⟩) (zs.length + 1) cap1, hkk, by go_num, (HBi.out.trans (hB8.mono (Nat.le_refl _))).setCell (p := ⟨b2, 1, none⟩) (Nat.le_refl _) _, set1_heap HH8.out, ?_, fun b hb h1 h2 => (Below.heap_setCell _ _ _ _ h1).trans (HK8.out b hb h1 h2), fun b hb => ?_, by simpa using hn8⟩, by simp [intOf]; omega⟩
                      · rw [HRM.out, ← List.append_assoc, HZS.out]
                        exact HO8.out.setBelow (a := ⟨b2, 1, none⟩) (by simp) _
                      · simp only [Value.ownBlock, Option.some.injEq] at hb
                        subst hb
                        exact hg8
                  · have hkk' : kk = Tx.length := by omega
                    subst hkk'
                    rw [List.take_length] at HOi HRM0
                    go_wp2
                    refine ⟨⟨j + 1, .slice va (R2.length + Tx.length) vc, hlt, by go_num, HBi.out, by rw [HFT.out]; exact HHi.out, by rw [HFT.out]; exact HOi.out, ?_, ?_, ?_, ?_⟩, by simp [intOf]; omega⟩
                    · rw [HFT.out]; dsimp only; omega
                    · rw [HFT.out]; dsimp only; omega
                    · rw [HFT.out]; dsimp only; rw [HRM0.out]; omega
                    · intro p hp
                      obtain ⟨hj2, he⟩ := List.getElem?_eq_some_iff.1 hxy.out
                      rw [List.take_succ_eq_append_getElem hj2] at hp
                      rcases List.mem_append.1 hp with h | h
                      · exact HNEAR.out p h
                      · simp only [List.mem_singleton] at h; rw [h, he]; dsimp only; omega
              · skip
                have HFT : Hid (rFold ls m (T.take (j + 1)) = ((nx + y), R2 ++ rmap y Tx)) := by
                  unfold Hid; rw [HFT1.out]; rw [if_pos ⟨k1, .inr k3⟩]
                clear HFT1
                have k3' : ((Tx.length : Int) == 0) = true := by simp [k3]
                have K3 := Hid.mk k3
                clear k3
                go_wp2_with fail
                obtain ⟨W7, hW7, HX7, HV7, HH7, HO7, HB7, HT7, HZ7⟩ : ∃ W7, (w5.setCell ⟨b2, 0, none⟩ (.int .i64 (nx + y))).alloc (.cells #[.int .i64 nx, .slice ax Tx.length cx] 43) = W7 ∧ Hid (W7.heap[w5.heap.size]? = some (.cells #[.int .i64 nx, .slice ax Tx.length cx] 43 (0, 0))) ∧ Hid (W7.heap[w4.heap.size]? = some (.cells #[.int .i64 xn, .int .i64 y] 89 (0, 0))) ∧ Hid (W7.heap[b2]? = some (.cells #[.int .i64 (nx + y), v] 43 (0, 0))) ∧ Hid (OR (b2 + 1) W7 v R2) ∧ Hid (RowKit.Below b2 W3 W7) ∧ Hid (OR (w4.heap.size + 1) W7 (.slice ax Tx.length cx) Tx) ∧ Hid (W7.heap.size = w5.heap.size + 1) := ⟨_, rfl, by unfold Hid; have := alloc_new (w5.setCell ⟨b2, 0, none⟩ (.int .i64 (nx + y))) (.cells #[.int .i64 nx, .slice ax Tx.length cx] 43); simpa using this, alloc_old ((Below.heap_setCell _ _ _ _ (by dsimp only; omega)).trans HV5.out) _, alloc_old (heap_set0 HH5.out) _, World.ownsRow.alloc (OR.setNe HO5.out (OR.box HO5.out HH5.out) _) _, (HB5.out.setCell (p := ⟨b2, 0, none⟩) (Nat.le_refl _) _).alloc (by simp; omega) _, World.ownsRow.alloc (OR.setNe HT5.out (OR.box HT5.out HH5.out) _) _, by unfold Hid; simp⟩
                rw [hW7]
                clear hW7
                generalize hN' : (nx + y) = N' at HH7 HFT ⊢
                have hNb : 0 ≤ N' ∧ N' ≤ 2000 := by omega
                obtain ⟨hNb0, hNb1⟩ := hNb
                obtain ⟨bx, hbx⟩ : ∃ bx, bx = w5.heap.size := ⟨_, rfl⟩
                obtain ⟨bv, hbv⟩ : ∃ bv, bv = w4.heap.size := ⟨_, rfl⟩
                obtain ⟨N0, hN0⟩ : ∃ N0, N0 = W7.heap.size := ⟨_, rfl⟩
                have hN0' : N0 = bx + 1 := by rw [hN0, HZ7.out, hbx]
                have HGX : Hid (0 < Tx.length → ∃ gx, ax = some ⟨gx, 0, none⟩ ∧ bv + 1 ≤ gx ∧ gx < N0 ∧ some gx ≠ v.ownBlock) := fun h => by
                  obtain ⟨gx, cg, hv⟩ := ownsRow_some HT7.out h
                  simp only [Value.slice.injEq, true_and] at hv
                  obtain ⟨rfl, rfl⟩ := hv
                  obtain ⟨h1, h2, -⟩ := HT7.out.lt
                  simp only at h1 h2
                  refine ⟨gx, rfl, by omega, by omega, fun e => ?_⟩
                  have := HVLT.out gx e.symm
                  omega
                have HTX : Hid (∀ gx, ax = some ⟨gx, 0, none⟩ → ∀ kk, kk < Tx.length → ∃ tx ty, W7.cell? ⟨gx, kk * 2, none⟩ = some (.int .i64 tx) ∧ W7.cell? ⟨gx, kk * 2 + 1, none⟩ = some (.int .i64 ty) ∧ Hid (Tx[kk]? = some (tx, ty))) := fun gx he kk hk => by
                  subst he
                  obtain ⟨tx, ty, h1, h2, -, -, h3⟩ := HT7.out.at hk
                  exact ⟨tx, ty, h1, h2, h3⟩
                have hvx : some bx ≠ v.ownBlock := fun e => by have := HVLT.out bx e.symm; omega
                have hvv : some bv ≠ v.ownBlock := fun e => by have := HVLT.out bv e.symm; omega
                rw [← hbx] at HX7
                rw [← hbv] at HV7
                try rw [← hbx]
                try rw [← hbv]
                have i1 : b2 < bv := by omega
                have i2 : bv < bx := by omega
                have i3 : bx < N0 := by omega
                have HN0 := Hid.mk hN0
                clear hbx hbv hN0 hN0' hN' HZ7 HT7 HVLT HV5 HH5 HO5 HB5 HT5 u0 u1 u2 u3 u4 c0 c1 c4
                go_loopw [13] (fun i wi => ∃ (kk : Nat) (vi : Value), kk ≤ Tx.length ∧ i = .int .i64 kk ∧ RowKit.Below b2 W3 wi ∧ wi.heap[b2]? = some (.cells #[.int .i64 N', vi] 43 (0, 0)) ∧ OR (b2 + 1) wi vi (R2 ++ rmap y (Tx.take kk)) ∧ (∀ b, b < N0 → b ≠ b2 → some b ≠ v.ownBlock → wi.heap[b]? = W7.heap[b]?) ∧ (∀ b, vi.ownBlock = some b → v.ownBlock = some b ∨ N0 ≤ b) ∧ N0 ≤ wi.heap.size) (fun i _ => Tx.length - (intOf i).toNat)
                case atStart => exact ⟨0, v, Nat.zero_le _, rfl, HB7.out, HH7.out, by simpa [rmap] using HO7.out, fun _ _ _ _ => rfl, fun b hb => .inl hb, by rw [HN0.out]; exact Nat.le_refl _⟩
                case round =>
                  obtain ⟨kk, vi, hkk0, rfl, hb, hh, hO, hk, hw, hNi⟩ := hrel
                  obtain ⟨wi, rfl⟩ : ∃ W, W = wr := ⟨_, rfl⟩
                  obtain ⟨o0, o1, o2, o3, o4⟩ := cells2 hh
                  have HBi := Hid.mk hb
                  have HHi := Hid.mk hh
                  have HKi := Hid.mk hk
                  have HWi := Hid.mk hw
                  have hzi : b2 + 1 ≤ wi.heap.size := o4
                  have hX := (hk bx (by omega) (by omega) hvx).trans HX7.out
                  obtain ⟨x0, x1, -, -, -⟩ := cells2 hX
                  have HRM0 : Hid ((R2 ++ rmap y (Tx.take kk)).length = R2.length + kk) := by unfold Hid; rw [List.length_append, rmap_len]; simp; omega
                  obtain ⟨va, vc, hv, -, -⟩ := hO.shape
                  rw [HRM0.out] at hv
                  subst hv
                  have HOi := Hid.mk hO
                  clear hb hh hO hk hw hX
                  by_cases hkk : kk < Tx.length
                  · (have := K3.out; omega)
                  · have hkk' : kk = Tx.length := by omega
                    subst hkk'
                    rw [List.take_length] at HOi HRM0
                    go_wp2
                    refine ⟨⟨j + 1, .slice va (R2.length + Tx.length) vc, hlt, by go_num, HBi.out, by rw [HFT.out]; exact HHi.out, by rw [HFT.out]; exact HOi.out, ?_, ?_, ?_, ?_⟩, by simp [intOf]; omega⟩
                    · rw [HFT.out]; dsimp only; omega
                    · rw [HFT.out]; dsimp only; omega
                    · rw [HFT.out]; dsimp only; rw [HRM0.out]; omega
                    · intro p hp
                      obtain ⟨hj2, he⟩ := List.getElem?_eq_some_iff.1 hxy.out
                      rw [List.take_succ_eq_append_getElem hj2] at hp
                      rcases List.mem_append.1 hp with h | h
                      · exact HNEAR.out p h
                      · simp only [List.mem_singleton] at h; rw [h, he]; dsimp only; omega
              · skip
                have HFT : Hid (rFold ls m (T.take (j + 1)) = (R1, R2 ++ rmap y Tx)) := by
                  unfold Hid; rw [HFT1.out]; rw [if_neg (fun h => by rcases h.2 with h | h; exact k2 h; exact k3 h)]
                clear HFT1
                have k3' : ((Tx.length : Int) == 0) = false := by simp [k3]
                go_wp2_with fail
                obtain ⟨W7, hW7, HX7, HV7, HH7, HO7, HB7, HT7, HZ7⟩ : ∃ W7, w5.alloc (.cells #[.int .i64 nx, .slice ax Tx.length cx] 43) = W7 ∧ Hid (W7.heap[w5.heap.size]? = some (.cells #[.int .i64 nx, .slice ax Tx.length cx] 43 (0, 0))) ∧ Hid (W7.heap[w4.heap.size]? = some (.cells #[.int .i64 xn, .int .i64 y] 89 (0, 0))) ∧ Hid (W7.heap[b2]? = some (.cells #[.int .i64 R1, v] 43 (0, 0))) ∧ Hid (OR (b2 + 1) W7 v R2) ∧ Hid (RowKit.Below b2 W3 W7) ∧ Hid (OR (w4.heap.size + 1) W7 (.slice ax Tx.length cx) Tx) ∧ Hid (W7.heap.size = w5.heap.size + 1) := ⟨_, rfl, alloc_new _ _, alloc_old HV5.out _, alloc_old HH5.out _, World.ownsRow.alloc HO5.out _, HB5.out.alloc (by omega) _, World.ownsRow.alloc HT5.out _, by unfold Hid; simp⟩
                rw [hW7]
                clear hW7
                generalize hN' : R1 = N' at HH7 HFT ⊢
                have hNb : 0 ≤ N' ∧ N' ≤ 2000 := by omega
                obtain ⟨hNb0, hNb1⟩ := hNb
                obtain ⟨bx, hbx⟩ : ∃ bx, bx = w5.heap.size := ⟨_, rfl⟩
                obtain ⟨bv, hbv⟩ : ∃ bv, bv = w4.heap.size := ⟨_, rfl⟩
                obtain ⟨N0, hN0⟩ : ∃ N0, N0 = W7.heap.size := ⟨_, rfl⟩
                have hN0' : N0 = bx + 1 := by rw [hN0, HZ7.out, hbx]
                have HGX : Hid (0 < Tx.length → ∃ gx, ax = some ⟨gx, 0, none⟩ ∧ bv + 1 ≤ gx ∧ gx < N0 ∧ some gx ≠ v.ownBlock) := fun h => by
                  obtain ⟨gx, cg, hv⟩ := ownsRow_some HT7.out h
                  simp only [Value.slice.injEq, true_and] at hv
                  obtain ⟨rfl, rfl⟩ := hv
                  obtain ⟨h1, h2, -⟩ := HT7.out.lt
                  simp only at h1 h2
                  refine ⟨gx, rfl, by omega, by omega, fun e => ?_⟩
                  have := HVLT.out gx e.symm
                  omega
                have HTX : Hid (∀ gx, ax = some ⟨gx, 0, none⟩ → ∀ kk, kk < Tx.length → ∃ tx ty, W7.cell? ⟨gx, kk * 2, none⟩ = some (.int .i64 tx) ∧ W7.cell? ⟨gx, kk * 2 + 1, none⟩ = some (.int .i64 ty) ∧ Hid (Tx[kk]? = some (tx, ty))) := fun gx he kk hk => by
                  subst he
                  obtain ⟨tx, ty, h1, h2, -, -, h3⟩ := HT7.out.at hk
                  exact ⟨tx, ty, h1, h2, h3⟩
                have hvx : some bx ≠ v.ownBlock := fun e => by have := HVLT.out bx e.symm; omega
                have hvv : some bv ≠ v.ownBlock := fun e => by have := HVLT.out bv e.symm; omega
                rw [← hbx] at HX7
                rw [← hbv] at HV7
                try rw [← hbx]
                try rw [← hbv]
                have i1 : b2 < bv := by omega
                have i2 : bv < bx := by omega
                have i3 : bx < N0 := by omega
                have HN0 := Hid.mk hN0
                clear hbx hbv hN0 hN0' hN' HZ7 HT7 HVLT HV5 HH5 HO5 HB5 HT5 u0 u1 u2 u3 u4 c0 c1 c4
                go_loopw [13] (fun i wi => ∃ (kk : Nat) (vi : Value), kk ≤ Tx.length ∧ i = .int .i64 kk ∧ RowKit.Below b2 W3 wi ∧ wi.heap[b2]? = some (.cells #[.int .i64 N', vi] 43 (0, 0)) ∧ OR (b2 + 1) wi vi (R2 ++ rmap y (Tx.take kk)) ∧ (∀ b, b < N0 → b ≠ b2 → some b ≠ v.ownBlock → wi.heap[b]? = W7.heap[b]?) ∧ (∀ b, vi.ownBlock = some b → v.ownBlock = some b ∨ N0 ≤ b) ∧ N0 ≤ wi.heap.size) (fun i _ => Tx.length - (intOf i).toNat)
                case atStart => exact ⟨0, v, Nat.zero_le _, rfl, HB7.out, HH7.out, by simpa [rmap] using HO7.out, fun _ _ _ _ => rfl, fun b hb => .inl hb, by rw [HN0.out]; exact Nat.le_refl _⟩
                case round =>
                  obtain ⟨kk, vi, hkk0, rfl, hb, hh, hO, hk, hw, hNi⟩ := hrel
                  obtain ⟨wi, rfl⟩ : ∃ W, W = wr := ⟨_, rfl⟩
                  obtain ⟨o0, o1, o2, o3, o4⟩ := cells2 hh
                  have HBi := Hid.mk hb
                  have HHi := Hid.mk hh
                  have HKi := Hid.mk hk
                  have HWi := Hid.mk hw
                  have hzi : b2 + 1 ≤ wi.heap.size := o4
                  have hX := (hk bx (by omega) (by omega) hvx).trans HX7.out
                  obtain ⟨x0, x1, -, -, -⟩ := cells2 hX
                  have HRM0 : Hid ((R2 ++ rmap y (Tx.take kk)).length = R2.length + kk) := by unfold Hid; rw [List.length_append, rmap_len]; simp; omega
                  obtain ⟨va, vc, hv, -, -⟩ := hO.shape
                  rw [HRM0.out] at hv
                  subst hv
                  have HOi := Hid.mk hO
                  clear hb hh hO hk hw hX
                  by_cases hkk : kk < Tx.length
                  · obtain ⟨gx, rfl, hgx1, hgx2, hvg⟩ := HGX.out (by omega)
                    obtain ⟨tx, ty, hd0, hd1, htk⟩ := HTX.out gx rfl kk hkk
                    have hE := HTP.out (tx, ty) (List.mem_of_getElem? htk.out)
                    simp only at hE
                    obtain ⟨ht0, ht1, ht2, ht3⟩ := hE
                    have HCE : Hid (∀ W : World, (∀ b, b < N0 → b ≠ b2 → some b ≠ v.ownBlock → W.heap[b]? = W7.heap[b]?) → W.cell? ⟨bx, 1, none⟩ = some (.slice (some ⟨gx, 0, none⟩) Tx.length cx) ∧ W.cell? ⟨gx, kk * 2, none⟩ = some (.int .i64 tx) ∧ W.cell? ⟨gx, kk * 2 + 1, none⟩ = some (.int .i64 ty) ∧ W.cell? ⟨bv, 1, none⟩ = some (.int .i64 y)) := fun W h => by
                      refine ⟨(cells2 ((h bx (by omega) (by omega) hvx).trans HX7.out)).2.1, ?_, ?_, (cells2 ((h bv (by omega) (by omega) hvv).trans HV7.out)).2.1⟩
                      · rw [World.cell?_of_block (w := W7) (a := ⟨gx, kk * 2, none⟩) (h gx (by omega) (by omega) hvg)]; exact hd0
                      · rw [World.cell?_of_block (w := W7) (a := ⟨gx, kk * 2 + 1, none⟩) (h gx (by omega) (by omega) hvg)]; exact hd1
                    obtain ⟨e0, e1, e2, e3⟩ := HCE.out _ HKi.out
                    have HRM := Hid.mk (rmap_take (k := y) htk.out)
                    have HZS : Hid (∃ q, q = R2 ++ rmap y (Tx.take kk)) := ⟨_, rfl⟩
                    obtain ⟨zs, hzs⟩ := HZS.out
                    have HZS : Hid (R2 ++ rmap y (Tx.take kk) = zs) := hzs.symm
                    rw [HZS.out] at HOi
                    have HLEN : Hid (zs.length = R2.length + kk) := by unfold Hid; rw [← HZS.out]; exact HRM0.out
                    have hyk : IntKind.i64.wrap (ty + y) = ty + y := Go.IntWalk.i64_in _ (by omega)
                    have zk : (kk : Int) < (Tx.length : Int) := by omega
                    clear hzs hd0 hd1 o0
                    go_wp2_with fail
                    refine wp_region_held_drew (S := fun w' => w'.cell? ⟨bx, 1, none⟩ = some (.slice (some ⟨gx, 0, none⟩) Tx.length cx) ∧ w'.cell? ⟨gx, kk * 2, none⟩ = some (.int .i64 tx) ∧ w'.cell? ⟨gx, kk * 2 + 1, none⟩ = some (.int .i64 ty) ∧ w'.cell? ⟨bv, 1, none⟩ = some (.int .i64 y)) (by kernel_rfl) ?_ (fun hHeld => ?_)
                    · (try dsimp only)
                      first | (go_keep; done) | (go_split_ands; exact ⟨e0, e1, e2, e3⟩) | (go_split_ands; refine ⟨?_, ?_, ?_, ?_⟩ <;> (rw [World.cell?_setCell_far _ _ _ _ (by dsimp only; omega)]; assumption))
                    refine wpAnyH_take (i := 0) (v := ?_) rfl (by kernel_rfl) (by kernel_rfl) (by kernel_rfl) (fun _ _ _ h => h) (Or.inl ⟨by rfl, ?_⟩) (by assumption) ?_
                    rotate_left
                    · (intro w hSw; (try dsimp only at hSw); go_simp; (try with_reducible rfl))
                    refine wpAnyH_take (i := 2) (v := ?_) rfl (by kernel_rfl) (by kernel_rfl) (by kernel_rfl) (fun _ _ _ h => h) (Or.inl ⟨by rfl, ?_⟩) (by assumption) ?_
                    rotate_left
                    · (intro w hSw; (try dsimp only at hSw); go_simp; (try with_reducible rfl))
                    refine wpAnyH_take (i := 3) (v := ?_) rfl (by kernel_rfl) (by kernel_rfl) (by kernel_rfl) (fun _ _ _ h => h) (Or.inl ⟨by rfl, ?_⟩) (by assumption) ?_
                    rotate_left
                    · (intro w hSw; (try dsimp only at hSw); go_simp; (try with_reducible rfl))
                    refine wpAnyH_take (i := 4) (v := ?_) rfl (by kernel_rfl) (by kernel_rfl) (by kernel_rfl) (fun _ _ _ h => h) (Or.inl ⟨by rfl, ?_⟩) (by assumption) ?_
                    rotate_left
                    · (intro w hSw; (try dsimp only at hSw); go_simp; (try with_reducible rfl))
                    refine wpAnyH_take (i := 5) (v := ?_) rfl (by kernel_rfl) (by kernel_rfl) (by kernel_rfl) (fun _ _ _ h => h) (Or.inl ⟨by rfl, ?_⟩) (by assumption) ?_
                    rotate_left
                    · (intro w hSw; (try dsimp only at hSw); go_simp; (try with_reducible rfl))
                    refine wpAnyH_take (i := 6) (v := ?_) rfl (by kernel_rfl) (by kernel_rfl) (by kernel_rfl) (fun _ _ _ h => h) (Or.inl ⟨by rfl, ?_⟩) (by assumption) ?_
                    rotate_left
                    · (intro w hSw; (try dsimp only at hSw); go_simp; (try with_reducible rfl))
                    refine wpAnyH_take (i := 7) (v := ?_) rfl (by kernel_rfl) (by kernel_rfl) (by kernel_rfl) (fun _ _ _ h => h) (Or.inl ⟨by rfl, ?_⟩) (by assumption) ?_
                    rotate_left
                    · (intro w hSw; (try dsimp only at hSw); go_simp; (try with_reducible rfl))
                    refine wpAnyH_take (i := 8) (v := ?_) rfl (by kernel_rfl) (by kernel_rfl) (by kernel_rfl) (fun _ _ _ h => h) (Or.inl ⟨by rfl, ?_⟩) (by assumption) ?_
                    rotate_left
                    · (intro w hSw; (try dsimp only at hSw); go_simp; (try with_reducible rfl))
                    refine wpAnyH_take (i := 9) (v := ?_) rfl (by kernel_rfl) (by kernel_rfl) (by kernel_rfl) (fun _ _ _ h => h) (Or.inl ⟨by rfl, ?_⟩) (by assumption) ?_
                    rotate_left
                    · (intro w hSw; (try dsimp only at hSw); go_simp; (try with_reducible rfl))
                    refine wpAnyH_take (i := 10) (v := ?_) rfl (by kernel_rfl) (by kernel_rfl) (by kernel_rfl) (fun _ _ _ h => h) (Or.inl ⟨by rfl, ?_⟩) (by assumption) ?_
                    rotate_left
                    · (intro w hSw; (try dsimp only at hSw); go_simp; (try with_reducible rfl))
                    refine wpAnyH_take (i := 11) (v := ?_) rfl (by kernel_rfl) (by kernel_rfl) (by kernel_rfl) (fun _ _ _ h => h) (Or.inl ⟨by rfl, ?_⟩) (by assumption) ?_
                    rotate_left
                    · (intro w hSw; (try dsimp only at hSw); go_simp; (try with_reducible rfl))
                    refine wpAnyH_take (i := 12) (v := ?_) rfl (by kernel_rfl) (by kernel_rfl) (by kernel_rfl) (fun _ _ _ h => h) (Or.inl ⟨by rfl, ?_⟩) (by assumption) ?_
                    rotate_left
                    · (intro w hSw; (try dsimp only at hSw); go_simp; (try with_reducible rfl))
                    refine wpAnyH_take (i := 13) (v := ?_) rfl (by kernel_rfl) (by kernel_rfl) (by kernel_rfl) (fun _ _ _ h => h) (Or.inl ⟨by rfl, ?_⟩) (by assumption) ?_
                    rotate_left
                    · (intro w hSw; (try dsimp only at hSw); go_simp; (try with_reducible rfl))
                    refine wpAnyH_take (i := 14) (v := ?_) rfl (by kernel_rfl) (by kernel_rfl) (by kernel_rfl) (fun _ _ _ h => h) (Or.inl ⟨by rfl, ?_⟩) (by assumption) ?_
                    rotate_left
                    · (intro w hSw; (try dsimp only at hSw); go_simp; (try with_reducible rfl))
                    refine wpAnyH_take (i := 15) (v := ?_) rfl (by kernel_rfl) (by kernel_rfl) (by kernel_rfl) (fun _ _ _ h => h) (Or.inl ⟨by rfl, ?_⟩) (by assumption) ?_
                    rotate_left
                    · (intro w hSw; (try dsimp only at hSw); go_simp; (try with_reducible rfl))
                    refine wpAnyH_take (i := 16) (v := ?_) rfl (by kernel_rfl) (by kernel_rfl) (by kernel_rfl) (fun _ _ _ h => h) (Or.inl ⟨by rfl, ?_⟩) (by assumption) ?_
                    rotate_left
                    · (intro w hSw; (try dsimp only at hSw); go_simp; (try with_reducible rfl))
                    refine wpAnyH_take (i := 17) (v := ?_) rfl (by kernel_rfl) (by kernel_rfl) (by kernel_rfl) (fun _ _ _ h => h) (Or.inl ⟨by rfl, ?_⟩) (by assumption) ?_
                    rotate_left
                    · (intro w hSw; (try dsimp only at hSw); go_simp; (try with_reducible rfl))
                    refine wpAnyH_ready (rs := [1, 18]) (by kernel_rfl) (by simp) ?_
                    refine AllReadyH.cons rfl (fun K hK => ?_) (AllReadyH.cons rfl (fun K hK => ?_) AllReadyH.nil)
                    · skip
                      go_simp
                      refine hK.out _ _ ?_ (fun hHeld => ?_)
                      · (try dsimp only)
                        first | (go_keep; done) | (go_split_ands; exact ⟨e0, e1, e2, e3⟩) | (go_split_ands; refine ⟨?_, ?_, ?_, ?_⟩ <;> (rw [World.cell?_setCell_far _ _ _ _ (by dsimp only; omega)]; assumption))
                      clear hK K
                      refine wpAnyH_ready (rs := [18]) (by kernel_rfl) (by simp) ?_
                      refine AllReadyH.cons rfl (fun K hK => ?_) AllReadyH.nil
                      go_simp
                      refine hK.out _ _ ?_ (fun hHeld => ?_)
                      · (try dsimp only)
                        first | (go_keep; done) | (go_split_ands; exact ⟨e0, e1, e2, e3⟩) | (go_split_ands; refine ⟨?_, ?_, ?_, ?_⟩ <;> (rw [World.cell?_setCell_far _ _ _ _ (by dsimp only; omega)]; assumption))
                      clear hK K
                      refine wpAnyH_ready (rs := [19]) (by kernel_rfl) (by simp) ?_
                      refine AllReadyH.cons rfl (fun K hK => ?_) AllReadyH.nil
                      (try rw [hyk])
                      refine step_append_lies _ (by rfl) _ _ _ (by rfl) (b2 + 1) 89 i0 _ 2 16 Try.underlying41 hi iz0 iz1 iz2 rfl (by omega) _ zs.length (flat zs) (by rfl) ((HOi.out.alloc _).drew) ⟨wi.heap.size, 0, none⟩ 1 1 [.int .i64 tx, .int .i64 (ty + y)] (by rfl) (by rfl) (World.news_of_block (cs := #[.int .i64 tx, .int .i64 (ty + y)]) (t := 89) (fr := (0, 0)) (alloc_new _ _)) (by simp [Value.oneCell']) (by omega) (by rw [HLEN.out]; simp [maxLen]; omega) (by rw [HLEN.out]; omega) (by simp; omega) (wi.heap.size + 1) (by simp) ?_
                      intro gg cap1 w8 hown1 hgrow hat hlt1
                      obtain ⟨hO8, hB8, hH8, hk8, hg8, hn8⟩ := app_step2 (b2 := b2) HOi.out HHi.out hzi hNi HKi.out HWi.out hown1 hgrow hat
                      obtain ⟨t0, t1, t2, t3, t4⟩ := cells2 hH8
                      obtain ⟨e0, e1, e2, e3⟩ := HCE.out _ hk8
                      have HO8 := Hid.mk hO8
                      have HH8 := Hid.mk hH8
                      have HK8 := Hid.mk hk8
                      clear hO8 hH8 hown1 hgrow hat hk8
                      refine hK.out _ _ ?_ (fun hHeld => ?_)
                      · (try dsimp only)
                        first | (go_keep; done) | (go_split_ands; exact ⟨e0, e1, e2, e3⟩) | (go_split_ands; refine ⟨?_, ?_, ?_, ?_⟩ <;> (rw [World.cell?_setCell_far _ _ _ _ (by dsimp only; omega)]; assumption))
                      clear hK K
                      refine wpAnyH_take (i := 20) (v := ?_) rfl (by kernel_rfl) (by kernel_rfl) (by kernel_rfl) (fun _ _ _ h => h) (Or.inl ⟨by rfl, ?_⟩) (by assumption) ?_
                      rotate_left
                      · (intro w hSw; (try dsimp only at hSw); go_simp; (try with_reducible rfl))
                      refine wpAnyH_ready (rs := [21]) (by kernel_rfl) (by simp) ?_
                      refine AllReadyH.cons rfl (fun K hK => ?_) AllReadyH.nil
                      go_simp
                      refine hK.out _ _ ?_ (fun hHeld => ?_)
                      · (try dsimp only)
                        first | (go_keep; done) | (go_split_ands; exact ⟨e0, e1, e2, e3⟩) | (go_split_ands; refine ⟨?_, ?_, ?_, ?_⟩ <;> (rw [World.cell?_setCell_far _ _ _ _ (by dsimp only; omega)]; assumption))
                      clear hK K
                      refine wpAnyH_done (by kernel_rfl) ?_ _
                      go_wp2
                      refine ⟨⟨kk + 1, .slice (some ⟨gg, 0, none⟩) (zs.length + 1) cap1, hkk, by go_num, (HBi.out.trans (hB8.mono (Nat.le_refl _))).setCell (p := ⟨b2, 1, none⟩) (Nat.le_refl _) _, set1_heap HH8.out, ?_, fun b hb h1 h2 => (Below.heap_setCell _ _ _ _ h1).trans (HK8.out b hb h1 h2), fun b hb => ?_, by simpa using hn8⟩, by simp [intOf]; omega⟩
                      · rw [HRM.out, ← List.append_assoc, HZS.out]
                        exact HO8.out.setBelow (a := ⟨b2, 1, none⟩) (by simp) _
                      · simp only [Value.ownBlock, Option.some.injEq] at hb
                        subst hb
                        exact hg8
                    · skip
                      go_simp
                      refine hK.out _ _ ?_ (fun hHeld => ?_)
                      · (try dsimp only)
                        first | (go_keep; done) | (go_split_ands; exact ⟨e0, e1, e2, e3⟩) | (go_split_ands; refine ⟨?_, ?_, ?_, ?_⟩ <;> (rw [World.cell?_setCell_far _ _ _ _ (by dsimp only; omega)]; assumption))
                      clear hK K
                      refine wpAnyH_ready (rs := [1]) (by kernel_rfl) (by simp) ?_
                      refine AllReadyH.cons rfl (fun K hK => ?_) AllReadyH.nil
                      go_simp
                      refine hK.out _ _ ?_ (fun hHeld => ?_)
                      · (try dsimp only)
                        first | (go_keep; done) | (go_split_ands; exact ⟨e0, e1, e2, e3⟩) | (go_split_ands; refine ⟨?_, ?_, ?_, ?_⟩ <;> (rw [World.cell?_setCell_far _ _ _ _ (by dsimp only; omega)]; assumption))
                      clear hK K
                      refine wpAnyH_ready (rs := [19]) (by kernel_rfl) (by simp) ?_
                      refine AllReadyH.cons rfl (fun K hK => ?_) AllReadyH.nil
                      (try rw [hyk])
                      refine step_append_lies _ (by rfl) _ _ _ (by rfl) (b2 + 1) 89 i0 _ 2 16 Try.underlying41 hi iz0 iz1 iz2 rfl (by omega) _ zs.length (flat zs) (by rfl) ((HOi.out.alloc _).drew) ⟨wi.heap.size, 0, none⟩ 1 1 [.int .i64 tx, .int .i64 (ty + y)] (by rfl) (by rfl) (World.news_of_block (cs := #[.int .i64 tx, .int .i64 (ty + y)]) (t := 89) (fr := (0, 0)) (alloc_new _ _)) (by simp [Value.oneCell']) (by omega) (by rw [HLEN.out]; simp [maxLen]; omega) (by rw [HLEN.out]; omega) (by simp; omega) (wi.heap.size + 1) (by simp) ?_
                      intro gg cap1 w8 hown1 hgrow hat hlt1
                      obtain ⟨hO8, hB8, hH8, hk8, hg8, hn8⟩ := app_step2 (b2 := b2) HOi.out HHi.out hzi hNi HKi.out HWi.out hown1 hgrow hat
                      obtain ⟨t0, t1, t2, t3, t4⟩ := cells2 hH8
                      obtain ⟨e0, e1, e2, e3⟩ := HCE.out _ hk8
                      have HO8 := Hid.mk hO8
                      have HH8 := Hid.mk hH8
                      have HK8 := Hid.mk hk8
                      clear hO8 hH8 hown1 hgrow hat hk8
                      refine hK.out _ _ ?_ (fun hHeld => ?_)
                      · (try dsimp only)
                        first | (go_keep; done) | (go_split_ands; exact ⟨e0, e1, e2, e3⟩) | (go_split_ands; refine ⟨?_, ?_, ?_, ?_⟩ <;> (rw [World.cell?_setCell_far _ _ _ _ (by dsimp only; omega)]; assumption))
                      clear hK K
                      refine wpAnyH_take (i := 20) (v := ?_) rfl (by kernel_rfl) (by kernel_rfl) (by kernel_rfl) (fun _ _ _ h => h) (Or.inl ⟨by rfl, ?_⟩) (by assumption) ?_
                      rotate_left
                      · (intro w hSw; (try dsimp only at hSw); go_simp; (try with_reducible rfl))
                      refine wpAnyH_ready (rs := [21]) (by kernel_rfl) (by simp) ?_
                      refine AllReadyH.cons rfl (fun K hK => ?_) AllReadyH.nil
                      go_simp
                      refine hK.out _ _ ?_ (fun hHeld => ?_)
                      · (try dsimp only)
                        first | (go_keep; done) | (go_split_ands; exact ⟨e0, e1, e2, e3⟩) | (go_split_ands; refine ⟨?_, ?_, ?_, ?_⟩ <;> (rw [World.cell?_setCell_far _ _ _ _ (by dsimp only; omega)]; assumption))
                      clear hK K
                      refine wpAnyH_done (by kernel_rfl) ?_ _
                      go_wp2
                      refine ⟨⟨kk + 1, .slice (some ⟨gg, 0, none⟩) (zs.length + 1) cap1, hkk, by go_num, (HBi.out.trans (hB8.mono (Nat.le_refl _))).setCell (p := ⟨b2, 1, none⟩) (Nat.le_refl _) _, set1_heap HH8.out, ?_, fun b hb h1 h2 => (Below.heap_setCell _ _ _ _ h1).trans (HK8.out b hb h1 h2), fun b hb => ?_, by simpa using hn8⟩, by simp [intOf]; omega⟩
                      · rw [HRM.out, ← List.append_assoc, HZS.out]
                        exact HO8.out.setBelow (a := ⟨b2, 1, none⟩) (by simp) _
                      · simp only [Value.ownBlock, Option.some.injEq] at hb
                        subst hb
                        exact hg8
                  · have hkk' : kk = Tx.length := by omega
                    subst hkk'
                    rw [List.take_length] at HOi HRM0
                    go_wp2
                    refine ⟨⟨j + 1, .slice va (R2.length + Tx.length) vc, hlt, by go_num, HBi.out, by rw [HFT.out]; exact HHi.out, by rw [HFT.out]; exact HOi.out, ?_, ?_, ?_, ?_⟩, by simp [intOf]; omega⟩
                    · rw [HFT.out]; dsimp only; omega
                    · rw [HFT.out]; dsimp only; omega
                    · rw [HFT.out]; dsimp only; rw [HRM0.out]; omega
                    · intro p hp
                      obtain ⟨hj2, he⟩ := List.getElem?_eq_some_iff.1 hxy.out
                      rw [List.take_succ_eq_append_getElem hj2] at hp
                      rcases List.mem_append.1 hp with h | h
                      · exact HNEAR.out p h
                      · simp only [List.mem_singleton] at h; rw [h, he]; dsimp only; omega
          · have hj' : j = T.length := by omega
            subst hj'
            rw [List.take_length] at HHr HOr HNEAR hR0 hR1 hR2
            have HDD := Hid.mk (HDr.out HANY.out HNEAR.out)
            have HNN : Hid (∀ q ∈ (rFold ls m T).2, 0 ≤ q.1) := fun q hq => by
              rcases (rFold_mem T (m, []) q).1 hq with h | ⟨p, hp, h⟩
              · cases h
              · obtain ⟨t, ht, rfl⟩ := rmap_mem.1 h
                exact right_nonneg (arg_right HANY.out p) t (tidy_mem ht)
            generalize rFold ls m T = R at *
            obtain ⟨va, vc, hv, hS5, -⟩ := HOr.out.shape
            subst hv
            obtain ⟨o0, o1, o2, o3, o4⟩ := cells2 HHr.out
            have hfit := fits_any R.1 R.2 va vc w4 hS5 (by omega) HNN.out
            rw [HDD.out] at hfit
            have HF := Hid.mk hfit
            clear hfit hS5
            go_wp2_with fail
            refine HF.out.mono ?_
            rintro e w6 ⟨v6, rfl, hO6, hb6⟩
            obtain ⟨a6, c6, rfl, -, -⟩ := hO6.shape
            have hz6 := hb6.size
            obtain ⟨r0, r1, r2, r3, r4⟩ := cells2 ((hb6.block (w.heap.size + 1) (by omega)).trans HMr.out)
            go_wp2
            refine bodyPost_ret (v := .tuple #[.agg #[.int .i64 D.1, .slice a6 D.2.1.length c6], .int .i64 D.2.2]) (by simp [results, Try.results70, go_sem, r0, r1]) rfl ⟨_, rfl, ?_, ?_⟩
            · exact OR.mono ((hO6.setBelow (a := ⟨w.heap.size + 1, 0, none⟩) (by dsimp only; omega) _).setBelow (a := ⟨w.heap.size + 1, 1, none⟩) (by dsimp only; omega) _) (by omega)
            · exact ((HBW.out.trans (hb6.mono (by omega))).setCell (p := ⟨w.heap.size + 1, 0, none⟩) (Nat.le_succ _) _).setCell (p := ⟨w.heap.size + 1, 1, none⟩) (Nat.le_succ _) _
end Go.Proofs.Ytbgkeomlfdmkeaa
