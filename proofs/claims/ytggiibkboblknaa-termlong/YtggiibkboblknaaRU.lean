/- The contracts of the reference's Check, Size, Free, Has. -/
import Derived.Test.YtggiibkboblknaaRT
namespace Go.Proofs.Ytggiibkboblknaa
open Go.RowKit Go.Sort

set_option maxRecDepth 100000 in
set_option maxHeartbeats 2000000 in
theorem rCheck_any (t : Tm) (v : Value) (w : World) (hv : TV w v t) (hsm : smT 1000000 t) : Calls Try.prog 15 #[v] w fun e w' => e = .returned (.int .i64 (checkT t)) ∧ RowKit.Below w.heap.size w w' := by
  have HC : Hid (checkT t = if sizeT t ≤ 20000 ∧ heightT t ≤ 500 then (if formedB t then 0 else 10) else 2) := rfl
  have HP := fun (W : World) (h : RowKit.Below w.heap.size w W) => parts_any t 20000 500 v W (by decide) (by decide) (hv.on h)
  have HF := fun (W : World) (h : RowKit.Below w.heap.size w W) => formed_any t v W hsm (hv.on h)
  have HPR : Hid (partsR t 20000 500 = if (sizeT t : Int) ≤ 20000 ∧ (heightT t : Int) ≤ 500 then ((sizeT t : Int), (heightT t : Int)) else (1073741824, 1073741824)) := rfl
  generalize partsR t 20000 500 = P at HP HPR
  generalize checkT t = R at HC ⊢
  obtain ⟨la, lc, ka, kc, rfl⟩ := hv.shape
  clear hv hsm
  generalize formedB t = F at *
  generalize sizeT t = S at *
  generalize heightT t = H at *
  generalize t.form = f at *
  generalize t.n = n at *
  generalize t.hid = hd at *
  generalize t.name = nm at *
  generalize t.levels.length = l1 at *
  generalize t.kids.length = k1 at *
  have HG := fun (a : Obj) => (Below.refl w.heap.size w).alloc (Nat.le_refl _) a
  by_cases hc : S ≤ 20000 ∧ H ≤ 500
  · have hP : P = ((S : Int), (H : Int)) := by rw [HPR.out, if_pos (by omega)]
    subst hP
    have HC2 : Hid (R = if F then 0 else 10) := by unfold Hid; rw [HC.out, if_pos hc]
    obtain ⟨hc1, hc2⟩ := hc
    have g1 : ¬ (S : Int) > 20000 := by omega
    have g2 : ¬ (H : Int) > 500 := by omega
    clear HC HPR
    go_enter Try.func15, Try.ntmps15
    go_wp2_with fail
    refine (HP _ (HG _)).mono ?_
    rintro e w1 ⟨rfl, hg1⟩
    have hb1 := hg1.below
    obtain ⟨x0, x1, x2, x3, x4, x5, x6⟩ := cells6 ((hb1.block w.heap.size (by simp)).trans (alloc_new _ _))
    have HB1 : Hid (RowKit.Below w.heap.size w w1) := (HG _).trans (hb1.mono (by simp))
    clear hg1 hb1
    go_wp2_with fail
    refine (HF _ HB1.out).mono ?_
    rintro e w2 ⟨rfl, hb2⟩
    cases F
    all_goals
      go_wp2
      go_ret
      exact ⟨by rw [HC2.out]; rfl, HB1.out.trans (hb2.mono HB1.out.size)⟩
  · have hP : P = (1073741824, 1073741824) := by rw [HPR.out, if_neg (by omega)]
    subst hP
    have HC2 : Hid (R = 2) := by unfold Hid; rw [HC.out, if_neg hc]
    clear HC HPR hc
    go_enter Try.func15, Try.ntmps15
    go_wp2_with fail
    refine (HP _ (HG _)).mono ?_
    rintro e w1 ⟨rfl, hg1⟩
    go_wp2
    go_ret
    exact ⟨by rw [HC2.out]; rfl, (HG _).trans (hg1.below.mono (by simp))⟩

set_option maxRecDepth 100000 in
set_option maxHeartbeats 2000000 in
theorem rSize_any (t : Tm) (v : Value) (w : World) (hv : TV w v t) (hsm : smT 1000000 t) : Calls Try.prog 17 #[v] w fun e w' => e = .returned (.int .i64 (tsizeR t)) ∧ RowKit.Below w.heap.size w w' := by
  have HR : Hid (tsizeR t = if checkT t = 0 then (sizeT t : Int) else 0) := rfl
  have HCH := fun (W : World) (h : RowKit.Below w.heap.size w W) => rCheck_any t v W (hv.on h) hsm
  have HP := fun (W : World) (h : RowKit.Below w.heap.size w W) => parts_any t 20000 500 v W (by decide) (by decide) (hv.on h)
  have HPR : Hid (partsR t 20000 500 = if (sizeT t : Int) ≤ 20000 ∧ (heightT t : Int) ≤ 500 then ((sizeT t : Int), (heightT t : Int)) else (1073741824, 1073741824)) := rfl
  have HB := fun (h : checkT t = 0) => check_ok h
  generalize partsR t 20000 500 = P at HP HPR
  generalize tsizeR t = R at HR ⊢
  obtain ⟨la, lc, ka, kc, rfl⟩ := hv.shape
  clear hv hsm
  generalize checkT t = C at *
  generalize sizeT t = S at *
  generalize heightT t = H at *
  generalize t.form = f at *
  generalize t.n = n at *
  generalize t.hid = hd at *
  generalize t.name = nm at *
  generalize t.levels.length = l1 at *
  generalize t.kids.length = k1 at *
  have HG := fun (a : Obj) => (Below.refl w.heap.size w).alloc (Nat.le_refl _) a
  by_cases hc : C = 0
  · subst hc
    obtain ⟨h1, h2, -⟩ := HB rfl
    have hP : P = ((S : Int), (H : Int)) := by rw [HPR.out, if_pos (by omega)]
    subst hP
    have HR2 : Hid (R = S) := by unfold Hid; rw [HR.out, if_pos rfl]
    clear HB HR HPR
    go_enter Try.func17, Try.ntmps17
    go_wp2_with fail
    refine (HCH _ (HG _)).mono ?_
    rintro e w1 ⟨rfl, hb1⟩
    have HB1 : Hid (RowKit.Below w.heap.size w w1) := (HG _).trans (hb1.mono (by simp))
    obtain ⟨x0, x1, x2, x3, x4, x5, x6⟩ := cells6 ((hb1.block w.heap.size (by simp)).trans (alloc_new _ _))
    clear hb1
    go_wp2_with fail
    refine (HP _ HB1.out).mono ?_
    rintro e w2 ⟨rfl, hg2⟩
    go_wp2
    go_ret
    exact ⟨by rw [HR2.out]; rfl, HB1.out.trans (hg2.below.mono HB1.out.size)⟩
  · have hcb : (C != 0) = true := by simpa using hc
    have HR2 : Hid (R = 0) := by unfold Hid; rw [HR.out, if_neg hc]
    clear hc HR HB
    go_enter Try.func17, Try.ntmps17
    go_wp2_with fail
    refine (HCH _ (HG _)).mono ?_
    rintro e w1 ⟨rfl, hb1⟩
    go_wp2
    go_ret
    exact ⟨by rw [HR2.out]; rfl, (HG _).trans (hb1.mono (by simp))⟩
end Go.Proofs.Ytggiibkboblknaa
