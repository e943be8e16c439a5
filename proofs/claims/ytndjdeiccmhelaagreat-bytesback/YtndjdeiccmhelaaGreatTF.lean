/- How many parts a term has, how high it is; the contract of telamonref1.parts. -/
import Derived.Test.YtndjdeiccmhelaaGreatTD
namespace Go.Proofs.YtndjdeiccmhelaaGreat
open Go.RowKit Go.Sort

/-- how many parts -/
def sizeT : Tm → Nat
  | .mk _ _ _ _ _ ks => 1 + (ks.attach.map fun k => sizeT k.1).sum
termination_by t => SizeOf.sizeOf t
decreasing_by
  have := List.sizeOf_lt_of_mem k.2
  simp only [Tm.mk.sizeOf_spec]; omega

/-- how high -/
def heightT : Tm → Nat
  | .mk _ _ _ _ _ ks => 1 + (ks.attach.map fun k => heightT k.1).foldl max 0
termination_by t => SizeOf.sizeOf t
decreasing_by
  have := List.sizeOf_lt_of_mem k.2
  simp only [Tm.mk.sizeOf_spec]; omega

theorem sizeT_mk (f n : Int) (hd : Bool) (nm : ByteArray) (ls : List LvT) (ks : List Tm) : sizeT (.mk f n hd nm ls ks) = 1 + (ks.map sizeT).sum := by
  rw [sizeT, List.attach_map_val (f := sizeT)]

theorem heightT_mk (f n : Int) (hd : Bool) (nm : ByteArray) (ls : List LvT) (ks : List Tm) : heightT (.mk f n hd nm ls ks) = 1 + (ks.map heightT).foldl max 0 := by
  rw [heightT, List.attach_map_val (f := heightT)]

theorem take_sum {ks : List Tm} {j : Nat} {k : Tm} (h : ks[j]? = some k) : ((ks.take (j + 1)).map sizeT).sum = ((ks.take j).map sizeT).sum + sizeT k := by
  obtain ⟨hj, rfl⟩ := List.getElem?_eq_some_iff.1 h
  rw [List.take_succ_eq_append_getElem hj, List.map_append, List.sum_append]; simp

theorem take_high {ks : List Tm} {j : Nat} {k : Tm} (h : ks[j]? = some k) : ((ks.take (j + 1)).map heightT).foldl max 0 = max (((ks.take j).map heightT).foldl max 0) (heightT k) := by
  obtain ⟨hj, rfl⟩ := List.getElem?_eq_some_iff.1 h
  rw [List.take_succ_eq_append_getElem hj, List.map_append, List.foldl_append]; simp

theorem sum_take_le (ks : List Tm) (j : Nat) : ((ks.take j).map sizeT).sum ≤ (ks.map sizeT).sum := by
  conv => rhs; rw [← List.take_append_drop j ks]
  rw [List.map_append, List.sum_append]; omega

theorem foldl_max_ge (l : List Nat) (m : Nat) : m ≤ l.foldl max m := by
  induction l generalizing m with
  | nil => exact Nat.le_refl _
  | cons a r ih => exact Nat.le_trans (Nat.le_max_left m a) (ih (max m a))

theorem high_take_le (ks : List Tm) (j : Nat) : ((ks.take j).map heightT).foldl max 0 ≤ (ks.map heightT).foldl max 0 := by
  conv => rhs; rw [← List.take_append_drop j ks]
  rw [List.map_append, List.foldl_append]
  exact foldl_max_ge _ _

/-- what parts answers -/
def partsR (t : Tm) (left high : Int) : Int × Int := if (sizeT t : Int) ≤ left ∧ (heightT t : Int) ≤ high then (sizeT t, heightT t) else (1073741824, 1073741824)

set_option maxRecDepth 100000 in
set_option maxHeartbeats 4000000 in
theorem parts_any (t : Tm) : ∀ (left high : Int) (v : Value) (w : World), left ≤ 20000 → high ≤ 500 → TV w v t → Calls Tryz.prog 98 #[v, .int .i64 left, .int .i64 high] w fun e w' => e = .returned (.tuple #[.int .i64 (partsR t left high).1, .int .i64 (partsR t left high).2]) ∧ Grew w w' := by
  refine Tm.ind (P := fun t => ∀ (left high : Int) (v : Value) (w : World), left ≤ 20000 → high ≤ 500 → TV w v t → Calls Tryz.prog 98 #[v, .int .i64 left, .int .i64 high] w fun e w' => e = .returned (.tuple #[.int .i64 (partsR t left high).1, .int .i64 (partsR t left high).2]) ∧ Grew w w') ?_ t
  intro f n hd nm ls ks ih left high v w hle hhi hv
  cases hv with
  | @mk _ _ _ _ _ _ la lc ka kc kb ko hl hln hlc hlm hkn hkc hkm hk kids =>
    have HS : Hid (sizeT (.mk f n hd nm ls ks) = 1 + (ks.map sizeT).sum) := sizeT_mk f n hd nm ls ks
    have HH : Hid (heightT (.mk f n hd nm ls ks) = 1 + (ks.map heightT).foldl max 0) := heightT_mk f n hd nm ls ks
    have HP : Hid (partsR (.mk f n hd nm ls ks) left high = if (((1 + (ks.map sizeT).sum : Nat) : Int) ≤ left ∧ ((1 + (ks.map heightT).foldl max 0 : Nat) : Int) ≤ high) then ((((1 + (ks.map sizeT).sum : Nat) : Int), ((1 + (ks.map heightT).foldl max 0 : Nat) : Int)) : Int × Int) else (1073741824, 1073741824)) := by
      unfold Hid partsR; rw [HS.out, HH.out]
    generalize partsR (.mk f n hd nm ls ks) left high = R at HP ⊢
    have HK := Hid.mk hk
    have HKIDS := Hid.mk kids
    have HIH := Hid.mk ih
    clear hk kids ih hl HS HH
    obtain ⟨W0, hW0⟩ : ∃ W0, w.alloc (.cells #[.int .i64 f, .int .i64 n, .bool hd, .string nm, .slice la ls.length lc, .slice ka ks.length kc] 38) = W0 := ⟨_, rfl⟩
    have HG0 : Hid (Grew w W0) := by unfold Hid; rw [← hW0]; exact (Grew.refl w).alloc _
    have HX0 : Hid (W0.heap[w.heap.size]? = some (.cells #[.int .i64 f, .int .i64 n, .bool hd, .string nm, .slice la ls.length lc, .slice ka ks.length kc] 38 (0, 0))) := by unfold Hid; rw [← hW0]; exact alloc_new _ _
    have HW0 := Hid.mk hW0
    clear hW0
    rcases (show left < 1 ∨ (1 ≤ left ∧ high < 1) ∨ (1 ≤ left ∧ 1 ≤ high) by omega) with h1 | ⟨h1, h2⟩ | ⟨h1, h2⟩
    · have HR : Hid (R = (1073741824, 1073741824)) := by unfold Hid; rw [HP.out, if_neg (by omega)]
      clear HP
      go_enter Tryz.func98, Tryz.ntmps98
      go_wp2
      go_ret2
      exact ⟨by rw [HR.out]; rfl, by have := HG0.out; rwa [← HW0.out] at this⟩
    · have HR : Hid (R = (1073741824, 1073741824)) := by unfold Hid; rw [HP.out, if_neg (by omega)]
      clear HP
      go_enter Tryz.func98, Tryz.ntmps98
      go_wp2
      go_ret2
      exact ⟨by rw [HR.out]; rfl, by have := HG0.out; rwa [← HW0.out] at this⟩
    · go_enter Tryz.func98, Tryz.ntmps98
      go_wp2
      rw [HW0.out]
      go_loopw [8, 9, 10] (fun vn vh i wr => ∃ j : Nat, j ≤ ks.length ∧ i = .int .i64 j ∧ vn = .int .i64 ((1 + ((ks.take j).map sizeT).sum : Nat) : Int) ∧ vh = .int .i64 ((((ks.take j).map heightT).foldl max 0 : Nat) : Int) ∧ ((1 + ((ks.take j).map sizeT).sum : Nat) : Int) ≤ left ∧ ((((ks.take j).map heightT).foldl max 0 : Nat) : Int) < high ∧ Grew W0 wr) (fun _ _ i _ => ks.length - (intOf i).toNat)
      case atStart => exact ⟨0, Nat.zero_le _, rfl, rfl, rfl, by simpa using h1, by simp; omega, Grew.refl _⟩
      case round =>
        obtain ⟨j, hj, rfl, rfl, rfl, hn1, hh1, hg⟩ := hrel
        have HG := Hid.mk hg
        clear hg
        obtain ⟨x0, x1, x2, x3, x4, x5, x6⟩ := cells6 ((HG.out.below.block w.heap.size (Array.getElem?_eq_some_iff.1 HX0.out).1).trans HX0.out)
        by_cases hlt : j < ks.length
        · obtain ⟨rfl, hkb⟩ := HK.out (by intro e; rw [e] at hlt; simp at hlt)
          have hkt : ks[j]? = some ks[j] := by simp [hlt]
          have htc := ((HKIDS.out j _ hkt).on (HG0.out.trans HG.out).below)
          obtain ⟨v0, v1, v2, v3, v4, v5, c0, c1, c2, c3, c4, c5, hv⟩ := htc.val
          have HTS := Hid.mk (take_sum hkt)
          have HTH := Hid.mk (take_high hkt)
          have HLS := Hid.mk (sum_take_le ks (j + 1))
          have HLH := Hid.mk (high_take_le ks (j + 1))
          obtain ⟨s, hs⟩ : ∃ s, ((ks.take j).map sizeT).sum = s := ⟨_, rfl⟩
          obtain ⟨m, hm⟩ : ∃ m, ((ks.take j).map heightT).foldl max 0 = m := ⟨_, rfl⟩
          rw [hs] at hn1 HTS ⊢
          rw [hm] at hh1 HTH ⊢
          clear hs hm
          have HCALL := HIH.out ks[j] (List.getElem_mem hlt) (left - ((1 + s : Nat) : Int)) (high - 1) _ wr (by omega) (by omega) hv
          have zj : (j : Int) < (ks.length : Int) := by omega
          obtain ⟨k, hk⟩ : ∃ k, ks[j] = k := ⟨_, rfl⟩
          rw [hk] at HTS HTH HCALL
          clear hk hkt htc hv
          have HPK : Hid (partsR k (left - ((1 + s : Nat) : Int)) (high - 1) = if (sizeT k : Int) ≤ left - ((1 + s : Nat) : Int) ∧ (heightT k : Int) ≤ high - 1 then ((sizeT k : Int), (heightT k : Int)) else (1073741824, 1073741824)) := rfl
          generalize sizeT k = sk at *
          generalize heightT k = hk at *
          by_cases hc : (sk : Int) ≤ left - ((1 + s : Nat) : Int) ∧ (hk : Int) ≤ high - 1
          · have e := HPK.out
            rw [if_pos hc] at e
            rw [e] at HCALL
            obtain ⟨hc1, hc2⟩ := hc
            clear HPK e
            by_cases hmk : m < hk
            all_goals
              go_wp2_with fail
              refine HCALL.mono ?_
              rintro e w5 ⟨rfl, hg5⟩
              go_wp2
              refine ⟨⟨j + 1, hlt, by go_num, ?_, ?_, ?_, ?_, HG.out.trans hg5⟩, by simp [intOf]; omega⟩
              · rw [HTS.out]; exact congrArg (Value.int .i64) (by omega)
              · rw [HTH.out]; exact congrArg (Value.int .i64) (by omega)
              · rw [HTS.out]; omega
              · rw [HTH.out]; omega
          · have e := HPK.out
            rw [if_neg hc] at e
            rw [e] at HCALL
            have HR : Hid (R = (1073741824, 1073741824)) := by
              unfold Hid
              have h1' := HTS.out
              have h2' := HTH.out
              have h3' := HLS.out
              have h4' := HLH.out
              rw [HP.out, if_neg (by omega)]
            clear HPK e hc
            obtain ⟨B, hB, hB0, hB1⟩ : ∃ B : Int, (1073741824 : Int) = B ∧ 1000000 ≤ B ∧ B ≤ 2000000000 := ⟨_, rfl, by decide, by decide⟩
            simp only [hB] at HCALL
            clear hB
            go_wp2_with fail
            refine HCALL.mono ?_
            rintro e w5 ⟨rfl, hg5⟩
            go_wp2
            go_ret2
            exact ⟨by rw [HR.out]; rfl, (HG0.out.trans HG.out).trans hg5⟩
        · have hjk : ks.take j = ks := List.take_of_length_le (by omega)
          rw [hjk] at hn1 hh1 ⊢
          have HR : Hid (R = (((1 + (ks.map sizeT).sum : Nat) : Int), ((1 + (ks.map heightT).foldl max 0 : Nat) : Int))) := by
            unfold Hid
            rw [HP.out, if_pos ⟨hn1, by omega⟩]
          obtain ⟨s, hs⟩ : ∃ s, (ks.map sizeT).sum = s := ⟨_, rfl⟩
          obtain ⟨m, hm⟩ : ∃ m, (ks.map heightT).foldl max 0 = m := ⟨_, rfl⟩
          rw [hs, hm] at HR
          rw [hs] at hn1 ⊢
          rw [hm] at hh1 ⊢
          clear hs hm hjk HP
          go_wp2
          go_ret2
          refine ⟨?_, HG0.out.trans HG.out⟩
          rw [HR.out]
          exact congrArg (fun z => Ending.returned (Value.tuple #[.int .i64 ((1 + s : Nat) : Int), .int .i64 z])) (by omega)
end Go.Proofs.YtndjdeiccmhelaaGreat

/- The contracts of telamonref1.Binds, telamonref1.kids and telamonref1.free. -/
namespace Go.Proofs.YtndjdeiccmhelaaGreat
open Go.RowKit Go.Sort

/-- does a form bind a variable in its second kid? -/
def bindsB (f : Int) : Bool := f == 3 || f == 4 || f == 6

set_option maxHeartbeats 800000 in
theorem Binds_any (f : Int) (w : World) : Calls Tryz.prog 129 #[.int .i64 f] w fun e w' => e = .returned (.bool (bindsB f)) ∧ w' = w := by
  rcases (show f = 3 ∨ f = 4 ∨ f = 6 ∨ (f ≠ 3 ∧ f ≠ 4 ∧ f ≠ 6) by omega) with h | h | h | ⟨h1, h2, h3⟩
  · subst h
    go_enter Tryz.func129, Tryz.ntmps129
    go_wp2
    go_ret
    exact ⟨rfl, rfl⟩
  · subst h
    go_enter Tryz.func129, Tryz.ntmps129
    go_wp2
    go_ret
    exact ⟨rfl, rfl⟩
  · subst h
    go_enter Tryz.func129, Tryz.ntmps129
    go_wp2
    go_ret
    exact ⟨rfl, rfl⟩
  · have e1 : (f == 3) = false := by simp [h1]
    have e2 : (f == 4) = false := by simp [h2]
    have e3 : (f == 6) = false := by simp [h3]
    have HE : Hid (bindsB f = false) := by unfold Hid bindsB; rw [e1, e2, e3]; rfl
    clear h1 h2 h3
    go_enter Tryz.func129, Tryz.ntmps129
    go_wp2
    go_ret
    exact ⟨by rw [HE.out]; rfl, rfl⟩

/-- how many kids a form has; -1: it is none -/
def kidsR (f : Int) : Int := if f = 1 ∨ f = 2 ∨ f = 10 ∨ f = 11 then 0 else if f = 8 ∨ f = 9 then 1 else if f = 3 ∨ f = 4 ∨ f = 5 ∨ f = 6 then 2 else if f = 7 then 3 else -1

set_option maxHeartbeats 2000000 in
theorem kids_any (f : Int) (w : World) : Calls Tryz.prog 72 #[.int .i64 f] w fun e w' => e = .returned (.int .i64 (kidsR f)) ∧ w' = w := by
  by_cases hin : 1 ≤ f ∧ f ≤ 11
  · obtain ⟨k, rfl⟩ := Int.eq_ofNat_of_zero_le (show 0 ≤ f by omega)
    have hk : k = 1 ∨ k = 2 ∨ k = 3 ∨ k = 4 ∨ k = 5 ∨ k = 6 ∨ k = 7 ∨ k = 8 ∨ k = 9 ∨ k = 10 ∨ k = 11 := by omega
    clear hin
    rcases hk with rfl | rfl | rfl | rfl | rfl | rfl | rfl | rfl | rfl | rfl | rfl
    all_goals
      go_enter Tryz.func72, Tryz.ntmps72
      go_wp2
      go_ret
      exact ⟨rfl, rfl⟩
  · have HE : Hid (kidsR f = -1) := by unfold Hid kidsR; rw [if_neg (by omega), if_neg (by omega), if_neg (by omega), if_neg (by omega)]
    have e : ∀ k : Int, 1 ≤ k → k ≤ 11 → (f == k) = false := fun k h1 h2 => by simp; omega
    have e1 := e 1 (by decide) (by decide)
    have e2 := e 2 (by decide) (by decide)
    have e3 := e 3 (by decide) (by decide)
    have e4 := e 4 (by decide) (by decide)
    have e5 := e 5 (by decide) (by decide)
    have e6 := e 6 (by decide) (by decide)
    have e7 := e 7 (by decide) (by decide)
    have e8 := e 8 (by decide) (by decide)
    have e9 := e 9 (by decide) (by decide)
    have e10 := e 10 (by decide) (by decide)
    have e11 := e 11 (by decide) (by decide)
    clear e hin
    go_enter Tryz.func72, Tryz.ntmps72
    go_wp2
    go_ret
    exact ⟨by rw [HE.out]; rfl, rfl⟩
end Go.Proofs.YtndjdeiccmhelaaGreat
