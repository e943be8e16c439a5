/- For every n and either bool: TermLong answers true, and leaves its arguments as they were; no condition. -/
import Derived.Test.YtbgkeomlfdmkeaaRows
import Derived.Test.YtbgkeomlfdmkeaaTX
import Derived.ProofKit
import Derived.OpenShut
import Derived.Below
namespace Go.Proofs.Ytbgkeomlfdmkeaa
namespace termLong
open Go.ChangeShapes Go.WideShapes Go.ChangeAt Go.RowKit Go.Sort

set_option maxRecDepth 100000 in
set_option maxHeartbeats 4000000 in
theorem walk_high (m : Nat) (w : World) (h1 : 1 ≤ m) (h2 : m ≤ 600) : Calls Try.prog 8 #[.int .i64 (m : Int), .bool true] w fun e w' => e = .returned (.bool true) ∧ RowKit.Below w.heap.size w w' := by
  have g1 : ¬ (m : Int) < 1 := by omega
  have g2 : ¬ (m : Int) > 20010 := by omega
  have g3 : ¬ (m : Int) > 600 := by omega
  go_enter Try.func8, Try.ntmps8
  go_wp2_with fail
  refine (alive2_any w).mono ?_
  rintro e w1 ⟨rfl, hb1⟩
  go_wp2_with fail
  refine (Set_any 0 _).mono ?_
  rintro e w2 ⟨vs, rfl, hts, hb2⟩
  have HBW2 : Hid (RowKit.Below w.heap.size w w2) := hb1.trans (hb2.mono hb1.size)
  obtain ⟨s0, s1, s2, s3, s4, s5, s6, s7, s8, s9, rfl⟩ := hts.shapeT
  have HTS := Hid.mk hts
  clear hts hb1 hb2
  go_wp2
  obtain ⟨W2, hW2⟩ : ∃ W, w2.alloc (.cells #[.int .i64 s0, .int .i64 s1, .bool s2, .string s3, .slice s4 s5 s6, .slice s7 s8 s9] 25) = W := ⟨_, rfl⟩
  have HX2 : Hid (W2.heap[w2.heap.size]? = some (.cells #[.int .i64 s0, .int .i64 s1, .bool s2, .string s3, .slice s4 s5 s6, .slice s7 s8 s9] 25 (0, 0))) := by unfold Hid; rw [← hW2]; exact alloc_new _ _
  have HT2 : Hid (TV (mask w2.heap.size W2) (.agg #[.int .i64 s0, .int .i64 s1, .bool s2, .string s3, .slice s4 s5 s6, .slice s7 s8 s9]) (fstN 0)) := by unfold Hid; rw [← hW2]; exact TV.fresh HTS.out ((Below.refl _ _).alloc (Nat.le_refl _) _) (Nat.le_refl _)
  have HBW : Hid (RowKit.Below w.heap.size w W2) := by unfold Hid; rw [← hW2]; exact HBW2.out.alloc HBW2.out.size _
  have hxw := HBW2.out.size
  rw [hW2]
  clear hW2 HTS
  go_loopw [7] (fun i wr => ∃ (j : Nat) (o0 o1 : Int) (o2 : Bool) (o3 : ByteArray) (o4 : Option Addr) (o5 o6 : Nat) (o7 : Option Addr) (o8 o9 : Nat), 1 ≤ j ∧ j ≤ m ∧ i = .int .i64 j ∧ wr.heap[w2.heap.size]? = some (.cells #[.int .i64 o0, .int .i64 o1, .bool o2, .string o3, .slice o4 o5 o6, .slice o7 o8 o9] 25 (0, 0)) ∧ TV (mask w2.heap.size wr) (.agg #[.int .i64 o0, .int .i64 o1, .bool o2, .string o3, .slice o4 o5 o6, .slice o7 o8 o9]) (fstN (j - 1)) ∧ RowKit.Below w.heap.size w wr) (fun i _ => m - (intOf i).toNat)
  case atStart => exact ⟨1, s0, s1, s2, s3, s4, s5, s6, s7, s8, s9, Nat.le_refl _, h1, rfl, HX2.out, HT2.out, HBW.out⟩
  case round =>
    obtain ⟨j, o0, o1, o2, o3, o4, o5, o6, o7, o8, o9, hj1, hj, rfl, hx, ht, hb⟩ := hrel
    have HX := Hid.mk hx
    have HT := Hid.mk ht
    have HB := Hid.mk hb
    have fx := frz hx
    obtain ⟨x0, x1, x2, x3, x4, x5, x6⟩ := cells6 hx
    clear hx ht hb
    by_cases hlt : j < m
    · have zj : (j : Int) < (m : Int) := by omega
      go_wp2
      have KX := keep6 (P := fun k => k = w2.heap.size) (w := wr) (b := w2.heap.size) (a0 := .int .i64 8) (a1 := .int .i64 0) (a2 := .bool false) (a3 := .string { data := #[] }) (a4 := .slice none 0 0) (a5 := .slice (some ⟨wr.heap.size, 0, none⟩) 1 1) rfl
      have KA := KX.alloc (.cells #[.int .i64 o0, .int .i64 o1, .bool o2, .string o3, .slice o4 o5 o6, .slice o7 o8 o9] 25)
      refine ⟨⟨j + 1, 8, 0, false, { data := #[] }, none, 0, 0, some ⟨wr.heap.size, 0, none⟩, 1, 1, by omega, hlt, by go_num, ?_, ?_, ?_⟩, by simp [intOf]; omega⟩
      · exact alloc_old (set6 HX.out) _
      · have hT := TV.keep HT.out KA x6
        have hN : (mask w2.heap.size (((((((wr.setCell ⟨w2.heap.size, 0, none⟩ (.int .i64 8)).setCell ⟨w2.heap.size, 1, none⟩ (.int .i64 0)).setCell ⟨w2.heap.size, 2, none⟩ (.bool false)).setCell ⟨w2.heap.size, 3, none⟩ (.string { data := #[] })).setCell ⟨w2.heap.size, 4, none⟩ (.slice none 0 0)).setCell ⟨w2.heap.size, 5, none⟩ (.slice (some ⟨wr.heap.size, 0, none⟩) 1 1)).alloc (.cells #[.int .i64 o0, .int .i64 o1, .bool o2, .string o3, .slice o4 o5 o6, .slice o7 o8 o9] 25))).heap[wr.heap.size]? = some (.cells #[.int .i64 o0, .int .i64 o1, .bool o2, .string o3, .slice o4 o5 o6, .slice o7 o8 o9] 25 (0, 0)) := by
          rw [mask_ne _ (by omega)]
          have := alloc_new ((((((wr.setCell ⟨w2.heap.size, 0, none⟩ (.int .i64 8)).setCell ⟨w2.heap.size, 1, none⟩ (.int .i64 0)).setCell ⟨w2.heap.size, 2, none⟩ (.bool false)).setCell ⟨w2.heap.size, 3, none⟩ (.string { data := #[] })).setCell ⟨w2.heap.size, 4, none⟩ (.slice none 0 0)).setCell ⟨w2.heap.size, 5, none⟩ (.slice (some ⟨wr.heap.size, 0, none⟩) 1 1)) (.cells #[.int .i64 o0, .int .i64 o1, .bool o2, .string o3, .slice o4 o5 o6, .slice o7 o8 o9] 25)
          rwa [size6] at this
        have hr := TV.one (f := 8) hT hN
        rw [show j + 1 - 1 = (j - 1) + 1 by omega, fstN]
        exact hr
      · exact HB.out.trans (KA.below HB.out.size (fun k hk => by rw [hk]; exact hxw))
    · obtain rfl : j = m := by omega
      have hck := fstN_check (j - 1) (by omega)
      have hv := TV.unmask HT.out
      have HCH := Check_any (fstN (j - 1)) _ wr hv (fstN_sm _)
      rw [hck, show j - 1 + 1 = j by omega] at HCH
      clear hck hv
      by_cases h500 : j ≤ 500
      · rw [if_pos h500] at HCH
        have z5 : (j : Int) ≤ 500 := by omega
        go_wp2_with fail
        refine HCH.mono ?_
        rintro e w5 ⟨rfl, hb5⟩
        go_wp2_with (go_at_call 14; refine (num2_any _ _).mono ?_; rintro e w' ⟨rfl, rfl⟩)
        go_ret
        exact ⟨rfl, HB.out.trans (hb5.mono HB.out.size)⟩
      · rw [if_neg h500] at HCH
        have z5 : ¬ (j : Int) ≤ 500 := by omega
        go_wp2_with fail
        refine HCH.mono ?_
        rintro e w5 ⟨rfl, hb5⟩
        go_wp2_with (go_at_call 14; refine (num2_any _ _).mono ?_; rintro e w' ⟨rfl, rfl⟩)
        go_ret
        exact ⟨congrArg (fun x => Ending.returned (.bool x)) (show (!decide ((j : Int) ≤ 500)) = true by simp; omega), HB.out.trans (hb5.mono HB.out.size)⟩

set_option maxRecDepth 100000 in
set_option maxHeartbeats 1000000 in
theorem Set_row (n : Int) (w : World) : Calls Try.prog 31 #[.int .i64 n] w fun e w' => ∃ b, e = .returned (.agg #[.int .i64 2, .int .i64 0, .bool false, .string { data := #[] }, .slice (some ⟨b, 0, none⟩) 1 1, .slice none 0 0]) ∧ w'.heap[b]? = some (.cells #[.int .i64 n, .slice none 0 0] 43 (0, 0)) ∧ w.heap.size ≤ b ∧ RowKit.Below w.heap.size w w' := by
  go_enter Try.func31, Try.ntmps31
  go_wp2
  refine bodyPost_ret (v := .agg #[.int .i64 2, .int .i64 0, .bool false, .string { data := #[] }, .slice (some ⟨w.heap.size + 1, 0, none⟩) 1 1, .slice none 0 0]) (by simp [results, Try.results31, go_sem]) rfl ⟨_, rfl, box_at1, by omega, ?_⟩
  exact ((Below.refl w.heap.size w).alloc (Nat.le_refl _) _).alloc (by simp) _

theorem TV.setOf {w : World} {b : Nat} {n : Int} (hb : w.heap[b]? = some (.cells #[.int .i64 n, .slice none 0 0] 43 (0, 0))) : TV w (.agg #[.int .i64 2, .int .i64 0, .bool false, .string { data := #[] }, .slice (some ⟨b, 0, none⟩) 1 1, .slice none 0 0]) (tSet n) := by
  refine TV.mk (kb := 0) (ko := 0) (ls := [(n, [])]) (ks := []) (Or.inr ⟨b, 0, rfl, heap_lt hb, fun i m xs hi => ?_⟩) (fun e => by cases e) (Nat.le_refl _) (by simp) (fun _ => rfl) (Nat.le_refl _) (by omega) (fun h => absurd rfl h) (fun i t hi => by simp at hi)
  match i with
  | 0 =>
    simp at hi
    obtain ⟨rfl, rfl⟩ := hi
    obtain ⟨c0, c1, -⟩ := cells2 hb
    exact ⟨c0, none, 0, c1, Or.inl rfl, fun _ => rfl⟩
  | i + 1 => simp at hi

theorem mask_kept {X : Nat} {P : Nat → Prop} {a b : World} (h : Kept P a b) (hX : X < a.heap.size) : Kept P (mask X a) (mask X b) :=
  ⟨h.os, h.tape, h.output, by rw [mask_size, mask_size]; exact h.size, fun k hk hp => by
    rw [mask_size] at hk
    by_cases e : k = X
    · subst e; rw [mask_eq a hX, mask_eq b (Nat.lt_of_lt_of_le hX h.size)]
    · rw [mask_ne a e, mask_ne b e]; exact h.block k hk hp⟩

set_option maxRecDepth 100000 in
set_option maxHeartbeats 8000000 in
theorem walk_wide (m : Nat) (w : World) (h1 : 1 ≤ m) (h2 : m ≤ 20010) : Calls Try.prog 8 #[.int .i64 (m : Int), .bool false] w fun e w' => e = .returned (.bool true) ∧ RowKit.Below w.heap.size w w' := by
  have g1 : ¬ (m : Int) < 1 := by omega
  have g2 : ¬ (m : Int) > 20010 := by omega
  go_enter Try.func8, Try.ntmps8
  go_wp2_with fail
  refine (alive2_any w).mono ?_
  rintro e w1 ⟨rfl, hb1⟩
  go_wp2_with fail
  refine (Set_any 0 _).mono ?_
  rintro e w2 ⟨vs, rfl, hts, hb2⟩
  have HBW2 : Hid (RowKit.Below w.heap.size w w2) := hb1.trans (hb2.mono hb1.size)
  obtain ⟨s0, s1, s2, s3, s4, s5, s6, s7, s8, s9, rfl⟩ := hts.shapeT
  have HTS := Hid.mk hts
  clear hts hb1 hb2
  go_wp2
  obtain ⟨W2, hW2⟩ : ∃ W, w2.alloc (.cells #[.int .i64 s0, .int .i64 s1, .bool s2, .string s3, .slice s4 s5 s6, .slice s7 s8 s9] 25) = W := ⟨_, rfl⟩
  have HX2 : Hid (W2.heap[w2.heap.size]? = some (.cells #[.int .i64 s0, .int .i64 s1, .bool s2, .string s3, .slice s4 s5 s6, .slice s7 s8 s9] 25 (0, 0))) := by unfold Hid; rw [← hW2]; exact alloc_new _ _
  have HT2 : Hid (TV (mask w2.heap.size W2) (.agg #[.int .i64 s0, .int .i64 s1, .bool s2, .string s3, .slice s4 s5 s6, .slice s7 s8 s9]) (tSet 0)) := by unfold Hid; rw [← hW2]; exact TV.fresh HTS.out ((Below.refl _ _).alloc (Nat.le_refl _) _) (Nat.le_refl _)
  have HBW : Hid (RowKit.Below w.heap.size w W2) := by unfold Hid; rw [← hW2]; exact HBW2.out.alloc HBW2.out.size _
  have hxw := HBW2.out.size
  rw [hW2]
  clear hW2 HTS
  go_loopw [9] (fun i wr => ∃ (ℓ : Nat) (T : Tm) (o0 o1 : Int) (o2 : Bool) (o3 : ByteArray) (o4 : Option Addr) (o5 o6 : Nat) (o7 : Option Addr) (o8 o9 : Nat), ℓ ≤ 20010 ∧ i = .int .i64 ℓ ∧ formedB T = true ∧ smT 1000000 T ∧ wr.heap[w2.heap.size]? = some (.cells #[.int .i64 o0, .int .i64 o1, .bool o2, .string o3, .slice o4 o5 o6, .slice o7 o8 o9] 25 (0, 0)) ∧ TV (mask w2.heap.size wr) (.agg #[.int .i64 o0, .int .i64 o1, .bool o2, .string o3, .slice o4 o5 o6, .slice o7 o8 o9]) T ∧ RowKit.Below w.heap.size w wr) (fun i _ => (intOf i).toNat)
  case atStart => exact ⟨m - 1, tSet 0, s0, s1, s2, s3, s4, s5, s6, s7, s8, s9, by omega, by first | rfl | exact congrArg (Value.int .i64) (by omega), formed_set, sm_set, HX2.out, HT2.out, HBW.out⟩
  case round =>
    obtain ⟨ℓ, T, o0, o1, o2, o3, o4, o5, o6, o7, o8, o9, hℓ, rfl, hfo, hsm, hx, ht, hb⟩ := hrel
    have HX := Hid.mk hx
    have HT := Hid.mk ht
    have HB := Hid.mk hb
    obtain ⟨x0, x1, x2, x3, x4, x5, x6⟩ := cells6 hx
    have fx := frz hx
    clear hx ht hb
    by_cases hlt : 1 < ℓ
    · have zl : (ℓ : Int) > 1 := by omega
      obtain ⟨W4, hW4⟩ : ∃ W, W = wr := ⟨_, rfl⟩
      subst hW4
      by_cases hbig : 200 < ℓ - 1
      · have zb : (200 : Int) < (ℓ : Int) - 1 := by omega
        go_wp2_with fail
        refine (Set_row 0 _).mono ?_
        rintro e w3 ⟨sb, rfl, hsb, hsl, hb3⟩
        have hz3 := hb3.size
        have HSB := Hid.mk hsb
        have HB3 := Hid.mk hb3
        have hsl2 := heap_lt hsb
        clear hsb hb3
        go_wp2
        obtain ⟨W3, hW3⟩ : ∃ W, w3.alloc (.cells #[.int .i64 2, .int .i64 0, .bool false, .string { data := #[] }, .slice (some ⟨sb, 0, none⟩) 1 1, .slice none 0 0] 25) = W := ⟨_, rfl⟩
        have HY3 : Hid (W3.heap[w3.heap.size]? = some (.cells #[.int .i64 2, .int .i64 0, .bool false, .string { data := #[] }, .slice (some ⟨sb, 0, none⟩) 1 1, .slice none 0 0] 25 (0, 0))) := by unfold Hid; rw [← hW3]; exact alloc_new _ _
        have HSB3 : Hid (W3.heap[sb]? = some (.cells #[.int .i64 0, .slice none 0 0] 43 (0, 0))) := by unfold Hid; rw [← hW3]; exact alloc_old HSB.out _
        have HB43 : Hid (RowKit.Below W4.heap.size W4 W3) := by unfold Hid; rw [← hW3]; exact HB3.out.alloc HB3.out.size _
        have HTX : Hid (TV (mask w3.heap.size (mask w2.heap.size W3)) (.agg #[.int .i64 2, .int .i64 0, .bool false, .string { data := #[] }, .slice (some ⟨sb, 0, none⟩) 1 1, .slice none 0 0]) (fstN 0)) := TV.setOf (by rw [mask_ne _ (by omega), mask_ne _ (by omega)]; exact HSB3.out)
        rw [hW3]
        clear hW3 HSB x0 x1 x2 x3 x4 x5 fx
        go_loopw [12] (fun i wq => ∃ (j : Nat) (p0 p1 : Int) (p2 : Bool) (p3 : ByteArray) (p4 : Option Addr) (p5 p6 : Nat) (p7 : Option Addr) (p8 p9 : Nat), 1 ≤ j ∧ j ≤ 200 ∧ i = .int .i64 j ∧ wq.heap[w3.heap.size]? = some (.cells #[.int .i64 p0, .int .i64 p1, .bool p2, .string p3, .slice p4 p5 p6, .slice p7 p8 p9] 25 (0, 0)) ∧ TV (mask w3.heap.size (mask w2.heap.size wq)) (.agg #[.int .i64 p0, .int .i64 p1, .bool p2, .string p3, .slice p4 p5 p6, .slice p7 p8 p9]) (fstN (j - 1)) ∧ Kept (· = w3.heap.size) W3 wq) (fun i _ => 200 - (intOf i).toNat)
        case atStart => exact ⟨1, 2, 0, false, { data := #[] }, some ⟨sb, 0, none⟩, 1, 1, none, 0, 0, Nat.le_refl _, by omega, rfl, HY3.out, HTX.out, Kept.refl _ _⟩
        case round =>
          obtain ⟨j, p0, p1, p2, p3, p4, p5, p6, p7, p8, p9, hj1, hj, rfl, hy, hty, hkq⟩ := hrel
          have HY := Hid.mk hy
          have HTY := Hid.mk hty
          have HKQ := Hid.mk hkq
          have hzq := hkq.size
          have hz43 := HB43.out.size
          have HXR : Hid (wr.heap[w2.heap.size]? = some (.cells #[.int .i64 o0, .int .i64 o1, .bool o2, .string o3, .slice o4 o5 o6, .slice o7 o8 o9] 25 (0, 0))) := (hkq.block w2.heap.size (by omega) (by omega)).trans ((HB43.out.block w2.heap.size x6).trans HX.out)
          have hxr := heap_lt HXR.out
          have hyr := heap_lt hy
          obtain ⟨y0, y1, y2, y3, y4, y5, y6⟩ := cells6 hy
          have fy := frz hy
          clear hy hty hkq
          by_cases hq : j < 200
          · have zj : (j : Int) < 200 := by omega
            go_wp2
            have KX := keep6 (P := fun k => k = w3.heap.size) (w := wr) (b := w3.heap.size) (a0 := .int .i64 8) (a1 := .int .i64 0) (a2 := .bool false) (a3 := .string { data := #[] }) (a4 := .slice none 0 0) (a5 := .slice (some ⟨wr.heap.size, 0, none⟩) 1 1) rfl
            have KA := KX.alloc (.cells #[.int .i64 p0, .int .i64 p1, .bool p2, .string p3, .slice p4 p5 p6, .slice p7 p8 p9] 25)
            refine ⟨⟨j + 1, 8, 0, false, { data := #[] }, none, 0, 0, some ⟨wr.heap.size, 0, none⟩, 1, 1, by omega, hq, by go_num, ?_, ?_, HKQ.out.trans KA⟩, by simp [intOf]; omega⟩
            · exact alloc_old (set6 HY.out) _
            · have hT := TV.keep HTY.out (mask_kept KA hxr) (by rw [mask_size]; exact hyr)
              have hN : (mask w3.heap.size (mask w2.heap.size (((((((wr.setCell ⟨w3.heap.size, 0, none⟩ (.int .i64 8)).setCell ⟨w3.heap.size, 1, none⟩ (.int .i64 0)).setCell ⟨w3.heap.size, 2, none⟩ (.bool false)).setCell ⟨w3.heap.size, 3, none⟩ (.string { data := #[] })).setCell ⟨w3.heap.size, 4, none⟩ (.slice none 0 0)).setCell ⟨w3.heap.size, 5, none⟩ (.slice (some ⟨wr.heap.size, 0, none⟩) 1 1)).alloc (.cells #[.int .i64 p0, .int .i64 p1, .bool p2, .string p3, .slice p4 p5 p6, .slice p7 p8 p9] 25)))).heap[wr.heap.size]? = some (.cells #[.int .i64 p0, .int .i64 p1, .bool p2, .string p3, .slice p4 p5 p6, .slice p7 p8 p9] 25 (0, 0)) := by
                rw [mask_ne _ (by omega), mask_ne _ (by omega)]
                have := alloc_new ((((((wr.setCell ⟨w3.heap.size, 0, none⟩ (.int .i64 8)).setCell ⟨w3.heap.size, 1, none⟩ (.int .i64 0)).setCell ⟨w3.heap.size, 2, none⟩ (.bool false)).setCell ⟨w3.heap.size, 3, none⟩ (.string { data := #[] })).setCell ⟨w3.heap.size, 4, none⟩ (.slice none 0 0)).setCell ⟨w3.heap.size, 5, none⟩ (.slice (some ⟨wr.heap.size, 0, none⟩) 1 1)) (.cells #[.int .i64 p0, .int .i64 p1, .bool p2, .string p3, .slice p4 p5 p6, .slice p7 p8 p9] 25)
                rwa [size6] at this
              have hr := TV.one (f := 8) hT hN
              rw [show j + 1 - 1 = (j - 1) + 1 by omega, fstN]
              exact hr
          · have HJ : Hid (j = 200) := by unfold Hid; omega
            have zj : ¬ (j : Int) < 200 := by omega
            obtain ⟨x0, x1, x2, x3, x4, x5, x7⟩ := cells6 HXR.out
            have HAP := App_row o0 o1 o2 o3 o4 o5 o6 o7 o8 o9 p0 p1 p2 p3 p4 p5 p6 p7 p8 p9 wr
            have HB4R : Hid (RowKit.Below W4.heap.size W4 wr) := HB43.out.trans (HKQ.out.below hz43 (fun k hk => by rw [hk]; omega))
            go_wp2_with fail
            refine HAP.mono ?_
            rintro e w6 ⟨rb, rfl, hrow, hrl, hb6⟩
            have HX6 := Hid.mk ((hb6.block w2.heap.size hxr).trans HXR.out)
            have fx6 := frz HX6.out
            clear x0 x1 x2 x3 x4 x5
            obtain ⟨x0, x1, x2, x3, x4, x5, x8⟩ := cells6 HX6.out
            have HROW := Hid.mk hrow
            have HB6 := Hid.mk hb6
            have hz6 := hb6.size
            clear hrow hb6
            go_wp2
            have K6 := keep6 (P := fun k => k = w2.heap.size) (w := w6) (b := w2.heap.size) (a0 := .int .i64 5) (a1 := .int .i64 0) (a2 := .bool false) (a3 := .string { data := #[] }) (a4 := .slice none 0 0) (a5 := .slice (some ⟨rb, 0, none⟩) 2 2) rfl
            have hk2 : Kept (· = w2.heap.size) wr _ := (Kept.of_below HB6.out).trans K6
            refine ⟨⟨ℓ - 200 - 1, tApp T (fstN (j - 1)), 5, 0, false, { data := #[] }, none, 0, 0, some ⟨rb, 0, none⟩, 2, 2, by omega, congrArg (Value.int .i64) (by omega), formed_app hfo (fstN_formed _), sm_two 5 0 false _ _ hsm (fstN_sm _), set6 HX6.out, ?_, ?_⟩, by simp [intOf]; omega⟩
            · refine TV.two rfl rfl (TV.keep (TV.keep HT.out (Kept.of_below HB4R.out) x6) hk2 hxr) (TV.keep (TV.unmask HTY.out) hk2 hxr) ?_
              rw [mask_ne _ (by omega)]
              exact (K6.block rb (heap_lt HROW.out) (by omega)).trans HROW.out
            · exact HB.out.trans ((HB4R.out.mono HB.out.size).trans ((HB6.out.mono (Nat.le_trans HB.out.size HB4R.out.size)).trans (K6.below (Nat.le_trans HB.out.size (Nat.le_trans HB4R.out.size hz6)) (fun k hk => by rw [hk]; exact hxw))))
      · have zb : ¬ (200 : Int) < (ℓ : Int) - 1 := by omega
        go_wp2_with fail
        refine (Set_row 0 _).mono ?_
        rintro e w3 ⟨sb, rfl, hsb, hsl, hb3⟩
        have hz3 := hb3.size
        have HSB := Hid.mk hsb
        have HB3 := Hid.mk hb3
        have hsl2 := heap_lt hsb
        clear hsb hb3
        go_wp2
        obtain ⟨W3, hW3⟩ : ∃ W, w3.alloc (.cells #[.int .i64 2, .int .i64 0, .bool false, .string { data := #[] }, .slice (some ⟨sb, 0, none⟩) 1 1, .slice none 0 0] 25) = W := ⟨_, rfl⟩
        have HY3 : Hid (W3.heap[w3.heap.size]? = some (.cells #[.int .i64 2, .int .i64 0, .bool false, .string { data := #[] }, .slice (some ⟨sb, 0, none⟩) 1 1, .slice none 0 0] 25 (0, 0))) := by unfold Hid; rw [← hW3]; exact alloc_new _ _
        have HSB3 : Hid (W3.heap[sb]? = some (.cells #[.int .i64 0, .slice none 0 0] 43 (0, 0))) := by unfold Hid; rw [← hW3]; exact alloc_old HSB.out _
        have HB43 : Hid (RowKit.Below W4.heap.size W4 W3) := by unfold Hid; rw [← hW3]; exact HB3.out.alloc HB3.out.size _
        have HTX : Hid (TV (mask w3.heap.size (mask w2.heap.size W3)) (.agg #[.int .i64 2, .int .i64 0, .bool false, .string { data := #[] }, .slice (some ⟨sb, 0, none⟩) 1 1, .slice none 0 0]) (fstN 0)) := TV.setOf (by rw [mask_ne _ (by omega), mask_ne _ (by omega)]; exact HSB3.out)
        rw [hW3]
        clear hW3 HSB x0 x1 x2 x3 x4 x5 fx
        go_loopw [12] (fun i wq => ∃ (j : Nat) (p0 p1 : Int) (p2 : Bool) (p3 : ByteArray) (p4 : Option Addr) (p5 p6 : Nat) (p7 : Option Addr) (p8 p9 : Nat), 1 ≤ j ∧ j ≤ (ℓ - 1) ∧ i = .int .i64 j ∧ wq.heap[w3.heap.size]? = some (.cells #[.int .i64 p0, .int .i64 p1, .bool p2, .string p3, .slice p4 p5 p6, .slice p7 p8 p9] 25 (0, 0)) ∧ TV (mask w3.heap.size (mask w2.heap.size wq)) (.agg #[.int .i64 p0, .int .i64 p1, .bool p2, .string p3, .slice p4 p5 p6, .slice p7 p8 p9]) (fstN (j - 1)) ∧ Kept (· = w3.heap.size) W3 wq) (fun i _ => (ℓ - 1) - (intOf i).toNat)
        case atStart => exact ⟨1, 2, 0, false, { data := #[] }, some ⟨sb, 0, none⟩, 1, 1, none, 0, 0, Nat.le_refl _, by omega, rfl, HY3.out, HTX.out, Kept.refl _ _⟩
        case round =>
          obtain ⟨j, p0, p1, p2, p3, p4, p5, p6, p7, p8, p9, hj1, hj, rfl, hy, hty, hkq⟩ := hrel
          have HY := Hid.mk hy
          have HTY := Hid.mk hty
          have HKQ := Hid.mk hkq
          have hzq := hkq.size
          have hz43 := HB43.out.size
          have HXR : Hid (wr.heap[w2.heap.size]? = some (.cells #[.int .i64 o0, .int .i64 o1, .bool o2, .string o3, .slice o4 o5 o6, .slice o7 o8 o9] 25 (0, 0))) := (hkq.block w2.heap.size (by omega) (by omega)).trans ((HB43.out.block w2.heap.size x6).trans HX.out)
          have hxr := heap_lt HXR.out
          have hyr := heap_lt hy
          obtain ⟨y0, y1, y2, y3, y4, y5, y6⟩ := cells6 hy
          have fy := frz hy
          clear hy hty hkq
          by_cases hq : j < (ℓ - 1)
          · have zj : (j : Int) < ((ℓ : Int) - 1) := by omega
            go_wp2
            have KX := keep6 (P := fun k => k = w3.heap.size) (w := wr) (b := w3.heap.size) (a0 := .int .i64 8) (a1 := .int .i64 0) (a2 := .bool false) (a3 := .string { data := #[] }) (a4 := .slice none 0 0) (a5 := .slice (some ⟨wr.heap.size, 0, none⟩) 1 1) rfl
            have KA := KX.alloc (.cells #[.int .i64 p0, .int .i64 p1, .bool p2, .string p3, .slice p4 p5 p6, .slice p7 p8 p9] 25)
            refine ⟨⟨j + 1, 8, 0, false, { data := #[] }, none, 0, 0, some ⟨wr.heap.size, 0, none⟩, 1, 1, by omega, hq, by go_num, ?_, ?_, HKQ.out.trans KA⟩, by simp [intOf]; omega⟩
            · exact alloc_old (set6 HY.out) _
            · have hT := TV.keep HTY.out (mask_kept KA hxr) (by rw [mask_size]; exact hyr)
              have hN : (mask w3.heap.size (mask w2.heap.size (((((((wr.setCell ⟨w3.heap.size, 0, none⟩ (.int .i64 8)).setCell ⟨w3.heap.size, 1, none⟩ (.int .i64 0)).setCell ⟨w3.heap.size, 2, none⟩ (.bool false)).setCell ⟨w3.heap.size, 3, none⟩ (.string { data := #[] })).setCell ⟨w3.heap.size, 4, none⟩ (.slice none 0 0)).setCell ⟨w3.heap.size, 5, none⟩ (.slice (some ⟨wr.heap.size, 0, none⟩) 1 1)).alloc (.cells #[.int .i64 p0, .int .i64 p1, .bool p2, .string p3, .slice p4 p5 p6, .slice p7 p8 p9] 25)))).heap[wr.heap.size]? = some (.cells #[.int .i64 p0, .int .i64 p1, .bool p2, .string p3, .slice p4 p5 p6, .slice p7 p8 p9] 25 (0, 0)) := by
                rw [mask_ne _ (by omega), mask_ne _ (by omega)]
                have := alloc_new ((((((wr.setCell ⟨w3.heap.size, 0, none⟩ (.int .i64 8)).setCell ⟨w3.heap.size, 1, none⟩ (.int .i64 0)).setCell ⟨w3.heap.size, 2, none⟩ (.bool false)).setCell ⟨w3.heap.size, 3, none⟩ (.string { data := #[] })).setCell ⟨w3.heap.size, 4, none⟩ (.slice none 0 0)).setCell ⟨w3.heap.size, 5, none⟩ (.slice (some ⟨wr.heap.size, 0, none⟩) 1 1)) (.cells #[.int .i64 p0, .int .i64 p1, .bool p2, .string p3, .slice p4 p5 p6, .slice p7 p8 p9] 25)
                rwa [size6] at this
              have hr := TV.one (f := 8) hT hN
              rw [show j + 1 - 1 = (j - 1) + 1 by omega, fstN]
              exact hr
          · have HJ : Hid (j = (ℓ - 1)) := by unfold Hid; omega
            have zj : ¬ (j : Int) < ((ℓ : Int) - 1) := by omega
            obtain ⟨x0, x1, x2, x3, x4, x5, x7⟩ := cells6 HXR.out
            have HAP := App_row o0 o1 o2 o3 o4 o5 o6 o7 o8 o9 p0 p1 p2 p3 p4 p5 p6 p7 p8 p9 wr
            have HB4R : Hid (RowKit.Below W4.heap.size W4 wr) := HB43.out.trans (HKQ.out.below hz43 (fun k hk => by rw [hk]; omega))
            go_wp2_with fail
            refine HAP.mono ?_
            rintro e w6 ⟨rb, rfl, hrow, hrl, hb6⟩
            have HX6 := Hid.mk ((hb6.block w2.heap.size hxr).trans HXR.out)
            have fx6 := frz HX6.out
            clear x0 x1 x2 x3 x4 x5
            obtain ⟨x0, x1, x2, x3, x4, x5, x8⟩ := cells6 HX6.out
            have HROW := Hid.mk hrow
            have HB6 := Hid.mk hb6
            have hz6 := hb6.size
            clear hrow hb6
            go_wp2
            have K6 := keep6 (P := fun k => k = w2.heap.size) (w := w6) (b := w2.heap.size) (a0 := .int .i64 5) (a1 := .int .i64 0) (a2 := .bool false) (a3 := .string { data := #[] }) (a4 := .slice none 0 0) (a5 := .slice (some ⟨rb, 0, none⟩) 2 2) rfl
            have hk2 : Kept (· = w2.heap.size) wr _ := (Kept.of_below HB6.out).trans K6
            refine ⟨⟨ℓ - (ℓ - 1) - 1, tApp T (fstN (j - 1)), 5, 0, false, { data := #[] }, none, 0, 0, some ⟨rb, 0, none⟩, 2, 2, by omega, congrArg (Value.int .i64) (by omega), formed_app hfo (fstN_formed _), sm_two 5 0 false _ _ hsm (fstN_sm _), set6 HX6.out, ?_, ?_⟩, by simp [intOf]; omega⟩
            · refine TV.two rfl rfl (TV.keep (TV.keep HT.out (Kept.of_below HB4R.out) x6) hk2 hxr) (TV.keep (TV.unmask HTY.out) hk2 hxr) ?_
              rw [mask_ne _ (by omega)]
              exact (K6.block rb (heap_lt HROW.out) (by omega)).trans HROW.out
            · exact HB.out.trans ((HB4R.out.mono HB.out.size).trans ((HB6.out.mono (Nat.le_trans HB.out.size HB4R.out.size)).trans (K6.below (Nat.le_trans HB.out.size (Nat.le_trans HB4R.out.size hz6)) (fun k hk => by rw [hk]; exact hxw))))
    · have zl : ¬ (ℓ : Int) > 1 := by omega
      have hv := TV.unmask HT.out
      have HRS := rSize_any T _ wr hv hsm
      have HCH := fun (W : World) (h : RowKit.Below wr.heap.size wr W) => Check_any T _ W (TV.on hv h) hsm
      have HSZ := fun (W : World) (h : RowKit.Below wr.heap.size wr W) => Size_any T _ W (TV.on hv h) hsm
      rcases check_formed hfo with hc | hc
      · have hts : tsizeR T = sizeT T := by unfold tsizeR; rw [if_pos hc]
        have hpos := sizeT_pos T
        have h20 := (check_ok hc).1
        rw [hts] at HRS HSZ
        rw [hc] at HCH
        generalize sizeT T = S at *
        have zS : (S : Int) > 0 := by omega
        clear hc hts hv
        go_wp2_with fail
        refine HRS.mono ?_
        rintro e w5 ⟨rfl, hb5⟩
        have hz5 := hb5.size
        obtain ⟨y0, y1, y2, y3, y4, y5, y6⟩ := cells6 ((hb5.block w2.heap.size x6).trans HX.out)
        go_wp2_with fail
        refine (HCH _ hb5).mono ?_
        rintro e w6 ⟨rfl, hb6⟩
        obtain ⟨q0, q1, q2, q3, q4, q5, q6⟩ := cells6 ((hb6.block w2.heap.size y6).trans ((hb5.block w2.heap.size x6).trans HX.out))
        have hb56 := hb5.trans (hb6.mono hz5)
        go_wp2_with (first | (go_at_call 14; refine (num2_any _ _).mono ?_; rintro e w' ⟨rfl, rfl⟩) | (go_at_call 16; refine (HSZ _ hb56).mono ?_; rintro e w7 ⟨rfl, hb7⟩))
        go_ret
        exact ⟨congrArg (fun x => Ending.returned (.bool x)) (by simp), HB.out.trans ((hb56.trans (hb7.mono (Nat.le_trans hz5 hb6.size))).mono HB.out.size)⟩
      · have hts : tsizeR T = 0 := by unfold tsizeR; rw [if_neg (by omega)]
        rw [hts] at HRS
        rw [hc] at HCH
        clear hc hts hv HSZ
        go_wp2_with fail
        refine HRS.mono ?_
        rintro e w5 ⟨rfl, hb5⟩
        obtain ⟨y0, y1, y2, y3, y4, y5, y6⟩ := cells6 ((hb5.block w2.heap.size x6).trans HX.out)
        go_wp2_with fail
        refine (HCH _ hb5).mono ?_
        rintro e w6 ⟨rfl, hb6⟩
        go_wp2_with (go_at_call 14; refine (num2_any _ _).mono ?_; rintro e w' ⟨rfl, rfl⟩)
        go_ret
        exact ⟨rfl, HB.out.trans ((hb5.trans (hb6.mono hb5.size)).mono HB.out.size)⟩

set_option maxHeartbeats 2000000 in
theorem walk (n : Int) (h : Bool) (w : World) : Calls Try.prog 8 #[.int .i64 n, .bool h] w fun e w' => e = .returned (.bool true) ∧ RowKit.Below w.heap.size w w' := by
  rcases (show n < 1 ∨ (1 ≤ n ∧ 20010 < n) ∨ (1 ≤ n ∧ n ≤ 20010) by omega) with h1 | ⟨h1, h2⟩ | ⟨h1, h2⟩
  · go_enter Try.func8, Try.ntmps8
    go_wp2_with (go_at_call 9; refine (alive2_any w).mono ?_; rintro e w1 ⟨rfl, hb1⟩)
    go_ret
    exact ⟨rfl, hb1⟩
  · go_enter Try.func8, Try.ntmps8
    go_wp2_with (go_at_call 9; refine (alive2_any w).mono ?_; rintro e w1 ⟨rfl, hb1⟩)
    go_ret
    exact ⟨rfl, hb1⟩
  · obtain ⟨m, rfl⟩ := Int.eq_ofNat_of_zero_le (show 0 ≤ n by omega)
    cases h
    · exact walk_wide m w (by omega) (by omega)
    · by_cases h3 : m ≤ 600
      · exact walk_high m w (by omega) h3
      · have g1 : ¬ (m : Int) < 1 := by omega
        have g2 : ¬ (m : Int) > 20010 := by omega
        have g3 : (m : Int) > 600 := by omega
        clear h1 h2 h3
        go_enter Try.func8, Try.ntmps8
        go_wp2_with (go_at_call 9; refine (alive2_any w).mono ?_; rintro e w1 ⟨rfl, hb1⟩)
        go_ret
        exact ⟨rfl, hb1⟩

theorem ownL : ownKnob Try.prog.godebug = none := by kernel_rfl

set_option maxRecDepth 100000 in
theorem lifted (os : Os) (started : os.Started) (H : Type) (enc : TypeId × Value → H) :
    ReturnsInHanded {} Try.checked os 8 .any (Rows.termLongSpec.pre6 enc Try.prog Try.f8 Rows.termLongRow.domain false) (Rows.termLongSpec.post enc Try.prog Try.f8 false true false false) := by
  refine returnsInHanded_of_change (C := Try.checked) ownL started (by kernel_rfl) Try.func8
    (ChangeSpec.witness6 (enc := enc) (C := Try.checked) false ⟨#[], #[.int .i64 0, .bool false], []⟩ 8 (by kernel_rfl) (by kernel_rfl) (by kernel_rfl) (by kernel_rfl)) ?_
  intro W base args ds gs before hval0 hW hcnd _
  have hval : ∀ (j : Nat) t v, Try.f8.params[j]? = some t → args[j]? = some v → Value.okWide Try.prog W .any base t v := hval0
  have hW' := hW
  obtain ⟨p, q, hA0, hV, rfl, hfz, hnd⟩ := hW
  have hA : DataW.TrodAll enc Try.prog W 0 (fun _ => true) true Try.f8.params.toList args.toList ds p := hA0
  rw [Try.params8] at hA hval
  obtain ⟨v0, v1, d0, d1, p0, p1, rfl, rfl, rfl, h0, h1⟩ := trodAll_two hA
  obtain ⟨rfl, rfl⟩ := trodVars_none hV
  obtain ⟨a0, rfl, rfl, rfl, w0⟩ := open_int Try.underlying3 (hval 0 3 v0 rfl rfl) h0
  obtain ⟨a1, rfl, rfl, rfl⟩ := open_bool Try.underlying4 (hval 1 4 v1 rfl rfl) h1
  clear hA0 hval0
  simp only [List.append_nil] at hW'
  refine (walk a0 a1 W).mono fun e W' ⟨he, bel⟩ => ?_
  subst he
  exact ⟨_, rfl, _, _, _, [], [], [], hW', trodAll_mk1 (shut_bool Try.underlying4 _), trodAll_mk2 (shut_int Try.underlying3 w0) (shut_bool Try.underlying4 _), rfl, bel.frame _, fun h => by cases h⟩

theorem over : Rows.termLongRow.holds Try.pinned (OpenSpec.ofChange Rows.termLongSpec) :=
  OpenClaim.holds_of_wide 8 Try.f8 rfl rfl rfl rfl rfl rfl rfl ⟨rfl, rfl, rfl, rfl, rfl⟩ rfl rfl rfl rfl rfl (by kernel_rfl) Try.func8 (by kernel_rfl)
    (of_decide_eq_true (by kernel_rfl)) (by unfold Func.isWrapper; first | (rw [if_pos (by decide +kernel)]; kernel_rfl) | (rw [if_neg (by decide +kernel)]; exact ⟨rfl, rfl⟩))
    (fun os started H enc _ => lifted os started H enc)

end termLong

theorem termLong_holds : Rows.TermLongSaid := termLong.over
#print axioms termLong_holds
end Go.Proofs.Ytbgkeomlfdmkeaa
