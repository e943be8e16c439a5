/- For every n and from: LevelSteps answers true, and leaves its arguments as they were; no condition. -/
import Derived.Test.YtchckjhomgogpabRows
import Derived.Test.YtchckjhomgogpabY
import Derived.ProofKit
import Derived.OpenShut
import Derived.Below
namespace Go.Proofs.Ytchckjhomgogpab
namespace levelSteps
open Go.ChangeShapes Go.WideShapes Go.ChangeAt Go.RowKit Go.Sort

theorem suc_one {f k : Int} (hf0 : 0 ≤ f) (hf1 : f ≤ 1000) (hk : 0 ≤ k) : sucR 0 [(3, f)] k = if f + k ≤ 1000 then (0, [(3, f + k)], 0) else (0, [], 13) := by
  have hr : rightB 0 [(3, f)] = true := by simp [rightB, inR, hf0, hf1]
  unfold sucR
  rw [if_pos hr, if_neg (by omega)]
  by_cases h : f + k ≤ 1000
  · have hm : min k 1001 = k := by omega
    rw [if_pos h, hm]
    have hn : nOf (0 + k) [(3, f + k)] = 0 := by simp [nOf]; omega
    have hr2 : rightB 0 [(3, f + k)] = true := by simp [rightB, inR]; omega
    show canonR (0 + k) [(3, f + k)] = _
    unfold canonR
    rw [tidy_one, hn, if_pos hr2]
  · rw [if_neg h]
    have hn : nOf (0 + min k 1001) [(3, f + min k 1001)] = 0 := by simp [nOf]; omega
    have hr2 : rightB 0 [(3, f + min k 1001)] = false := by simp [rightB, inR]; omega
    show canonR (0 + min k 1001) [(3, f + min k 1001)] = _
    unfold canonR
    rw [tidy_one, hn, if_neg (by rw [hr2]; simp)]

theorem Suc_in (f k : Int) (a : Option Addr) (c : Nat) (w : World) (hS : SL w a [(3, f)]) (hf0 : 0 ≤ f) (hk : 0 ≤ k) (h : f + k ≤ 1000) :
    Calls Try.prog 7 #[.agg #[.int .i64 0, .slice a 1 c], .int .i64 k] w fun e w' => ∃ a' c', e = .returned (.tuple #[.agg #[.int .i64 0, .slice a' 1 c'], .int .i64 0]) ∧ OR w.heap.size w' (.slice a' 1 c') [(3, f + k)] ∧ RowKit.Below w.heap.size w w' := by
  have hc := Suc_any 0 k [(3, f)] a c w hS (by simp)
  rw [suc_one hf0 (by omega) hk, if_pos h] at hc
  refine Calls.mono hc ?_
  rintro e w' ⟨v, he, hO, hb⟩
  obtain ⟨a', c', rfl, hs⟩ := hO.one
  exact ⟨a', c', he, hO, hb⟩

theorem heap_set1 {w : World} {b : Nat} {u v x : Value} {t : TypeId} (h : w.heap[b]? = some (.cells #[u, v] t (0, 0))) : (w.setCell ⟨b, 1, none⟩ x).heap[b]? = some (.cells #[u, x] t (0, 0)) := by
  rw [setCell_eq]; show (w.heap.modify b _)[b]? = _
  rw [Array.getElem?_modify, if_pos rfl, h]; rfl

theorem toSL1 {B : Nat} {w : World} {a : Option Addr} {c : Nat} {x y : Int} (h : OR B w (.slice a 1 c) [(x, y)]) : SL w a [(x, y)] := by
  obtain ⟨a', c', hv, hs⟩ := h.one
  simp at hv
  rw [hv.1]; exact hs

theorem Suc_out (f k : Int) (a : Option Addr) (c : Nat) (w : World) (hS : SL w a [(3, f)]) (hf0 : 0 ≤ f) (hf1 : f ≤ 1000) (hk : 0 ≤ k) (h : ¬ f + k ≤ 1000) :
    Calls Try.prog 7 #[.agg #[.int .i64 0, .slice a 1 c], .int .i64 k] w fun e w' => ∃ a' c', e = .returned (.tuple #[.agg #[.int .i64 0, .slice a' 0 c'], .int .i64 13]) ∧ RowKit.Below w.heap.size w w' := by
  have hc := Suc_any 0 k [(3, f)] a c w hS (by simp)
  rw [suc_one hf0 hf1 hk, if_neg h] at hc
  refine Calls.mono hc ?_
  rintro e w' ⟨v, he, hO, hb⟩
  obtain ⟨a', c', hv, -, -⟩ := hO.shape
  simp only at he hv
  rw [hv] at he
  exact ⟨a', c', he, hb⟩

set_option maxRecDepth 100000 in
set_option maxHeartbeats 4000000 in
theorem walk_in (n f : Int) (w : World) (hn0 : 0 ≤ n) (hn1 : n ≤ 1200) (hf0 : 0 ≤ f) (hf1 : f ≤ 1000) :
    Calls Try.prog 3 #[.int .i64 n, .int .i64 f] w fun e w' => e = .returned (.bool true) ∧ RowKit.Below w.heap.size w w' := by
  have mx := mixed
  go_enter Try.func3, Try.ntmps3
  go_wp2_with fail
  refine (alive_any w).mono ?_
  rintro e w1 ⟨rfl, hb1⟩
  have hz1 := hb1.size
  go_wp2_with fail
  refine (V_ex _ _ _).mono ?_
  rintro e w2 ⟨a2, rfl, hS2, hg2⟩
  have HB2 : Hid (RowKit.Below w.heap.size w w2) := hb1.trans (hg2.below.mono hz1)
  have hz2 := HB2.out.size
  have HS2 := Hid.mk hS2
  clear hb1 hS2 hg2 hz1
  go_wp2
  go_loopw [7] (fun i wr => ∃ (k : Nat) (ai : Option Addr) (ci : Nat), (k : Int) ≤ n ∧ f + k ≤ 1000 ∧ i = .int .i64 k ∧ RowKit.Below w2.heap.size w2 wr ∧ wr.heap[w2.heap.size]? = some (.cells #[.int .i64 0, .slice ai 1 ci] 25 (0, 0)) ∧ SL wr ai [(3, f + k)]) (fun i _ => (n - intOf i).toNat)
  case atStart => exact ⟨0, a2, 1, by omega, by simp; omega, rfl, (Below.refl _ _).alloc (Nat.le_refl _) _, alloc_new _ _, by have := HS2.out.below ((Grew.refl w2).alloc (.cells #[.int .i64 0, .slice a2 1 1] 25)).below; simpa using this⟩
  case round =>
    obtain ⟨k, ai, ci, hk, hfk, rfl, hb, hh, hS⟩ := hrel
    obtain ⟨q0, q1, q2, q3, q4⟩ := cells2 hh
    have hbb := hb.size
    have HH := Hid.mk hh
    have HS := Hid.mk hS
    have HBw : Hid (RowKit.Below w.heap.size w wr) := HB2.out.trans (hb.mono hz2)
    clear hh hS HS2
    by_cases hlt : (k : Int) < n
    · by_cases hnx : f + k + 1 ≤ 1000
      · have HC := Suc_in (f + k) 1 ai ci wr HS.out (by omega) (by omega) hnx
        go_wp2_with fail
        refine HC.mono ?_
        rintro e w3 ⟨a3, c3, rfl, hO3, hb3⟩
        have hz3 := hb3.size
        have HB3 := Hid.mk (hb.trans (hb3.mono hbb))
        have HO3 := Hid.mk hO3
        obtain ⟨r0, r1, r2, r3, r4⟩ := cells2 ((hb3.block w2.heap.size q4).trans HH.out)
        have HH3 := Hid.mk ((hb3.block w2.heap.size q4).trans HH.out)
        clear HC hO3 hb3 q0 q1 q2 q3
        go_wp2_with (go_at_call 8; refine (num_any _ _).mono ?_; rintro e ww ⟨rfl, hww⟩; have hww := hww.symm; subst hww)
        refine ⟨⟨k + 1, a3, c3, by omega, by simp only [Int.natCast_add, Int.cast_ofNat_Int]; omega, by go_num, ((HB3.out.setCell (p := ⟨w2.heap.size, 0, none⟩) (Nat.le_refl _) _).setCell (p := ⟨w2.heap.size, 1, none⟩) (Nat.le_refl _) _).alloc (by simp; omega) _, alloc_old (heap_set1 (heap_set0 HH3.out)) _, ?_⟩, by simp [intOf]; omega⟩
        have ho := toSL1 (((HO3.out.setBelow (a := ⟨w2.heap.size, 0, none⟩) q4 (.int .i64 0)).setBelow (a := ⟨w2.heap.size, 1, none⟩) q4 (.slice a3 1 c3)).below ((Grew.refl _).alloc (.cells #[.int .i64 0, .slice a3 1 c3] 25)).below)
        rw [show f + ((k + 1 : Nat) : Int) = f + k + 1 by omega]
        exact ho
      · have HC := Suc_out (f + k) 1 ai ci wr HS.out (by omega) (by omega) (by omega) hnx
        go_wp2_with fail
        refine HC.mono ?_
        rintro e w3 ⟨a3, c3, rfl, hb3⟩
        have HB3 := Hid.mk (HBw.out.trans (hb3.mono (by omega)))
        have hz3 := hb3.size
        clear HC hb3 q0 q1 q2 q3
        go_wp2_with (go_at_call 8; refine (num_any _ _).mono ?_; rintro e ww ⟨rfl, hww⟩; have hww := hww.symm; subst hww)
        go_ret
        exact ⟨rfl, HB3.out.alloc (by omega) _⟩
    · have hkn : (k : Int) = n := by omega
      have HKN := Hid.mk hkn
      clear hkn
      go_wp2_with fail
      refine (V_ex _ _ _).mono ?_
      rintro e w3 ⟨a3, rfl, hS3, hg3⟩
      have HC := Suc_in f n a3 1 w3 hS3 hf0 hn0 (by have := HKN.out; omega)
      have HH3 := Hid.mk ((hg3.below.block w2.heap.size q4).trans HH.out)
      have HS3 := Hid.mk (HS.out.below hg3.below)
      have HB3 := Hid.mk (HBw.out.trans (hg3.below.mono (by omega)))
      have hz3 := hg3.below.size
      clear hS3 hg3 q0 q1 q2 q3
      go_wp2_with fail
      refine HC.mono ?_
      rintro e w4 ⟨a4, c4, rfl, hO4, hb4⟩
      have hz4 := hb4.size
      have HB4 := Hid.mk (HB3.out.trans (hb4.mono (by omega)))
      have HS4 := Hid.mk (HS3.out.below hb4)
      have HO4 := Hid.mk (toSL1 hO4)
      have HH4 := Hid.mk ((hb4.block w2.heap.size (by omega)).trans HH3.out)
      obtain ⟨r0, r1, r2, r3, r4⟩ := cells2 HH4.out
      have HSn : Hid (SL w4 ai [(3, f + n)]) := by have := HS4.out; rwa [HKN.out] at this
      obtain ⟨W5, hW5⟩ : ∃ W5, w4.alloc (.cells #[.int .i64 0, .slice a4 1 c4] 25) = W5 := ⟨_, rfl⟩
      have hg5 : Grew w4 W5 := by rw [← hW5]; exact (Grew.refl _).alloc _
      have HG5 := Hid.mk hg5
      have hz5 := hg5.below.size
      have hb5 : W5.heap[w4.heap.size]? = some (.cells #[.int .i64 0, .slice a4 1 c4] 25 (0, 0)) := by rw [← hW5]; exact alloc_new _ _
      obtain ⟨l0, l1, -, -, l4⟩ := cells2 ((hg5.below.block w2.heap.size r4).trans HH4.out)
      obtain ⟨s0, s1, -, -, s4⟩ := cells2 hb5
      have HW5 := Hid.mk hW5
      have HWR : Hid (IntKind.i64.wrap (f + n) = f + n) := by unfold Hid; rw [IntKind.wrap_i64]; omega
      have hfn0 : 0 ≤ f + n := by omega
      have hfn1 : f + n ≤ 2200 := by omega
      clear HC hO4 hb4 hW5 hg5 hb5 r0 r1 r2 r3
      go_wp2_with fail
      rw [HW5.out]
      go_region_held3 (fun w' => w'.cell? ⟨w2.heap.size, 0, none⟩ = some (.int .i64 0) ∧ w'.cell? ⟨w2.heap.size, 1, none⟩ = some (.slice ai 1 ci) ∧ w'.cell? ⟨w4.heap.size, 0, none⟩ = some (.int .i64 0) ∧ w'.cell? ⟨w4.heap.size, 1, none⟩ = some (.slice a4 1 c4)) (first | go_keep | (go_split_ands; refine ⟨?_, ?_, ?_, ?_⟩ <;> (first | (rw [hgk3.below.cell (by first | (simp; done) | (simp; omega))]; assumption) | (rw [hgk2.below.cell (by first | (simp; done) | (simp; omega))]; assumption) | (rw [hgk1.below.cell (by first | (simp; done) | (simp; omega))]; assumption))))
        (first | (go_at_call 8; refine (num_any _ _).mono ?_; rintro e ww ⟨rfl, hww⟩; have hww := hww.symm; subst hww) | (go_at_call_of 9 a4; refine (Exact_ex 0 3 (f + n) ai a4 ci c4 W5.drew (HSn.out.below (HG5.out.drew).below) (HO4.out.below (HG5.out.drew).below)).mono ?_; rintro e w6 ⟨rfl, hgk1⟩; have hz6 : W5.heap.size ≤ w6.heap.size := hgk1.below.size) | (go_at_call 6; refine (V_ex _ _ _).mono ?_; rintro e w7 ⟨a7, rfl, hS7, hgk2⟩; rw [HWR.out] at hS7; have hz7 : w6.heap.size ≤ w7.heap.size := hgk2.below.size) | (go_at_call_of 9 a7; refine (Exact_ex 0 3 (f + n) ai a7 ci 1 w7 (HSn.out.below (((HG5.out.drew).trans hgk1).trans hgk2).below) hS7).mono ?_; rintro e w8 ⟨rfl, hgk3⟩; have hz8 : w7.heap.size ≤ w8.heap.size := hgk3.below.size))
      go_wp2
      go_ret
      have hfin : Grew w4 w8 := ((HG5.out.drew.trans hgk1).trans hgk2).trans hgk3
      exact ⟨rfl, HB4.out.trans (hfin.below.mono (by omega))⟩

set_option maxHeartbeats 2000000 in
theorem walk (n f : Int) (w : World) : Calls Try.prog 3 #[.int .i64 n, .int .i64 f] w fun e w' => e = .returned (.bool true) ∧ RowKit.Below w.heap.size w w' := by
  by_cases h : 0 ≤ n ∧ n ≤ 1200 ∧ 0 ≤ f ∧ f ≤ 1000
  · exact walk_in n f w h.1 h.2.1 h.2.2.1 h.2.2.2
  · rcases (show n < 0 ∨ (0 ≤ n ∧ 1200 < n) ∨ (0 ≤ n ∧ n ≤ 1200 ∧ f < 0) ∨ (0 ≤ n ∧ n ≤ 1200 ∧ 0 ≤ f ∧ 1000 < f) by omega) with h1 | ⟨h1, h2⟩ | ⟨h1, h2, h3⟩ | ⟨h1, h2, h3, h4⟩
    all_goals
      clear h
      go_enter Try.func3, Try.ntmps3
      go_wp2_with (go_at_call 5; refine (alive_any w).mono ?_; rintro e w1 ⟨rfl, hb1⟩)
      go_ret
      exact ⟨rfl, hb1⟩

theorem own : ownKnob Try.prog.godebug = none := by kernel_rfl

set_option maxRecDepth 100000 in
theorem lifted (os : Os) (started : os.Started) (H : Type) (enc : TypeId × Value → H) :
    ReturnsInHanded {} Try.checked os 3 .any (Rows.levelStepsSpec.pre6 enc Try.prog Try.f3 Rows.levelStepsRow.domain false) (Rows.levelStepsSpec.post enc Try.prog Try.f3 false true false false) := by
  refine returnsInHanded_of_change (C := Try.checked) own started (by kernel_rfl) Try.func3
    (ChangeSpec.witness6 (enc := enc) (C := Try.checked) false ⟨#[], #[.int .i64 0, .int .i64 0], []⟩ 8 (by kernel_rfl) (by kernel_rfl) (by kernel_rfl) (by kernel_rfl)) ?_
  intro W base args ds gs before hval0 hW hcnd _
  have hval : ∀ (j : Nat) t v, Try.f3.params[j]? = some t → args[j]? = some v → Value.okWide Try.prog W .any base t v := hval0
  have hW' := hW
  obtain ⟨p, q, hA0, hV, rfl, hfz, hnd⟩ := hW
  have hA : DataW.TrodAll enc Try.prog W 0 (fun _ => true) true Try.f3.params.toList args.toList ds p := hA0
  rw [Try.params3] at hA hval
  obtain ⟨v0, v1, d0, d1, p0, p1, rfl, rfl, rfl, h0, h1⟩ := trodAll_two hA
  obtain ⟨rfl, rfl⟩ := trodVars_none hV
  obtain ⟨a0, rfl, rfl, rfl, w0⟩ := open_int Try.underlying3 (hval 0 3 v0 rfl rfl) h0
  obtain ⟨a1, rfl, rfl, rfl, w1⟩ := open_int Try.underlying3 (hval 1 3 v1 rfl rfl) h1
  clear hA0 hval0
  simp only [List.append_nil] at hW'
  refine (walk a0 a1 W).mono fun e W' ⟨he, bel⟩ => ?_
  subst he
  exact ⟨_, rfl, _, _, _, [], [], [], hW', trodAll_mk1 (shut_bool Try.underlying4 _), trodAll_mk2 (shut_int Try.underlying3 w0) (shut_int Try.underlying3 w1), rfl, bel.frame _, fun h => by cases h⟩

theorem over : Rows.levelStepsRow.holds Try.pinned (OpenSpec.ofChange Rows.levelStepsSpec) :=
  OpenClaim.holds_of_wide 3 Try.f3 rfl rfl rfl rfl rfl rfl rfl ⟨rfl, rfl, rfl, rfl, rfl⟩ rfl rfl rfl rfl rfl (by kernel_rfl) Try.func3 (by kernel_rfl)
    (of_decide_eq_true (by kernel_rfl)) (by unfold Func.isWrapper; first | (rw [if_pos (by decide +kernel)]; kernel_rfl) | (rw [if_neg (by decide +kernel)]; exact ⟨rfl, rfl⟩))
    (fun os started H enc _ => lifted os started H enc)

end levelSteps

theorem levelSteps_holds : Rows.LevelStepsSaid := levelSteps.over
#print axioms levelSteps_holds
end Go.Proofs.Ytchckjhomgogpab
