/- For every n and k: LayoutNests answers true, and leaves its arguments as they were; no condition. -/
import Derived.Test.YtfnehpgefcnjgaaRows
import Derived.Test.YtfnehpgefcnjgaaRunN0
import Derived.Test.YtfnehpgefcnjgaaRunN0b
import Derived.Test.YtfnehpgefcnjgaaRunN0c
import Derived.Test.YtfnehpgefcnjgaaRunN1
import Derived.Test.YtfnehpgefcnjgaaRunN1b
import Derived.Test.YtfnehpgefcnjgaaRunN1c
import Derived.Test.YtfnehpgefcnjgaaRunN2
import Derived.Test.YtfnehpgefcnjgaaRunN2b
import Derived.Test.YtfnehpgefcnjgaaRunN2c
import Derived.Test.YtfnehpgefcnjgaaRunN3
import Derived.Test.YtfnehpgefcnjgaaRunN3b
import Derived.Test.YtfnehpgefcnjgaaRunN3c
import Derived.Test.YtfnehpgefcnjgaaRunN4
import Derived.Test.YtfnehpgefcnjgaaRunN4b
import Derived.Test.YtfnehpgefcnjgaaRunN4c
import Derived.Test.YtfnehpgefcnjgaaRunN5
import Derived.Test.YtfnehpgefcnjgaaRunN5b
import Derived.Test.YtfnehpgefcnjgaaRunN5c
import Derived.Test.YtfnehpgefcnjgaaRunN6
import Derived.Test.YtfnehpgefcnjgaaRunN6b
import Derived.Test.YtfnehpgefcnjgaaRunN6c
import Derived.Test.YtfnehpgefcnjgaaRunN7
import Derived.Test.YtfnehpgefcnjgaaRunN7b
import Derived.Test.YtfnehpgefcnjgaaRunN7c
import Derived.Test.YtfnehpgefcnjgaaRunN8
import Derived.Test.YtfnehpgefcnjgaaRunN8b
import Derived.Test.YtfnehpgefcnjgaaRunN8c
import Derived.Test.YtfnehpgefcnjgaaRunN9
import Derived.Test.YtfnehpgefcnjgaaRunN9b
import Derived.Test.YtfnehpgefcnjgaaRunN9c
import Derived.Test.YtfnehpgefcnjgaaRunN10
import Derived.Test.YtfnehpgefcnjgaaRunN10b
import Derived.Test.YtfnehpgefcnjgaaRunN10c
import Derived.Test.YtfnehpgefcnjgaaRunN11
import Derived.Test.YtfnehpgefcnjgaaRunN11b
import Derived.Test.YtfnehpgefcnjgaaRunN11c
import Derived.Test.YtfnehpgefcnjgaaRunN12
import Derived.Test.YtfnehpgefcnjgaaRunN12b
import Derived.Test.YtfnehpgefcnjgaaRunN12c
import Derived.Test.YtfnehpgefcnjgaaRunN13
import Derived.Test.YtfnehpgefcnjgaaRunN13b
import Derived.WalkKit
import Derived.WalkSpells
import Derived.WalkLawsBesides
import Derived.ChangeShapes
import Derived.ProofKit
import Derived.OpenShut
import Derived.Below
namespace Go.Proofs.Ytfnehpgefcnjgaa
open Go.ChangeShapes Go.WideShapes Go.ChangeAt Go.RowKit
namespace layoutNests

theorem runs1 : ∀ k : Nat, k ≤ 1 → X.callN X.funs2 100000 .l X.p4 [.int .i64 (.ofNat 1), .int .i64 (.ofNat k)] .l .e X.isT = True
  | 0, _ => X.nests1x0
  | 1, _ => X.nests1x1
  | k + 2, h => by omega

theorem runs2 : ∀ k : Nat, k ≤ 2 → X.callN X.funs2 100000 .l X.p4 [.int .i64 (.ofNat 2), .int .i64 (.ofNat k)] .l .e X.isT = True
  | 0, _ => X.nests2x0
  | 1, _ => X.nests2x1
  | 2, _ => X.nests2x2
  | k + 3, h => by omega

theorem runs3 : ∀ k : Nat, k ≤ 3 → X.callN X.funs2 100000 .l X.p4 [.int .i64 (.ofNat 3), .int .i64 (.ofNat k)] .l .e X.isT = True
  | 0, _ => X.nests3x0
  | 1, _ => X.nests3x1
  | 2, _ => X.nests3x2
  | 3, _ => X.nests3x3
  | k + 4, h => by omega

theorem runs4 : ∀ k : Nat, k ≤ 4 → X.callN X.funs2 100000 .l X.p4 [.int .i64 (.ofNat 4), .int .i64 (.ofNat k)] .l .e X.isT = True
  | 0, _ => X.nests4x0
  | 1, _ => X.nests4x1
  | 2, _ => X.nests4x2
  | 3, _ => X.nests4x3
  | 4, _ => X.nests4x4
  | k + 5, h => by omega

theorem runs5 : ∀ k : Nat, k ≤ 5 → X.callN X.funs2 100000 .l X.p4 [.int .i64 (.ofNat 5), .int .i64 (.ofNat k)] .l .e X.isT = True
  | 0, _ => X.nests5x0
  | 1, _ => X.nests5x1
  | 2, _ => X.nests5x2
  | 3, _ => X.nests5x3
  | 4, _ => X.nests5x4
  | 5, _ => X.nests5x5
  | k + 6, h => by omega

theorem runs6 : ∀ k : Nat, k ≤ 6 → X.callN X.funs2 100000 .l X.p4 [.int .i64 (.ofNat 6), .int .i64 (.ofNat k)] .l .e X.isT = True
  | 0, _ => X.nests6x0
  | 1, _ => X.nests6x1
  | 2, _ => X.nests6x2
  | 3, _ => X.nests6x3
  | 4, _ => X.nests6x4
  | 5, _ => X.nests6x5
  | 6, _ => X.nests6x6
  | k + 7, h => by omega

theorem runs7 : ∀ k : Nat, k ≤ 7 → X.callN X.funs2 100000 .l X.p4 [.int .i64 (.ofNat 7), .int .i64 (.ofNat k)] .l .e X.isT = True
  | 0, _ => X.nests7x0
  | 1, _ => X.nests7x1
  | 2, _ => X.nests7x2
  | 3, _ => X.nests7x3
  | 4, _ => X.nests7x4
  | 5, _ => X.nests7x5
  | 6, _ => X.nests7x6
  | 7, _ => X.nests7x7
  | k + 8, h => by omega

theorem runs8 : ∀ k : Nat, k ≤ 8 → X.callN X.funs2 100000 .l X.p4 [.int .i64 (.ofNat 8), .int .i64 (.ofNat k)] .l .e X.isT = True
  | 0, _ => X.nests8x0
  | 1, _ => X.nests8x1
  | 2, _ => X.nests8x2
  | 3, _ => X.nests8x3
  | 4, _ => X.nests8x4
  | 5, _ => X.nests8x5
  | 6, _ => X.nests8x6
  | 7, _ => X.nests8x7
  | 8, _ => X.nests8x8
  | k + 9, h => by omega

theorem runs9 : ∀ k : Nat, k ≤ 9 → X.callN X.funs2 100000 .l X.p4 [.int .i64 (.ofNat 9), .int .i64 (.ofNat k)] .l .e X.isT = True
  | 0, _ => X.nests9x0
  | 1, _ => X.nests9x1
  | 2, _ => X.nests9x2
  | 3, _ => X.nests9x3
  | 4, _ => X.nests9x4
  | 5, _ => X.nests9x5
  | 6, _ => X.nests9x6
  | 7, _ => X.nests9x7
  | 8, _ => X.nests9x8
  | 9, _ => X.nests9x9
  | k + 10, h => by omega

theorem runs10 : ∀ k : Nat, k ≤ 10 → X.callN X.funs2 100000 .l X.p4 [.int .i64 (.ofNat 10), .int .i64 (.ofNat k)] .l .e X.isT = True
  | 0, _ => X.nests10x0
  | 1, _ => X.nests10x1
  | 2, _ => X.nests10x2
  | 3, _ => X.nests10x3
  | 4, _ => X.nests10x4
  | 5, _ => X.nests10x5
  | 6, _ => X.nests10x6
  | 7, _ => X.nests10x7
  | 8, _ => X.nests10x8
  | 9, _ => X.nests10x9
  | 10, _ => X.nests10x10
  | k + 11, h => by omega

theorem runs11 : ∀ k : Nat, k ≤ 11 → X.callN X.funs2 100000 .l X.p4 [.int .i64 (.ofNat 11), .int .i64 (.ofNat k)] .l .e X.isT = True
  | 0, _ => X.nests11x0
  | 1, _ => X.nests11x1
  | 2, _ => X.nests11x2
  | 3, _ => X.nests11x3
  | 4, _ => X.nests11x4
  | 5, _ => X.nests11x5
  | 6, _ => X.nests11x6
  | 7, _ => X.nests11x7
  | 8, _ => X.nests11x8
  | 9, _ => X.nests11x9
  | 10, _ => X.nests11x10
  | 11, _ => X.nests11x11
  | k + 12, h => by omega

theorem runs12 : ∀ k : Nat, k ≤ 12 → X.callN X.funs2 100000 .l X.p4 [.int .i64 (.ofNat 12), .int .i64 (.ofNat k)] .l .e X.isT = True
  | 0, _ => X.nests12x0
  | 1, _ => X.nests12x1
  | 2, _ => X.nests12x2
  | 3, _ => X.nests12x3
  | 4, _ => X.nests12x4
  | 5, _ => X.nests12x5
  | 6, _ => X.nests12x6
  | 7, _ => X.nests12x7
  | 8, _ => X.nests12x8
  | 9, _ => X.nests12x9
  | 10, _ => X.nests12x10
  | 11, _ => X.nests12x11
  | 12, _ => X.nests12x12
  | k + 13, h => by omega

theorem runs13 : ∀ k : Nat, k ≤ 13 → X.callN X.funs2 100000 .l X.p4 [.int .i64 (.ofNat 13), .int .i64 (.ofNat k)] .l .e X.isT = True
  | 0, _ => X.nests13x0
  | 1, _ => X.nests13x1
  | 2, _ => X.nests13x2
  | 3, _ => X.nests13x3
  | 4, _ => X.nests13x4
  | 5, _ => X.nests13x5
  | 6, _ => X.nests13x6
  | 7, _ => X.nests13x7
  | 8, _ => X.nests13x8
  | 9, _ => X.nests13x9
  | 10, _ => X.nests13x10
  | 11, _ => X.nests13x11
  | 12, _ => X.nests13x12
  | 13, _ => X.nests13x13
  | k + 14, h => by omega

theorem runs14 : ∀ k : Nat, k ≤ 14 → X.callN X.funs2 100000 .l X.p4 [.int .i64 (.ofNat 14), .int .i64 (.ofNat k)] .l .e X.isT = True
  | 0, _ => X.nests14x0
  | 1, _ => X.nests14x1
  | 2, _ => X.nests14x2
  | 3, _ => X.nests14x3
  | 4, _ => X.nests14x4
  | 5, _ => X.nests14x5
  | 6, _ => X.nests14x6
  | 7, _ => X.nests14x7
  | 8, _ => X.nests14x8
  | 9, _ => X.nests14x9
  | 10, _ => X.nests14x10
  | 11, _ => X.nests14x11
  | 12, _ => X.nests14x12
  | 13, _ => X.nests14x13
  | 14, _ => X.nests14x14
  | k + 15, h => by omega

theorem runs15 : ∀ k : Nat, k ≤ 15 → X.callN X.funs2 100000 .l X.p4 [.int .i64 (.ofNat 15), .int .i64 (.ofNat k)] .l .e X.isT = True
  | 0, _ => X.nests15x0
  | 1, _ => X.nests15x1
  | 2, _ => X.nests15x2
  | 3, _ => X.nests15x3
  | 4, _ => X.nests15x4
  | 5, _ => X.nests15x5
  | 6, _ => X.nests15x6
  | 7, _ => X.nests15x7
  | 8, _ => X.nests15x8
  | 9, _ => X.nests15x9
  | 10, _ => X.nests15x10
  | 11, _ => X.nests15x11
  | 12, _ => X.nests15x12
  | 13, _ => X.nests15x13
  | 14, _ => X.nests15x14
  | 15, _ => X.nests15x15
  | k + 16, h => by omega

theorem runs16 : ∀ k : Nat, k ≤ 16 → X.callN X.funs2 100000 .l X.p4 [.int .i64 (.ofNat 16), .int .i64 (.ofNat k)] .l .e X.isT = True
  | 0, _ => X.nests16x0
  | 1, _ => X.nests16x1
  | 2, _ => X.nests16x2
  | 3, _ => X.nests16x3
  | 4, _ => X.nests16x4
  | 5, _ => X.nests16x5
  | 6, _ => X.nests16x6
  | 7, _ => X.nests16x7
  | 8, _ => X.nests16x8
  | 9, _ => X.nests16x9
  | 10, _ => X.nests16x10
  | 11, _ => X.nests16x11
  | 12, _ => X.nests16x12
  | 13, _ => X.nests16x13
  | 14, _ => X.nests16x14
  | 15, _ => X.nests16x15
  | 16, _ => X.nests16x16
  | k + 17, h => by omega

theorem runs17 : ∀ k : Nat, k ≤ 17 → X.callN X.funs2 100000 .l X.p4 [.int .i64 (.ofNat 17), .int .i64 (.ofNat k)] .l .e X.isT = True
  | 0, _ => X.nests17x0
  | 1, _ => X.nests17x1
  | 2, _ => X.nests17x2
  | 3, _ => X.nests17x3
  | 4, _ => X.nests17x4
  | 5, _ => X.nests17x5
  | 6, _ => X.nests17x6
  | 7, _ => X.nests17x7
  | 8, _ => X.nests17x8
  | 9, _ => X.nests17x9
  | 10, _ => X.nests17x10
  | 11, _ => X.nests17x11
  | 12, _ => X.nests17x12
  | 13, _ => X.nests17x13
  | 14, _ => X.nests17x14
  | 15, _ => X.nests17x15
  | 16, _ => X.nests17x16
  | 17, _ => X.nests17x17
  | k + 18, h => by omega

theorem runs18 : ∀ k : Nat, k ≤ 18 → X.callN X.funs2 100000 .l X.p4 [.int .i64 (.ofNat 18), .int .i64 (.ofNat k)] .l .e X.isT = True
  | 0, _ => X.nests18x0
  | 1, _ => X.nests18x1
  | 2, _ => X.nests18x2
  | 3, _ => X.nests18x3
  | 4, _ => X.nests18x4
  | 5, _ => X.nests18x5
  | 6, _ => X.nests18x6
  | 7, _ => X.nests18x7
  | 8, _ => X.nests18x8
  | 9, _ => X.nests18x9
  | 10, _ => X.nests18x10
  | 11, _ => X.nests18x11
  | 12, _ => X.nests18x12
  | 13, _ => X.nests18x13
  | 14, _ => X.nests18x14
  | 15, _ => X.nests18x15
  | 16, _ => X.nests18x16
  | 17, _ => X.nests18x17
  | 18, _ => X.nests18x18
  | k + 19, h => by omega

theorem runs19 : ∀ k : Nat, k ≤ 19 → X.callN X.funs2 100000 .l X.p4 [.int .i64 (.ofNat 19), .int .i64 (.ofNat k)] .l .e X.isT = True
  | 0, _ => X.nests19x0
  | 1, _ => X.nests19x1
  | 2, _ => X.nests19x2
  | 3, _ => X.nests19x3
  | 4, _ => X.nests19x4
  | 5, _ => X.nests19x5
  | 6, _ => X.nests19x6
  | 7, _ => X.nests19x7
  | 8, _ => X.nests19x8
  | 9, _ => X.nests19x9
  | 10, _ => X.nests19x10
  | 11, _ => X.nests19x11
  | 12, _ => X.nests19x12
  | 13, _ => X.nests19x13
  | 14, _ => X.nests19x14
  | 15, _ => X.nests19x15
  | 16, _ => X.nests19x16
  | 17, _ => X.nests19x17
  | 18, _ => X.nests19x18
  | 19, _ => X.nests19x19
  | k + 20, h => by omega

theorem runs20 : ∀ k : Nat, k ≤ 20 → X.callN X.funs2 100000 .l X.p4 [.int .i64 (.ofNat 20), .int .i64 (.ofNat k)] .l .e X.isT = True
  | 0, _ => X.nests20x0
  | 1, _ => X.nests20x1
  | 2, _ => X.nests20x2
  | 3, _ => X.nests20x3
  | 4, _ => X.nests20x4
  | 5, _ => X.nests20x5
  | 6, _ => X.nests20x6
  | 7, _ => X.nests20x7
  | 8, _ => X.nests20x8
  | 9, _ => X.nests20x9
  | 10, _ => X.nests20x10
  | 11, _ => X.nests20x11
  | 12, _ => X.nests20x12
  | 13, _ => X.nests20x13
  | 14, _ => X.nests20x14
  | 15, _ => X.nests20x15
  | 16, _ => X.nests20x16
  | 17, _ => X.nests20x17
  | 18, _ => X.nests20x18
  | 19, _ => X.nests20x19
  | 20, _ => X.nests20x20
  | k + 21, h => by omega

theorem runs : ∀ n k : Nat, 1 ≤ n → n ≤ 20 → k ≤ n → X.callN X.funs2 100000 .l X.p4 [.int .i64 (.ofNat n), .int .i64 (.ofNat k)] .l .e X.isT = True
  | 0, _, h, _, _ => by omega
  | 1, k, _, _, h => runs1 k (by omega)
  | 2, k, _, _, h => runs2 k (by omega)
  | 3, k, _, _, h => runs3 k (by omega)
  | 4, k, _, _, h => runs4 k (by omega)
  | 5, k, _, _, h => runs5 k (by omega)
  | 6, k, _, _, h => runs6 k (by omega)
  | 7, k, _, _, h => runs7 k (by omega)
  | 8, k, _, _, h => runs8 k (by omega)
  | 9, k, _, _, h => runs9 k (by omega)
  | 10, k, _, _, h => runs10 k (by omega)
  | 11, k, _, _, h => runs11 k (by omega)
  | 12, k, _, _, h => runs12 k (by omega)
  | 13, k, _, _, h => runs13 k (by omega)
  | 14, k, _, _, h => runs14 k (by omega)
  | 15, k, _, _, h => runs15 k (by omega)
  | 16, k, _, _, h => runs16 k (by omega)
  | 17, k, _, _, h => runs17 k (by omega)
  | 18, k, _, _, h => runs18 k (by omega)
  | 19, k, _, _, h => runs19 k (by omega)
  | 20, k, _, _, h => runs20 k (by omega)
  | n + 21, _, _, h, _ => by omega

theorem walk_in (n k : Nat) (h1 : 1 ≤ n) (h2 : n ≤ 20) (h3 : k ≤ n) (w : World) : Calls Try.prog 4 #[.int .i64 (Int.ofNat n), .int .i64 (Int.ofNat k)] w fun e w' => e = .returned (.bool true) ∧ RowKit.Below w.heap.size w w' :=
  X.true_of_run (p := X.p4) X.funs2_ok w #[.int .i64 (Int.ofNat n), .int .i64 (Int.ofNat k)] ⟨fun _ => by simp [X.concL, X.conc], fun _ => by simp [X.okL, X.okV]⟩ (runs n k h1 h2 h3)

set_option maxRecDepth 100000 in
set_option maxHeartbeats 2000000 in
theorem walk (n k : Int) (w : World) : Calls Try.prog 4 #[.int .i64 n, .int .i64 k] w fun e w' => e = .returned (.bool true) ∧ RowKit.Below w.heap.size w w' := by
  by_cases h : 1 ≤ n ∧ n ≤ 20 ∧ 0 ≤ k ∧ k ≤ n
  · obtain ⟨m, rfl⟩ := Int.eq_ofNat_of_zero_le (show 0 ≤ n by omega)
    obtain ⟨j, rfl⟩ := Int.eq_ofNat_of_zero_le h.2.2.1
    exact walk_in m j (by have := h.1; omega) (by have := h.2.1; omega) (by have := h.2.2.2; omega) w
  · rcases (show n < 1 ∨ (1 ≤ n ∧ 20 < n) ∨ (1 ≤ n ∧ n ≤ 20 ∧ k < 0) ∨ (1 ≤ n ∧ n ≤ 20 ∧ 0 ≤ k ∧ n < k) by omega) with h1 | ⟨h1, h2⟩ | ⟨h1, h2, h3⟩ | ⟨h1, h2, h3, h4⟩
    all_goals
      clear h
      go_enter Try.func4, Try.ntmps4
      go_wp2_with (go_at_call 6; refine (X.alive13_any w).mono ?_; rintro e w1 ⟨rfl, hb1⟩)
      go_ret
      exact ⟨rfl, hb1⟩

theorem own : ownKnob Try.prog.godebug = none := by kernel_rfl

set_option maxRecDepth 100000 in
theorem lifted (os : Os) (started : os.Started) (H : Type) (enc : TypeId × Value → H) :
    ReturnsInHanded {} Try.checked os 4 .any (Rows.layoutNestsSpec.pre6 enc Try.prog Try.f4 Rows.layoutNestsRow.domain false) (Rows.layoutNestsSpec.post enc Try.prog Try.f4 false true false false) := by
  refine returnsInHanded_of_change (C := Try.checked) own started (by kernel_rfl) Try.func4
    (ChangeSpec.witness6 (enc := enc) (C := Try.checked) false ⟨#[], #[.int .i64 0, .int .i64 0], []⟩ 8 (by kernel_rfl) (by kernel_rfl) (by kernel_rfl) (by kernel_rfl)) ?_
  intro W base args ds gs before hval0 hW hcnd _
  have hval : ∀ (j : Nat) t v, Try.f4.params[j]? = some t → args[j]? = some v → Value.okWide Try.prog W .any base t v := hval0
  have hW' := hW
  obtain ⟨p, q, hA0, hV, rfl, hfz, hnd⟩ := hW
  have hA : DataW.TrodAll enc Try.prog W 0 (fun _ => true) true Try.f4.params.toList args.toList ds p := hA0
  rw [Try.params4] at hA hval
  obtain ⟨v0, v1, d0, d1, p0, p1, rfl, rfl, rfl, h0, h1⟩ := trodAll_two hA
  obtain ⟨rfl, rfl⟩ := trodVars_none hV
  obtain ⟨a0, rfl, rfl, rfl, w0⟩ := open_int Try.underlying3 (hval 0 3 v0 rfl rfl) h0
  obtain ⟨a1, rfl, rfl, rfl, w1⟩ := open_int Try.underlying3 (hval 1 3 v1 rfl rfl) h1
  clear hA0 hval0
  simp only [List.append_nil] at hW'
  refine (walk a0 a1 W).mono fun e W' ⟨he, bel⟩ => ?_
  subst he
  exact ⟨_, rfl, _, _, _, [], [], [], hW', trodAll_mk1 (shut_bool Try.underlying4 _), trodAll_mk2 (shut_int Try.underlying3 w0) (shut_int Try.underlying3 w1), rfl, bel.frame _, fun h => by cases h⟩

theorem over : Rows.layoutNestsRow.holds Try.pinned (OpenSpec.ofChange Rows.layoutNestsSpec) :=
  OpenClaim.holds_of_wide 4 Try.f4 rfl rfl rfl rfl rfl rfl rfl ⟨rfl, rfl, rfl, rfl, rfl⟩ rfl rfl rfl rfl rfl (by kernel_rfl) Try.func4 (by kernel_rfl)
    (of_decide_eq_true (by kernel_rfl)) (by unfold Func.isWrapper; first | (rw [if_pos (by decide +kernel)]; kernel_rfl) | (rw [if_neg (by decide +kernel)]; exact ⟨rfl, rfl⟩))
    (fun os started H enc _ => lifted os started H enc)

end layoutNests

theorem layoutNests_holds : Rows.LayoutNestsSaid := layoutNests.over
#print axioms layoutNests_holds
end Go.Proofs.Ytfnehpgefcnjgaa
