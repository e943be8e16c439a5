/- For every argument: ConvEta answers true, and leaves its arguments as they were; no condition. -/
import Derived.Test.YtlejihhbliodoaaGreatRows
import Derived.Test.YtlejihhbliodoaaGreatRunE0
import Derived.Test.YtlejihhbliodoaaGreatRunE1
import Derived.Test.YtlejihhbliodoaaGreatRunE2
import Derived.Test.YtlejihhbliodoaaGreatRunE3
import Derived.Test.YtlejihhbliodoaaGreatRunE4
import Derived.WalkKit
import Derived.WalkSpells
import Derived.WalkLawsBesides
import Derived.ChangeShapes
import Derived.Carry
import Derived.ProofKit
import Derived.OpenShut
import Derived.Below
namespace Go.Proofs.YtlejihhbliodoaaGreat
open Go.ChangeShapes Go.WideShapes Go.ChangeAt Go.RowKit
namespace convEta

theorem r0x0 : ∀ (other : Bool), X.callN X.funs2 100000 .l X.p3 [.int .i64 (.ofNat 0), .bool false, .bool other] .l .e X.isT = True
  | false => X.eta0x0x0
  | true => X.eta0x0x1

theorem r0x1 : ∀ (other : Bool), X.callN X.funs2 100000 .l X.p3 [.int .i64 (.ofNat 0), .bool true, .bool other] .l .e X.isT = True
  | false => X.eta0x1x0
  | true => X.eta0x1x1

theorem r0 : ∀ (pairs : Bool) (other : Bool), X.callN X.funs2 100000 .l X.p3 [.int .i64 (.ofNat 0), .bool pairs, .bool other] .l .e X.isT = True
  | false, other => r0x0 other
  | true, other => r0x1 other

theorem r1x0 : ∀ (other : Bool), X.callN X.funs2 100000 .l X.p3 [.int .i64 (.ofNat 1), .bool false, .bool other] .l .e X.isT = True
  | false => X.eta1x0x0
  | true => X.eta1x0x1

theorem r1x1 : ∀ (other : Bool), X.callN X.funs2 100000 .l X.p3 [.int .i64 (.ofNat 1), .bool true, .bool other] .l .e X.isT = True
  | false => X.eta1x1x0
  | true => X.eta1x1x1

theorem r1 : ∀ (pairs : Bool) (other : Bool), X.callN X.funs2 100000 .l X.p3 [.int .i64 (.ofNat 1), .bool pairs, .bool other] .l .e X.isT = True
  | false, other => r1x0 other
  | true, other => r1x1 other

theorem r2x0 : ∀ (other : Bool), X.callN X.funs2 100000 .l X.p3 [.int .i64 (.ofNat 2), .bool false, .bool other] .l .e X.isT = True
  | false => X.eta2x0x0
  | true => X.eta2x0x1

theorem r2x1 : ∀ (other : Bool), X.callN X.funs2 100000 .l X.p3 [.int .i64 (.ofNat 2), .bool true, .bool other] .l .e X.isT = True
  | false => X.eta2x1x0
  | true => X.eta2x1x1

theorem r2 : ∀ (pairs : Bool) (other : Bool), X.callN X.funs2 100000 .l X.p3 [.int .i64 (.ofNat 2), .bool pairs, .bool other] .l .e X.isT = True
  | false, other => r2x0 other
  | true, other => r2x1 other

theorem r3x0 : ∀ (other : Bool), X.callN X.funs2 100000 .l X.p3 [.int .i64 (.ofNat 3), .bool false, .bool other] .l .e X.isT = True
  | false => X.eta3x0x0
  | true => X.eta3x0x1

theorem r3x1 : ∀ (other : Bool), X.callN X.funs2 100000 .l X.p3 [.int .i64 (.ofNat 3), .bool true, .bool other] .l .e X.isT = True
  | false => X.eta3x1x0
  | true => X.eta3x1x1

theorem r3 : ∀ (pairs : Bool) (other : Bool), X.callN X.funs2 100000 .l X.p3 [.int .i64 (.ofNat 3), .bool pairs, .bool other] .l .e X.isT = True
  | false, other => r3x0 other
  | true, other => r3x1 other

theorem r4x0 : ∀ (other : Bool), X.callN X.funs2 100000 .l X.p3 [.int .i64 (.ofNat 4), .bool false, .bool other] .l .e X.isT = True
  | false => X.eta4x0x0
  | true => X.eta4x0x1

theorem r4x1 : ∀ (other : Bool), X.callN X.funs2 100000 .l X.p3 [.int .i64 (.ofNat 4), .bool true, .bool other] .l .e X.isT = True
  | false => X.eta4x1x0
  | true => X.eta4x1x1

theorem r4 : ∀ (pairs : Bool) (other : Bool), X.callN X.funs2 100000 .l X.p3 [.int .i64 (.ofNat 4), .bool pairs, .bool other] .l .e X.isT = True
  | false, other => r4x0 other
  | true, other => r4x1 other

theorem r5x0 : ∀ (other : Bool), X.callN X.funs2 100000 .l X.p3 [.int .i64 (.ofNat 5), .bool false, .bool other] .l .e X.isT = True
  | false => X.eta5x0x0
  | true => X.eta5x0x1

theorem r5x1 : ∀ (other : Bool), X.callN X.funs2 100000 .l X.p3 [.int .i64 (.ofNat 5), .bool true, .bool other] .l .e X.isT = True
  | false => X.eta5x1x0
  | true => X.eta5x1x1

theorem r5 : ∀ (pairs : Bool) (other : Bool), X.callN X.funs2 100000 .l X.p3 [.int .i64 (.ofNat 5), .bool pairs, .bool other] .l .e X.isT = True
  | false, other => r5x0 other
  | true, other => r5x1 other

theorem r6x0 : ∀ (other : Bool), X.callN X.funs2 100000 .l X.p3 [.int .i64 (.ofNat 6), .bool false, .bool other] .l .e X.isT = True
  | false => X.eta6x0x0
  | true => X.eta6x0x1

theorem r6x1 : ∀ (other : Bool), X.callN X.funs2 100000 .l X.p3 [.int .i64 (.ofNat 6), .bool true, .bool other] .l .e X.isT = True
  | false => X.eta6x1x0
  | true => X.eta6x1x1

theorem r6 : ∀ (pairs : Bool) (other : Bool), X.callN X.funs2 100000 .l X.p3 [.int .i64 (.ofNat 6), .bool pairs, .bool other] .l .e X.isT = True
  | false, other => r6x0 other
  | true, other => r6x1 other

theorem runs : ∀ (n : Nat) (pairs : Bool) (other : Bool), (0 ≤ n) → (n ≤ 6) → X.callN X.funs2 100000 .l X.p3 [.int .i64 (.ofNat n), .bool pairs, .bool other] .l .e X.isT = True
  | 0, pairs, other, _, _ => r0 pairs other
  | 1, pairs, other, _, _ => r1 pairs other
  | 2, pairs, other, _, _ => r2 pairs other
  | 3, pairs, other, _, _ => r3 pairs other
  | 4, pairs, other, _, _ => r4 pairs other
  | 5, pairs, other, _, _ => r5 pairs other
  | 6, pairs, other, _, _ => r6 pairs other
  | n + 7, pairs, other, _, h => by omega


theorem walk_in (n : Nat) (pairs : Bool) (other : Bool) (ln : 0 ≤ n) (un : n ≤ 6) (w : World) : Calls Tryz.prog 3 #[.int .i64 (Int.ofNat n), .bool pairs, .bool other] w fun e w' => e = .returned (.bool true) ∧ RowKit.Below w.heap.size w w' :=
  X.true_of_run (p := X.p3) X.funs2_ok w #[.int .i64 (Int.ofNat n), .bool pairs, .bool other] ⟨fun _ => by simp [X.concL, X.conc], fun _ => by simp [X.okL, X.okV]⟩ (runs n pairs other ln un)

set_option maxRecDepth 100000 in
set_option maxHeartbeats 2000000 in
theorem walk (n : Int) (pairs : Bool) (other : Bool) (w : World) : Calls Tryz.prog 3 #[.int .i64 n, .bool pairs, .bool other] w fun e w' => e = .returned (.bool true) ∧ RowKit.Below w.heap.size w w' := by
  by_cases h : 0 ≤ n ∧ n ≤ 6
  · have hh := h
    obtain ⟨mn, rfl⟩ := Int.eq_ofNat_of_zero_le (show 0 ≤ n by omega)
    exact walk_in mn pairs other (by omega) (by omega) w
  · rcases (show (n < 0) ∨ ((0 ≤ n ∧ 6 < n)) by omega) with c1 | ⟨c1, c2⟩
    all_goals
      clear h
      go_enter Tryz.func3, Tryz.ntmps3
      go_wp2_with (go_at_call 6; refine (X.alive8_any w).mono ?_; rintro e w1 ⟨rfl, hb1⟩)
      go_ret
      exact ⟨rfl, hb1⟩

theorem own : ownKnob Tryz.prog.godebug = none := by kernel_rfl

set_option maxRecDepth 100000 in
theorem lifted (os : Os) (started : os.Started) (H : Type) (enc : TypeId × Value → H) :
    ReturnsInHanded {} Tryz.checked os 3 .any (Rows.convEtaSpec.pre6 enc Tryz.prog Tryz.f3 Rows.convEtaRow.domain false) (Rows.convEtaSpec.post enc Tryz.prog Tryz.f3 false true false false) := by
  refine returnsInHanded_of_change (C := Tryz.checked) own started (by kernel_rfl) Tryz.func3
    (ChangeSpec.witness6 (enc := enc) (C := Tryz.checked) false ⟨#[], #[.int .i64 0, .bool false, .bool false], []⟩ 8 (by kernel_rfl) (by kernel_rfl) (by kernel_rfl) (by kernel_rfl)) ?_
  intro W base args ds gs before hval0 hW hcnd _
  have hval : ∀ (j : Nat) t v, Tryz.f3.params[j]? = some t → args[j]? = some v → Value.okWide Tryz.prog W .any base t v := hval0
  have hW' := hW
  obtain ⟨p, q, hA0, hV, rfl, hfz, hnd⟩ := hW
  have hA : DataW.TrodAll enc Tryz.prog W 0 (fun _ => true) true Tryz.f3.params.toList args.toList ds p := hA0
  rw [Tryz.params3] at hA hval
  obtain ⟨v0, v1, v2, d0, d1, d2, p0, p1, p2, rfl, rfl, rfl, h0, h1, h2⟩ := trodAll_three hA
  obtain ⟨rfl, rfl⟩ := trodVars_none hV
  obtain ⟨a0, rfl, rfl, rfl, w0⟩ := open_int Tryz.underlying3 (hval 0 3 v0 rfl rfl) h0
  obtain ⟨a1, rfl, rfl, rfl⟩ := open_bool Tryz.underlying4 (hval 1 4 v1 rfl rfl) h1
  obtain ⟨a2, rfl, rfl, rfl⟩ := open_bool Tryz.underlying4 (hval 2 4 v2 rfl rfl) h2
  clear hA0 hval0
  simp only [List.append_nil] at hW'
  refine (walk a0 a1 a2 W).mono fun e W' ⟨he, bel⟩ => ?_
  subst he
  exact ⟨_, rfl, _, _, _, [], [], [], hW', trodAll_mk1 (shut_bool Tryz.underlying4 _), trodAll_mk3 (shut_int Tryz.underlying3 w0) (shut_bool Tryz.underlying4 _) (shut_bool Tryz.underlying4 _), rfl, bel.frame _, fun h => by cases h⟩

theorem over : Rows.convEtaRow.holds Tryz.pinned (OpenSpec.ofChange Rows.convEtaSpec) :=
  OpenClaim.holds_of_wide 3 Tryz.f3 rfl rfl rfl rfl rfl rfl rfl ⟨rfl, rfl, rfl, rfl, rfl⟩ rfl rfl rfl rfl rfl (by kernel_rfl) Tryz.func3 (by kernel_rfl)
    (of_decide_eq_true (by kernel_rfl)) (by unfold Func.isWrapper; first | (rw [if_pos (by decide +kernel)]; kernel_rfl) | (rw [if_neg (by decide +kernel)]; exact ⟨rfl, rfl⟩))
    (fun os started H enc _ => lifted os started H enc)

end convEta

theorem convEta_holds : Rows.ConvEtaSaid := convEta.over
#print axioms convEta_holds
end Go.Proofs.YtlejihhbliodoaaGreat
