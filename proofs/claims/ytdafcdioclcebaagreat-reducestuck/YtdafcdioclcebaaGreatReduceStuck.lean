/- For every n: ReduceStuck answers true, and leaves its argument as it was; no condition. -/
import Derived.Test.YtdafcdioclcebaaGreatRows
import Derived.Test.YtdafcdioclcebaaGreatRunS0
import Derived.Test.YtdafcdioclcebaaGreatRunS1
import Derived.Test.YtdafcdioclcebaaGreatRunS2
import Derived.Test.YtdafcdioclcebaaGreatRunS3
import Derived.Test.YtdafcdioclcebaaGreatRunS4
import Derived.Test.YtdafcdioclcebaaGreatRunS5
import Derived.Test.YtdafcdioclcebaaGreatRunS6
import Derived.Test.YtdafcdioclcebaaGreatRunS7
import Derived.ProofKit
import Derived.OpenShut
import Derived.Below
namespace Go.Proofs.YtdafcdioclcebaaGreat
open Go.ChangeShapes Go.WideShapes Go.ChangeAt Go.RowKit Go.Sort
namespace reduceStuck

theorem runs : ∀ m : Nat, m ≤ 30 → X.callN X.funs2 100000 .l X.p4 [.int .i64 (.ofNat m)] .l .e X.isT = True
  | 0, _ => X.stuck0
  | 1, _ => X.stuck1
  | 2, _ => X.stuck2
  | 3, _ => X.stuck3
  | 4, _ => X.stuck4
  | 5, _ => X.stuck5
  | 6, _ => X.stuck6
  | 7, _ => X.stuck7
  | 8, _ => X.stuck8
  | 9, _ => X.stuck9
  | 10, _ => X.stuck10
  | 11, _ => X.stuck11
  | 12, _ => X.stuck12
  | 13, _ => X.stuck13
  | 14, _ => X.stuck14
  | 15, _ => X.stuck15
  | 16, _ => X.stuck16
  | 17, _ => X.stuck17
  | 18, _ => X.stuck18
  | 19, _ => X.stuck19
  | 20, _ => X.stuck20
  | 21, _ => X.stuck21
  | 22, _ => X.stuck22
  | 23, _ => X.stuck23
  | 24, _ => X.stuck24
  | 25, _ => X.stuck25
  | 26, _ => X.stuck26
  | 27, _ => X.stuck27
  | 28, _ => X.stuck28
  | 29, _ => X.stuck29
  | 30, _ => X.stuck30
  | m + 31, h => by omega

theorem walk_in (m : Nat) (hm : m ≤ 30) (w : World) : Calls Tryz.prog 4 #[.int .i64 (Int.ofNat m)] w fun e w' => e = .returned (.bool true) ∧ RowKit.Below w.heap.size w w' :=
  X.true_of_run (p := X.p4) X.funs2_ok w #[.int .i64 (Int.ofNat m)] ⟨fun _ => by simp [X.concL, X.conc], fun _ => by simp [X.okL, X.okV]⟩ (runs m hm)

set_option maxRecDepth 100000 in
set_option maxHeartbeats 2000000 in
theorem walk (n : Int) (w : World) : Calls Tryz.prog 4 #[.int .i64 n] w fun e w' => e = .returned (.bool true) ∧ RowKit.Below w.heap.size w w' := by
  by_cases h : 0 ≤ n ∧ n ≤ 30
  · obtain ⟨m, rfl⟩ := Int.eq_ofNat_of_zero_le h.1
    exact walk_in m (by have := h.2; omega) w
  · rcases (show n < 0 ∨ (0 ≤ n ∧ 30 < n) by omega) with h1 | ⟨h1, h2⟩
    all_goals
      clear h
      go_enter Tryz.func4, Tryz.ntmps4
      go_wp2_with (go_at_call 16; refine (X.alive7_any w).mono ?_; rintro e w1 ⟨rfl, hb1⟩)
      go_ret
      exact ⟨rfl, hb1⟩

theorem own : ownKnob Tryz.prog.godebug = none := by kernel_rfl

set_option maxRecDepth 100000 in
theorem lifted (os : Os) (started : os.Started) (H : Type) (enc : TypeId × Value → H) :
    ReturnsInHanded {} Tryz.checked os 4 .any (Rows.reduceStuckSpec.pre6 enc Tryz.prog Tryz.f4 Rows.reduceStuckRow.domain false) (Rows.reduceStuckSpec.post enc Tryz.prog Tryz.f4 false true false false) := by
  refine returnsInHanded_of_change (C := Tryz.checked) own started (by kernel_rfl) Tryz.func4
    (ChangeSpec.witness6 (enc := enc) (C := Tryz.checked) false ⟨#[], #[.int .i64 0], []⟩ 8 (by kernel_rfl) (by kernel_rfl) (by kernel_rfl) (by kernel_rfl)) ?_
  intro W base args ds gs before hval0 hW hcnd _
  have hval : ∀ (j : Nat) t v, Tryz.f4.params[j]? = some t → args[j]? = some v → Value.okWide Tryz.prog W .any base t v := hval0
  have hW' := hW
  obtain ⟨p, q, hA0, hV, rfl, hfz, hnd⟩ := hW
  have hA : DataW.TrodAll enc Tryz.prog W 0 (fun _ => true) true Tryz.f4.params.toList args.toList ds p := hA0
  rw [Tryz.params4] at hA hval
  obtain ⟨v0, d0, rfl, rfl, h0⟩ := trodAll_one hA
  obtain ⟨rfl, rfl⟩ := trodVars_none hV
  obtain ⟨a0, rfl, rfl, rfl, w0⟩ := open_int Tryz.underlying3 (hval 0 3 v0 rfl rfl) h0
  clear hA0 hval0
  simp only [List.append_nil] at hW'
  refine (walk a0 W).mono fun e W' ⟨he, bel⟩ => ?_
  subst he
  exact ⟨_, rfl, _, _, _, [], [], [], hW', trodAll_mk1 (shut_bool Tryz.underlying4 _), trodAll_mk1 (shut_int Tryz.underlying3 w0), rfl, bel.frame _, fun h => by cases h⟩

theorem over : Rows.reduceStuckRow.holds Tryz.pinned (OpenSpec.ofChange Rows.reduceStuckSpec) :=
  OpenClaim.holds_of_wide 4 Tryz.f4 rfl rfl rfl rfl rfl rfl rfl ⟨rfl, rfl, rfl, rfl, rfl⟩ rfl rfl rfl rfl rfl (by kernel_rfl) Tryz.func4 (by kernel_rfl)
    (of_decide_eq_true (by kernel_rfl)) (by unfold Func.isWrapper; first | (rw [if_pos (by decide +kernel)]; kernel_rfl) | (rw [if_neg (by decide +kernel)]; exact ⟨rfl, rfl⟩))
    (fun os started H enc _ => lifted os started H enc)

end reduceStuck

theorem reduceStuck_holds : Rows.ReduceStuckSaid := reduceStuck.over
#print axioms reduceStuck_holds
end Go.Proofs.YtdafcdioclcebaaGreat
