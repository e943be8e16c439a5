/- For every n: ReduceTrees answers true, and leaves its argument as it was; no condition. -/
import Derived.Test.YtdafcdioclcebaaGreatRows
import Derived.Test.YtdafcdioclcebaaGreatRunT0
import Derived.Test.YtdafcdioclcebaaGreatRunT1
import Derived.Test.YtdafcdioclcebaaGreatRunT2
import Derived.Test.YtdafcdioclcebaaGreatRunT3
import Derived.ProofKit
import Derived.OpenShut
import Derived.Below
namespace Go.Proofs.YtdafcdioclcebaaGreat
open Go.ChangeShapes Go.WideShapes Go.ChangeAt Go.RowKit Go.Sort
namespace reduceTrees

theorem runs : ∀ m : Nat, m ≤ 12 → X.callN X.funs2 100000 .l X.p5 [.int .i64 (.ofNat m)] .l .e X.isT = True
  | 0, _ => X.trees0
  | 1, _ => X.trees1
  | 2, _ => X.trees2
  | 3, _ => X.trees3
  | 4, _ => X.trees4
  | 5, _ => X.trees5
  | 6, _ => X.trees6
  | 7, _ => X.trees7
  | 8, _ => X.trees8
  | 9, _ => X.trees9
  | 10, _ => X.trees10
  | 11, _ => X.trees11
  | 12, _ => X.trees12
  | m + 13, h => by omega

theorem walk_in (m : Nat) (hm : m ≤ 12) (w : World) : Calls Tryz.prog 5 #[.int .i64 (Int.ofNat m)] w fun e w' => e = .returned (.bool true) ∧ RowKit.Below w.heap.size w w' :=
  X.true_of_run (p := X.p5) X.funs2_ok w #[.int .i64 (Int.ofNat m)] ⟨fun _ => by simp [X.concL, X.conc], fun _ => by simp [X.okL, X.okV]⟩ (runs m hm)

set_option maxRecDepth 100000 in
set_option maxHeartbeats 2000000 in
theorem walk (n : Int) (w : World) : Calls Tryz.prog 5 #[.int .i64 n] w fun e w' => e = .returned (.bool true) ∧ RowKit.Below w.heap.size w w' := by
  by_cases h : 0 ≤ n ∧ n ≤ 12
  · obtain ⟨m, rfl⟩ := Int.eq_ofNat_of_zero_le h.1
    exact walk_in m (by have := h.2; omega) w
  · rcases (show n < 0 ∨ (0 ≤ n ∧ 12 < n) by omega) with h1 | ⟨h1, h2⟩
    all_goals
      clear h
      go_enter Tryz.func5, Tryz.ntmps5
      go_wp2_with (go_at_call 16; refine (X.alive7_any w).mono ?_; rintro e w1 ⟨rfl, hb1⟩)
      go_ret
      exact ⟨rfl, hb1⟩

theorem own : ownKnob Tryz.prog.godebug = none := by kernel_rfl

set_option maxRecDepth 100000 in
theorem lifted (os : Os) (started : os.Started) (H : Type) (enc : TypeId × Value → H) :
    ReturnsInHanded {} Tryz.checked os 5 .any (Rows.reduceTreesSpec.pre6 enc Tryz.prog Tryz.f5 Rows.reduceTreesRow.domain false) (Rows.reduceTreesSpec.post enc Tryz.prog Tryz.f5 false true false false) := by
  refine returnsInHanded_of_change (C := Tryz.checked) own started (by kernel_rfl) Tryz.func5
    (ChangeSpec.witness6 (enc := enc) (C := Tryz.checked) false ⟨#[], #[.int .i64 0], []⟩ 8 (by kernel_rfl) (by kernel_rfl) (by kernel_rfl) (by kernel_rfl)) ?_
  intro W base args ds gs before hval0 hW hcnd _
  have hval : ∀ (j : Nat) t v, Tryz.f5.params[j]? = some t → args[j]? = some v → Value.okWide Tryz.prog W .any base t v := hval0
  have hW' := hW
  obtain ⟨p, q, hA0, hV, rfl, hfz, hnd⟩ := hW
  have hA : DataW.TrodAll enc Tryz.prog W 0 (fun _ => true) true Tryz.f5.params.toList args.toList ds p := hA0
  rw [Tryz.params5] at hA hval
  obtain ⟨v0, d0, rfl, rfl, h0⟩ := trodAll_one hA
  obtain ⟨rfl, rfl⟩ := trodVars_none hV
  obtain ⟨a0, rfl, rfl, rfl, w0⟩ := open_int Tryz.underlying3 (hval 0 3 v0 rfl rfl) h0
  clear hA0 hval0
  simp only [List.append_nil] at hW'
  refine (walk a0 W).mono fun e W' ⟨he, bel⟩ => ?_
  subst he
  exact ⟨_, rfl, _, _, _, [], [], [], hW', trodAll_mk1 (shut_bool Tryz.underlying4 _), trodAll_mk1 (shut_int Tryz.underlying3 w0), rfl, bel.frame _, fun h => by cases h⟩

theorem over : Rows.reduceTreesRow.holds Tryz.pinned (OpenSpec.ofChange Rows.reduceTreesSpec) :=
  OpenClaim.holds_of_wide 5 Tryz.f5 rfl rfl rfl rfl rfl rfl rfl ⟨rfl, rfl, rfl, rfl, rfl⟩ rfl rfl rfl rfl rfl (by kernel_rfl) Tryz.func5 (by kernel_rfl)
    (of_decide_eq_true (by kernel_rfl)) (by unfold Func.isWrapper; first | (rw [if_pos (by decide +kernel)]; kernel_rfl) | (rw [if_neg (by decide +kernel)]; exact ⟨rfl, rfl⟩))
    (fun os started H enc _ => lifted os started H enc)

end reduceTrees

theorem reduceTrees_holds : Rows.ReduceTreesSaid := reduceTrees.over
#print axioms reduceTrees_holds
end Go.Proofs.YtdafcdioclcebaaGreat
