/- For every n: LayoutForms answers true, and leaves its argument as it was; no condition. -/
import Derived.Test.YthkbakfhhmmjaaaRows
import Derived.Test.YthkbakfhhmmjaaaRunF0
import Derived.Test.YthkbakfhhmmjaaaRunF1
import Derived.Test.YthkbakfhhmmjaaaRunF2
import Derived.Test.YthkbakfhhmmjaaaRunF3
import Derived.WalkKit
import Derived.WalkSpells
import Derived.WalkLawsBesides
import Derived.ChangeShapes
import Derived.ProofKit
import Derived.OpenShut
import Derived.Below
namespace Go.Proofs.Ythkbakfhhmmjaaa
open Go.ChangeShapes Go.WideShapes Go.ChangeAt Go.RowKit
namespace layoutForms

theorem runs : ∀ m : Nat, m ≤ 21 → X.callN X.funs2 100000 .l X.p5 [.int .i64 (.ofNat m)] .l .e X.isT = True
  | 0, _ => X.forms0
  | 1, _ => X.forms1
  | 2, _ => X.forms2
  | 3, _ => X.forms3
  | 4, _ => X.forms4
  | 5, _ => X.forms5
  | 6, _ => X.forms6
  | 7, _ => X.forms7
  | 8, _ => X.forms8
  | 9, _ => X.forms9
  | 10, _ => X.forms10
  | 11, _ => X.forms11
  | 12, _ => X.forms12
  | 13, _ => X.forms13
  | 14, _ => X.forms14
  | 15, _ => X.forms15
  | 16, _ => X.forms16
  | 17, _ => X.forms17
  | 18, _ => X.forms18
  | 19, _ => X.forms19
  | 20, _ => X.forms20
  | 21, _ => X.forms21
  | m + 22, h => by omega

theorem walk_in (m : Nat) (hm : m ≤ 21) (w : World) : Calls Try.prog 5 #[.int .i64 (Int.ofNat m)] w fun e w' => e = .returned (.bool true) ∧ RowKit.Below w.heap.size w w' :=
  X.true_of_run (p := X.p5) X.funs2_ok w #[.int .i64 (Int.ofNat m)] ⟨fun _ => by simp [X.concL, X.conc], fun _ => by simp [X.okL, X.okV]⟩ (runs m hm)

set_option maxRecDepth 100000 in
set_option maxHeartbeats 2000000 in
theorem walk (n : Int) (w : World) : Calls Try.prog 5 #[.int .i64 n] w fun e w' => e = .returned (.bool true) ∧ RowKit.Below w.heap.size w w' := by
  by_cases h : 0 ≤ n ∧ n ≤ 21
  · obtain ⟨m, rfl⟩ := Int.eq_ofNat_of_zero_le h.1
    exact walk_in m (by have := h.2; omega) w
  · rcases (show n < 0 ∨ (0 ≤ n ∧ 21 < n) by omega) with h1 | ⟨h1, h2⟩
    all_goals
      clear h
      go_enter Try.func5, Try.ntmps5
      go_wp2_with (go_at_call 6; refine (X.alive13_any w).mono ?_; rintro e w1 ⟨rfl, hb1⟩)
      generalize hW : World.alloc (World.alloc w1 _) _ = W
      have hbW : RowKit.Below w.heap.size w W := by rw [← hW]; exact (hb1.alloc hb1.size _).alloc (by have := hb1.size; simp; omega) _
      clear hW
      go_wp2
      go_ret
      exact ⟨rfl, hbW⟩

theorem own : ownKnob Try.prog.godebug = none := by kernel_rfl

set_option maxRecDepth 100000 in
theorem lifted (os : Os) (started : os.Started) (H : Type) (enc : TypeId × Value → H) :
    ReturnsInHanded {} Try.checked os 5 .any (Rows.layoutFormsSpec.pre6 enc Try.prog Try.f5 Rows.layoutFormsRow.domain false) (Rows.layoutFormsSpec.post enc Try.prog Try.f5 false true false false) := by
  refine returnsInHanded_of_change (C := Try.checked) own started (by kernel_rfl) Try.func5
    (ChangeSpec.witness6 (enc := enc) (C := Try.checked) false ⟨#[], #[.int .i64 0], []⟩ 8 (by kernel_rfl) (by kernel_rfl) (by kernel_rfl) (by kernel_rfl)) ?_
  intro W base args ds gs before hval0 hW hcnd _
  have hval : ∀ (j : Nat) t v, Try.f5.params[j]? = some t → args[j]? = some v → Value.okWide Try.prog W .any base t v := hval0
  have hW' := hW
  obtain ⟨p, q, hA0, hV, rfl, hfz, hnd⟩ := hW
  have hA : DataW.TrodAll enc Try.prog W 0 (fun _ => true) true Try.f5.params.toList args.toList ds p := hA0
  rw [Try.params5] at hA hval
  obtain ⟨v0, d0, rfl, rfl, h0⟩ := trodAll_one hA
  obtain ⟨rfl, rfl⟩ := trodVars_none hV
  obtain ⟨a0, rfl, rfl, rfl, w0⟩ := open_int Try.underlying3 (hval 0 3 v0 rfl rfl) h0
  clear hA0 hval0
  simp only [List.append_nil] at hW'
  refine (walk a0 W).mono fun e W' ⟨he, bel⟩ => ?_
  subst he
  exact ⟨_, rfl, _, _, _, [], [], [], hW', trodAll_mk1 (shut_bool Try.underlying4 _), trodAll_mk1 (shut_int Try.underlying3 w0), rfl, bel.frame _, fun h => by cases h⟩

theorem over : Rows.layoutFormsRow.holds Try.pinned (OpenSpec.ofChange Rows.layoutFormsSpec) :=
  OpenClaim.holds_of_wide 5 Try.f5 rfl rfl rfl rfl rfl rfl rfl ⟨rfl, rfl, rfl, rfl, rfl⟩ rfl rfl rfl rfl rfl (by kernel_rfl) Try.func5 (by kernel_rfl)
    (of_decide_eq_true (by kernel_rfl)) (by unfold Func.isWrapper; first | (rw [if_pos (by decide +kernel)]; kernel_rfl) | (rw [if_neg (by decide +kernel)]; exact ⟨rfl, rfl⟩))
    (fun os started H enc _ => lifted os started H enc)

end layoutForms

theorem layoutForms_holds : Rows.LayoutFormsSaid := layoutForms.over
#print axioms layoutForms_holds
end Go.Proofs.Ythkbakfhhmmjaaa
