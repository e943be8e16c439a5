/- For every t: TeleSpine answers true, and leaves its argument as it was; no condition but the row's own. -/
import Derived.Test.YthdcpodheimhaaaRows
import Derived.Test.YthdcpodheimhaaaIF
import Derived.SizedLaws
import Derived.ProofKit
import Derived.OpenShut
import Derived.Below
namespace Go.Proofs.Ythdcpodheimhaaa
open Go.RowKit Go.Sort
namespace teleSpine
open Go.ChangeShapes Go.WideShapes Go.ChangeAt

theorem ownL : ownKnob Try.prog.godebug = none := by kernel_rfl

theorem all_w {H : Type} {ts : List TypeId} {d0 : DataW H} (h : (DataW.weightsEach Try.prog ([25] ++ ts) ([d0] ++ [])).all (· ≤ reachBytes) = true) : (∀ n ∈ d0.weights Try.prog 25, n ≤ reachBytes) := by
  simp only [List.cons_append, List.nil_append, DataW.weightsEach, List.all_append, Bool.and_eq_true, List.all_eq_true, decide_eq_true_eq] at h
  exact h.1

set_option maxRecDepth 100000 in
theorem lifted (os : Os) (started : os.Started) (H : Type) (enc : TypeId × Value → H) :
    ReturnsInHanded {} Try.checked os 4 .any (Rows.teleSpineSpec.pre6 enc Try.prog Try.f4 Rows.teleSpineRow.domain false) (Rows.teleSpineSpec.post enc Try.prog Try.f4 false true false false) := by
  refine returnsInHanded_of_change_sized (C := Try.checked) ownL started (by kernel_rfl) Try.func4
    (ChangeSpec.witness6 (enc := enc) (C := Try.checked) false ⟨#[], #[.agg #[.int .i64 0, .int .i64 0, .bool false, .string { data := #[] }, .slice none 0 0, .slice none 0 0]], []⟩ 8 (by kernel_rfl) (by kernel_rfl) (by kernel_rfl) (by kernel_rfl)) ?_
  intro W base args ds gs before hval0 hW hcnd hwt _
  have hval : ∀ (j : Nat) t v, Try.f4.params[j]? = some t → args[j]? = some v → Value.okWide Try.prog W .any base t v := hval0
  have hW' := hW
  obtain ⟨p, q, hA0, hV, rfl, hfz, hnd⟩ := hW
  have hA : DataW.TrodAll enc Try.prog W 0 (fun _ => true) true Try.f4.params.toList args.toList ds p := hA0
  rw [Try.params4] at hA hval
  obtain ⟨v0, d0, rfl, rfl, h0⟩ := trodAll_one hA
  obtain ⟨p0, rfl⟩ : ∃ p0, p0 = p := ⟨_, rfl⟩
  obtain ⟨rfl, rfl⟩ := trodVars_none hV
  have hwt' := hwt
  rw [show Try.checked.prog = Try.prog from rfl, Try.params4] at hwt'
  have wt0 := all_w hwt'
  have k0 := h0
  have lt0 : ∀ x ∈ p0, x.block < W.heap.size := by obtain ⟨m, hm⟩ := k0; exact DataW.trod_lt m _ _ _ hm
  obtain ⟨a0, hva0, hoa0⟩ := open_term (hval 0 25 v0 rfl rfl) h0
  clear hA0 hval0
  refine (spine_law a0 v0 W (hoa0 wt0) hva0).mono fun e W' ⟨he, bel⟩ => ?_
  subst he
  exact ⟨_, rfl, _, _, _, [], _, [], hW', trodAll_mk1 (shut_bool Try.underlying4 _), trodAll_mk1 (Below.trod laidOut (by kernel_rfl) (of_decide_eq_true (by kernel_rfl)) k0 bel lt0), rfl, bel.frame _, fun h => by cases h⟩

theorem over : Rows.teleSpineRow.holds Try.pinned (OpenSpec.ofChange Rows.teleSpineSpec) :=
  OpenClaim.holds_of_wide 4 Try.f4 rfl rfl rfl rfl rfl rfl rfl ⟨rfl, rfl, rfl, rfl, rfl⟩ rfl rfl rfl rfl rfl (by kernel_rfl) Try.func4 (by kernel_rfl)
    (of_decide_eq_true (by kernel_rfl)) (by unfold Func.isWrapper; first | (rw [if_pos (by decide +kernel)]; kernel_rfl) | (rw [if_neg (by decide +kernel)]; exact ⟨rfl, rfl⟩))
    (fun os started H enc _ => lifted os started H enc)

end teleSpine

theorem teleSpine_holds : Rows.TeleSpineSaid := teleSpine.over
#print axioms teleSpine_holds
end Go.Proofs.Ythdcpodheimhaaa
