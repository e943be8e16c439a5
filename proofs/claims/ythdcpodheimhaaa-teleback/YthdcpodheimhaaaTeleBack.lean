/- For every l, hid and t: TeleBack answers true, and leaves its arguments as they were; no condition but the row's own. -/
import Derived.Test.YthdcpodheimhaaaRows
import Derived.Test.YthdcpodheimhaaaJH
import Derived.SizedLaws
import Derived.ProofKit
import Derived.OpenShut
import Derived.Below
namespace Go.Proofs.Ythdcpodheimhaaa
open Go.RowKit Go.Sort
namespace teleBack
open Go.ChangeShapes Go.WideShapes Go.ChangeAt

theorem ownL : ownKnob Try.prog.godebug = none := by kernel_rfl

theorem all_w {H : Type} {ts : List TypeId} {d0 d1 d2 : DataW H} (h : (DataW.weightsEach Try.prog ([23, 28, 25] ++ ts) ([d0, d1, d2] ++ [])).all (· ≤ reachBytes) = true) : (∀ n ∈ d0.weights Try.prog 23, n ≤ reachBytes) ∧ (∀ n ∈ d2.weights Try.prog 25, n ≤ reachBytes) := by
  simp only [List.cons_append, List.nil_append, DataW.weightsEach, List.all_append, Bool.and_eq_true, List.all_eq_true, decide_eq_true_eq] at h
  exact ⟨h.1, h.2.2.1⟩

set_option maxRecDepth 100000 in
theorem lifted (os : Os) (started : os.Started) (H : Type) (enc : TypeId × Value → H) :
    ReturnsInHanded {} Try.checked os 5 .any (Rows.teleBackSpec.pre6 enc Try.prog Try.f5 Rows.teleBackRow.domain false) (Rows.teleBackSpec.post enc Try.prog Try.f5 false true false false) := by
  refine returnsInHanded_of_change_sized (C := Try.checked) ownL started (by kernel_rfl) Try.func5
    (ChangeSpec.witness6 (enc := enc) (C := Try.checked) false ⟨#[], #[.slice none 0 0, .slice none 0 0, .agg #[.int .i64 0, .int .i64 0, .bool false, .string { data := #[] }, .slice none 0 0, .slice none 0 0]], []⟩ 8 (by kernel_rfl) (by kernel_rfl) (by kernel_rfl) (by kernel_rfl)) ?_
  intro W base args ds gs before hval0 hW hcnd hwt _
  have hval : ∀ (j : Nat) t v, Try.f5.params[j]? = some t → args[j]? = some v → Value.okWide Try.prog W .any base t v := hval0
  have hW' := hW
  obtain ⟨p, q, hA0, hV, rfl, hfz, hnd⟩ := hW
  have hA : DataW.TrodAll enc Try.prog W 0 (fun _ => true) true Try.f5.params.toList args.toList ds p := hA0
  rw [Try.params5] at hA hval
  obtain ⟨v0, v1, v2, d0, d1, d2, p0, p1, p2, rfl, rfl, rfl, h0, h1, h2⟩ := trodAll_three hA
  obtain ⟨rfl, rfl⟩ := trodVars_none hV
  have hwt' := hwt
  rw [show Try.checked.prog = Try.prog from rfl, Try.params5] at hwt'
  obtain ⟨wt0, wt2⟩ := all_w hwt'
  have k0 := h0
  have lt0 : ∀ x ∈ p0, x.block < W.heap.size := by obtain ⟨m, hm⟩ := k0; exact DataW.trod_lt m _ _ _ hm
  obtain ⟨ts, al, cl, rfl, hL, hwl⟩ := open_terms (hval 0 23 v0 rfl rfl) h0
  have k1 := h1
  have lt1 : ∀ x ∈ p1, x.block < W.heap.size := by obtain ⟨m, hm⟩ := k1; exact DataW.trod_lt m _ _ _ hm
  obtain ⟨hs, ah, ch, rfl, hBK⟩ := open_bools1 (hval 1 28 v1 rfl rfl) h1
  have k2 := h2
  have lt2 : ∀ x ∈ p2, x.block < W.heap.size := by obtain ⟨m, hm⟩ := k2; exact DataW.trod_lt m _ _ _ hm
  obtain ⟨a2, hva2, hoa2⟩ := open_term (hval 2 25 v2 rfl rfl) h2
  clear hA0 hval0
  refine (back_law ts hs a2 al ah cl ch v2 W hL (hwl wt0).1 (hwl wt0).2 hBK (hoa2 wt2) hva2).mono fun e W' ⟨he, bel⟩ => ?_
  subst he
  exact ⟨_, rfl, _, _, _, [], _, [], hW', trodAll_mk1 (shut_bool Try.underlying4 _), trodAll_mk3 (Below.trod laidOut (by kernel_rfl) (of_decide_eq_true (by kernel_rfl)) k0 bel lt0) (Below.trod laidOut (by kernel_rfl) (of_decide_eq_true (by kernel_rfl)) k1 bel lt1) (Below.trod laidOut (by kernel_rfl) (of_decide_eq_true (by kernel_rfl)) k2 bel lt2), rfl, bel.frame _, fun h => by cases h⟩

theorem over : Rows.teleBackRow.holds Try.pinned (OpenSpec.ofChange Rows.teleBackSpec) :=
  OpenClaim.holds_of_wide 5 Try.f5 rfl rfl rfl rfl rfl rfl rfl ⟨rfl, rfl, rfl, rfl, rfl⟩ rfl rfl rfl rfl rfl (by kernel_rfl) Try.func5 (by kernel_rfl)
    (of_decide_eq_true (by kernel_rfl)) (by unfold Func.isWrapper; first | (rw [if_pos (by decide +kernel)]; kernel_rfl) | (rw [if_neg (by decide +kernel)]; exact ⟨rfl, rfl⟩))
    (fun os started H enc _ => lifted os started H enc)

end teleBack

theorem teleBack_holds : Rows.TeleBackSaid := teleBack.over
#print axioms teleBack_holds
end Go.Proofs.Ythdcpodheimhaaa
