/- TermSame: for any two terms, term.Same answers what the reference answers, and a term is one with itself just where it is right. Conditions: none but the row's own. -/
import Derived.Test.YtbgkeomlfdmkeaaRows
import Derived.Test.YtbgkeomlfdmkeaaSE
import Derived.Test.YtbgkeomlfdmkeaaSF
import Derived.Test.YtbgkeomlfdmkeaaON
import Derived.SizedLaws
import Derived.ProofKit
import Derived.OpenShut
import Derived.Below
import Derived.Deep.RegionHeld3
namespace Go.Proofs.Ytbgkeomlfdmkeaa
open Go.RowKit Go.Sort
namespace termSame
open Go.ChangeShapes Go.WideShapes Go.ChangeAt

set_option maxRecDepth 100000 in
set_option maxHeartbeats 4000000 in
theorem walk (a b : Tm) (va vb : Value) (w : World) (hoa : okT a) (hob : okT b) (hva : TV w va a) (hvb : TV w vb b) : Calls Try.prog 6 #[va, vb] w fun e w' => e = .returned (.bool true) ∧ RowKit.Below w.heap.size w w' := by
  have HBA := fun (W : World) (g : RowKit.Below w.heap.size w W) => Big_any a va W hoa (hva.on g)
  have HBB := fun (W : World) (g : RowKit.Below w.heap.size w W) => Big_any b vb W hob (hvb.on g)
  have HSC := fun (hsa : smT 1000000 a) (hsb : smT 1000000 b) (W : World) (g : RowKit.Below w.heap.size w W) => Same_any a b va vb W (hva.on g) (hvb.on g) hsa hsb
  have HSR := fun (hsa : smT 1000000 a) (hsb : smT 1000000 b) (W : World) (g : RowKit.Below w.heap.size w W) => rSameT_any a b va vb W (hva.on g) (hvb.on g) hsa hsb
  have HSA := fun (hsa : smT 1000000 a) (W : World) (g : RowKit.Below w.heap.size w W) => Same_any a a va va W (hva.on g) (hva.on g) hsa hsa
  have HCR := fun (hsa : smT 1000000 a) (W : World) (g : RowKit.Below w.heap.size w W) => rCheck_any a va W (hva.on g) hsa
  have HAA : Hid (tsameB a a = decide (checkT a = 0)) := by unfold Hid tsameB; rw [same_refl]; simp
  obtain ⟨la, lc, ka, kc, rfl⟩ := hva.shape
  obtain ⟨la', lc', ka', kc', rfl⟩ := hvb.shape
  clear hva hvb hoa hob
  generalize tsameB a b = S at *
  generalize tsameB a a = S2 at *
  generalize checkT a = C at *
  generalize smT 1000000 a = PA at *
  generalize smT 1000000 b = PB at *
  generalize a.form = f at *
  generalize a.n = n at *
  generalize a.hid = hd at *
  generalize a.name = nm at *
  generalize a.levels.length = l1 at *
  generalize a.kids.length = k1 at *
  generalize b.form = f' at *
  generalize b.n = n' at *
  generalize b.hid = hd' at *
  generalize b.name = nm' at *
  generalize b.levels.length = l1' at *
  generalize b.kids.length = k1' at *
  obtain ⟨W0, hW0⟩ : ∃ W0, (w.alloc (.cells #[.int .i64 f, .int .i64 n, .bool hd, .string nm, .slice la l1 lc, .slice ka k1 kc] 25)).alloc (.cells #[.int .i64 f', .int .i64 n', .bool hd', .string nm', .slice la' l1' lc', .slice ka' k1' kc'] 25) = W0 := ⟨_, rfl⟩
  have HG0 : Hid (RowKit.Below w.heap.size w W0) := by unfold Hid; rw [← hW0]; exact ((Below.refl w.heap.size w).alloc (Nat.le_refl _) _).alloc (by simp) _
  have HX0 : Hid (W0.heap[w.heap.size]? = some (.cells #[.int .i64 f, .int .i64 n, .bool hd, .string nm, .slice la l1 lc, .slice ka k1 kc] 25 (0, 0))) := by unfold Hid; rw [← hW0]; exact box_at
  have HY0 : Hid (W0.heap[w.heap.size + 1]? = some (.cells #[.int .i64 f', .int .i64 n', .bool hd', .string nm', .slice la' l1' lc', .slice ka' k1' kc'] 25 (0, 0))) := by unfold Hid; rw [← hW0]; exact box_at1
  have HW0 := Hid.mk hW0
  clear hW0
  have HAL := alive2_any W0
  go_enter Try.func6, Try.ntmps6
  go_wp2_with fail
  rw [HW0.out]
  refine HAL.mono ?_
  rintro e w1 ⟨rfl, hb1⟩
  have HB1 : Hid (RowKit.Below w.heap.size w w1) := HG0.out.trans (hb1.mono HG0.out.size)
  have HX1 := Hid.mk ((hb1.block w.heap.size (heap_lt HX0.out)).trans HX0.out)
  have HY1 := Hid.mk ((hb1.block (w.heap.size + 1) (heap_lt HY0.out)).trans HY0.out)
  obtain ⟨x0, x1, x2, x3, x4, x5, x6⟩ := cells6 HX1.out
  clear hb1 HAL
  go_wp2_with fail
  refine (HBA _ HB1.out).mono ?_
  rintro e w2 ⟨⟨r1, rfl, hs1⟩, hg2⟩
  have HB2 : Hid (RowKit.Below w.heap.size w w2) := HB1.out.trans (hg2.below.mono HB1.out.size)
  have HX2 := Hid.mk ((hg2.below.block w.heap.size (heap_lt HX1.out)).trans HX1.out)
  have HY2 := Hid.mk ((hg2.below.block (w.heap.size + 1) (heap_lt HY1.out)).trans HY1.out)
  clear hg2 x0 x1 x2 x3 x4 x5 x6
  cases r1
  rotate_left
  · go_wp2
    go_ret
    exact ⟨rfl, HB2.out⟩
  have hPA := hs1 rfl
  obtain ⟨y0, y1, y2, y3, y4, y5, y6⟩ := cells6 HY2.out
  clear hs1
  go_wp2_with fail
  refine (HBB _ HB2.out).mono ?_
  rintro e w3 ⟨⟨r2, rfl, hs2⟩, hg3⟩
  have HB3 : Hid (RowKit.Below w.heap.size w w3) := HB2.out.trans (hg3.below.mono HB2.out.size)
  have HX3 := Hid.mk ((hg3.below.block w.heap.size (heap_lt HX2.out)).trans HX2.out)
  have HY3 := Hid.mk ((hg3.below.block (w.heap.size + 1) (heap_lt HY2.out)).trans HY2.out)
  clear hg3 y0 y1 y2 y3 y4 y5 y6
  cases r2
  rotate_left
  · go_wp2
    go_ret
    exact ⟨rfl, HB3.out⟩
  have hPB := hs2 rfl
  have HS1 := HSC hPA hPB
  have HS2 := HSR hPA hPB
  have HS3 := HSA hPA
  have HS4 := HCR hPA
  clear hs2 HSC HSR HSA HCR HBA HBB
  obtain ⟨x0, x1, x2, x3, x4, x5, x6⟩ := cells6 HX3.out
  obtain ⟨y0, y1, y2, y3, y4, y5, y6⟩ := cells6 HY3.out
  have HCEL : Hid (∀ W : World, RowKit.Below w3.heap.size w3 W → W.cell? ⟨w.heap.size, 0, none⟩ = some (.int .i64 f) ∧ W.cell? ⟨w.heap.size, 1, none⟩ = some (.int .i64 n) ∧ W.cell? ⟨w.heap.size, 2, none⟩ = some (.bool hd) ∧ W.cell? ⟨w.heap.size, 3, none⟩ = some (.string nm) ∧ W.cell? ⟨w.heap.size, 4, none⟩ = some (.slice la l1 lc) ∧ W.cell? ⟨w.heap.size, 5, none⟩ = some (.slice ka k1 kc) ∧ W.cell? ⟨w.heap.size + 1, 0, none⟩ = some (.int .i64 f') ∧ W.cell? ⟨w.heap.size + 1, 1, none⟩ = some (.int .i64 n') ∧ W.cell? ⟨w.heap.size + 1, 2, none⟩ = some (.bool hd') ∧ W.cell? ⟨w.heap.size + 1, 3, none⟩ = some (.string nm') ∧ W.cell? ⟨w.heap.size + 1, 4, none⟩ = some (.slice la' l1' lc') ∧ W.cell? ⟨w.heap.size + 1, 5, none⟩ = some (.slice ka' k1' kc')) := fun W h => ⟨(h.cell (p := ⟨w.heap.size, 0, none⟩) x6).trans x0, (h.cell (p := ⟨w.heap.size, 1, none⟩) x6).trans x1, (h.cell (p := ⟨w.heap.size, 2, none⟩) x6).trans x2, (h.cell (p := ⟨w.heap.size, 3, none⟩) x6).trans x3, (h.cell (p := ⟨w.heap.size, 4, none⟩) x6).trans x4, (h.cell (p := ⟨w.heap.size, 5, none⟩) x6).trans x5, (h.cell (p := ⟨w.heap.size + 1, 0, none⟩) y6).trans y0, (h.cell (p := ⟨w.heap.size + 1, 1, none⟩) y6).trans y1, (h.cell (p := ⟨w.heap.size + 1, 2, none⟩) y6).trans y2, (h.cell (p := ⟨w.heap.size + 1, 3, none⟩) y6).trans y3, (h.cell (p := ⟨w.heap.size + 1, 4, none⟩) y6).trans y4, (h.cell (p := ⟨w.heap.size + 1, 5, none⟩) y6).trans y5⟩
  have mx := mixed
  have k3 : RowKit.Below w3.heap.size w3 w3.drew := (Below.refl _ _).drew
  have h3 : RowKit.Below w.heap.size w w3.drew := HB3.out.drew
  have hs2 : S2 = (C == 0) := by rw [HAA.out]; rfl
  subst hs2
  go_wp2_with fail
  go_region_held3 (fun w' => w'.cell? ⟨w.heap.size, 0, none⟩ = some (.int .i64 f) ∧ w'.cell? ⟨w.heap.size, 1, none⟩ = some (.int .i64 n) ∧ w'.cell? ⟨w.heap.size, 2, none⟩ = some (.bool hd) ∧ w'.cell? ⟨w.heap.size, 3, none⟩ = some (.string nm) ∧ w'.cell? ⟨w.heap.size, 4, none⟩ = some (.slice la l1 lc) ∧ w'.cell? ⟨w.heap.size, 5, none⟩ = some (.slice ka k1 kc) ∧ w'.cell? ⟨w.heap.size + 1, 0, none⟩ = some (.int .i64 f') ∧ w'.cell? ⟨w.heap.size + 1, 1, none⟩ = some (.int .i64 n') ∧ w'.cell? ⟨w.heap.size + 1, 2, none⟩ = some (.bool hd') ∧ w'.cell? ⟨w.heap.size + 1, 3, none⟩ = some (.string nm') ∧ w'.cell? ⟨w.heap.size + 1, 4, none⟩ = some (.slice la' l1' lc') ∧ w'.cell? ⟨w.heap.size + 1, 5, none⟩ = some (.slice ka' k1' kc')) (first | with_reducible exact HCEL.out _ k8 | with_reducible exact HCEL.out _ k7 | with_reducible exact HCEL.out _ k6 | with_reducible exact HCEL.out _ k5 | exact HCEL.out _ k3)
    (first | (go_at_call 15; refine (HS4 _ h7).mono ?_; rintro e w8 ⟨rfl, gw8⟩; have k8 : RowKit.Below w3.heap.size w3 w8 := k7.trans (gw8.mono k7.size); have h8 : RowKit.Below w.heap.size w w8 := HB3.out.trans (k8.mono HB3.out.size); clear gw8) | (go_at_call 28; refine (HS3 _ h6).mono ?_; rintro e w7 ⟨rfl, gw7⟩; have k7 : RowKit.Below w3.heap.size w3 w7 := k6.trans (gw7.mono k6.size); have h7 : RowKit.Below w.heap.size w w7 := HB3.out.trans (k7.mono HB3.out.size); clear gw7) | (go_at_call 29; refine (HS2 _ h5).mono ?_; rintro e w6 ⟨rfl, gw6⟩; have k6 : RowKit.Below w3.heap.size w3 w6 := k5.trans (gw6.mono k5.size); have h6 : RowKit.Below w.heap.size w w6 := HB3.out.trans (k6.mono HB3.out.size); clear gw6) | (go_at_call 28; refine (HS1 _ h3).mono ?_; rintro e w5 ⟨rfl, gw5⟩; have k5 : RowKit.Below w3.heap.size w3 w5 := k3.trans (gw5.mono k3.size); have h5 : RowKit.Below w.heap.size w w5 := HB3.out.trans (k5.mono HB3.out.size); clear gw5))
  go_wp2
  go_ret
  exact ⟨rfl, h8⟩

theorem ownL : ownKnob Try.prog.godebug = none := by kernel_rfl

theorem all_two {H : Type} {ts : List TypeId} {d0 d1 : DataW H} (h : (DataW.weightsEach Try.prog ([25, 25] ++ ts) ([d0, d1] ++ [])).all (· ≤ reachBytes) = true) : (∀ n ∈ d0.weights Try.prog 25, n ≤ reachBytes) ∧ (∀ n ∈ d1.weights Try.prog 25, n ≤ reachBytes) := by
  simp only [List.cons_append, List.nil_append, DataW.weightsEach, List.all_append, Bool.and_eq_true, List.all_eq_true, decide_eq_true_eq] at h
  exact ⟨h.1, h.2.1⟩

set_option maxRecDepth 100000 in
theorem lifted (os : Os) (started : os.Started) (H : Type) (enc : TypeId × Value → H) :
    ReturnsInHanded {} Try.checked os 6 .any (Rows.termSameSpec.pre6 enc Try.prog Try.f6 Rows.termSameRow.domain false) (Rows.termSameSpec.post enc Try.prog Try.f6 false true false false) := by
  refine returnsInHanded_of_change_sized (C := Try.checked) ownL started (by kernel_rfl) Try.func6
    (ChangeSpec.witness6 (enc := enc) (C := Try.checked) false ⟨#[], #[.agg #[.int .i64 0, .int .i64 0, .bool false, .string { data := #[] }, .slice none 0 0, .slice none 0 0], .agg #[.int .i64 0, .int .i64 0, .bool false, .string { data := #[] }, .slice none 0 0, .slice none 0 0]], []⟩ 8 (by kernel_rfl) (by kernel_rfl) (by kernel_rfl) (by kernel_rfl)) ?_
  intro W base args ds gs before hval0 hW hcnd hwt _
  have hval : ∀ (j : Nat) t v, Try.f6.params[j]? = some t → args[j]? = some v → Value.okWide Try.prog W .any base t v := hval0
  have hW' := hW
  obtain ⟨p, q, hA0, hV, rfl, hfz, hnd⟩ := hW
  have hA : DataW.TrodAll enc Try.prog W 0 (fun _ => true) true Try.f6.params.toList args.toList ds p := hA0
  rw [Try.params6] at hA hval
  obtain ⟨v0, v1, d0, d1, p0, p1, rfl, rfl, rfl, h0, h1⟩ := trodAll_two hA
  obtain ⟨rfl, rfl⟩ := trodVars_none hV
  have hwt' := hwt
  rw [show Try.checked.prog = Try.prog from rfl, Try.params6] at hwt'
  obtain ⟨wt0, wt1⟩ := all_two hwt'
  have k0 := h0
  have lt0 : ∀ x ∈ p0, x.block < W.heap.size := by obtain ⟨m, hm⟩ := k0; exact DataW.trod_lt m _ _ _ hm
  obtain ⟨a, hva, hoa⟩ := open_term (hval 0 25 v0 rfl rfl) h0
  have k1 := h1
  have lt1 : ∀ x ∈ p1, x.block < W.heap.size := by obtain ⟨m, hm⟩ := k1; exact DataW.trod_lt m _ _ _ hm
  obtain ⟨b, hvb, hob⟩ := open_term (hval 1 25 v1 rfl rfl) h1
  clear hA0 hval0
  refine (walk a b v0 v1 W (hoa wt0) (hob wt1) hva hvb).mono fun e W' ⟨he, bel⟩ => ?_
  subst he
  exact ⟨_, rfl, _, _, _, [], _, [], hW', trodAll_mk1 (shut_bool Try.underlying4 _), trodAll_mk2 (Below.trod laidOut (by kernel_rfl) (of_decide_eq_true (by kernel_rfl)) k0 bel lt0) (Below.trod laidOut (by kernel_rfl) (of_decide_eq_true (by kernel_rfl)) k1 bel lt1), rfl, bel.frame _, fun h => by cases h⟩

theorem over : Rows.termSameRow.holds Try.pinned (OpenSpec.ofChange Rows.termSameSpec) :=
  OpenClaim.holds_of_wide 6 Try.f6 rfl rfl rfl rfl rfl rfl rfl ⟨rfl, rfl, rfl, rfl, rfl⟩ rfl rfl rfl rfl rfl (by kernel_rfl) Try.func6 (by kernel_rfl)
    (of_decide_eq_true (by kernel_rfl)) (by unfold Func.isWrapper; first | (rw [if_pos (by decide +kernel)]; kernel_rfl) | (rw [if_neg (by decide +kernel)]; exact ⟨rfl, rfl⟩))
    (fun os started H enc _ => lifted os started H enc)

end termSame

theorem termSame_holds : Rows.TermSameSaid := termSame.over
#print axioms termSame_holds
end Go.Proofs.Ytbgkeomlfdmkeaa
