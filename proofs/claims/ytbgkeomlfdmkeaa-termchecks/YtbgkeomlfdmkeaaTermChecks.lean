/- For every t and name: TermChecks answers true, and leaves its arguments as they were; no condition but the row's own. -/
import Derived.Test.YtbgkeomlfdmkeaaRows
import Derived.Test.YtbgkeomlfdmkeaaSE
import Derived.Test.YtbgkeomlfdmkeaaCB
import Derived.Test.YtbgkeomlfdmkeaaCE
import Derived.Test.YtbgkeomlfdmkeaaBO
import Derived.SizedLaws
import Derived.ProofKit
import Derived.OpenShut
import Derived.Below
namespace Go.Proofs.Ytbgkeomlfdmkeaa
open Go.RowKit Go.Sort
namespace termChecks
open Go.ChangeShapes Go.WideShapes Go.ChangeAt

set_option maxRecDepth 100000 in
set_option maxHeartbeats 16000000 in
theorem walk (t : Tm) (name : ByteArray) (vt : Value) (w : World) (hot : okT t) (hvt : TV w vt t) : Calls Try.prog 3 #[vt, .string name] w fun e w' => e = .returned (.bool true) ∧ RowKit.Below w.heap.size w w' := by
  have HBT := fun (W : World) (g : RowKit.Below w.heap.size w W) => Big_any t vt W hot (hvt.on g)
  have HLENT := fun (hs : smT 1000000 t) (W : World) (g : RowKit.Below w.heap.size w W) => tLent_any W t vt W hs (hvt.on g) (Below.refl _ _)
  obtain ⟨tl, tj, tk, tq, rfl⟩ := hvt.shape
  have HVT := Hid.mk hvt
  clear hvt hot
  generalize t.form = tf at *
  generalize t.n = tn at *
  generalize t.hid = th at *
  generalize t.name = tm at *
  generalize t.levels.length = ti at *
  generalize t.kids.length = tp at *
  obtain ⟨W0, hW0⟩ : ∃ W0, w.alloc (.cells #[.int .i64 tf, .int .i64 tn, .bool th, .string tm, .slice tl ti tj, .slice tk tp tq] 25) = W0 := ⟨_, rfl⟩
  have HB0 : Hid (RowKit.Below w.heap.size w W0) := by unfold Hid; rw [← hW0]; exact ((Grew.refl w).alloc _).below
  have HT0 : Hid (W0.heap[w.heap.size]? = some (.cells #[.int .i64 tf, .int .i64 tn, .bool th, .string tm, .slice tl ti tj, .slice tk tp tq] 25 (0, 0))) := by unfold Hid; rw [← hW0]; exact alloc_new _ _
  have HW0 := Hid.mk hW0
  clear hW0
  have HAL := alive2_any W0
  go_enter Try.func3, Try.ntmps3
  go_wp2_with fail
  rw [HW0.out]
  refine HAL.mono ?_
  rintro e w1 ⟨rfl, hb1⟩
  have HB1 : Hid (RowKit.Below w.heap.size w w1) := HB0.out.trans (hb1.mono HB0.out.size)
  have HT1 := Hid.mk ((hb1.block w.heap.size (heap_lt HT0.out)).trans HT0.out)
  clear hb1 HAL
  obtain ⟨x0, x1, x2, x3, x4, x5, x6⟩ := cells6 HT1.out
  go_wp2_with fail
  refine (HBT _ HB1.out).mono ?_
  rintro e w2 ⟨⟨r2, rfl, hs2⟩, hg2⟩
  have HB2 : Hid (RowKit.Below w.heap.size w w2) := HB1.out.trans (hg2.below.mono HB1.out.size)
  have HT2 := Hid.mk ((hg2.below.block w.heap.size (heap_lt HT1.out)).trans HT1.out)
  clear hg2 x0 x1 x2 x3 x4 x5 x6
  cases r2
  rotate_left
  · go_wp2
    go_ret
    exact ⟨rfl, HB2.out⟩
  have hPt := hs2 rfl
  have HC := HLENT hPt w2 HB2.out
  clear hs2 HLENT HBT
  obtain ⟨x0, x1, x2, x3, x4, x5, x6⟩ := cells6 HT2.out
  go_wp2_with fail
  refine HC.mono ?_
  rintro e w3 ⟨v', rfl, hlt, hb3⟩
  have HLT := Hid.mk hlt
  obtain ⟨u0, u1, u2, u3, r1, r2, r3, s1, s2, s3, rfl⟩ := hlt.shapeE
  have HB23 := Hid.mk hb3
  clear hlt HC hb3 x0 x1 x2 x3 x4 x5 x6
  obtain ⟨w4, hw4⟩ : ∃ w4, w3.alloc (.cells #[.int .i64 u0, .int .i64 u1, .bool u2, .string u3, .slice r1 r2 r3, .slice s1 s2 s3] 25) = w4 := ⟨_, rfl⟩
  have hb34 : RowKit.Below w3.heap.size w3 w4 := by rw [← hw4]; exact (Below.refl _ _).alloc (Nat.le_refl _) _
  have HF4 : Hid (w4.heap[w3.heap.size]? = some (.cells #[.int .i64 u0, .int .i64 u1, .bool u2, .string u3, .slice r1 r2 r3, .slice s1 s2 s3] 25 (0, 0))) := by unfold Hid; rw [← hw4]; exact alloc_new _ _
  have HB24 : Hid (RowKit.Below w2.heap.size w2 w4) := HB23.out.trans (hb34.mono HB23.out.size)
  have HLT4 := Hid.mk (HLT.out.on hb34)
  have HT4 := Hid.mk ((HB24.out.block w.heap.size (heap_lt HT2.out)).trans HT2.out)
  have HCK := Check_any t _ w4 (HLT4.out.tv HB24.out) hPt
  have HW4 := Hid.mk hw4
  clear hw4 hb34
  go_wp2_with fail
  rw [HW4.out]
  refine HCK.mono ?_
  rintro e w5 ⟨rfl, hb45⟩
  have HB25 : Hid (RowKit.Below w2.heap.size w2 w5) := HB24.out.trans (hb45.mono HB24.out.size)
  have HB5 : Hid (RowKit.Below w.heap.size w w5) := HB2.out.trans (HB25.out.mono HB2.out.size)
  have HLT5 := Hid.mk (HLT4.out.on hb45)
  have HT5 := Hid.mk ((hb45.block w.heap.size (heap_lt HT4.out)).trans HT4.out)
  have HF5 := Hid.mk ((hb45.block w3.heap.size (heap_lt HF4.out)).trans HF4.out)
  have HST := Stay_any w2 w2.heap.size t _ _ w5 hPt HLT5.out (HVT.out.on HB5.out)
  clear hb45 HCK
  obtain ⟨x0, x1, x2, x3, x4, x5, x6⟩ := cells6 HT5.out
  obtain ⟨y0, y1, y2, y3, y4, y5, y6⟩ := cells6 HF5.out
  go_wp2_with fail
  refine HST.mono ?_
  rintro e w6 ⟨rfl, hg6⟩
  have HB6 : Hid (RowKit.Below w.heap.size w w6) := HB5.out.trans (hg6.below.mono HB5.out.size)
  have HT6 := Hid.mk ((hg6.below.block w.heap.size (heap_lt HT5.out)).trans HT5.out)
  clear hg6 HST x0 x1 x2 x3 x4 x5 x6 y0 y1 y2 y3 y4 y5 y6
  obtain ⟨x0, x1, x2, x3, x4, x5, x6⟩ := cells6 HT6.out
  have q0 : ∀ p : GrownOf w6, p.world.cell? ⟨w.heap.size, 0, none⟩ = some (.int .i64 tf) := fun p => (p.below.cell (p := ⟨w.heap.size, 0, none⟩) x6).trans x0
  have q1 : ∀ p : GrownOf w6, p.world.cell? ⟨w.heap.size, 1, none⟩ = some (.int .i64 tn) := fun p => (p.below.cell (p := ⟨w.heap.size, 1, none⟩) x6).trans x1
  have q2 : ∀ p : GrownOf w6, p.world.cell? ⟨w.heap.size, 2, none⟩ = some (.bool th) := fun p => (p.below.cell (p := ⟨w.heap.size, 2, none⟩) x6).trans x2
  have q3 : ∀ p : GrownOf w6, p.world.cell? ⟨w.heap.size, 3, none⟩ = some (.string tm) := fun p => (p.below.cell (p := ⟨w.heap.size, 3, none⟩) x6).trans x3
  have q4 : ∀ p : GrownOf w6, p.world.cell? ⟨w.heap.size, 4, none⟩ = some (.slice tl ti tj) := fun p => (p.below.cell (p := ⟨w.heap.size, 4, none⟩) x6).trans x4
  have q5 : ∀ p : GrownOf w6, p.world.cell? ⟨w.heap.size, 5, none⟩ = some (.slice tk tp tq) := fun p => (p.below.cell (p := ⟨w.heap.size, 5, none⟩) x6).trans x5
  have mx := mixed
  have inh : Nonempty (GrownOf w6) := ⟨⟨w6, Below.refl _ _⟩⟩
  have hup : ∀ p : GrownOf w6, TV p.world (.agg #[.int .i64 tf, .int .i64 tn, .bool th, .string tm, .slice tl ti tj, .slice tk tp tq]) t := fun p => HVT.out.on (HB6.out.trans (p.below.mono HB6.out.size))
  have C1 := fun (p : GrownOf w6) => rCheck_any t _ p.world (hup p) hPt
  have C2 := fun (p : GrownOf w6) => Size_any t _ p.world (hup p) hPt
  have C3 := fun (p : GrownOf w6) => rSize_any t _ p.world (hup p) hPt
  have C4 := fun (p : GrownOf w6) => Free_any t _ p.world (hup p) hPt
  have C5 := fun (p : GrownOf w6) => rFree_any t _ p.world (hup p) hPt
  have C6 := fun (p : GrownOf w6) => Has_any t name _ p.world (hup p) hPt
  have C7 := fun (p : GrownOf w6) => rHas_any t name _ p.world (hup p) hPt
  have C0 : ∀ (k : Int) (p : GrownOf w6), Calls Try.prog 14 #[.int .i64 k] p.world fun e w' => e = .returned (.int .i64 k) ∧ RowKit.Below p.world.heap.size p.world w' := fun k p => (num2_any k p.world).mono fun e w' ⟨he, hw⟩ => ⟨he, by rw [hw]; exact Below.refl _ _⟩
  clear hup x0 x1 x2 x3 x4 x5
  generalize checkT t = ck at *
  generalize tsizeR t = sz at *
  generalize tfreeR t = fr at *
  generalize thasB t name = hs at *
  go_wp2_with fail
  refine wp_region_grown_of (by assumption) (by kernel_rfl) ?_
  repeat (go_big_quiet_step (first | with_reducible exact grown_of (C0 _ _) | with_reducible exact grown_of (C1 _) | with_reducible exact grown_of (C2 _) | with_reducible exact grown_of (C3 _) | with_reducible exact grown_of (C4 _) | with_reducible exact grown_of (C5 _) | with_reducible exact grown_of (C6 _) | with_reducible exact grown_of (C7 _)))
  refine wpQuiet_nil ?_
  intro wq hw'
  have hq : RowKit.Below w6.heap.size w6 wq := by obtain ⟨p, rfl⟩ := hw'; exact p.below
  clear hw'
  go_wp2
  go_ret
  exact ⟨rfl, HB6.out.trans (hq.mono HB6.out.size)⟩

theorem ownL : ownKnob Try.prog.godebug = none := by kernel_rfl

theorem all_one {H : Type} {ts : List TypeId} {d0 d1 : DataW H} (h : (DataW.weightsEach Try.prog ([25, 9] ++ ts) ([d0, d1] ++ [])).all (· ≤ reachBytes) = true) : ∀ n ∈ d0.weights Try.prog 25, n ≤ reachBytes := by
  simp only [List.cons_append, List.nil_append, DataW.weightsEach, List.all_append, Bool.and_eq_true, List.all_eq_true, decide_eq_true_eq] at h
  exact h.1

set_option maxRecDepth 100000 in
theorem lifted (os : Os) (started : os.Started) (H : Type) (enc : TypeId × Value → H) :
    ReturnsInHanded {} Try.checked os 3 .any (Rows.termChecksSpec.pre6 enc Try.prog Try.f3 Rows.termChecksRow.domain false) (Rows.termChecksSpec.post enc Try.prog Try.f3 false true false false) := by
  refine returnsInHanded_of_change_sized (C := Try.checked) ownL started (by kernel_rfl) Try.func3
    (ChangeSpec.witness6 (enc := enc) (C := Try.checked) false ⟨#[], #[.agg #[.int .i64 0, .int .i64 0, .bool false, .string { data := #[] }, .slice none 0 0, .slice none 0 0], .string { data := #[] }], []⟩ 8 (by kernel_rfl) (by kernel_rfl) (by kernel_rfl) (by kernel_rfl)) ?_
  intro W base args ds gs before hval0 hW hcnd hwt _
  have hval : ∀ (j : Nat) t v, Try.f3.params[j]? = some t → args[j]? = some v → Value.okWide Try.prog W .any base t v := hval0
  have hW' := hW
  obtain ⟨p, q, hA0, hV, rfl, hfz, hnd⟩ := hW
  have hA : DataW.TrodAll enc Try.prog W 0 (fun _ => true) true Try.f3.params.toList args.toList ds p := hA0
  rw [Try.params3] at hA hval
  obtain ⟨v0, v1, d0, d1, p0, p1, rfl, rfl, rfl, h0, h1⟩ := trodAll_two hA
  obtain ⟨rfl, rfl⟩ := trodVars_none hV
  have hwt' := hwt
  rw [show Try.checked.prog = Try.prog from rfl, Try.params3] at hwt'
  have wt0 := all_one hwt'
  have k0 := h0
  have lt0 : ∀ x ∈ p0, x.block < W.heap.size := by obtain ⟨m, hm⟩ := k0; exact DataW.trod_lt m _ _ _ hm
  obtain ⟨a, hva, hoa⟩ := open_term (hval 0 25 v0 rfl rfl) h0
  have k1 := h1
  have lt1 : ∀ x ∈ p1, x.block < W.heap.size := by obtain ⟨m, hm⟩ := k1; exact DataW.trod_lt m _ _ _ hm
  obtain ⟨nm, rfl, -⟩ := Go.ChangeMaps.open_string Try.underlying9 (hval 1 9 v1 rfl rfl) h1
  clear hA0 hval0
  refine (walk a nm v0 W (hoa wt0) hva).mono fun e W' ⟨he, bel⟩ => ?_
  subst he
  exact ⟨_, rfl, _, _, _, [], _, [], hW', trodAll_mk1 (shut_bool Try.underlying4 _), trodAll_mk2 (Below.trod laidOut (by kernel_rfl) (of_decide_eq_true (by kernel_rfl)) k0 bel lt0) (Below.trod laidOut (by kernel_rfl) (of_decide_eq_true (by kernel_rfl)) k1 bel lt1), rfl, bel.frame _, fun h => by cases h⟩

theorem over : Rows.termChecksRow.holds Try.pinned (OpenSpec.ofChange Rows.termChecksSpec) :=
  OpenClaim.holds_of_wide 3 Try.f3 rfl rfl rfl rfl rfl rfl rfl ⟨rfl, rfl, rfl, rfl, rfl⟩ rfl rfl rfl rfl rfl (by kernel_rfl) Try.func3 (by kernel_rfl)
    (of_decide_eq_true (by kernel_rfl)) (by unfold Func.isWrapper; first | (rw [if_pos (by decide +kernel)]; kernel_rfl) | (rw [if_neg (by decide +kernel)]; exact ⟨rfl, rfl⟩))
    (fun os started H enc _ => lifted os started H enc)

end termChecks

theorem termChecks_holds : Rows.TermChecksSaid := termChecks.over
#print axioms termChecks_holds
end Go.Proofs.Ytbgkeomlfdmkeaa
