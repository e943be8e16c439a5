/- For every t, from and by: TermLifts answers true, and leaves its arguments as they were; no condition but the row's own. -/
import Derived.Test.YtbgkeomlfdmkeaaRows
import Derived.Test.YtbgkeomlfdmkeaaSE
import Derived.Test.YtbgkeomlfdmkeaaCE
import Derived.Test.YtbgkeomlfdmkeaaFI
import Derived.Test.YtbgkeomlfdmkeaaFW
import Derived.Test.YtbgkeomlfdmkeaaON
import Derived.SizedLaws
import Derived.ProofKit
import Derived.OpenShut
import Derived.Below
namespace Go.Proofs.Ytbgkeomlfdmkeaa
open Go.RowKit Go.Sort
namespace termLifts
open Go.ChangeShapes Go.WideShapes Go.ChangeAt

/-- the term and the error of an answer -/
def resT : Except Int Tm → Tm
  | .ok r => r
  | .error _ => .mk 0 0 false { data := #[] } [] []
def resC : Except Int Tm → Int
  | .ok _ => 0
  | .error c => c

theorem ans_to {B : Nat} {e : Ending} {w' : World} {R : Except Int Tm} (h : Ans B e w' R) (hB : B ≤ w'.heap.size) : ∃ v, e = .returned (.tuple #[v, .int .i64 (resC R)]) ∧ TO w' B w'.heap.size v (resT R) := by
  cases R with
  | ok r => exact h
  | error c => exact ⟨zeroV, h, TO.leaf (m := B) (Or.inl ⟨rfl, rfl⟩) (Nat.le_refl _) hB⟩

theorem ansV_tf {B : Nat} {e : Ending} {w' : World} {R : Except Int Tm} (h : AnsV B e w' R) : ∃ v, e = .returned (.tuple #[v, .int .i64 (resC R)]) ∧ ShapeT v ∧ TV w' v (resT R) := by
  cases R with
  | ok r =>
    obtain ⟨v, he, hs, ht⟩ := h
    exact ⟨v, he, hs, ht.tv⟩
  | error c => exact ⟨zeroV, h, ⟨_, _, _, _, _, _, _, _, _, _, rfl⟩, TV.mk (kb := 0) (ko := 0) (ls := []) (ks := []) (Or.inl rfl) (fun _ => rfl) (Nat.le_refl _) (by omega) (fun _ => rfl) (Nat.le_refl _) (by omega) (fun h => absurd rfl h) (fun i t hi => by simp at hi)⟩

theorem res_sm {t : Tm} (h : smT 1000000 t) (fr by_ : Int) : smT 1000000 (resT (liftRes t fr by_)) := by
  have hz : smT 1000000 (.mk 0 0 false { data := #[] } [] []) := (smT_mk _ _ _ _ _ _ _).2 ⟨by decide, by simp, by simp, by simp, by simp⟩
  unfold liftRes
  split
  · exact hz
  · split
    · exact hz
    · split
      · exact smT_lift fr by_ 1000000 t 0 h
      · exact hz

set_option maxRecDepth 100000 in
set_option maxHeartbeats 16000000 in
theorem walk (t : Tm) (fr by_ : Int) (vt : Value) (w : World) (hot : okT t) (hvt : TV w vt t) : Calls Try.prog 4 #[vt, .int .i64 fr, .int .i64 by_] w fun e w' => e = .returned (.bool true) ∧ RowKit.Below w.heap.size w w' := by
  have HBT := fun (W : World) (g : RowKit.Below w.heap.size w W) => Big_any t vt W hot (hvt.on g)
  have HLENT := fun (hs : smT 1000000 t) (W : World) (g : RowKit.Below w.heap.size w W) => tLent_any W t vt W hs (hvt.on g) (Below.refl _ _)
  have HLIFT := fun (hs : smT 1000000 t) (W : World) (g : RowKit.Below w.heap.size w W) => Lift_any t vt 0 1 W (hvt.on g) hs
  have HRL := fun (hs : smT 1000000 t) (W : World) (g : RowKit.Below w.heap.size w W) => rLift_any t vt fr by_ W (hvt.on g) hs
  obtain ⟨tl, tj, tk, tq, rfl⟩ := hvt.shape
  have HVT := Hid.mk hvt
  clear hvt hot
  generalize t.form = tf at *
  generalize t.n = tn at *
  generalize t.hid = th at *
  generalize t.name = tm at *
  generalize t.levels.length = ti at *
  generalize t.kids.length = tp at *
  obtain ⟨W0, hW0⟩ : ∃ W0, w.alloc (.cells #[.int .i64 tf, .int .i64 tn, .bool th, .string tm, .slice tl ti tj, .slice tk tp tq] 25) = W0 := ⟨_, rfl⟩
  have HB0 : Hid (RowKit.Below w.heap.size w W0) := by unfold Hid; rw [← hW0]; exact ((Grew.refl w).alloc _).below
  have HT0 : Hid (W0.heap[w.heap.size]? = some (.cells #[.int .i64 tf, .int .i64 tn, .bool th, .string tm, .slice tl ti tj, .slice tk tp tq] 25 (0, 0))) := by unfold Hid; rw [← hW0]; exact alloc_new _ _
  have HW0 := Hid.mk hW0
  clear hW0
  have HAL := alive2_any W0
  go_enter Try.func4, Try.ntmps4
  go_wp2_with fail
  rw [HW0.out]
  refine HAL.mono ?_
  rintro e w1 ⟨rfl, hb1⟩
  have HB1 : Hid (RowKit.Below w.heap.size w w1) := HB0.out.trans (hb1.mono HB0.out.size)
  have HT1 := Hid.mk ((hb1.block w.heap.size (heap_lt HT0.out)).trans HT0.out)
  clear hb1 HAL
  obtain ⟨x0, x1, x2, x3, x4, x5, x6⟩ := cells6 HT1.out
  go_wp2_with fail
  refine (HBT _ HB1.out).mono ?_
  rintro e w2 ⟨⟨r2, rfl, hs2⟩, hg2⟩
  have HB2 : Hid (RowKit.Below w.heap.size w w2) := HB1.out.trans (hg2.below.mono HB1.out.size)
  have HT2 := Hid.mk ((hg2.below.block w.heap.size (heap_lt HT1.out)).trans HT1.out)
  clear hg2 x0 x1 x2 x3 x4 x5 x6
  cases r2
  rotate_left
  · go_wp2
    go_ret
    exact ⟨rfl, HB2.out⟩
  have hPt := hs2 rfl
  have HC := HLENT hPt w2 HB2.out
  clear hs2 HLENT HBT
  obtain ⟨x0, x1, x2, x3, x4, x5, x6⟩ := cells6 HT2.out
  go_wp2_with fail
  refine HC.mono ?_
  rintro e w3 ⟨v', rfl, hlt, hb3⟩
  have HLT := Hid.mk hlt
  obtain ⟨u0, u1, u2, u3, r1, r2, r3, s1, s2, s3, rfl⟩ := hlt.shapeE
  have HB23 := Hid.mk hb3
  clear hlt HC hb3 x0 x1 x2 x3 x4 x5 x6
  obtain ⟨w4, hw4⟩ : ∃ w4, w3.alloc (.cells #[.int .i64 u0, .int .i64 u1, .bool u2, .string u3, .slice r1 r2 r3, .slice s1 s2 s3] 25) = w4 := ⟨_, rfl⟩
  have hb34 : RowKit.Below w3.heap.size w3 w4 := by rw [← hw4]; exact (Below.refl _ _).alloc (Nat.le_refl _) _
  have HF4 : Hid (w4.heap[w3.heap.size]? = some (.cells #[.int .i64 u0, .int .i64 u1, .bool u2, .string u3, .slice r1 r2 r3, .slice s1 s2 s3] 25 (0, 0))) := by unfold Hid; rw [← hw4]; exact alloc_new _ _
  have HB24 : Hid (RowKit.Below w2.heap.size w2 w4) := HB23.out.trans (hb34.mono HB23.out.size)
  have HB4 : Hid (RowKit.Below w.heap.size w w4) := HB2.out.trans (HB24.out.mono HB2.out.size)
  have HLT4 := Hid.mk (HLT.out.on hb34)
  have HT4 := Hid.mk ((HB24.out.block w.heap.size (heap_lt HT2.out)).trans HT2.out)
  have HCL := Lift_any t _ fr by_ w4 (HLT4.out.tv HB24.out) hPt
  have HSM := res_sm hPt fr by_
  have HSM2 := res_sm hPt 0 1
  have HLI := HLIFT hPt
  have HRI := HRL hPt
  clear HLIFT HRL
  generalize liftRes t fr by_ = R at *
  generalize liftRes t 0 1 = R2 at *
  have HW4 := Hid.mk hw4
  clear hw4 hb34
  go_wp2_with fail
  rw [HW4.out]
  refine HCL.mono ?_
  rintro e w5 ⟨hans, hb45⟩
  obtain ⟨va, rfl, hto⟩ := ans_to hans hb45.size
  obtain ⟨a0, a1, a2, a3, a4, a5, a6, a7, a8, a9, rfl⟩ := hto.shapeE
  have HTA := Hid.mk hto.tv
  have HB45 := Hid.mk hb45
  have HB5 : Hid (RowKit.Below w.heap.size w w5) := HB4.out.trans (hb45.mono HB4.out.size)
  have HT5 := Hid.mk ((hb45.block w.heap.size (heap_lt HT4.out)).trans HT4.out)
  have HF5 := Hid.mk ((hb45.block w3.heap.size (heap_lt HF4.out)).trans HF4.out)
  have HLT5 := Hid.mk (HLT4.out.on hb45)
  clear hans hto hb45 HCL
  obtain ⟨x0, x1, x2, x3, x4, x5, x6⟩ := cells6 HT5.out
  go_wp2_with fail
  obtain ⟨w6, hw6⟩ : ∃ w6, w5.alloc (.cells #[.int .i64 a0, .int .i64 a1, .bool a2, .string a3, .slice a4 a5 a6, .slice a7 a8 a9] 25) = w6 := ⟨_, rfl⟩
  rw [hw6]
  have hb56 : RowKit.Below w5.heap.size w5 w6 := by rw [← hw6]; exact (Below.refl _ _).alloc (Nat.le_refl _) _
  have HA6 : Hid (w6.heap[w5.heap.size]? = some (.cells #[.int .i64 a0, .int .i64 a1, .bool a2, .string a3, .slice a4 a5 a6, .slice a7 a8 a9] 25 (0, 0))) := by unfold Hid; rw [← hw6]; exact alloc_new _ _
  have HB6 : Hid (RowKit.Below w.heap.size w w6) := HB5.out.trans (hb56.mono HB5.out.size)
  have HT6 := Hid.mk ((hb56.block w.heap.size (heap_lt HT5.out)).trans HT5.out)
  have HF6 := Hid.mk ((hb56.block w3.heap.size (heap_lt HF5.out)).trans HF5.out)
  have HLT6 := Hid.mk (HLT5.out.on hb56)
  have HTA6 := Hid.mk (HTA.out.on hb56)
  have HCL2 := HLI w6 HB6.out
  clear hw6 hb56 HLI x0 x1 x2 x3 x4 x5 x6
  refine HCL2.mono ?_
  rintro e w7 ⟨hans, hb67⟩
  obtain ⟨vb, rfl, hto⟩ := ans_to hans hb67.size
  obtain ⟨b0, b1, b2, b3, b4, b5, b6, b7, b8, b9, rfl⟩ := hto.shapeE
  have HTO7 := Hid.mk hto
  have HB67 := Hid.mk hb67
  clear hans hto hb67 HCL2
  go_wp2_with fail
  obtain ⟨w8, hw8⟩ : ∃ w8, w7.alloc (.cells #[.int .i64 b0, .int .i64 b1, .bool b2, .string b3, .slice b4 b5 b6, .slice b7 b8 b9] 25) = w8 := ⟨_, rfl⟩
  rw [hw8]
  have hb78 : RowKit.Below w7.heap.size w7 w8 := by rw [← hw8]; exact (Below.refl _ _).alloc (Nat.le_refl _) _
  have HWI := Wipe_any (resT R2) w6.heap.size w7.heap.size _ w8 HSM2 (HTO7.out.on (Agree.of_below hb78 (Nat.le_refl _))) hb78.size
  have HB68 : Hid (RowKit.Below w6.heap.size w6 w8) := HB67.out.trans (hb78.mono HB67.out.size)
  clear hw8 hb78
  refine HWI.mono ?_
  rintro e w9 ⟨rfl, hk9⟩
  have HB69 : Hid (RowKit.Below w6.heap.size w6 w9) := HB68.out.trans (hk9.below HB68.out.size (fun k hk => hk.1))
  have HB9 : Hid (RowKit.Below w.heap.size w w9) := HB6.out.trans (HB69.out.mono HB6.out.size)
  have HT9 := Hid.mk ((HB69.out.block w.heap.size (heap_lt HT6.out)).trans HT6.out)
  have HF9 := Hid.mk ((HB69.out.block w3.heap.size (heap_lt HF6.out)).trans HF6.out)
  have HA9 := Hid.mk ((HB69.out.block w5.heap.size (heap_lt HA6.out)).trans HA6.out)
  have HLT9 := Hid.mk (HLT6.out.on HB69.out)
  have HTA9 := Hid.mk (HTA6.out.on HB69.out)
  have HCR := HRI w9 HB9.out
  clear hk9 HWI HRI
  obtain ⟨x0, x1, x2, x3, x4, x5, x6⟩ := cells6 HT9.out
  go_wp2_with fail
  refine HCR.mono ?_
  rintro e w10 ⟨hans, hb910⟩
  obtain ⟨vw, rfl, ⟨c0, c1, c2, c3, c4, c5, c6, c7, c8, c9, rfl⟩, htw⟩ := ansV_tf hans
  have HTW := Hid.mk htw
  have HB910 := Hid.mk hb910
  clear hans htw hb910 HCR x0 x1 x2 x3 x4 x5 x6
  obtain ⟨w11, hw11⟩ : ∃ w11, w10.alloc (.cells #[.int .i64 c0, .int .i64 c1, .bool c2, .string c3, .slice c4 c5 c6, .slice c7 c8 c9] 25) = w11 := ⟨_, rfl⟩
  have hb1011 : RowKit.Below w10.heap.size w10 w11 := by rw [← hw11]; exact (Below.refl _ _).alloc (Nat.le_refl _) _
  have HC11 : Hid (w11.heap[w10.heap.size]? = some (.cells #[.int .i64 c0, .int .i64 c1, .bool c2, .string c3, .slice c4 c5 c6, .slice c7 c8 c9] 25 (0, 0))) := by unfold Hid; rw [← hw11]; exact alloc_new _ _
  have HB911 : Hid (RowKit.Below w9.heap.size w9 w11) := HB910.out.trans (hb1011.mono HB910.out.size)
  have HB11 : Hid (RowKit.Below w.heap.size w w11) := HB9.out.trans (HB911.out.mono HB9.out.size)
  have HT11 := Hid.mk ((HB911.out.block w.heap.size (heap_lt HT9.out)).trans HT9.out)
  have HF11 := Hid.mk ((HB911.out.block w3.heap.size (heap_lt HF9.out)).trans HF9.out)
  have HA11 := Hid.mk ((HB911.out.block w5.heap.size (heap_lt HA9.out)).trans HA9.out)
  have HLT11 := Hid.mk (HLT9.out.on HB911.out)
  have HTA11 := Hid.mk (HTA9.out.on HB911.out)
  have HTW11 := Hid.mk (HTW.out.on hb1011)
  have HST := Stay_any w2 w2.heap.size t _ _ w11 hPt HLT11.out (HVT.out.on HB11.out)
  have HW11 := Hid.mk hw11
  obtain ⟨x0, x1, x2, x3, x4, x5, x6⟩ := cells6 HT9.out
  obtain ⟨y0, y1, y2, y3, y4, y5, y6⟩ := cells6 HF9.out
  have z0 := (HB910.out.cell (p := ⟨w.heap.size, 0, none⟩) x6).trans x0
  have z1 := (HB910.out.cell (p := ⟨w.heap.size, 1, none⟩) x6).trans x1
  have z2 := (HB910.out.cell (p := ⟨w.heap.size, 2, none⟩) x6).trans x2
  have z3 := (HB910.out.cell (p := ⟨w.heap.size, 3, none⟩) x6).trans x3
  have z4 := (HB910.out.cell (p := ⟨w.heap.size, 4, none⟩) x6).trans x4
  have z5 := (HB910.out.cell (p := ⟨w.heap.size, 5, none⟩) x6).trans x5
  have q0 := (HB910.out.cell (p := ⟨w3.heap.size, 0, none⟩) y6).trans y0
  have q1 := (HB910.out.cell (p := ⟨w3.heap.size, 1, none⟩) y6).trans y1
  have q2 := (HB910.out.cell (p := ⟨w3.heap.size, 2, none⟩) y6).trans y2
  have q3 := (HB910.out.cell (p := ⟨w3.heap.size, 3, none⟩) y6).trans y3
  have q4 := (HB910.out.cell (p := ⟨w3.heap.size, 4, none⟩) y6).trans y4
  have q5 := (HB910.out.cell (p := ⟨w3.heap.size, 5, none⟩) y6).trans y5
  have z6 : w.heap.size < w10.heap.size := Nat.lt_of_lt_of_le x6 HB910.out.size
  have q6 : w3.heap.size < w10.heap.size := Nat.lt_of_lt_of_le y6 HB910.out.size
  clear hw11 hb1011 x0 x1 x2 x3 x4 x5 x6 y0 y1 y2 y3 y4 y5 y6
  go_wp2_with fail
  rw [HW11.out]
  refine HST.mono ?_
  rintro e w12 ⟨rfl, hg12⟩
  have hb12 := hg12.below
  have HB12 : Hid (RowKit.Below w.heap.size w w12) := HB11.out.trans (hb12.mono HB11.out.size)
  have HA12 := Hid.mk ((hb12.block w5.heap.size (heap_lt HA11.out)).trans HA11.out)
  have HC12 := Hid.mk ((hb12.block w10.heap.size (heap_lt HC11.out)).trans HC11.out)
  have HEX := Exactly_exa _ _ (resT R) w12 HSM (HTA11.out.on hb12) (HTW11.out.on hb12)
  clear hg12 hb12 HST z0 z1 z2 z3 z4 z5 z6 q0 q1 q2 q3 q4 q5 q6
  obtain ⟨x0, x1, x2, x3, x4, x5, x6⟩ := cells6 HA12.out
  obtain ⟨y0, y1, y2, y3, y4, y5, y6⟩ := cells6 HC12.out
  generalize resC R = cc at *
  go_wp2_with (go_at_call 14; refine (num2_any _ _).mono ?_; rintro e w' ⟨rfl, rfl⟩)
  refine HEX.mono ?_
  rintro e w13 ⟨rfl, hb13⟩
  have HB13 : Hid (RowKit.Below w.heap.size w w13) := HB12.out.trans (hb13.mono HB12.out.size)
  clear hb13
  go_wp2
  go_ret
  exact ⟨rfl, HB13.out⟩

theorem ownL : ownKnob Try.prog.godebug = none := by kernel_rfl

theorem all_one {H : Type} {ts : List TypeId} {d0 d1 d2 : DataW H} (h : (DataW.weightsEach Try.prog ([25, 3, 3] ++ ts) ([d0, d1, d2] ++ [])).all (· ≤ reachBytes) = true) : ∀ n ∈ d0.weights Try.prog 25, n ≤ reachBytes := by
  simp only [List.cons_append, List.nil_append, DataW.weightsEach, List.all_append, Bool.and_eq_true, List.all_eq_true, decide_eq_true_eq] at h
  exact h.1

set_option maxRecDepth 100000 in
theorem lifted (os : Os) (started : os.Started) (H : Type) (enc : TypeId × Value → H) :
    ReturnsInHanded {} Try.checked os 4 .any (Rows.termLiftsSpec.pre6 enc Try.prog Try.f4 Rows.termLiftsRow.domain false) (Rows.termLiftsSpec.post enc Try.prog Try.f4 false true false false) := by
  refine returnsInHanded_of_change_sized (C := Try.checked) ownL started (by kernel_rfl) Try.func4
    (ChangeSpec.witness6 (enc := enc) (C := Try.checked) false ⟨#[], #[.agg #[.int .i64 0, .int .i64 0, .bool false, .string { data := #[] }, .slice none 0 0, .slice none 0 0], .int .i64 0, .int .i64 0], []⟩ 8 (by kernel_rfl) (by kernel_rfl) (by kernel_rfl) (by kernel_rfl)) ?_
  intro W base args ds gs before hval0 hW hcnd hwt _
  have hval : ∀ (j : Nat) t v, Try.f4.params[j]? = some t → args[j]? = some v → Value.okWide Try.prog W .any base t v := hval0
  have hW' := hW
  obtain ⟨p, q, hA0, hV, rfl, hfz, hnd⟩ := hW
  have hA : DataW.TrodAll enc Try.prog W 0 (fun _ => true) true Try.f4.params.toList args.toList ds p := hA0
  rw [Try.params4] at hA hval
  obtain ⟨v0, v1, v2, d0, d1, d2, p0, p1, p2, rfl, rfl, rfl, h0, h1, h2⟩ := trodAll_three hA
  obtain ⟨rfl, rfl⟩ := trodVars_none hV
  have hwt' := hwt
  rw [show Try.checked.prog = Try.prog from rfl, Try.params4] at hwt'
  have wt0 := all_one hwt'
  have k0 := h0
  have lt0 : ∀ x ∈ p0, x.block < W.heap.size := by obtain ⟨m, hm⟩ := k0; exact DataW.trod_lt m _ _ _ hm
  obtain ⟨a, hva, hoa⟩ := open_term (hval 0 25 v0 rfl rfl) h0
  have k1 := h1
  have lt1 : ∀ x ∈ p1, x.block < W.heap.size := by obtain ⟨m, hm⟩ := k1; exact DataW.trod_lt m _ _ _ hm
  have k2 := h2
  have lt2 : ∀ x ∈ p2, x.block < W.heap.size := by obtain ⟨m, hm⟩ := k2; exact DataW.trod_lt m _ _ _ hm
  obtain ⟨fr, rfl⟩ : ∃ fr, v1 = .int .i64 fr := by
    obtain ⟨x, hx, -⟩ := open_int Try.underlying3 (hval 1 3 v1 rfl rfl) h1; exact ⟨x, hx⟩
  obtain ⟨by_, rfl⟩ : ∃ by_, v2 = .int .i64 by_ := by
    obtain ⟨x, hx, -⟩ := open_int Try.underlying3 (hval 2 3 v2 rfl rfl) h2; exact ⟨x, hx⟩
  clear hA0 hval0
  refine (walk a fr by_ v0 W (hoa wt0) hva).mono fun e W' ⟨he, bel⟩ => ?_
  subst he
  exact ⟨_, rfl, _, _, _, [], _, [], hW', trodAll_mk1 (shut_bool Try.underlying4 _), trodAll_mk3 (Below.trod laidOut (by kernel_rfl) (of_decide_eq_true (by kernel_rfl)) k0 bel lt0) (Below.trod laidOut (by kernel_rfl) (of_decide_eq_true (by kernel_rfl)) k1 bel lt1) (Below.trod laidOut (by kernel_rfl) (of_decide_eq_true (by kernel_rfl)) k2 bel lt2), rfl, bel.frame _, fun h => by cases h⟩

theorem over : Rows.termLiftsRow.holds Try.pinned (OpenSpec.ofChange Rows.termLiftsSpec) :=
  OpenClaim.holds_of_wide 4 Try.f4 rfl rfl rfl rfl rfl rfl rfl ⟨rfl, rfl, rfl, rfl, rfl⟩ rfl rfl rfl rfl rfl (by kernel_rfl) Try.func4 (by kernel_rfl)
    (of_decide_eq_true (by kernel_rfl)) (by unfold Func.isWrapper; first | (rw [if_pos (by decide +kernel)]; kernel_rfl) | (rw [if_neg (by decide +kernel)]; exact ⟨rfl, rfl⟩))
    (fun os started H enc _ => lifted os started H enc)

end termLifts

theorem termLifts_holds : Rows.TermLiftsSaid := termLifts.over
#print axioms termLifts_holds
end Go.Proofs.Ytbgkeomlfdmkeaa
