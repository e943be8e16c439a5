/- For every t and args: TermLevels answers true, and leaves its arguments as they were; no condition but the row's own. -/
import Derived.Test.YtbgkeomlfdmkeaaRows
import Derived.Test.YtbgkeomlfdmkeaaSE
import Derived.Test.YtbgkeomlfdmkeaaLVE
import Derived.Test.YtbgkeomlfdmkeaaLVT
import Derived.Test.YtbgkeomlfdmkeaaON
import Derived.SizedLaws
import Derived.ProofKit
import Derived.OpenShut
import Derived.Below
namespace Go.Proofs.Ytbgkeomlfdmkeaa
open Go.RowKit Go.Sort
namespace termLevels
open Go.ChangeShapes Go.WideShapes Go.ChangeAt
/-- the term and the error of an answer -/
def resT : Except Int Tm → Tm
  | .ok r => r
  | .error _ => .mk 0 0 false { data := #[] } [] []
def resC : Except Int Tm → Int
  | .ok _ => 0
  | .error c => c

theorem ans_to {B : Nat} {e : Ending} {w' : World} {R : Except Int Tm} (h : Ans B e w' R) (hB : B ≤ w'.heap.size) : ∃ v, e = .returned (.tuple #[v, .int .i64 (resC R)]) ∧ TO w' B w'.heap.size v (resT R) := by
  cases R with
  | ok r => exact h
  | error c => exact ⟨zeroV, h, TO.leaf (m := B) (Or.inl ⟨rfl, rfl⟩) (Nat.le_refl _) hB⟩

theorem ansV_tf {B : Nat} {e : Ending} {w' : World} {R : Except Int Tm} (h : AnsV B e w' R) : ∃ v, e = .returned (.tuple #[v, .int .i64 (resC R)]) ∧ ShapeT v ∧ TV w' v (resT R) := by
  cases R with
  | ok r =>
    obtain ⟨v, he, hs, ht⟩ := h
    exact ⟨v, he, hs, ht.tv⟩
  | error c => exact ⟨zeroV, h, ⟨_, _, _, _, _, _, _, _, _, _, rfl⟩, TV.mk (kb := 0) (ko := 0) (ls := []) (ks := []) (Or.inl rfl) (fun _ => rfl) (Nat.le_refl _) (by omega) (fun _ => rfl) (Nat.le_refl _) (by omega) (fun h => absurd rfl h) (fun i t hi => by simp at hi)⟩

theorem res_sm {t : Tm} (h : smT 1000000 t) (args : List LvT) : smT 1000000 (resT (levRes t args)) := by
  have hz : smT 1000000 (.mk 0 0 false { data := #[] } [] []) := (smT_mk _ _ _ _ _ _ _).2 ⟨by decide, by simp, by simp, by simp, by simp⟩
  unfold levRes
  split
  · exact hz
  · split
    · exact hz
    · rename_i x hx
      split
      · exact smT_clean _ _ (smT_put (by omega) args t h x hx)
      · exact hz

set_option maxRecDepth 100000 in
set_option maxHeartbeats 16000000 in
theorem walk (t : Tm) (args : List LvT) (aa : Option Addr) (acap : Nat) (vt : Value) (w : World) (hot : okT t) (hvt : TV w vt t) (hA : LL w aa args) (hac : args.length ≤ acap) (hal : args.length ≤ 8796093022208) (hax : ∀ l ∈ args, l.2.length ≤ 8796093022208) : Calls Try.prog 5 #[vt, .slice aa args.length acap] w fun e w' => e = .returned (.bool true) ∧ RowKit.Below w.heap.size w w' := by
  have HBT := fun (W : World) (g : RowKit.Below w.heap.size w W) => Big_any t vt W hot (hvt.on g)
  have HLE := fun (hs : smT 1000000 t) (h1 : args.length ≤ 50) (h2 : ∀ l ∈ args, l.2.length ≤ 100) (W : World) (g : RowKit.Below w.heap.size w W) => Levels_any t vt args aa acap W (hvt.on g) hs (hA.below g) (by omega) hac (fun l hl => by have := h2 l hl; omega)
  have HRL := fun (hs : smT 1000000 t) (h1 : args.length ≤ 50) (h2 : ∀ l ∈ args, l.2.length ≤ 100) (W : World) (g : RowKit.Below w.heap.size w W) => rLevels_any t vt args aa acap W (hvt.on g) hs (hA.below g) (by omega) (fun l hl => by have := h2 l hl; omega)
  have HSMT := fun (hs : smT 1000000 t) => res_sm hs args
  obtain ⟨tl, tj, tk, tq, rfl⟩ := hvt.shape
  have HA := Hid.mk hA
  have HAX := Hid.mk hax
  clear hvt hot hA hax
  generalize t.form = tf at *
  generalize t.n = tn at *
  generalize t.hid = th at *
  generalize t.name = tm at *
  generalize t.levels.length = ti at *
  generalize t.kids.length = tp at *
  generalize levRes t args = R at *
  obtain ⟨W0, hW0⟩ : ∃ W0, w.alloc (.cells #[.int .i64 tf, .int .i64 tn, .bool th, .string tm, .slice tl ti tj, .slice tk tp tq] 25) = W0 := ⟨_, rfl⟩
  have HB0 : Hid (RowKit.Below w.heap.size w W0) := by unfold Hid; rw [← hW0]; exact ((Grew.refl w).alloc _).below
  have HT0 : Hid (W0.heap[w.heap.size]? = some (.cells #[.int .i64 tf, .int .i64 tn, .bool th, .string tm, .slice tl ti tj, .slice tk tp tq] 25 (0, 0))) := by unfold Hid; rw [← hW0]; exact alloc_new _ _
  have HW0 := Hid.mk hW0
  clear hW0
  have HAL := alive2_any W0
  go_enter Try.func5, Try.ntmps5
  go_wp2_with fail
  rw [HW0.out]
  refine HAL.mono ?_
  rintro e w1 ⟨rfl, hb1⟩
  have HB1 : Hid (RowKit.Below w.heap.size w w1) := HB0.out.trans (hb1.mono HB0.out.size)
  have HT1 := Hid.mk ((hb1.block w.heap.size (heap_lt HT0.out)).trans HT0.out)
  clear hb1 HAL
  obtain ⟨x0, x1, x2, x3, x4, x5, x6⟩ := cells6 HT1.out
  go_wp2_with fail
  refine (HBT _ HB1.out).mono ?_
  rintro e w2 ⟨⟨r2, rfl, hs2⟩, hg2⟩
  have HB2 : Hid (RowKit.Below w.heap.size w w2) := HB1.out.trans (hg2.below.mono HB1.out.size)
  have HT2 := Hid.mk ((hg2.below.block w.heap.size (heap_lt HT1.out)).trans HT1.out)
  clear hg2 x0 x1 x2 x3 x4 x5 x6
  cases r2
  rotate_left
  · go_wp2
    go_ret
    exact ⟨rfl, HB2.out⟩
  have hPt := hs2 rfl
  clear hs2 HBT
  by_cases h50 : args.length ≤ 50
  rotate_left
  · go_wp2
    go_ret
    exact ⟨rfl, HB2.out⟩
  have HLE1 := HLE hPt h50
  have HRL1 := HRL hPt h50
  have HSM := HSMT hPt
  clear HLE HRL HSMT
  have HA2 := Hid.mk (HA.out.below HB2.out)
  go_wp2
  go_loopw [7] (fun i wr => ∃ j : Nat, j ≤ args.length ∧ i = .int .i64 j ∧ wr = w2 ∧ ∀ l ∈ args.take j, l.2.length ≤ 100) (fun i _ => args.length - (intOf i).toNat)
  case atStart => exact ⟨0, Nat.zero_le _, rfl, rfl, by simp⟩
  case round =>
    obtain ⟨j, hj, rfl, rfl, hall⟩ := hrel
    have HALL := Hid.mk hall
    clear hall
    by_cases hlt : j < args.length
    · obtain ⟨b, off, n, xs, a', cap', rfl, hbl, c0, c1, hsl, hlk⟩ := HA2.out.at hlt
      have HTS := Hid.mk (fun x => mem_take_succ (x := x) hlk.out)
      have hxl := HAX.out (n, xs) (List.mem_of_getElem? hlk.out)
      simp only at hxl
      have zj : (j : Int) < (args.length : Int) := by omega
      clear hsl
      by_cases hx : xs.length ≤ 100
      · go_wp2
        refine ⟨⟨j + 1, hlt, by go_num, by trivial, fun l hl => ?_⟩, by simp [intOf]; omega⟩
        rcases HTS.out l hl with h | h
        · exact HALL.out l h
        · rw [h]; exact hx
      · go_wp2
        go_ret
        exact ⟨rfl, HB2.out⟩
    · obtain rfl : j = args.length := by omega
      rw [List.take_length] at HALL
      have HC := HLE1 HALL.out wr HB2.out
      have HRI := HRL1 HALL.out
      clear HLE1 HRL1
      obtain ⟨x0, x1, x2, x3, x4, x5, x6⟩ := cells6 HT2.out
      go_wp2_with fail
      refine HC.mono ?_
      rintro e w5 ⟨hans, hb45⟩
      obtain ⟨va, rfl, hto⟩ := ans_to hans hb45.size
      obtain ⟨a0, a1, a2, a3, a4, a5, a6, a7, a8, a9, rfl⟩ := hto.shapeE
      have HTA := Hid.mk hto.tv
      have HB5 : Hid (RowKit.Below w.heap.size w w5) := HB2.out.trans (hb45.mono HB2.out.size)
      have HT5 := Hid.mk ((hb45.block w.heap.size (heap_lt HT2.out)).trans HT2.out)
      clear hans hto hb45 HC x0 x1 x2 x3 x4 x5 x6
      obtain ⟨w6, hw6⟩ : ∃ w6, w5.alloc (.cells #[.int .i64 a0, .int .i64 a1, .bool a2, .string a3, .slice a4 a5 a6, .slice a7 a8 a9] 25) = w6 := ⟨_, rfl⟩
      have hb56 : RowKit.Below w5.heap.size w5 w6 := by rw [← hw6]; exact (Below.refl _ _).alloc (Nat.le_refl _) _
      have HA6 : Hid (w6.heap[w5.heap.size]? = some (.cells #[.int .i64 a0, .int .i64 a1, .bool a2, .string a3, .slice a4 a5 a6, .slice a7 a8 a9] 25 (0, 0))) := by unfold Hid; rw [← hw6]; exact alloc_new _ _
      have HB6 : Hid (RowKit.Below w.heap.size w w6) := HB5.out.trans (hb56.mono HB5.out.size)
      have HTA6 := Hid.mk (HTA.out.on hb56)
      have HCR := HRI w6 HB6.out
      have HW6 := Hid.mk hw6
      clear hw6 hb56 HRI
      obtain ⟨x0, x1, x2, x3, x4, x5, x6⟩ := cells6 HT5.out
      go_wp2_with fail
      rw [HW6.out]
      refine HCR.mono ?_
      rintro e w7 ⟨hans, hb67⟩
      obtain ⟨vw, rfl, ⟨c0, c1, c2, c3, c4, c5, c6, c7, c8, c9, rfl⟩, htw⟩ := ansV_tf hans
      have HA7 := Hid.mk ((hb67.block w5.heap.size (heap_lt HA6.out)).trans HA6.out)
      have HB7 : Hid (RowKit.Below w.heap.size w w7) := HB6.out.trans (hb67.mono HB6.out.size)
      have HTA7 := Hid.mk (HTA6.out.on hb67)
      have HTW := Hid.mk htw
      clear hans htw hb67 HCR x0 x1 x2 x3 x4 x5 x6
      have hb78 : RowKit.Below w7.heap.size w7 (w7.alloc (.cells #[.int .i64 c0, .int .i64 c1, .bool c2, .string c3, .slice c4 c5 c6, .slice c7 c8 c9] 25)) := (Below.refl _ _).alloc (Nat.le_refl _) _
      have HEX := Exactly_exa _ _ (resT R) (w7.alloc (.cells #[.int .i64 c0, .int .i64 c1, .bool c2, .string c3, .slice c4 c5 c6, .slice c7 c8 c9] 25)) HSM (HTA7.out.on hb78) (HTW.out.on hb78)
      have HB8 : Hid (RowKit.Below w.heap.size w (w7.alloc (.cells #[.int .i64 c0, .int .i64 c1, .bool c2, .string c3, .slice c4 c5 c6, .slice c7 c8 c9] 25))) := HB7.out.trans (hb78.mono HB7.out.size)
      clear hb78
      obtain ⟨x0, x1, x2, x3, x4, x5, x6⟩ := cells6 HA7.out
      generalize resC R = cc at *
      go_wp2_with (go_at_call 14; refine (num2_any _ _).mono ?_; rintro e w' ⟨rfl, rfl⟩)
      refine HEX.mono ?_
      rintro e w13 ⟨rfl, hb13⟩
      have HB13 : Hid (RowKit.Below w.heap.size w w13) := HB8.out.trans (hb13.mono HB8.out.size)
      clear hb13
      go_wp2
      go_ret
      exact ⟨rfl, HB13.out⟩

theorem ownL : ownKnob Try.prog.godebug = none := by kernel_rfl

theorem all_two {H : Type} {ts : List TypeId} {d0 d1 : DataW H} (h : (DataW.weightsEach Try.prog ([25, 22] ++ ts) ([d0, d1] ++ [])).all (· ≤ reachBytes) = true) : (∀ n ∈ d0.weights Try.prog 25, n ≤ reachBytes) ∧ (∀ n ∈ d1.weights Try.prog 22, n ≤ reachBytes) := by
  simp only [List.cons_append, List.nil_append, DataW.weightsEach, List.all_append, Bool.and_eq_true, List.all_eq_true, decide_eq_true_eq] at h
  exact ⟨h.1, h.2.1⟩

set_option maxRecDepth 100000 in
theorem lifted (os : Os) (started : os.Started) (H : Type) (enc : TypeId × Value → H) :
    ReturnsInHanded {} Try.checked os 5 .any (Rows.termLevelsSpec.pre6 enc Try.prog Try.f5 Rows.termLevelsRow.domain false) (Rows.termLevelsSpec.post enc Try.prog Try.f5 false true false false) := by
  refine returnsInHanded_of_change_sized (C := Try.checked) ownL started (by kernel_rfl) Try.func5
    (ChangeSpec.witness6 (enc := enc) (C := Try.checked) false ⟨#[], #[.agg #[.int .i64 0, .int .i64 0, .bool false, .string { data := #[] }, .slice none 0 0, .slice none 0 0], .slice none 0 0], []⟩ 8 (by kernel_rfl) (by kernel_rfl) (by kernel_rfl) (by kernel_rfl)) ?_
  intro W base args ds gs before hval0 hW hcnd hwt _
  have hval : ∀ (j : Nat) t v, Try.f5.params[j]? = some t → args[j]? = some v → Value.okWide Try.prog W .any base t v := hval0
  have hW' := hW
  obtain ⟨p, q, hA0, hV, rfl, hfz, hnd⟩ := hW
  have hA : DataW.TrodAll enc Try.prog W 0 (fun _ => true) true Try.f5.params.toList args.toList ds p := hA0
  rw [Try.params5] at hA hval
  obtain ⟨v0, v1, d0, d1, p0, p1, rfl, rfl, rfl, h0, h1⟩ := trodAll_two hA
  obtain ⟨rfl, rfl⟩ := trodVars_none hV
  have hwt' := hwt
  rw [show Try.checked.prog = Try.prog from rfl, Try.params5] at hwt'
  obtain ⟨wt0, wt1⟩ := all_two hwt'
  have k0 := h0
  have lt0 : ∀ x ∈ p0, x.block < W.heap.size := by obtain ⟨m, hm⟩ := k0; exact DataW.trod_lt m _ _ _ hm
  obtain ⟨a, hva, hoa⟩ := open_term (hval 0 25 v0 rfl rfl) h0
  have k1 := h1
  have lt1 : ∀ x ∈ p1, x.block < W.heap.size := by obtain ⟨m, hm⟩ := k1; exact DataW.trod_lt m _ _ _ hm
  obtain ⟨a0, len0, cap0, hsl⟩ := okWide_slice Try.underlying22 (hval 1 22 v1 rfl rfl)
  subst hsl
  obtain ⟨fuel, hf⟩ := h1
  obtain ⟨ls, aa, acap, e, hln, -, hc, -, hw⟩ := open_lvs hf
  simp only [Value.slice.injEq] at e
  obtain ⟨rfl, rfl, rfl⟩ := e
  obtain ⟨b1, b2⟩ := hw wt1
  clear hA0 hval0
  refine (walk a ls a0 cap0 v0 W (hoa wt0) hva hln.toLL hc b1 b2).mono fun e W' ⟨he, bel⟩ => ?_
  subst he
  exact ⟨_, rfl, _, _, _, [], _, [], hW', trodAll_mk1 (shut_bool Try.underlying4 _), trodAll_mk2 (Below.trod laidOut (by kernel_rfl) (of_decide_eq_true (by kernel_rfl)) k0 bel lt0) (Below.trod laidOut (by kernel_rfl) (of_decide_eq_true (by kernel_rfl)) k1 bel lt1), rfl, bel.frame _, fun h => by cases h⟩

theorem over : Rows.termLevelsRow.holds Try.pinned (OpenSpec.ofChange Rows.termLevelsSpec) :=
  OpenClaim.holds_of_wide 5 Try.f5 rfl rfl rfl rfl rfl rfl rfl ⟨rfl, rfl, rfl, rfl, rfl⟩ rfl rfl rfl rfl rfl (by kernel_rfl) Try.func5 (by kernel_rfl)
    (of_decide_eq_true (by kernel_rfl)) (by unfold Func.isWrapper; first | (rw [if_pos (by decide +kernel)]; kernel_rfl) | (rw [if_neg (by decide +kernel)]; exact ⟨rfl, rfl⟩))
    (fun os started H enc _ => lifted os started H enc)

end termLevels

theorem termLevels_holds : Rows.TermLevelsSaid := termLevels.over
#print axioms termLevels_holds
end Go.Proofs.Ytbgkeomlfdmkeaa
