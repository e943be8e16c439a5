/- For every t, s, u: TermLaws answers true, and leaves its arguments as they were; no condition but the row's own. -/
import Derived.Test.YtbgkeomlfdmkeaaRows
import Derived.Test.YtbgkeomlfdmkeaaSE
import Derived.Test.YtbgkeomlfdmkeaaPB
import Derived.Test.YtbgkeomlfdmkeaaON
import Derived.SizedLaws
import Derived.ProofKit
import Derived.OpenShut
import Derived.Below
import Derived.Deep.QuietTactic
import Derived.BigQuiet
namespace Go.Proofs.Ytbgkeomlfdmkeaa
open Go.RowKit Go.Sort
namespace termLaws
open Go.ChangeShapes Go.WideShapes Go.ChangeAt

/-- a term in a box -/
structure Bx (w : World) (k : Nat) (v : Array Value) (t : Tm) : Prop where
  box : w.heap[k]? = some (.cells v 25 (0, 0))
  tv : TV w (.agg v) t
  sm : smT 1000000 t

theorem Bx.on {w w' : World} {k : Nat} {v : Array Value} {t : Tm} (h : Bx w k v t) (hb : RowKit.Below w.heap.size w w') : Bx w' k v t :=
  ⟨(hb.block k (heap_lt h.box)).trans h.box, h.tv.on hb, h.sm⟩

theorem Bx.alloc {w : World} {v : Array Value} {t : Tm} (h : TV w (.agg v) t) (hs : smT 1000000 t) : Bx (w.alloc (.cells v 25)) w.heap.size v t :=
  ⟨alloc_new _ _, h.on ((Below.refl _ _).alloc (Nat.le_refl _) _), hs⟩

/-- a world that grows out of w -/
structure BelowOf (w : World) where
  world : World
  below : RowKit.Below w.heap.size w world

theorem wp_region_quiet_below {P : Program} {id : Nat} {Q : Exit → Act → World → Prop} {a : Act} {w : World} {l : List Oper} (hm : P.follows .mixedOrders = true) (hB : Region.lexB .any l.toArray = true)
    (h : wpQuiet P l.toArray (fun w' => ∃ p : BelowOf w, w' = p.world) (fun a' => ∀ w', (∃ p : BelowOf w, w' = p.world) → Q .normal a' w') l a) : (Code.region id l.toArray true).wp P Q a w :=
  wp_region_quiet (C := fun w' => ∃ p : BelowOf w, w' = p.world) hm hB ⟨⟨w.drew, (Below.refl _ _).drew⟩, rfl⟩ (by simpa using h)

theorem below_of {P : Program} {f : FuncId} {args : Array Value} {w : World} {p : BelowOf w} {v : Value} (h : Calls P f args p.world fun e w' => e = .returned v ∧ RowKit.Below p.world.heap.size p.world w') : Calls P f args p.world fun e w'' => e = .returned v ∧ ∃ q : BelowOf w, w'' = q.world :=
  h.mono fun _ w' ⟨he, hb⟩ => ⟨he, ⟨w', p.below.trans (hb.mono p.below.size)⟩, rfl⟩

theorem size_ok {t : Tm} (h : tsizeR t ≠ 0) : checkT t = 0 := by
  unfold tsizeR at h
  split at h
  · assumption
  · exact absurd rfl h

/-- what comes behind the tests: the calls -/
theorem back_same {t s up bk : Tm} (ht : checkT t = 0) (hup : up = liftT 0 1 t 0) (hbk : bk = substT 0 s up 0) (hc : checkT bk = 0) : tsameB bk t = true := by
  have e := subst_over (b := 0) (by omega) s t (check_ok ht).2.2 0 (by omega)
  rw [show (0 : Int) + 1 = 1 by omega, show (0 : Int) + 0 = 0 by omega] at e
  have : bk = liftT 0 0 t 0 := by rw [hbk, hup, e]
  unfold tsameB
  rw [hc, ht, this, clean_same t (check_ok ht).2.2 0 (by omega)]
  rfl

theorem two_same {t s u ov a b c d g : Tm} (ht : checkT t = 0) (hs : checkT s = 0) (hu : checkT u = 0) (hov : ov = liftT 0 1 u 0) (ha : a = substT 0 s t 0) (hb : b = substT 0 u a 0) (hc : c = substT 1 ov t 0) (hd : d = substT 0 u s 0) (hg : g = substT 0 d c 0) (hcb : checkT b = 0) : tsameB b g = true := by
  have e := subst_two s u (check_ok hs).2.2 (check_ok hu).2.2 t (check_ok ht).2.2 0 (by omega)
  have : g = b := by rw [hg, hc, hd, hov, hb, ha, e]
  unfold tsameB
  rw [this, hcb, same_refl]
  rfl

set_option maxRecDepth 100000 in
set_option maxHeartbeats 16000000 in
theorem walk (t s u : Tm) (vt vs vu : Value) (w : World) (hot : okT t) (hos : okT s) (hou : okT u) (hvt : TV w vt t) (hvs : TV w vs s) (hvu : TV w vu u) : Calls Try.prog 7 #[vt, vs, vu] w fun e w' => e = .returned (.bool true) ∧ RowKit.Below w.heap.size w w' := by
  have HBT := fun (W : World) (g : RowKit.Below w.heap.size w W) => Big_any t vt W hot (hvt.on g)
  have HBS := fun (W : World) (g : RowKit.Below w.heap.size w W) => Big_any s vs W hos (hvs.on g)
  have HBU := fun (W : World) (g : RowKit.Below w.heap.size w W) => Big_any u vu W hou (hvu.on g)
  obtain ⟨tl, tj, tk, tq, rfl⟩ := hvt.shape
  obtain ⟨sl, sj, sk, sq, rfl⟩ := hvs.shape
  obtain ⟨ul, uj, uk, uq, rfl⟩ := hvu.shape
  have HVT := Hid.mk hvt
  have HVS := Hid.mk hvs
  have HVU := Hid.mk hvu
  clear hvt hvs hvu hot hos hou
  generalize t.form = tf at *
  generalize t.n = tn at *
  generalize t.hid = th at *
  generalize t.name = tm at *
  generalize t.levels.length = ti at *
  generalize t.kids.length = tp at *
  generalize s.form = sf at *
  generalize s.n = sn at *
  generalize s.hid = sh at *
  generalize s.name = sm at *
  generalize s.levels.length = si at *
  generalize s.kids.length = sp at *
  generalize u.form = uf at *
  generalize u.n = un at *
  generalize u.hid = uh at *
  generalize u.name = um at *
  generalize u.levels.length = ui at *
  generalize u.kids.length = up at *
  obtain ⟨W0, hW0⟩ : ∃ W0, ((w.alloc (.cells #[.int .i64 tf, .int .i64 tn, .bool th, .string tm, .slice tl ti tj, .slice tk tp tq] 25)).alloc (.cells #[.int .i64 sf, .int .i64 sn, .bool sh, .string sm, .slice sl si sj, .slice sk sp sq] 25)).alloc (.cells #[.int .i64 uf, .int .i64 un, .bool uh, .string um, .slice ul ui uj, .slice uk up uq] 25) = W0 := ⟨_, rfl⟩
  have HB0 : Hid (RowKit.Below w.heap.size w W0) := by unfold Hid; rw [← hW0]; exact ((((Grew.refl w).alloc _).alloc _).alloc _).below
  have HT0 : Hid (W0.heap[w.heap.size]? = some (.cells #[.int .i64 tf, .int .i64 tn, .bool th, .string tm, .slice tl ti tj, .slice tk tp tq] 25 (0, 0))) := by unfold Hid; rw [← hW0]; exact alloc_old box_at _
  have HS0 : Hid (W0.heap[w.heap.size + 1]? = some (.cells #[.int .i64 sf, .int .i64 sn, .bool sh, .string sm, .slice sl si sj, .slice sk sp sq] 25 (0, 0))) := by unfold Hid; rw [← hW0]; exact on1
  have HU0 : Hid (W0.heap[w.heap.size + 1 + 1]? = some (.cells #[.int .i64 uf, .int .i64 un, .bool uh, .string um, .slice ul ui uj, .slice uk up uq] 25 (0, 0))) := by unfold Hid; rw [← hW0]; exact on2
  have HW0 := Hid.mk hW0
  clear hW0
  have HAL := alive2_any W0
  go_enter Try.func7, Try.ntmps7
  go_wp2_with fail
  rw [HW0.out]
  refine HAL.mono ?_
  rintro e w1 ⟨rfl, hb1⟩
  have HB1 : Hid (RowKit.Below w.heap.size w w1) := HB0.out.trans (hb1.mono HB0.out.size)
  have HT1 := Hid.mk ((hb1.block w.heap.size (heap_lt HT0.out)).trans HT0.out)
  have HS1 := Hid.mk ((hb1.block (w.heap.size + 1) (heap_lt HS0.out)).trans HS0.out)
  have HU1 := Hid.mk ((hb1.block (w.heap.size + 1 + 1) (heap_lt HU0.out)).trans HU0.out)
  clear hb1 HAL
  obtain ⟨x0, x1, x2, x3, x4, x5, x6⟩ := cells6 HT1.out
  go_wp2_with fail
  refine (HBT _ HB1.out).mono ?_
  rintro e w2 ⟨⟨r2, rfl, hs2⟩, hg2⟩
  have HB2 : Hid (RowKit.Below w.heap.size w w2) := HB1.out.trans (hg2.below.mono HB1.out.size)
  have HT2 := Hid.mk ((hg2.below.block w.heap.size (heap_lt HT1.out)).trans HT1.out)
  have HS2 := Hid.mk ((hg2.below.block (w.heap.size + 1) (heap_lt HS1.out)).trans HS1.out)
  have HU2 := Hid.mk ((hg2.below.block (w.heap.size + 1 + 1) (heap_lt HU1.out)).trans HU1.out)
  clear hg2 x0 x1 x2 x3 x4 x5 x6
  cases r2
  rotate_left
  · go_wp2
    go_quiet (fail)
    go_wp2
    go_ret
    exact ⟨rfl, HB2.out.trans ((((Grew.refl _).drewN _).below).mono HB2.out.size)⟩
  have hPt := hs2 rfl
  clear hs2
  obtain ⟨x0, x1, x2, x3, x4, x5, x6⟩ := cells6 HS2.out
  go_wp2_with fail
  refine (HBS _ HB2.out).mono ?_
  rintro e w3 ⟨⟨r3, rfl, hs3⟩, hg3⟩
  have HB3 : Hid (RowKit.Below w.heap.size w w3) := HB2.out.trans (hg3.below.mono HB2.out.size)
  have HT3 := Hid.mk ((hg3.below.block w.heap.size (heap_lt HT2.out)).trans HT2.out)
  have HS3 := Hid.mk ((hg3.below.block (w.heap.size + 1) (heap_lt HS2.out)).trans HS2.out)
  have HU3 := Hid.mk ((hg3.below.block (w.heap.size + 1 + 1) (heap_lt HU2.out)).trans HU2.out)
  clear hg3 x0 x1 x2 x3 x4 x5 x6
  cases r3
  rotate_left
  · go_wp2
    go_quiet (fail)
    go_wp2
    go_ret
    exact ⟨rfl, HB3.out.trans ((((Grew.refl _).drewN _).below).mono HB3.out.size)⟩
  have hPs := hs3 rfl
  clear hs3
  obtain ⟨x0, x1, x2, x3, x4, x5, x6⟩ := cells6 HU3.out
  go_wp2_with fail
  refine (HBU _ HB3.out).mono ?_
  rintro e w4 ⟨⟨r4, rfl, hs4⟩, hg4⟩
  have HB4 : Hid (RowKit.Below w.heap.size w w4) := HB3.out.trans (hg4.below.mono HB3.out.size)
  have HT4 := Hid.mk ((hg4.below.block w.heap.size (heap_lt HT3.out)).trans HT3.out)
  have HS4 := Hid.mk ((hg4.below.block (w.heap.size + 1) (heap_lt HS3.out)).trans HS3.out)
  have HU4 := Hid.mk ((hg4.below.block (w.heap.size + 1 + 1) (heap_lt HU3.out)).trans HU3.out)
  clear hg4 x0 x1 x2 x3 x4 x5 x6
  cases r4
  rotate_left
  · go_wp2
    go_quiet (fail)
    go_wp2
    go_ret
    exact ⟨rfl, HB4.out.trans ((((Grew.refl _).drewN _).below).mono HB4.out.size)⟩
  have hPu := hs4 rfl
  clear hs4
  have HZT := fun (W : World) (g : RowKit.Below w.heap.size w W) => rSize_any t _ W (HVT.out.on g) hPt
  have HZS := fun (W : World) (g : RowKit.Below w.heap.size w W) => rSize_any s _ W (HVS.out.on g) hPs
  have HZU := fun (W : World) (g : RowKit.Below w.heap.size w W) => rSize_any u _ W (HVU.out.on g) hPu
  have HCT : Hid (tsizeR t ≠ 0 → checkT t = 0) := size_ok
  have HCS : Hid (tsizeR s ≠ 0 → checkT s = 0) := size_ok
  have HCU : Hid (tsizeR u ≠ 0 → checkT u = 0) := size_ok
  have HRT := Hid.mk (tsize_le t)
  have HRS := Hid.mk (tsize_le s)
  have HRU := Hid.mk (tsize_le u)
  generalize tsizeR t = zt at *
  generalize tsizeR s = zs at *
  generalize tsizeR u = zu at *
  obtain ⟨ht0, ht1⟩ := HRT.out
  obtain ⟨hs0, hs1⟩ := HRS.out
  obtain ⟨hu0, hu1⟩ := HRU.out
  clear HBT HBS HBU
  obtain ⟨x0, x1, x2, x3, x4, x5, x6⟩ := cells6 HT4.out
  obtain ⟨y0, y1, y2, y3, y4, y5, y6⟩ := cells6 HS4.out
  obtain ⟨z0, z1, z2, z3, z4, z5, z6⟩ := cells6 HU4.out
  have q0 : ∀ p : BelowOf w4, p.world.cell? ⟨w.heap.size, 0, none⟩ = some (.int .i64 tf) := fun p => (p.below.cell (p := ⟨w.heap.size, 0, none⟩) x6).trans x0
  have q1 : ∀ p : BelowOf w4, p.world.cell? ⟨w.heap.size, 1, none⟩ = some (.int .i64 tn) := fun p => (p.below.cell (p := ⟨w.heap.size, 1, none⟩) x6).trans x1
  have q2 : ∀ p : BelowOf w4, p.world.cell? ⟨w.heap.size, 2, none⟩ = some (.bool th) := fun p => (p.below.cell (p := ⟨w.heap.size, 2, none⟩) x6).trans x2
  have q3 : ∀ p : BelowOf w4, p.world.cell? ⟨w.heap.size, 3, none⟩ = some (.string tm) := fun p => (p.below.cell (p := ⟨w.heap.size, 3, none⟩) x6).trans x3
  have q4 : ∀ p : BelowOf w4, p.world.cell? ⟨w.heap.size, 4, none⟩ = some (.slice tl ti tj) := fun p => (p.below.cell (p := ⟨w.heap.size, 4, none⟩) x6).trans x4
  have q5 : ∀ p : BelowOf w4, p.world.cell? ⟨w.heap.size, 5, none⟩ = some (.slice tk tp tq) := fun p => (p.below.cell (p := ⟨w.heap.size, 5, none⟩) x6).trans x5
  have q6 : ∀ p : BelowOf w4, p.world.cell? ⟨w.heap.size + 1, 0, none⟩ = some (.int .i64 sf) := fun p => (p.below.cell (p := ⟨w.heap.size + 1, 0, none⟩) y6).trans y0
  have q7 : ∀ p : BelowOf w4, p.world.cell? ⟨w.heap.size + 1, 1, none⟩ = some (.int .i64 sn) := fun p => (p.below.cell (p := ⟨w.heap.size + 1, 1, none⟩) y6).trans y1
  have q8 : ∀ p : BelowOf w4, p.world.cell? ⟨w.heap.size + 1, 2, none⟩ = some (.bool sh) := fun p => (p.below.cell (p := ⟨w.heap.size + 1, 2, none⟩) y6).trans y2
  have q9 : ∀ p : BelowOf w4, p.world.cell? ⟨w.heap.size + 1, 3, none⟩ = some (.string sm) := fun p => (p.below.cell (p := ⟨w.heap.size + 1, 3, none⟩) y6).trans y3
  have q10 : ∀ p : BelowOf w4, p.world.cell? ⟨w.heap.size + 1, 4, none⟩ = some (.slice sl si sj) := fun p => (p.below.cell (p := ⟨w.heap.size + 1, 4, none⟩) y6).trans y4
  have q11 : ∀ p : BelowOf w4, p.world.cell? ⟨w.heap.size + 1, 5, none⟩ = some (.slice sk sp sq) := fun p => (p.below.cell (p := ⟨w.heap.size + 1, 5, none⟩) y6).trans y5
  have q12 : ∀ p : BelowOf w4, p.world.cell? ⟨w.heap.size + 1 + 1, 0, none⟩ = some (.int .i64 uf) := fun p => (p.below.cell (p := ⟨w.heap.size + 1 + 1, 0, none⟩) z6).trans z0
  have q13 : ∀ p : BelowOf w4, p.world.cell? ⟨w.heap.size + 1 + 1, 1, none⟩ = some (.int .i64 un) := fun p => (p.below.cell (p := ⟨w.heap.size + 1 + 1, 1, none⟩) z6).trans z1
  have q14 : ∀ p : BelowOf w4, p.world.cell? ⟨w.heap.size + 1 + 1, 2, none⟩ = some (.bool uh) := fun p => (p.below.cell (p := ⟨w.heap.size + 1 + 1, 2, none⟩) z6).trans z2
  have q15 : ∀ p : BelowOf w4, p.world.cell? ⟨w.heap.size + 1 + 1, 3, none⟩ = some (.string um) := fun p => (p.below.cell (p := ⟨w.heap.size + 1 + 1, 3, none⟩) z6).trans z3
  have q16 : ∀ p : BelowOf w4, p.world.cell? ⟨w.heap.size + 1 + 1, 4, none⟩ = some (.slice ul ui uj) := fun p => (p.below.cell (p := ⟨w.heap.size + 1 + 1, 4, none⟩) z6).trans z4
  have q17 : ∀ p : BelowOf w4, p.world.cell? ⟨w.heap.size + 1 + 1, 5, none⟩ = some (.slice uk up uq) := fun p => (p.below.cell (p := ⟨w.heap.size + 1 + 1, 5, none⟩) z6).trans z5
  have mx := mixed
  have inh : Nonempty (BelowOf w4) := ⟨⟨w4, Below.refl _ _⟩⟩
  have HZT' : ∀ p : BelowOf w4, Calls Try.prog 17 #[.agg #[.int .i64 tf, .int .i64 tn, .bool th, .string tm, .slice tl ti tj, .slice tk tp tq]] p.world fun e w' => e = .returned (.int .i64 zt) ∧ RowKit.Below p.world.heap.size p.world w' := fun p => HZT p.world (HB4.out.trans (p.below.mono HB4.out.size))
  have HZS' : ∀ p : BelowOf w4, Calls Try.prog 17 #[.agg #[.int .i64 sf, .int .i64 sn, .bool sh, .string sm, .slice sl si sj, .slice sk sp sq]] p.world fun e w' => e = .returned (.int .i64 zs) ∧ RowKit.Below p.world.heap.size p.world w' := fun p => HZS p.world (HB4.out.trans (p.below.mono HB4.out.size))
  have HZU' : ∀ p : BelowOf w4, Calls Try.prog 17 #[.agg #[.int .i64 uf, .int .i64 un, .bool uh, .string um, .slice ul ui uj, .slice uk up uq]] p.world fun e w' => e = .returned (.int .i64 zu) ∧ RowKit.Below p.world.heap.size p.world w' := fun p => HZU p.world (HB4.out.trans (p.below.mono HB4.out.size))
  clear x0 x1 x2 x3 x4 x5 y0 y1 y2 y3 y4 y5 z0 z1 z2 z3 z4 z5 HZT HZS HZU
  by_cases hz : zt = 0
  · have hzb : (zt == 0) = true := by simpa using hz
    clear hz
    go_wp2_with fail
    refine wp_region_quiet_below (by assumption) (by kernel_rfl) ?_
    repeat (go_big_quiet_step (first | with_reducible exact below_of (HZT' _) | with_reducible exact below_of (HZS' _) | with_reducible exact below_of (HZU' _)))
    refine wpQuiet_nil ?_
    intro wq hw'
    have hq : RowKit.Below w4.heap.size w4 wq := by obtain ⟨p, rfl⟩ := hw'; exact p.below
    clear hw'
    go_wp2
    go_ret
    exact ⟨rfl, HB4.out.trans (hq.mono HB4.out.size)⟩
  have hbzt : (zt == 0) = false := by simpa using hz
  have hnzt := hz
  clear hz
  by_cases hz : zs = 0
  · have hzb : (zs == 0) = true := by simpa using hz
    clear hz
    go_wp2_with fail
    refine wp_region_quiet_below (by assumption) (by kernel_rfl) ?_
    repeat (go_big_quiet_step (first | with_reducible exact below_of (HZT' _) | with_reducible exact below_of (HZS' _) | with_reducible exact below_of (HZU' _)))
    refine wpQuiet_nil ?_
    intro wq hw'
    have hq : RowKit.Below w4.heap.size w4 wq := by obtain ⟨p, rfl⟩ := hw'; exact p.below
    clear hw'
    go_wp2
    go_ret
    exact ⟨rfl, HB4.out.trans (hq.mono HB4.out.size)⟩
  have hbzs : (zs == 0) = false := by simpa using hz
  have hnzs := hz
  clear hz
  by_cases hz : zu = 0
  · have hzb : (zu == 0) = true := by simpa using hz
    clear hz
    go_wp2_with fail
    refine wp_region_quiet_below (by assumption) (by kernel_rfl) ?_
    repeat (go_big_quiet_step (first | with_reducible exact below_of (HZT' _) | with_reducible exact below_of (HZS' _) | with_reducible exact below_of (HZU' _)))
    refine wpQuiet_nil ?_
    intro wq hw'
    have hq : RowKit.Below w4.heap.size w4 wq := by obtain ⟨p, rfl⟩ := hw'; exact p.below
    clear hw'
    go_wp2
    go_ret
    exact ⟨rfl, HB4.out.trans (hq.mono HB4.out.size)⟩
  have hbzu : (zu == 0) = false := by simpa using hz
  have hnzu := hz
  clear hz
  obtain ⟨pr, hmul, hp0, hp1⟩ : ∃ pr : Int, zt * (zs + zu) = pr ∧ 0 ≤ pr ∧ pr ≤ 800000000 := ⟨_, rfl, Int.mul_nonneg ht0 (by omega), Int.le_trans (Int.mul_le_mul ht1 (show zs + zu ≤ 40000 by omega) (by omega) (by omega)) (by omega)⟩
  have hsum : IntKind.i64.wrap (zs + zu) = zs + zu := Go.IntWalk.i64_in _ (by omega)
  by_cases hpr : 15000 < pr
  · go_wp2_with fail
    refine wp_region_quiet_below (by assumption) (by kernel_rfl) ?_
    repeat (go_big_quiet_step (first | with_reducible exact below_of (HZT' _) | with_reducible exact below_of (HZS' _) | with_reducible exact below_of (HZU' _)))
    refine wpQuiet_nil ?_
    intro wq hw'
    have hq : RowKit.Below w4.heap.size w4 wq := by obtain ⟨p, rfl⟩ := hw'; exact p.below
    clear hw'
    go_wp2
    go_ret
    exact ⟨rfl, HB4.out.trans (hq.mono HB4.out.size)⟩
  go_wp2_with fail
  refine wp_region_quiet_below (by assumption) (by kernel_rfl) ?_
  repeat (go_big_quiet_step (first | with_reducible exact below_of (HZT' _) | with_reducible exact below_of (HZS' _) | with_reducible exact below_of (HZU' _)))
  refine wpQuiet_nil ?_
  intro wq hw'
  have hq : RowKit.Below w4.heap.size w4 wq := by obtain ⟨p, rfl⟩ := hw'; exact p.below
  clear hw'
  have HB : Hid (RowKit.Below w.heap.size w wq) := HB4.out.trans (hq.mono HB4.out.size)
  have Xt : Hid (Bx wq w.heap.size #[.int .i64 tf, .int .i64 tn, .bool th, .string tm, .slice tl ti tj, .slice tk tp tq] t) := ⟨(hq.block w.heap.size (heap_lt HT4.out)).trans HT4.out, HVT.out.on HB.out, hPt⟩
  have Xs : Hid (Bx wq (w.heap.size + 1) #[.int .i64 sf, .int .i64 sn, .bool sh, .string sm, .slice sl si sj, .slice sk sp sq] s) := ⟨(hq.block (w.heap.size + 1) (heap_lt HS4.out)).trans HS4.out, HVS.out.on HB.out, hPs⟩
  have Xu : Hid (Bx wq (w.heap.size + 1 + 1) #[.int .i64 uf, .int .i64 un, .bool uh, .string um, .slice ul ui uj, .slice uk up uq] u) := ⟨(hq.block (w.heap.size + 1 + 1) (heap_lt HU4.out)).trans HU4.out, HVU.out.on HB.out, hPu⟩
  have ct : checkT t = 0 := HCT.out hnzt
  have cs : checkT s = 0 := HCS.out hnzs
  have cu : checkT u = 0 := HCU.out hnzu
  have CT := Hid.mk ct
  have CS := Hid.mk cs
  have CU := Hid.mk cu
  obtain ⟨oa0, oa1, oa2, oa3, oa4, oa5, oa6⟩ := cells6 Xt.out.box
  clear q0 q1 q2 q3 q4 q5 q6 q7 q8 q9 q10 q11 q12 q13 q14 q15 q16 q17 HZT' HZS' HZU' inh hq ct cs cu HCT HCS HCU HRT HRS HRU hbzt hbzs hbzu hnzt hnzs hnzu hsum hmul ht0 ht1 hs0 hs1 hu0 hu1 x6 y6 z6 HB0 HB1 HB2 HB3 HB4 HT0 HT1 HT2 HT3 HT4 HS0 HS1 HS2 HS3 HS4 HU0 HU1 HU2 HU3 HU4 hPt hPs hPu HVT HVS HVU HW0
  have HC1 := LiftX t _ wq Xt.out.tv Xt.out.sm
  go_wp2_with fail
  clear hpr hp0 hp1
  clear oa0 oa1 oa2 oa3 oa4 oa5 oa6
  refine HC1.mono ?_
  rintro e wn1 ⟨Af, An, Ah, Am, Al, Ai, Aj, Ak, Ap, Aq, cA, RA, rfl, htv, hsm, hc0A, hc1A, hsp, hb⟩
  have SPA := Hid.mk hsp
  have TVN := Hid.mk htv
  have Xt := Hid.mk (Xt.out.on hb)
  have Xs := Hid.mk (Xs.out.on hb)
  have Xu := Hid.mk (Xu.out.on hb)
  have HB := Hid.mk (HB.out.trans (hb.mono HB.out.size))
  clear hsp htv HC1 hb
  obtain ⟨oa0, oa1, oa2, oa3, oa4, oa5, oa6⟩ := cells6 Xs.out.box
  go_wp2_with fail
  obtain ⟨wm1, hwm⟩ : ∃ wm, wn1.alloc (.cells #[.int .i64 Af, .int .i64 An, .bool Ah, .string Am, .slice Al Ai Aj, .slice Ak Ap Aq] 25) = wm := ⟨_, rfl⟩
  rw [hwm]
  have hbm : RowKit.Below wn1.heap.size wn1 wm1 := by rw [← hwm]; exact (Below.refl _ _).alloc (Nat.le_refl _) _
  have XA : Hid (Bx wm1 wn1.heap.size #[.int .i64 Af, .int .i64 An, .bool Ah, .string Am, .slice Al Ai Aj, .slice Ak Ap Aq] RA) := by unfold Hid; rw [← hwm]; exact Bx.alloc TVN.out hsm
  have Xt := Hid.mk (Xt.out.on hbm)
  have Xs := Hid.mk (Xs.out.on hbm)
  have Xu := Hid.mk (Xu.out.on hbm)
  have HB := Hid.mk (HB.out.trans (hbm.mono HB.out.size))
  clear hwm hbm TVN hsm oa0 oa1 oa2 oa3 oa4 oa5 oa6
  have HC2 := SubstX RA _ 0 s _ wm1 (by omega) (by omega) XA.out.tv Xs.out.tv XA.out.sm Xs.out.sm
  refine HC2.mono ?_
  rintro e wn2 ⟨Bf, Bn, Bh, Bm, Bl, Bi, Bj, Bk, Bp, Bq, cB, RB, rfl, htv, hsm, hc0B, hc1B, hsp, hb⟩
  have SPB := Hid.mk hsp
  have TVN := Hid.mk htv
  have Xt := Hid.mk (Xt.out.on hb)
  have Xs := Hid.mk (Xs.out.on hb)
  have Xu := Hid.mk (Xu.out.on hb)
  have XA := Hid.mk (XA.out.on hb)
  have HB := Hid.mk (HB.out.trans (hb.mono HB.out.size))
  clear hsp htv HC2 hb
  obtain ⟨oa0, oa1, oa2, oa3, oa4, oa5, oa6⟩ := cells6 Xt.out.box
  go_wp2_with fail
  obtain ⟨wm2, hwm⟩ : ∃ wm, wn2.alloc (.cells #[.int .i64 Bf, .int .i64 Bn, .bool Bh, .string Bm, .slice Bl Bi Bj, .slice Bk Bp Bq] 25) = wm := ⟨_, rfl⟩
  rw [hwm]
  have hbm : RowKit.Below wn2.heap.size wn2 wm2 := by rw [← hwm]; exact (Below.refl _ _).alloc (Nat.le_refl _) _
  have XB : Hid (Bx wm2 wn2.heap.size #[.int .i64 Bf, .int .i64 Bn, .bool Bh, .string Bm, .slice Bl Bi Bj, .slice Bk Bp Bq] RB) := by unfold Hid; rw [← hwm]; exact Bx.alloc TVN.out hsm
  have Xt := Hid.mk (Xt.out.on hbm)
  have Xs := Hid.mk (Xs.out.on hbm)
  have Xu := Hid.mk (Xu.out.on hbm)
  have XA := Hid.mk (XA.out.on hbm)
  have HB := Hid.mk (HB.out.trans (hbm.mono HB.out.size))
  clear hwm hbm TVN hsm oa0 oa1 oa2 oa3 oa4 oa5 oa6
  by_cases hA : cA = 0
  rotate_left
  · have h2 : cA = 2 := (SPA.out.2 CT.out).resolve_left hA
    subst h2
    clear hA
    refine (num2_any _ _).mono ?_
    rintro e w' ⟨rfl, rfl⟩
    go_wp2_with (go_at_call 14; refine (num2_any _ _).mono ?_; rintro e w' ⟨rfl, rfl⟩)
    go_ret
    exact ⟨rfl, HB.out⟩
  subst hA
  by_cases hB : cB = 0
  rotate_left
  · have h2 : cB = 2 := (SPB.out.2 (SPA.out.1 rfl).2 CS.out).resolve_left hB
    subst h2
    clear hB
    refine (num2_any _ _).mono ?_
    rintro e w' ⟨rfl, rfl⟩
    go_wp2_with (go_at_call 14; refine (num2_any _ _).mono ?_; rintro e w' ⟨rfl, rfl⟩)
    go_ret
    exact ⟨rfl, HB.out⟩
  subst hB
  have HSM := Same_any RB t _ _ wm2 XB.out.tv Xt.out.tv XB.out.sm Xt.out.sm
  rw [back_same CT.out (SPA.out.1 rfl).1 (SPB.out.1 rfl).2.2.1 (SPB.out.1 rfl).2.2.2] at HSM
  obtain ⟨oa0, oa1, oa2, oa3, oa4, oa5, oa6⟩ := cells6 Xt.out.box
  obtain ⟨ob0, ob1, ob2, ob3, ob4, ob5, ob6⟩ := cells6 XB.out.box
  refine (num2_any _ _).mono ?_
  rintro e w' ⟨rfl, rfl⟩
  go_wp2_with (go_at_call 14; refine (num2_any _ _).mono ?_; rintro e w' ⟨rfl, rfl⟩)
  refine HSM.mono ?_
  rintro e wn9 ⟨rfl, hb⟩
  have Xt := Hid.mk (Xt.out.on hb)
  have Xs := Hid.mk (Xs.out.on hb)
  have Xu := Hid.mk (Xu.out.on hb)
  have XA := Hid.mk (XA.out.on hb)
  have XB := Hid.mk (XB.out.on hb)
  have HB := Hid.mk (HB.out.trans (hb.mono HB.out.size))
  clear hb
  clear HSM SPA SPB oa0 oa1 oa2 oa3 oa4 oa5 oa6 ob0 ob1 ob2 ob3 ob4 ob5 ob6
  obtain ⟨oa0, oa1, oa2, oa3, oa4, oa5, oa6⟩ := cells6 Xu.out.box
  have HC3 := LiftX u _ wn9 Xu.out.tv Xu.out.sm
  go_wp2_with fail
  clear oa0 oa1 oa2 oa3 oa4 oa5 oa6
  clear XA XB
  refine HC3.mono ?_
  rintro e wn3 ⟨Cf, Cn, Ch, Cm, Cl, Ci, Cj, Ck, Cp, Cq, cC, RC, rfl, htv, hsm, hc0C, hc1C, hsp, hb⟩
  have SPC := Hid.mk hsp
  have TVN := Hid.mk htv
  have Xt := Hid.mk (Xt.out.on hb)
  have Xs := Hid.mk (Xs.out.on hb)
  have Xu := Hid.mk (Xu.out.on hb)
  have HB := Hid.mk (HB.out.trans (hb.mono HB.out.size))
  clear hsp htv HC3 hb
  obtain ⟨oa0, oa1, oa2, oa3, oa4, oa5, oa6⟩ := cells6 Xt.out.box
  obtain ⟨ob0, ob1, ob2, ob3, ob4, ob5, ob6⟩ := cells6 Xs.out.box
  go_wp2_with fail
  obtain ⟨wm3, hwm⟩ : ∃ wm, wn3.alloc (.cells #[.int .i64 Cf, .int .i64 Cn, .bool Ch, .string Cm, .slice Cl Ci Cj, .slice Ck Cp Cq] 25) = wm := ⟨_, rfl⟩
  rw [hwm]
  have hbm : RowKit.Below wn3.heap.size wn3 wm3 := by rw [← hwm]; exact (Below.refl _ _).alloc (Nat.le_refl _) _
  have XC : Hid (Bx wm3 wn3.heap.size #[.int .i64 Cf, .int .i64 Cn, .bool Ch, .string Cm, .slice Cl Ci Cj, .slice Ck Cp Cq] RC) := by unfold Hid; rw [← hwm]; exact Bx.alloc TVN.out hsm
  have Xt := Hid.mk (Xt.out.on hbm)
  have Xs := Hid.mk (Xs.out.on hbm)
  have Xu := Hid.mk (Xu.out.on hbm)
  have HB := Hid.mk (HB.out.trans (hbm.mono HB.out.size))
  clear hwm hbm TVN hsm oa0 oa1 oa2 oa3 oa4 oa5 oa6 ob0 ob1 ob2 ob3 ob4 ob5 ob6
  have HC4 := SubstX t _ 0 s _ wm3 (by omega) (by omega) Xt.out.tv Xs.out.tv Xt.out.sm Xs.out.sm
  refine HC4.mono ?_
  rintro e wn4 ⟨Df, Dn, Dh, Dm, Dl, Di, Dj, Dk, Dp, Dq, cD, RD, rfl, htv, hsm, hc0D, hc1D, hsp, hb⟩
  have SPD := Hid.mk hsp
  have TVN := Hid.mk htv
  have Xt := Hid.mk (Xt.out.on hb)
  have Xs := Hid.mk (Xs.out.on hb)
  have Xu := Hid.mk (Xu.out.on hb)
  have XC := Hid.mk (XC.out.on hb)
  have HB := Hid.mk (HB.out.trans (hb.mono HB.out.size))
  clear hsp htv HC4 hb
  obtain ⟨oa0, oa1, oa2, oa3, oa4, oa5, oa6⟩ := cells6 Xu.out.box
  go_wp2_with fail
  obtain ⟨wm4, hwm⟩ : ∃ wm, wn4.alloc (.cells #[.int .i64 Df, .int .i64 Dn, .bool Dh, .string Dm, .slice Dl Di Dj, .slice Dk Dp Dq] 25) = wm := ⟨_, rfl⟩
  rw [hwm]
  have hbm : RowKit.Below wn4.heap.size wn4 wm4 := by rw [← hwm]; exact (Below.refl _ _).alloc (Nat.le_refl _) _
  have XD : Hid (Bx wm4 wn4.heap.size #[.int .i64 Df, .int .i64 Dn, .bool Dh, .string Dm, .slice Dl Di Dj, .slice Dk Dp Dq] RD) := by unfold Hid; rw [← hwm]; exact Bx.alloc TVN.out hsm
  have Xt := Hid.mk (Xt.out.on hbm)
  have Xs := Hid.mk (Xs.out.on hbm)
  have Xu := Hid.mk (Xu.out.on hbm)
  have XC := Hid.mk (XC.out.on hbm)
  have HB := Hid.mk (HB.out.trans (hbm.mono HB.out.size))
  clear hwm hbm TVN hsm oa0 oa1 oa2 oa3 oa4 oa5 oa6
  have HC5 := SubstX RD _ 0 u _ wm4 (by omega) (by omega) XD.out.tv Xu.out.tv XD.out.sm Xu.out.sm
  refine HC5.mono ?_
  rintro e wn5 ⟨Ef, En, Eh, Em, El, Ei, Ej, Ek, Ep, Eq, cE, RE, rfl, htv, hsm, hc0E, hc1E, hsp, hb⟩
  have SPE := Hid.mk hsp
  have TVN := Hid.mk htv
  have Xt := Hid.mk (Xt.out.on hb)
  have Xs := Hid.mk (Xs.out.on hb)
  have Xu := Hid.mk (Xu.out.on hb)
  have XC := Hid.mk (XC.out.on hb)
  have XD := Hid.mk (XD.out.on hb)
  have HB := Hid.mk (HB.out.trans (hb.mono HB.out.size))
  clear hsp htv HC5 hb
  obtain ⟨oa0, oa1, oa2, oa3, oa4, oa5, oa6⟩ := cells6 Xt.out.box
  obtain ⟨ob0, ob1, ob2, ob3, ob4, ob5, ob6⟩ := cells6 XC.out.box
  go_wp2_with fail
  obtain ⟨wm5, hwm⟩ : ∃ wm, wn5.alloc (.cells #[.int .i64 Ef, .int .i64 En, .bool Eh, .string Em, .slice El Ei Ej, .slice Ek Ep Eq] 25) = wm := ⟨_, rfl⟩
  rw [hwm]
  have hbm : RowKit.Below wn5.heap.size wn5 wm5 := by rw [← hwm]; exact (Below.refl _ _).alloc (Nat.le_refl _) _
  have XE : Hid (Bx wm5 wn5.heap.size #[.int .i64 Ef, .int .i64 En, .bool Eh, .string Em, .slice El Ei Ej, .slice Ek Ep Eq] RE) := by unfold Hid; rw [← hwm]; exact Bx.alloc TVN.out hsm
  have Xt := Hid.mk (Xt.out.on hbm)
  have Xs := Hid.mk (Xs.out.on hbm)
  have Xu := Hid.mk (Xu.out.on hbm)
  have XC := Hid.mk (XC.out.on hbm)
  have XD := Hid.mk (XD.out.on hbm)
  have HB := Hid.mk (HB.out.trans (hbm.mono HB.out.size))
  clear hwm hbm TVN hsm oa0 oa1 oa2 oa3 oa4 oa5 oa6 ob0 ob1 ob2 ob3 ob4 ob5 ob6
  have HC6 := SubstX t _ 1 RC _ wm5 (by omega) (by omega) Xt.out.tv XC.out.tv Xt.out.sm XC.out.sm
  refine HC6.mono ?_
  rintro e wn6 ⟨Ff, Fn, Fh, Fm, Fl, Fi, Fj, Fk, Fp, Fq, cF, RF, rfl, htv, hsm, hc0F, hc1F, hsp, hb⟩
  have SPF := Hid.mk hsp
  have TVN := Hid.mk htv
  have Xt := Hid.mk (Xt.out.on hb)
  have Xs := Hid.mk (Xs.out.on hb)
  have Xu := Hid.mk (Xu.out.on hb)
  have XC := Hid.mk (XC.out.on hb)
  have XD := Hid.mk (XD.out.on hb)
  have XE := Hid.mk (XE.out.on hb)
  have HB := Hid.mk (HB.out.trans (hb.mono HB.out.size))
  clear hsp htv HC6 hb
  obtain ⟨oa0, oa1, oa2, oa3, oa4, oa5, oa6⟩ := cells6 Xs.out.box
  obtain ⟨ob0, ob1, ob2, ob3, ob4, ob5, ob6⟩ := cells6 Xu.out.box
  go_wp2_with fail
  obtain ⟨wm6, hwm⟩ : ∃ wm, wn6.alloc (.cells #[.int .i64 Ff, .int .i64 Fn, .bool Fh, .string Fm, .slice Fl Fi Fj, .slice Fk Fp Fq] 25) = wm := ⟨_, rfl⟩
  rw [hwm]
  have hbm : RowKit.Below wn6.heap.size wn6 wm6 := by rw [← hwm]; exact (Below.refl _ _).alloc (Nat.le_refl _) _
  have XF : Hid (Bx wm6 wn6.heap.size #[.int .i64 Ff, .int .i64 Fn, .bool Fh, .string Fm, .slice Fl Fi Fj, .slice Fk Fp Fq] RF) := by unfold Hid; rw [← hwm]; exact Bx.alloc TVN.out hsm
  have Xt := Hid.mk (Xt.out.on hbm)
  have Xs := Hid.mk (Xs.out.on hbm)
  have Xu := Hid.mk (Xu.out.on hbm)
  have XC := Hid.mk (XC.out.on hbm)
  have XD := Hid.mk (XD.out.on hbm)
  have XE := Hid.mk (XE.out.on hbm)
  have HB := Hid.mk (HB.out.trans (hbm.mono HB.out.size))
  clear hwm hbm TVN hsm oa0 oa1 oa2 oa3 oa4 oa5 oa6 ob0 ob1 ob2 ob3 ob4 ob5 ob6
  have HC7 := SubstX s _ 0 u _ wm6 (by omega) (by omega) Xs.out.tv Xu.out.tv Xs.out.sm Xu.out.sm
  refine HC7.mono ?_
  rintro e wn7 ⟨Gf, Gn, Gh, Gm, Gl, Gi, Gj, Gk, Gp, Gq, cG, RG, rfl, htv, hsm, hc0G, hc1G, hsp, hb⟩
  have SPG := Hid.mk hsp
  have TVN := Hid.mk htv
  have Xt := Hid.mk (Xt.out.on hb)
  have Xs := Hid.mk (Xs.out.on hb)
  have Xu := Hid.mk (Xu.out.on hb)
  have XC := Hid.mk (XC.out.on hb)
  have XD := Hid.mk (XD.out.on hb)
  have XE := Hid.mk (XE.out.on hb)
  have XF := Hid.mk (XF.out.on hb)
  have HB := Hid.mk (HB.out.trans (hb.mono HB.out.size))
  clear hsp htv HC7 hb
  obtain ⟨oa0, oa1, oa2, oa3, oa4, oa5, oa6⟩ := cells6 XF.out.box
  go_wp2_with fail
  obtain ⟨wm7, hwm⟩ : ∃ wm, wn7.alloc (.cells #[.int .i64 Gf, .int .i64 Gn, .bool Gh, .string Gm, .slice Gl Gi Gj, .slice Gk Gp Gq] 25) = wm := ⟨_, rfl⟩
  rw [hwm]
  have hbm : RowKit.Below wn7.heap.size wn7 wm7 := by rw [← hwm]; exact (Below.refl _ _).alloc (Nat.le_refl _) _
  have XG : Hid (Bx wm7 wn7.heap.size #[.int .i64 Gf, .int .i64 Gn, .bool Gh, .string Gm, .slice Gl Gi Gj, .slice Gk Gp Gq] RG) := by unfold Hid; rw [← hwm]; exact Bx.alloc TVN.out hsm
  have Xt := Hid.mk (Xt.out.on hbm)
  have Xs := Hid.mk (Xs.out.on hbm)
  have Xu := Hid.mk (Xu.out.on hbm)
  have XC := Hid.mk (XC.out.on hbm)
  have XD := Hid.mk (XD.out.on hbm)
  have XE := Hid.mk (XE.out.on hbm)
  have XF := Hid.mk (XF.out.on hbm)
  have HB := Hid.mk (HB.out.trans (hbm.mono HB.out.size))
  clear hwm hbm TVN hsm oa0 oa1 oa2 oa3 oa4 oa5 oa6
  have HC8 := SubstX RF _ 0 RG _ wm7 (by omega) (by omega) XF.out.tv XG.out.tv XF.out.sm XG.out.sm
  refine HC8.mono ?_
  rintro e wn8 ⟨Hf, Hn, Hh, Hm, Hl, Hi, Hj, Hk, Hp, Hq, cH, RH, rfl, htv, hsm, hc0H, hc1H, hsp, hb⟩
  have SPH := Hid.mk hsp
  have TVN := Hid.mk htv
  have Xt := Hid.mk (Xt.out.on hb)
  have Xs := Hid.mk (Xs.out.on hb)
  have Xu := Hid.mk (Xu.out.on hb)
  have XC := Hid.mk (XC.out.on hb)
  have XD := Hid.mk (XD.out.on hb)
  have XE := Hid.mk (XE.out.on hb)
  have XF := Hid.mk (XF.out.on hb)
  have XG := Hid.mk (XG.out.on hb)
  have HB := Hid.mk (HB.out.trans (hb.mono HB.out.size))
  clear hsp htv HC8 hb
  go_wp2_with fail
  obtain ⟨wm8, hwm⟩ : ∃ wm, wn8.alloc (.cells #[.int .i64 Hf, .int .i64 Hn, .bool Hh, .string Hm, .slice Hl Hi Hj, .slice Hk Hp Hq] 25) = wm := ⟨_, rfl⟩
  rw [hwm]
  have hbm : RowKit.Below wn8.heap.size wn8 wm8 := by rw [← hwm]; exact (Below.refl _ _).alloc (Nat.le_refl _) _
  have XH : Hid (Bx wm8 wn8.heap.size #[.int .i64 Hf, .int .i64 Hn, .bool Hh, .string Hm, .slice Hl Hi Hj, .slice Hk Hp Hq] RH) := by unfold Hid; rw [← hwm]; exact Bx.alloc TVN.out hsm
  have Xt := Hid.mk (Xt.out.on hbm)
  have Xs := Hid.mk (Xs.out.on hbm)
  have Xu := Hid.mk (Xu.out.on hbm)
  have XC := Hid.mk (XC.out.on hbm)
  have XD := Hid.mk (XD.out.on hbm)
  have XE := Hid.mk (XE.out.on hbm)
  have XF := Hid.mk (XF.out.on hbm)
  have XG := Hid.mk (XG.out.on hbm)
  have HB := Hid.mk (HB.out.trans (hbm.mono HB.out.size))
  clear hwm hbm TVN hsm
  by_cases hz : cC = 0 ∧ cD = 0 ∧ cE = 0 ∧ cF = 0 ∧ cG = 0 ∧ cH = 0
  rotate_left
  · have hsm : (cC + cD + cE + cF + cG + cH != 0) = true := by simp; omega
    clear hz
    refine (num2_any _ _).mono ?_
    rintro e w' ⟨rfl, rfl⟩
    go_wp2_with (go_at_call 14; refine (num2_any _ _).mono ?_; rintro e w' ⟨rfl, rfl⟩)
    go_ret
    exact ⟨rfl, HB.out⟩
  obtain ⟨rfl, rfl, rfl, rfl, rfl, rfl⟩ := hz
  have HSM := Same_any RE RH _ _ wm8 XE.out.tv XH.out.tv XE.out.sm XH.out.sm
  rw [two_same CT.out CS.out CU.out (SPC.out.1 rfl).1 (SPD.out.1 rfl).2.2.1 (SPE.out.1 rfl).2.2.1 (SPF.out.1 rfl).2.2.1 (SPG.out.1 rfl).2.2.1 (SPH.out.1 rfl).2.2.1 (SPE.out.1 rfl).2.2.2] at HSM
  obtain ⟨oa0, oa1, oa2, oa3, oa4, oa5, oa6⟩ := cells6 XE.out.box
  obtain ⟨ob0, ob1, ob2, ob3, ob4, ob5, ob6⟩ := cells6 XH.out.box
  refine (num2_any _ _).mono ?_
  rintro e w' ⟨rfl, rfl⟩
  go_wp2_with (go_at_call 14; refine (num2_any _ _).mono ?_; rintro e w' ⟨rfl, rfl⟩)
  refine HSM.mono ?_
  rintro e wf ⟨rfl, hb⟩
  go_wp2
  go_ret
  exact ⟨rfl, HB.out.trans (hb.mono HB.out.size)⟩

theorem ownL : ownKnob Try.prog.godebug = none := by kernel_rfl

theorem all_three {H : Type} {ts : List TypeId} {d0 d1 d2 : DataW H} (h : (DataW.weightsEach Try.prog ([25, 25, 25] ++ ts) ([d0, d1, d2] ++ [])).all (· ≤ reachBytes) = true) : (∀ n ∈ d0.weights Try.prog 25, n ≤ reachBytes) ∧ (∀ n ∈ d1.weights Try.prog 25, n ≤ reachBytes) ∧ (∀ n ∈ d2.weights Try.prog 25, n ≤ reachBytes) := by
  simp only [List.cons_append, List.nil_append, DataW.weightsEach, List.all_append, Bool.and_eq_true, List.all_eq_true, decide_eq_true_eq] at h
  exact ⟨h.1, h.2.1, h.2.2.1⟩

set_option maxRecDepth 100000 in
theorem lifted (os : Os) (started : os.Started) (H : Type) (enc : TypeId × Value → H) :
    ReturnsInHanded {} Try.checked os 7 .any (Rows.termLawsSpec.pre6 enc Try.prog Try.f7 Rows.termLawsRow.domain false) (Rows.termLawsSpec.post enc Try.prog Try.f7 false true false false) := by
  refine returnsInHanded_of_change_sized (C := Try.checked) ownL started (by kernel_rfl) Try.func7
    (ChangeSpec.witness6 (enc := enc) (C := Try.checked) false ⟨#[], #[.agg #[.int .i64 0, .int .i64 0, .bool false, .string { data := #[] }, .slice none 0 0, .slice none 0 0], .agg #[.int .i64 0, .int .i64 0, .bool false, .string { data := #[] }, .slice none 0 0, .slice none 0 0], .agg #[.int .i64 0, .int .i64 0, .bool false, .string { data := #[] }, .slice none 0 0, .slice none 0 0]], []⟩ 8 (by kernel_rfl) (by kernel_rfl) (by kernel_rfl) (by kernel_rfl)) ?_
  intro W base args ds gs before hval0 hW hcnd hwt _
  have hval : ∀ (j : Nat) t v, Try.f7.params[j]? = some t → args[j]? = some v → Value.okWide Try.prog W .any base t v := hval0
  have hW' := hW
  obtain ⟨p, q, hA0, hV, rfl, hfz, hnd⟩ := hW
  have hA : DataW.TrodAll enc Try.prog W 0 (fun _ => true) true Try.f7.params.toList args.toList ds p := hA0
  rw [Try.params7] at hA hval
  obtain ⟨v0, v1, v2, d0, d1, d2, p0, p1, p2, rfl, rfl, rfl, h0, h1, h2⟩ := trodAll_three hA
  obtain ⟨rfl, rfl⟩ := trodVars_none hV
  have hwt' := hwt
  rw [show Try.checked.prog = Try.prog from rfl, Try.params7] at hwt'
  obtain ⟨wt0, wt1, wt2⟩ := all_three hwt'
  have k0 := h0
  have lt0 : ∀ x ∈ p0, x.block < W.heap.size := by obtain ⟨m, hm⟩ := k0; exact DataW.trod_lt m _ _ _ hm
  obtain ⟨a, hva, hoa⟩ := open_term (hval 0 25 v0 rfl rfl) h0
  have k1 := h1
  have lt1 : ∀ x ∈ p1, x.block < W.heap.size := by obtain ⟨m, hm⟩ := k1; exact DataW.trod_lt m _ _ _ hm
  obtain ⟨b, hvb, hob⟩ := open_term (hval 1 25 v1 rfl rfl) h1
  have k2 := h2
  have lt2 : ∀ x ∈ p2, x.block < W.heap.size := by obtain ⟨m, hm⟩ := k2; exact DataW.trod_lt m _ _ _ hm
  obtain ⟨c, hvc, hoc⟩ := open_term (hval 2 25 v2 rfl rfl) h2
  clear hA0 hval0
  refine (walk a b c v0 v1 v2 W (hoa wt0) (hob wt1) (hoc wt2) hva hvb hvc).mono fun e W' ⟨he, bel⟩ => ?_
  subst he
  exact ⟨_, rfl, _, _, _, [], _, [], hW', trodAll_mk1 (shut_bool Try.underlying4 _), trodAll_mk3 (Below.trod laidOut (by kernel_rfl) (of_decide_eq_true (by kernel_rfl)) k0 bel lt0) (Below.trod laidOut (by kernel_rfl) (of_decide_eq_true (by kernel_rfl)) k1 bel lt1) (Below.trod laidOut (by kernel_rfl) (of_decide_eq_true (by kernel_rfl)) k2 bel lt2), rfl, bel.frame _, fun h => by cases h⟩

theorem over : Rows.termLawsRow.holds Try.pinned (OpenSpec.ofChange Rows.termLawsSpec) :=
  OpenClaim.holds_of_wide 7 Try.f7 rfl rfl rfl rfl rfl rfl rfl ⟨rfl, rfl, rfl, rfl, rfl⟩ rfl rfl rfl rfl rfl (by kernel_rfl) Try.func7 (by kernel_rfl)
    (of_decide_eq_true (by kernel_rfl)) (by unfold Func.isWrapper; first | (rw [if_pos (by decide +kernel)]; kernel_rfl) | (rw [if_neg (by decide +kernel)]; exact ⟨rfl, rfl⟩))
    (fun os started H enc _ => lifted os started H enc)

end termLaws

theorem termLaws_holds : Rows.TermLawsSaid := termLaws.over
#print axioms termLaws_holds
end Go.Proofs.Ytbgkeomlfdmkeaa
