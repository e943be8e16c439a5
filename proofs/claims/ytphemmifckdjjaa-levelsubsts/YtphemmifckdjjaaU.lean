/- The contract of level.Leq. -/
import Derived.Test.YtphemmifckdjjaaT
namespace Go.Proofs.Ytphemmifckdjjaa
open Go.RowKit Go.Sort Go.Shelf Go.Lib
attribute [local go_sem] Oper.semAt_some

def allLe (zs : List (Int × Int)) : Bool := zs.all fun p => decide (p.1 ≤ p.2)

theorem allLe_snoc (pre : List (Int × Int)) (x : Int × Int) : allLe (pre ++ [x]) = (allLe pre && decide (x.1 ≤ x.2)) := by simp [allLe, List.all_append]
theorem allLe_prefix {pre zs : List (Int × Int)} (h : pre <+: zs) (hn : allLe pre = false) : allLe zs = false := by
  obtain ⟨t, rfl⟩ := h
  simp only [allLe, List.all_append] at *
  rw [hn]; rfl

set_option maxRecDepth 100000 in
set_option maxHeartbeats 2000000 in
theorem Leq_yes (na nb : Int) (xs ys : List (Int × Int)) (aa ab : Option Addr) (ca cb : Nat) (w : World) (hSa : SL w aa xs) (hSb : SL w ab ys) (hra : rightB na xs = true) (hrb : rightB nb ys = true) :
    Calls Try.prog 21 #[.agg #[.int .i64 na, .slice aa xs.length ca], .agg #[.int .i64 nb, .slice ab ys.length cb]] w fun e w' => e = .returned (.bool (allLe (cmpPairs na xs nb ys))) ∧ RowKit.Below w.heap.size w w' := by
  have hxn := (right_n hra).2.2
  have hyn := (right_n hrb).2.2
  obtain ⟨W0, hW0⟩ : ∃ W0, ((w.alloc (.cells #[.int .i64 na, .slice aa xs.length ca] 24)).alloc (.cells #[.int .i64 nb, .slice ab ys.length cb] 24)).alloc (.cells #[.bool false] 4) = W0 := ⟨_, rfl⟩
  have hA : Grew w W0 := by rw [← hW0]; exact (((Grew.refl w).alloc _).alloc _).alloc _
  obtain ⟨hb0, hb1, hb2⟩ : W0.heap[w.heap.size]? = some (.cells #[.int .i64 na, .slice aa xs.length ca] 24 (0, 0)) ∧ W0.heap[w.heap.size + 1]? = some (.cells #[.int .i64 nb, .slice ab ys.length cb] 24 (0, 0)) ∧ W0.heap[w.heap.size + 2]? = some (.cells #[.bool false] 4 (0, 0)) := by rw [← hW0]; exact box3
  have hsz : W0.heap.size = w.heap.size + 3 := by rw [← hW0]; simp
  have HRa := (callsIn_wide (n := 5)).2 (right_any na xs aa ca W0 (hSa.below hA.below) (by omega))
  rw [hra] at HRa
  have HRb := fun (W : World) (g : Grew w W) => (callsIn_wide (n := 5)).2 (right_any nb ys ab cb W (hSb.below g.below) (by omega))
  simp only [hrb] at HRb
  have HC := fun (W : World) => (callsIn_wide (n := 5)).2 (compared_any na nb aa ab xs.length ys.length ca cb W)
  have HA := Hid.mk hA
  have HW0 := Hid.mk hW0
  have HSZ := Hid.mk hsz
  have H0 := Hid.mk hb0
  have H1 := Hid.mk hb1
  have H2 := Hid.mk hb2
  have HSa := Hid.mk hSa
  have HSb := Hid.mk hSb
  have HRB := Hid.mk hrb
  obtain ⟨a0, a1, -, -, -⟩ := cells2 hb0
  clear hA hW0 hsz hb0 hb1 hb2 hSa hSb hra hrb
  refine (callsIn_wide (n := 6)).1 ?_
  refine callsIn_of_wp_marks Try.func21 rfl trivial ?_ rfl
  simp only [Try.ntmps21, List.size_toArray, List.length_cons, List.length_nil, Nat.reduceAdd, Nat.reduceSub, Array.replicate_succ, Array.replicate_zero, List.push_toArray, List.append_toArray, List.nil_append, List.cons_append]
  gi_wp2_with fail
  refine ⟨trivial, ?_⟩
  rw [HW0.out]
  refine HRa.mono ?_
  rintro e w1 ⟨rfl, hg⟩
  obtain ⟨b0, b1, -, -, -⟩ := cells2 ((hg.below.block (w.heap.size + 1) (by rw [HSZ.out]; omega)).trans H1.out)
  have hg1 := HA.out.trans hg
  clear HRa a0 a1
  gi_wp2_with fail
  refine ⟨trivial, ?_⟩
  refine (HRb _ hg1).mono ?_
  rintro e w2 ⟨rfl, hg2⟩
  have hg02 := hg.trans hg2
  have hgw2 := hg1.trans hg2
  obtain ⟨c0, c1, -, -, -⟩ := cells2 ((hg02.below.block w.heap.size (by rw [HSZ.out]; omega)).trans H0.out)
  obtain ⟨d0, d1, -, -, -⟩ := cells2 ((hg02.below.block (w.heap.size + 1) (by rw [HSZ.out]; omega)).trans H1.out)
  have HR2 := Hid.mk ((hg02.below.block (w.heap.size + 2) (by rw [HSZ.out]; omega)).trans H2.out)
  have hl2 : w.heap.size + 2 < w2.heap.size := by have := hg02.below.size; rw [HSZ.out] at this; omega
  clear HRb b0 b1 hg hg1 hg2
  gi_wp2_with fail
  refine ⟨trivial, ?_⟩
  refine (HC _).mono ?_
  rintro e w' ⟨rfl, rfl⟩
  clear HC c0 c1 d0 d1
  gi_wp2_with fail
  obtain ⟨Wl, hWl⟩ : ∃ Wl, (w2.alloc (.cells #[.int .i64 na, .slice aa xs.length ca] 24)).alloc (.cells #[.int .i64 nb, .slice ab ys.length cb] 24) = Wl := ⟨_, rfl⟩
  have hgl : Grew w2 Wl := by rw [← hWl]; exact ((Grew.refl _).alloc _).alloc _
  have hgwl : Grew w Wl := hgw2.trans hgl
  have hA1 : Wl.heap[w2.heap.size]? = some (.cells #[.int .i64 na, .slice aa xs.length ca] 24 (0, 0)) := by rw [← hWl]; exact box_at
  have hA2 : Wl.heap[w2.heap.size + 1]? = some (.cells #[.int .i64 nb, .slice ab ys.length cb] 24 (0, 0)) := by rw [← hWl]; exact box_at1
  have hszl : Wl.heap.size = w2.heap.size + 2 := by rw [← hWl]; simp
  obtain ⟨rc0, rc1, rc2⟩ := cells1 ((hgl.below.block (w.heap.size + 2) hl2).trans HR2.out)
  have hBw : RowKit.Below w.heap.size w Wl := hgwl.below
  have hwl : w.heap.size ≤ Wl.heap.size := hBw.size
  rw [hWl]
  refine wpIn_rangeFunc_ownF rfl (by omega) (gf := 49) (lb := #[.pointer (some ⟨w2.heap.size, 0, none⟩), .pointer (some ⟨w2.heap.size + 1, 0, none⟩)]) rfl trivial (enters_of Try.func49 (by kernel_rfl) rfl)
    (compared1_stops 5 (by omega) w.heap.size Wl.heap.size (w.heap.size + 2) w2.heap.size (w2.heap.size + 1) na nb xs ys aa ab ca cb Wl (by omega) (by omega) (Nat.le_refl _) (by omega) (by omega) (by omega) (by omega) hA1 hA2 (HSa.out.toB.below hBw) (HSb.out.toB.below hBw) (by omega) (by omega) HRB.out)
    (fun h k => KpQ.trans h k) (fun W l o o' hl hw hc hk => ⟨belowK_b (w := Wl) hwl W l o o' hl hw hc hk, fun k hk2 _ => World.putObj_heap_other (by omega)⟩) (Below.refl _ _) (fun _ => rfl)
    (fun pre W => (allLe pre = true ∧ W.cell? ⟨w.heap.size + 1 + 1, 0, none⟩ = some (.bool false) ∧ W.frozen? ⟨w.heap.size + 1 + 1, 0, none⟩ = false) ∧ RowKit.Below w.heap.size w W)
    (fun c pre W => (c = .ret ∧ allLe pre = false ∧ W.cell? ⟨w.heap.size + 1 + 1, 0, none⟩ = some (.bool false)) ∧ RowKit.Below w.heap.size w W)
    (OwnFrom.and (Own.from (fun s A B row hs hg hr => ⟨hs.1, cell_kept hs.2.1 hg hr, (frozen_kept hs.2.1 hg hr).trans hs.2.2⟩) _) (ownFrom_below (Nat.le_refl _) (by omega)))
    (fun c => OwnFrom.and (Own.from (fun s A B row hs hg hr => ⟨hs.1, hs.2.1, cell_kept hs.2.2 hg hr⟩) _) (ownFrom_below (Nat.le_refl _) (by omega)))
    ⟨⟨rfl, rc0, rc1⟩, hBw⟩
    (fun x => { tmps := #[.agg #[.int .i64 na, .slice aa xs.length ca], .agg #[.int .i64 nb, .slice ab ys.length cb], .pointer (some ⟨w.heap.size, 0, none⟩), .pointer (some ⟨w.heap.size + 1, 0, none⟩), .pointer (some ⟨w.heap.size + 1 + 1, 0, none⟩), .int .i64 x.1, .int .i64 x.2, .agg #[.int .i64 na, .slice aa xs.length ca], .bool true, .bool false, .bool false, .agg #[.int .i64 nb, .slice ab ys.length cb], .bool true, .bool false, .bool false, .agg #[.int .i64 na, .slice aa xs.length ca], .agg #[.int .i64 nb, .slice ab ys.length cb], .func (.func 49) #[] #[.pointer (some ⟨w2.heap.size, 0, none⟩), .pointer (some ⟨w2.heap.size + 1, 0, none⟩)], .int .i64 x.1, .int .i64 x.2, undef, undef, undef], defers := [] }) ?assign ?body ?done ?stop
  case assign =>
    intro l x W K hK
    dsimp only [encQ]
    gi_wp2
    exact hK
  case body =>
    rintro l pre ⟨x, y⟩ W ⟨⟨hp, hcr, hfr⟩, hB⟩ _
    have HP := Hid.mk hp
    clear hp
    gi_wp2
    · rename_i hx
      exact ⟨KeepsOthers.setCell _ _ _, ⟨rfl, by rw [allLe_snoc]; simp; intro _; exact hx, World.cell?_setCell_same' _ _ _ (by rw [hcr]; rfl)⟩, hB.setCell (p := ⟨w.heap.size + 1 + 1, 0, none⟩) (by simp only; omega) _⟩
    · rename_i hx
      exact ⟨KeepsOthers.refl _, ⟨Below.refl _ _, fun _ _ _ => rfl⟩, ⟨by rw [allLe_snoc, HP.out]; simp; exact hx, hcr, hfr⟩, hB⟩
  case done =>
    rintro D zs W hD rfl ⟨⟨hne, hcr, hfr⟩, hB⟩ hK
    have HP := Hid.mk hne
    clear hne
    gi_wp2
    have hK' := (KeepsOthers.setCell W ⟨w.heap.size + 1 + 1, 0, none⟩ (.bool true)).same D _ hK rfl
    refine ⟨by simp, .inl ⟨_, _, rfl, run_takeDeferred hK', ?_⟩⟩
    have hc5 := cell_kept (World.cell?_setCell_same' W ⟨w.heap.size + 1 + 1, 0, none⟩ (.bool true) (by rw [hcr]; rfl)) (grownBy_putObj' _ D (.deferred none)) (fun r e => by cases e; exact ⟨_, hK', rfl⟩)
    refine ⟨.bool true, ?_, by rw [HP.out], (hB.setCell (p := ⟨w.heap.size + 1 + 1, 0, none⟩) (by simp only; omega) _).trans (belowK_b (w := w) (Nat.le_refl _) _ D _ _ (by omega) hK' rfl rfl)⟩
    simp [results, Try.f21, go_sem, hc5]
  case stop =>
    rintro D c pre W hD hpre ⟨⟨rfl, hin, hcr⟩, hB⟩ hK
    have HP := Hid.mk hin
    clear hin
    gi_wp2
    refine ⟨by simp, .inl ⟨_, _, rfl, run_takeDeferred hK, ?_⟩⟩
    have hc5 := cell_kept hcr (grownBy_putObj' _ D (.deferred none)) (fun r e => by cases e; exact ⟨_, hK, rfl⟩)
    refine ⟨.bool false, ?_, by rw [allLe_prefix hpre HP.out], hB.trans (belowK_b (w := w) (Nat.le_refl _) W D _ _ (by omega) hK rfl rfl)⟩
    simp [results, Try.f21, go_sem, hc5]

theorem leqB_eq (na nb : Int) (xs ys : List (Int × Int)) : leqB na xs nb ys = (rightB na xs && rightB nb ys && allLe (cmpPairs na xs nb ys)) := rfl

theorem Leq_any (na nb : Int) (xs ys : List (Int × Int)) (aa ab : Option Addr) (ca cb : Nat) (w : World) (hSa : SL w aa xs) (hSb : SL w ab ys) (hxn : xs.length ≤ 4398046511104) (hyn : ys.length ≤ 4398046511104) :
    Calls Try.prog 21 #[.agg #[.int .i64 na, .slice aa xs.length ca], .agg #[.int .i64 nb, .slice ab ys.length cb]] w fun e w' => e = .returned (.bool (leqB na xs nb ys)) ∧ RowKit.Below w.heap.size w w' := by
  rw [leqB_eq]
  cases h : rightB na xs && rightB nb ys
  · exact Leq_no na nb xs ys aa ab ca cb w hSa hSb hxn hyn h
  · rw [Bool.and_eq_true] at h
    exact Leq_yes na nb xs ys aa ab ca cb w hSa hSb h.1 h.2

end Go.Proofs.Ytphemmifckdjjaa
