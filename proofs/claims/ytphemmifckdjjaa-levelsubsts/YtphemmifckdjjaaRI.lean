/- The contract of telamonref1.Max. -/
import Derived.Test.YtphemmifckdjjaaRG
namespace Go.Proofs.Ytphemmifckdjjaa
open Go.RowKit Go.Sort Go.Shelf Go.Lib

theorem OR.nil_cap {B : Nat} {w : World} {a : Option Addr} {n c : Nat} {xs : List (Int × Int)} (h : OR B w (.slice a n c) xs) : a = none → c = 0 := by
  intro ha
  subst ha
  rcases h.2 with ⟨hv, _⟩ | ⟨g, cap', cur, hv, _⟩
  · simp at hv; exact hv.2
  · simp at hv

theorem OR.setNe {B : Nat} {w : World} {v : Value} {xs : List (Int × Int)} (h : OR B w v xs) {a : Addr} (ha : v.ownBlock ≠ some a.block) (u : Value) : OR B (w.setCell a u) v xs := by
  obtain ⟨h1, h2⟩ := h
  refine ⟨h1, ?_⟩
  rcases h2 with h2 | ⟨g, cap, cur, hv, hg, hh, r⟩
  · exact Or.inl h2
  · refine Or.inr ⟨g, cap, cur, hv, hg, (Below.heap_setCell _ _ _ _ ?_).trans hh, r⟩
    rintro rfl
    exact ha (by rw [hv]; rfl)

theorem OR.box {B b : Nat} {w : World} {v : Value} {xs : List (Int × Int)} {cs : Array Value} {fr : Nat × Nat} (h : OR B w v xs) (hb : w.heap[b]? = some (.cells cs 24 fr)) : v.ownBlock ≠ some b := by
  rcases h.2 with ⟨hv, _⟩ | ⟨g, cap, cur, hv, hg, hh, r⟩
  · rw [hv]; simp [Value.ownBlock]
  · rw [hv]
    intro e
    simp [Value.ownBlock] at e
    subst e
    rw [hb] at hh
    simp at hh

/-- append(v, x...) at a step of a region that draws its order -/
theorem step_app {w : World} {ops : Array Oper} {o : Oper} {a : Act} {K : Act → World → Prop} {Q : Exit → Act → World → Prop} {E : Prop} (hgd : o.guard = none) (s x : Operand) (ho : o.op = .call { callee := .builtin .append, args := #[s, x], argTypes := #[22, 22] })
    (B : Nat) (v : Value) (zs xs : List (Int × Int)) (a1 : Option Addr) (c1 : Nat) (hs : a.eval s = v) (hx : a.eval x = .slice a1 xs.length c1) (hO : OR B w v zs) (hS : SL w a1 xs) (hn : a1 = none → c1 = 0) (hl : zs.length + xs.length ≤ 4398046511104) (hB : B ≤ w.heap.size)
    (h : ∀ v' w', OR B w' v' (zs ++ xs) → w.grownBy w' v.ownBlock → K (a.put o.dst v') w') : if Region.wanted o (yielded ops a.tmps) = true then Oper.wp Try.prog o a w K Q else E := by
  have hw : Region.wanted o (yielded ops a.tmps) = true := by simp [Region.wanted, hgd]
  rw [if_pos hw]
  obtain ⟨i0, hi, hz0, hz1, hz2⟩ := info_parts infoLVar
  cases a1 with
  | none =>
    have hxe : xs = [] := by
      rcases hS with h | ⟨b, off, ha, _⟩
      · exact h
      · cases ha
    subst hxe
    rw [hn rfl] at hx
    have hrun := run_append_owned_none (P := Try.prog) (w := w) B 22 o.type 32 i0 2 Try.underlying22 hi v zs.length (flat zs) hO
    unfold Oper.wp
    simp [execOp, ho, resolve, invoke, builtin, hs, hx, hrun, Result.andThen]
    exact h v w (by simpa using hO) (grownBy_refl w _)
  | some ad =>
    have hnews : ∀ j u, (flat xs)[j]? = some u → w.cell? (ad.add j) = some u := by
      rcases hS with h | ⟨b, off, ha, hr⟩
      · subst h; intro j u hu; simp [flat] at hu
      · have ha' : ad = ⟨b, off, none⟩ := by simpa using ha
        subst ha'
        exact SL.flat (Or.inr ⟨b, off, rfl, hr⟩)
    refine wp_append_own _ s x 22 ho B 32 i0 _ 2 16 Try.underlying22 hi hz0 hz1 hz2 rfl (by decide) v zs.length (flat zs) hs hO ad xs.length c1 (flat xs) hx (flat_length xs) hnews (flat_one xs) (by simp [maxLen]; omega) (by omega) hB ?_
    intro v' w' hown hgr _
    exact h v' w' (by unfold OR; rw [flat_append, List.length_append]; exact hown) hgr

theorem norm_len (n : Int) (xs : List (Int × Int)) : (normR n xs).2.1.length ≤ 64 := by
  rcases Bool.eq_false_or_eq_true (rightB n xs) with h | h
  · rw [normR_right h]; exact Nat.le_trans (tidyL_le xs) (right_n h).2.2
  · simp [normR, h]

theorem norm_nonneg (n : Int) (xs : List (Int × Int)) : ∀ p ∈ (normR n xs).2.1, 0 ≤ p.1 := by
  rcases Bool.eq_false_or_eq_true (rightB n xs) with h | h
  · rw [normR_right h]; exact fun p hp => right_nonneg h p (tidy_mem hp)
  · simp [normR, h]

theorem rmaxR (na nb : Int) (xs ys : List (Int × Int)) : maxR na xs nb ys = if (normR na xs).2.2 = 0 ∧ (normR nb ys).2.2 = 0 then canonR (max (normR na xs).1 (normR nb ys).1) ((normR na xs).2.1 ++ (normR nb ys).2.1) else (0, [], 13) := by
  by_cases h1 : rightB na xs = true
  · by_cases h2 : rightB nb ys = true
    · rw [if_pos ⟨(norm_err na xs).2 h1, (norm_err nb ys).2 h2⟩, normR_right h1, normR_right h2, rmax_eq h1 h2]
    · rw [if_neg (fun h => h2 ((norm_err nb ys).1 h.2))]; unfold maxR; simp [h2]
  · rw [if_neg (fun h => h1 ((norm_err na xs).1 h.1))]; unfold maxR; simp [h1]

set_option maxRecDepth 100000 in
set_option maxHeartbeats 8000000 in
theorem rMax_any (na nb : Int) (xs ys : List (Int × Int)) (aa ab : Option Addr) (ca cb : Nat) (w : World) (hSa : SL w aa xs) (hSb : SL w ab ys) (hxn : xs.length ≤ 4398046511104) (hyn : ys.length ≤ 4398046511104) :
    Calls Try.prog 20 #[.agg #[.int .i64 na, .slice aa xs.length ca], .agg #[.int .i64 nb, .slice ab ys.length cb]] w fun e w' => Res w w' e (maxR na xs nb ys) := by
  have mx := mixed
  obtain ⟨W0, hW0⟩ : ∃ W0, ((w.alloc (.cells #[.int .i64 na, .slice aa xs.length ca] 24)).alloc (.cells #[.int .i64 nb, .slice ab ys.length cb] 24)).alloc (.cells #[.int .i64 0, .slice none 0 0] 24) = W0 := ⟨_, rfl⟩
  have hA : Grew w W0 := by rw [← hW0]; exact (((Grew.refl w).alloc _).alloc _).alloc _
  obtain ⟨hb0, hb1, hb2⟩ : W0.heap[w.heap.size]? = some (.cells #[.int .i64 na, .slice aa xs.length ca] 24 (0, 0)) ∧ W0.heap[w.heap.size + 1]? = some (.cells #[.int .i64 nb, .slice ab ys.length cb] 24 (0, 0)) ∧ W0.heap[w.heap.size + 2]? = some (.cells #[.int .i64 0, .slice none 0 0] 24 (0, 0)) := by rw [← hW0]; exact box3
  have hsz : W0.heap.size = w.heap.size + 3 := by rw [← hW0]; simp
  have HNa := rNorm_any na xs aa ca W0 (hSa.below hA.below) hxn
  have HNb := fun (W : World) (g : RowKit.Below w.heap.size w W) => rNorm_any nb ys ab cb W (hSb.below g) hyn
  have HRES := Hid.mk (rmaxR na nb xs ys)
  have hAl := norm_len na xs
  have hBl := norm_len nb ys
  have HAp := Hid.mk (norm_nonneg na xs)
  have HBp := Hid.mk (norm_nonneg nb ys)
  generalize maxR na xs nb ys = D at *
  generalize normR na xs = A at *
  generalize normR nb ys = B at *
  obtain ⟨n1, xs1, e1⟩ := A
  obtain ⟨n2, ys1, e2⟩ := B
  simp only at HRES hAl hBl HAp HBp
  have HW0 := Hid.mk hW0
  have HSZ := Hid.mk hsz
  have HA := Hid.mk hA
  have H2 := Hid.mk hb2
  have H1 := Hid.mk hb1
  have H0 := Hid.mk hb0
  obtain ⟨a0, a1, a2, a3, -⟩ := cells2 hb0
  clear hSa hSb hW0 hsz hA hb0 hb1 hb2
  go_enter Try.func20, Try.ntmps20
  go_wp2_with fail
  rw [HW0.out]
  refine HNa.mono ?_
  rintro e w1 ⟨v1, rfl, hO1, hb1⟩
  simp only at hO1
  obtain ⟨aa1, ca1, rfl, -, -⟩ := hO1.shape
  have hz1 := hb1.size
  have hzz := HSZ.out
  have hL1 := (hb1.block w.heap.size (by omega)).trans H0.out
  have hM1 := (hb1.block (w.heap.size + 1) (by omega)).trans H1.out
  obtain ⟨c0, c1, c2, c3, c4⟩ := cells2 hL1
  obtain ⟨d0, d1, d2, d3, d4⟩ := cells2 hM1
  have HL1 := Hid.mk hL1
  have HM1 := Hid.mk hM1
  have HR1 := Hid.mk ((hb1.block (w.heap.size + 2) (by omega)).trans H2.out)
  have HO1 := Hid.mk hO1
  have HBW1 : Hid (RowKit.Below w.heap.size w w1) := HA.out.below.trans (hb1.mono HA.out.below.size)
  clear HNa hL1 hM1 hO1 hb1 a0 a1 a2 a3 hzz
  go_wp2_with fail
  have hBW2 : RowKit.Below w.heap.size w ((w1.setCell ⟨w.heap.size, 0, none⟩ (.int .i64 n1)).setCell ⟨w.heap.size, 1, none⟩ (.slice aa1 xs1.length ca1)) := (HBW1.out.setCell (p := ⟨w.heap.size, 0, none⟩) (Nat.le_refl _) _).setCell (p := ⟨w.heap.size, 1, none⟩) (Nat.le_refl _) _
  refine (HNb _ hBW2).mono ?_
  rintro e w2 ⟨v2, rfl, hO2, hb2⟩
  simp only at hO2
  obtain ⟨aa2, ca2, rfl, -, -⟩ := hO2.shape
  have hz2 := hb2.size
  simp only [World.size_setCell] at hz2
  have hzz := HSZ.out
  have HL2 := Hid.mk ((hb2.block w.heap.size (by simp; omega)).trans (set1_heap (heap_set0 HL1.out)))
  have HM2 : Hid (w2.heap[w.heap.size + 1]? = some (.cells #[.int .i64 nb, .slice ab ys.length cb] 24 (0, 0))) := (hb2.block (w.heap.size + 1) (by simp; omega)).trans ((Below.heap_setCell _ _ _ _ (by simp)).trans ((Below.heap_setCell _ _ _ _ (by simp)).trans HM1.out))
  have HR2 : Hid (w2.heap[w.heap.size + 2]? = some (.cells #[.int .i64 0, .slice none 0 0] 24 (0, 0))) := (hb2.block (w.heap.size + 2) (by simp; omega)).trans ((Below.heap_setCell _ _ _ _ (by simp)).trans ((Below.heap_setCell _ _ _ _ (by simp)).trans HR1.out))
  have HO12 := Hid.mk ((((HO1.out.setBelow (a := ⟨w.heap.size, 0, none⟩) (by simp only; omega) (.int .i64 n1)).setBelow (a := ⟨w.heap.size, 1, none⟩) (by simp only; omega) (.slice aa1 xs1.length ca1)).below hb2))
  have HO2 := Hid.mk hO2
  have HBW2 := Hid.mk (hBW2.trans (hb2.mono (by simp; omega)))
  obtain ⟨q0, q1, q2, q3, q4⟩ := cells2 HM2.out
  have hw2 : w.heap.size + 3 ≤ w2.heap.size := by omega
  have hw1 : w.heap.size + 3 ≤ w1.heap.size := by omega
  clear hBW2 hb2 hO2 HNb c0 c1 c2 c3 d0 d1 d2 d3 HO1 HL1 HM1 HBW1 hz1 hz2 hzz
  by_cases hE : e1 = 0 ∧ e2 = 0
  · obtain ⟨rfl, rfl⟩ := hE
    have HRES2 : Hid (D = canonR (max n1 n2) (xs1 ++ ys1)) := by unfold Hid; rw [HRES.out, if_pos ⟨rfl, rfl⟩]
    clear HRES
    obtain ⟨W3, hW3⟩ : ∃ W3, (w2.setCell ⟨w.heap.size + 1, 0, none⟩ (.int .i64 n2)).setCell ⟨w.heap.size + 1, 1, none⟩ (.slice aa2 ys1.length ca2) = W3 := ⟨_, rfl⟩
    have HB3 : Hid (RowKit.Below w.heap.size w W3) := by unfold Hid; rw [← hW3]; exact (HBW2.out.setCell (p := ⟨w.heap.size + 1, 0, none⟩) (Nat.le_succ _) _).setCell (p := ⟨w.heap.size + 1, 1, none⟩) (Nat.le_succ _) _
    have HLa : Hid (W3.heap[w.heap.size]? = some (.cells #[.int .i64 n1, .slice aa1 xs1.length ca1] 24 (0, 0))) := by unfold Hid; rw [← hW3]; exact (Below.heap_setCell _ _ _ _ (by simp)).trans ((Below.heap_setCell _ _ _ _ (by simp)).trans HL2.out)
    have HLb : Hid (W3.heap[w.heap.size + 1]? = some (.cells #[.int .i64 n2, .slice aa2 ys1.length ca2] 24 (0, 0))) := by unfold Hid; rw [← hW3]; exact set1_heap (heap_set0 HM2.out)
    have HLr : Hid (W3.heap[w.heap.size + 2]? = some (.cells #[.int .i64 0, .slice none 0 0] 24 (0, 0))) := by unfold Hid; rw [← hW3]; exact (Below.heap_setCell _ _ _ _ (by simp)).trans ((Below.heap_setCell _ _ _ _ (by simp)).trans HR2.out)
    have hOa : OR W0.heap.size W3 (.slice aa1 xs1.length ca1) xs1 := by rw [← hW3]; exact (HO12.out.setBelow (a := ⟨w.heap.size + 1, 0, none⟩) (by simp only; have := HSZ.out; omega) _).setBelow (a := ⟨w.heap.size + 1, 1, none⟩) (by simp only; have := HSZ.out; omega) _
    have hOb : OR w1.heap.size W3 (.slice aa2 ys1.length ca2) ys1 := by rw [← hW3]; simp only [World.size_setCell] at HO2; exact (HO2.out.setBelow (a := ⟨w.heap.size + 1, 0, none⟩) (by simp only; omega) _).setBelow (a := ⟨w.heap.size + 1, 1, none⟩) (by simp only; omega) _
    have HSa : Hid (SL W3 aa1 xs1) := by obtain ⟨p, q, hv, hs, -⟩ := hOa.shape; simp at hv; unfold Hid; rw [hv.1]; exact hs
    have HSb : Hid (SL W3 aa2 ys1) := by obtain ⟨p, q, hv, hs, -⟩ := hOb.shape; simp at hv; unfold Hid; rw [hv.1]; exact hs
    have HNa : Hid (aa1 = none → ca1 = 0) := OR.nil_cap hOa
    have HNb : Hid (aa2 = none → ca2 = 0) := OR.nil_cap hOb
    have HZ3 : Hid (W3.heap.size = w2.heap.size) := by unfold Hid; rw [← hW3]; simp
    have hw3 : w.heap.size + 3 ≤ W3.heap.size := by rw [HZ3.out]; exact hw2
    have HW3 := Hid.mk hW3
    clear hW3 hOa hOb HO12 HO2
    obtain ⟨f0, f1, -, -, -⟩ := cells2 HLa.out
    obtain ⟨g0, g1, -, -, -⟩ := cells2 HLb.out
    have HAPP : Hid (∀ (W w' : World) (v : Value) (zs : List (Int × Int)), RowKit.Below W3.heap.size W3 W → OR W3.heap.size W v zs → W.grownBy w' v.ownBlock → RowKit.Below W3.heap.size W3 w') := fun W w' v zs h1 h2 h3 => h1.grown h3 h1.size (fun k e => (World.ownsRow.lt h2 k e).1)
    have HCEL : Hid (∀ (W : World), RowKit.Below W3.heap.size W3 W → W.cell? ⟨w.heap.size, 0, none⟩ = some (.int .i64 n1) ∧ W.cell? ⟨w.heap.size, 1, none⟩ = some (.slice aa1 xs1.length ca1) ∧ W.cell? ⟨w.heap.size + 1, 1, none⟩ = some (.slice aa2 ys1.length ca2)) := fun W h => ⟨(h.cell (by simp only; omega)).trans f0, (h.cell (by simp only; omega)).trans f1, (h.cell (by simp only; omega)).trans g1⟩
    go_wp2_with fail
    rw [HW3.out]
    go_region_held3 (fun w' => RowKit.Below W3.heap.size W3 w' ∧ w'.cell? ⟨w.heap.size, 0, none⟩ = some (.int .i64 n1) ∧ w'.cell? ⟨w.heap.size, 1, none⟩ = some (.slice aa1 xs1.length ca1) ∧ w'.cell? ⟨w.heap.size + 1, 1, none⟩ = some (.slice aa2 ys1.length ca2)) ((go_split_ands; refine (fun h => ⟨h, HCEL.out _ h⟩ : RowKit.Below W3.heap.size W3 _ → _) ?_; first | assumption | exact (Below.refl _ _).drew | exact ((Below.refl _ _).alloc (Nat.le_refl _) _).drew | exact Below.alloc (by assumption) (Below.size (by assumption)) _ | exact (Below.setCell (p := ⟨_, 1, none⟩) (Below.setCell (p := ⟨_, 0, none⟩) (by assumption) (by dsimp only; omega) _) (by dsimp only; omega) _)))
      (first | (refine step_app rfl _ _ rfl W3.heap.size _ [] xs1 aa1 ca1 rfl rfl (OR.nil _ _) ((by go_split_ands; exact HSa.out.below (by assumption))) HNa.out (by simp; omega) (Below.size (by go_split_ands; assumption)) ?_; intro v4 w4 hO4 hg4; have hB4 := HAPP.out _ _ _ _ (by go_split_ands; assumption) (OR.nil _ _) hg4; have hz4 := hB4.size; (try (have hbox4 : w4.heap[W3.heap.size]? = some (.cells #[.int .i64 0, .slice none 0 0] 24 (0, 0)) := (hg4.block W3.heap.size (by simp) (fun e => by have e' : some W3.heap.size = (none : Option Nat) := e; cases e')).trans (alloc_new W3 _); have HX4 := Hid.mk hbox4; clear hbox4)); have HO4 := Hid.mk hO4; have HG4 := Hid.mk hg4; clear hO4 hg4) | (refine step_app rfl _ _ rfl W3.heap.size _ ([] ++ xs1) ys1 aa2 ca2 rfl rfl (by first | exact HO4.out | exact HO4.out.alloc _) ((by go_split_ands; exact HSb.out.below (by assumption))) HNb.out (by simp; omega) (Below.size (by go_split_ands; assumption)) ?_; intro v5 w5 hO5 hg5; have hB5 := HAPP.out _ _ _ _ (by go_split_ands; assumption) (by first | exact HO4.out | exact HO4.out.alloc _) hg5; have hz5 := hB5.size; (first | (have hbox5 := (hg5.block W3.heap.size (by have := (Array.getElem?_eq_some_iff.1 HX4.out).1; omega) (fun e => OR.box HO4.out HX4.out e.symm)).trans HX4.out; obtain ⟨x0, x1, x2, x3, x4⟩ := cells2 hbox5; have HX5 := Hid.mk hbox5; clear hbox5) | (have hbox5 : w5.heap[w4.heap.size]? = some (.cells #[.int .i64 0, .slice none 0 0] 24 (0, 0)) := (hg5.block w4.heap.size (by simp) (fun e => by have := (World.ownsRow.lt HO4.out _ e.symm).2; omega)).trans (alloc_new w4 _); obtain ⟨x0, x1, x2, x3, x4⟩ := cells2 hbox5; have HX5 := Hid.mk hbox5; clear hbox5) | skip); obtain ⟨a5, c5, hv5, -, -⟩ := hO5.shape; have HO5 := Hid.mk hO5; have HG5 := Hid.mk hg5; subst hv5; clear hO5 hg5))
    all_goals
      have hO5 := HO5.out
      simp only [List.nil_append, List.length_append] at hO5
      first
        | (obtain ⟨Wf, hWf, HF1, HF2, HF3, hbo0⟩ : ∃ Wf, w5.alloc (.cells #[.int .i64 n1, .slice a5 (xs1.length + ys1.length) c5] 24) = Wf ∧ Hid (Wf.heap[w5.heap.size]? = some (.cells #[.int .i64 n1, .slice a5 (xs1.length + ys1.length) c5] 24 (0, 0))) ∧ Hid (OR W3.heap.size Wf (.slice a5 (xs1.length + ys1.length) c5) (xs1 ++ ys1)) ∧ Hid (RowKit.Below W3.heap.size W3 Wf) ∧ W3.heap.size ≤ w5.heap.size := ⟨_, rfl, alloc_new _ _, World.ownsRow.alloc hO5 _, hB5.alloc hB5.size _, by omega⟩
           rw [hWf]
           clear hWf
           generalize hb0 : w5.heap.size = bo at HF1 ⊢
           have hbo : W3.heap.size ≤ bo := by omega
           clear hb0 hbo0)
        | (obtain ⟨Wf, hWf, HF1, HF2, HF3, hbo0⟩ : ∃ Wf, (w5.setCell ⟨W3.heap.size, 0, none⟩ (.int .i64 n1)).setCell ⟨W3.heap.size, 1, none⟩ (.slice a5 (xs1.length + ys1.length) c5) = Wf ∧ Hid (Wf.heap[W3.heap.size]? = some (.cells #[.int .i64 n1, .slice a5 (xs1.length + ys1.length) c5] 24 (0, 0))) ∧ Hid (OR W3.heap.size Wf (.slice a5 (xs1.length + ys1.length) c5) (xs1 ++ ys1)) ∧ Hid (RowKit.Below W3.heap.size W3 Wf) ∧ W3.heap.size ≤ W3.heap.size := ⟨_, rfl, set1_heap (heap_set0 HX5.out), OR.setNe (OR.setNe hO5 (OR.box hO5 HX5.out) _) (OR.box hO5 HX5.out) _, (hB5.setCell (p := ⟨W3.heap.size, 0, none⟩) (Nat.le_refl _) _).setCell (p := ⟨W3.heap.size, 1, none⟩) (Nat.le_refl _) _, by omega⟩
           rw [hWf]
           clear hWf
           generalize hb0 : W3.heap.size = bo at HF1 ⊢
           have hbo : W3.heap.size ≤ bo := by omega
           clear hb0 hbo0)
        | (obtain ⟨Wf, hWf, HF1, HF2, HF3, hbo0⟩ : ∃ Wf, (w5.setCell ⟨w4.heap.size, 0, none⟩ (.int .i64 n1)).setCell ⟨w4.heap.size, 1, none⟩ (.slice a5 (xs1.length + ys1.length) c5) = Wf ∧ Hid (Wf.heap[w4.heap.size]? = some (.cells #[.int .i64 n1, .slice a5 (xs1.length + ys1.length) c5] 24 (0, 0))) ∧ Hid (OR W3.heap.size Wf (.slice a5 (xs1.length + ys1.length) c5) (xs1 ++ ys1)) ∧ Hid (RowKit.Below W3.heap.size W3 Wf) ∧ W3.heap.size ≤ w4.heap.size := ⟨_, rfl, set1_heap (heap_set0 HX5.out), OR.setNe (OR.setNe hO5 (OR.box hO5 HX5.out) _) (OR.box hO5 HX5.out) _, (hB5.setCell (p := ⟨w4.heap.size, 0, none⟩) hz4 _).setCell (p := ⟨w4.heap.size, 1, none⟩) hz4 _, by omega⟩
           rw [hWf]
           clear hWf
           generalize hb0 : w4.heap.size = bo at HF1 ⊢
           have hbo : W3.heap.size ≤ bo := by omega
           clear hb0 hbo0)
      clear hO5
      obtain ⟨o0, o1, o2, o3, o4⟩ := cells2 HF1.out
      have gb := (HF3.out.cell (p := ⟨w.heap.size + 1, 0, none⟩) (by dsimp only; omega)).trans g0
      have hWf := HF3.out.size
      clear f0 f1 g0 g1
      by_cases hlt : n1 < n2
      · have hltd : decide (n1 < n2) = true := by simp [hlt]
        have HOf : Hid (OR W3.heap.size (Wf.setCell ⟨bo, 0, none⟩ (.int .i64 n2)) (.slice a5 (xs1.length + ys1.length) c5) (xs1 ++ ys1)) := OR.setNe HF2.out (OR.box HF2.out HF1.out) _
        have HBf : Hid (RowKit.Below W3.heap.size W3 (Wf.setCell ⟨bo, 0, none⟩ (.int .i64 n2))) := (HF3.out.setCell (p := ⟨bo, 0, none⟩) hbo _)
        have HRr := Hid.mk ((HBf.out.block (w.heap.size + 2) (by omega)).trans HLr.out)
        have hSf : SL (Wf.setCell ⟨bo, 0, none⟩ (.int .i64 n2)) a5 (xs1 ++ ys1) := by obtain ⟨p, q, hv, hs, -⟩ := HOf.out.shape; simp at hv; rw [hv.1]; exact hs
        have hfit := fits_any n2 (xs1 ++ ys1) a5 c5 (Wf.setCell ⟨bo, 0, none⟩ (.int .i64 n2)) hSf (by simp; omega) (fun p hp => by rcases List.mem_append.1 hp with h | h; exact HAp.out p h; exact HBp.out p h)
        rw [List.length_append, show canonR n2 (xs1 ++ ys1) = D by rw [HRES2.out, show max n1 n2 = n2 by omega]] at hfit
        have HF := Hid.mk hfit
        have hzW := HBf.out.size
        clear hfit hSf
        go_wp2_with fail
        refine HF.out.mono ?_
        rintro e w6 ⟨v6, rfl, hO6, hb6⟩
        obtain ⟨a6, c6, rfl, -, -⟩ := hO6.shape
        have hz6 := hb6.size
        obtain ⟨r0, r1, r2, r3, r4⟩ := cells2 ((hb6.block (w.heap.size + 2) (by omega)).trans HRr.out)
        have hBB : RowKit.Below w.heap.size w (Wf.setCell ⟨bo, 0, none⟩ (.int .i64 n2)) := HB3.out.trans (HBf.out.mono (by omega))
        go_wp2
        refine bodyPost_ret (v := .tuple #[.agg #[.int .i64 D.1, .slice a6 D.2.1.length c6], .int .i64 D.2.2]) (by simp [results, Try.results20, go_sem, r0, r1]) rfl ⟨_, rfl, ?_, ?_⟩
        · exact OR.mono ((hO6.setBelow (a := ⟨w.heap.size + 2, 0, none⟩) (by dsimp only; omega) _).setBelow (a := ⟨w.heap.size + 2, 1, none⟩) (by dsimp only; omega) _) (by omega)
        · exact ((hBB.trans (hb6.mono (by omega))).setCell (p := ⟨w.heap.size + 2, 0, none⟩) (by simp) _).setCell (p := ⟨w.heap.size + 2, 1, none⟩) (by simp) _
      · have hltd : decide (n1 < n2) = false := by simp [hlt]
        have HOf : Hid (OR W3.heap.size Wf (.slice a5 (xs1.length + ys1.length) c5) (xs1 ++ ys1)) := HF2.out
        have HBf : Hid (RowKit.Below W3.heap.size W3 Wf) := HF3.out
        have HRr := Hid.mk ((HBf.out.block (w.heap.size + 2) (by omega)).trans HLr.out)
        have hSf : SL Wf a5 (xs1 ++ ys1) := by obtain ⟨p, q, hv, hs, -⟩ := HOf.out.shape; simp at hv; rw [hv.1]; exact hs
        have hfit := fits_any n1 (xs1 ++ ys1) a5 c5 Wf hSf (by simp; omega) (fun p hp => by rcases List.mem_append.1 hp with h | h; exact HAp.out p h; exact HBp.out p h)
        rw [List.length_append, show canonR n1 (xs1 ++ ys1) = D by rw [HRES2.out, show max n1 n2 = n1 by omega]] at hfit
        have HF := Hid.mk hfit
        have hzW := HBf.out.size
        clear hfit hSf
        go_wp2_with fail
        refine HF.out.mono ?_
        rintro e w6 ⟨v6, rfl, hO6, hb6⟩
        obtain ⟨a6, c6, rfl, -, -⟩ := hO6.shape
        have hz6 := hb6.size
        obtain ⟨r0, r1, r2, r3, r4⟩ := cells2 ((hb6.block (w.heap.size + 2) (by omega)).trans HRr.out)
        have hBB : RowKit.Below w.heap.size w Wf := HB3.out.trans (HBf.out.mono (by omega))
        go_wp2
        refine bodyPost_ret (v := .tuple #[.agg #[.int .i64 D.1, .slice a6 D.2.1.length c6], .int .i64 D.2.2]) (by simp [results, Try.results20, go_sem, r0, r1]) rfl ⟨_, rfl, ?_, ?_⟩
        · exact OR.mono ((hO6.setBelow (a := ⟨w.heap.size + 2, 0, none⟩) (by dsimp only; omega) _).setBelow (a := ⟨w.heap.size + 2, 1, none⟩) (by dsimp only; omega) _) (by omega)
        · exact ((hBB.trans (hb6.mono (by omega))).setCell (p := ⟨w.heap.size + 2, 0, none⟩) (by simp) _).setCell (p := ⟨w.heap.size + 2, 1, none⟩) (by simp) _
  · have HRES2 : Hid (D = (0, [], 13)) := by unfold Hid; rw [HRES.out, if_neg hE]
    obtain ⟨r0, r1, r2, r3, r4⟩ := cells2 HR2.out
    clear HRES
    have HE : Hid (e1 ≠ 0 ∨ e2 ≠ 0) := by unfold Hid; by_cases h : e1 = 0; right; exact fun h2 => hE ⟨h, h2⟩; left; exact h
    clear hE
    by_cases h1 : e1 = 0
    · subst h1
      have h2 : e2 ≠ 0 := by rcases HE.out with h | h; exact absurd rfl h; exact h
      have h2' : (e2 != 0) = true := by simp [h2]
      go_wp2
      have hD := HRES2.out
      subst hD
      refine bodyPost_ret (v := .tuple #[.agg #[.int .i64 0, .slice none 0 0], .int .i64 13]) (by simp [results, Try.results20, go_sem, r0, r1]) rfl ⟨_, rfl, OR.nil _ _, ?_⟩
      exact (((HBW2.out.setCell (p := ⟨w.heap.size + 1, 0, none⟩) (by simp) _).setCell (p := ⟨w.heap.size + 1, 1, none⟩) (by simp) _).setCell (p := ⟨w.heap.size + 2, 0, none⟩) (by simp) _).setCell (p := ⟨w.heap.size + 2, 1, none⟩) (by simp) _
    · have h1' : (e1 != 0) = true := by simp [h1]
      go_wp2
      have hD := HRES2.out
      subst hD
      refine bodyPost_ret (v := .tuple #[.agg #[.int .i64 0, .slice none 0 0], .int .i64 13]) (by simp [results, Try.results20, go_sem, r0, r1]) rfl ⟨_, rfl, OR.nil _ _, ?_⟩
      exact (((HBW2.out.setCell (p := ⟨w.heap.size + 1, 0, none⟩) (by simp) _).setCell (p := ⟨w.heap.size + 1, 1, none⟩) (by simp) _).setCell (p := ⟨w.heap.size + 2, 0, none⟩) (by simp) _).setCell (p := ⟨w.heap.size + 2, 1, none⟩) (by simp) _
end Go.Proofs.Ytphemmifckdjjaa
