/- The examples of the document hold: alive answers true. -/
import Derived.Test.YtphemmifckdjjaaX
namespace Go.Proofs.Ytphemmifckdjjaa
open Go.RowKit Go.Sort Go.Shelf Go.Lib

theorem tidy_one (p : Int × Int) : tidyL [p] = [p] := by simp [tidyL, srt, dd, ddStep]

theorem ex1 : normR 1 [(0, 2)] = (0, [(0, 2)], 0) := by
  simp [normR, canonR, tidy_one, rightB, inR, nOf]

theorem ex2 : substR 0 [(0, 1)] [(2, [(1, 0)])] = (3, [(1, 1)], 0) := by
  have h : sFold [(2, [(1, 0)])] 0 [(0, 1)] = (3, [(1, 1)]) := by decide
  unfold substR
  rw [if_pos (by decide), h]
  simp [canonR, tidy_one, rightB, inR, nOf]

theorem ex3 : leqB 0 [(0, 0)] 0 [(0, 1)] = true := by decide
theorem ex4 : leqB 0 [(0, 1)] 3 [(0, 0)] = false := by decide

theorem OR.one {B : Nat} {w : World} {v : Value} {x y : Int} (h : OR B w v [(x, y)]) : ∃ a cap, v = .slice a 1 cap ∧ SL w a [(x, y)] := by
  obtain ⟨a, cap, hv, hs, -⟩ := h.shape
  exact ⟨a, cap, hv, hs⟩

theorem LL.one {w : World} {b : Nat} {n : Int} {x y : Int} {a' : Option Addr} {c : Nat} {t : TypeId} (h : w.heap[b]? = some (.cells #[.int .i64 n, .slice a' 1 c] t (0, 0))) (hs : SL w a' [(x, y)]) : LL w (some ⟨b, 0, none⟩) [(n, [(x, y)])] := by
  obtain ⟨c0, c1, -, -, hl⟩ := cells2 h
  refine Or.inr ⟨b, 0, rfl, hl, fun i m xs hi => ?_⟩
  have h0 : i = 0 := by
    rcases Nat.eq_zero_or_pos i with h | h
    · exact h
    · rw [List.getElem?_eq_none (by simp; omega)] at hi; cases hi
  subst h0
  simp at hi
  obtain ⟨rfl, rfl⟩ := hi
  exact ⟨by simpa using c0, a', c, by simpa using c1, hs⟩

theorem Norm_ex (a : Option Addr) (cap : Nat) (w : World) (hS : SL w a [(0, 2)]) : Calls Try.prog 12 #[.agg #[.int .i64 1, .slice a 1 cap]] w fun e w' => ∃ a' cap', e = .returned (.tuple #[.agg #[.int .i64 0, .slice a' 1 cap'], .int .i64 0]) ∧ SL w' a' [(0, 2)] ∧ RowKit.Below w.heap.size w w' := by
  have h := Norm_any 1 [(0, 2)] a cap w hS (by simp)
  rw [ex1] at h
  refine Calls.mono h ?_
  rintro e w' ⟨v, he, hO, hb⟩
  obtain ⟨a', cap', rfl, hs⟩ := hO.one
  exact ⟨a', cap', he, hs, hb⟩

theorem Subst_ex (a la : Option Addr) (cap lcap : Nat) (w : World) (hS : SL w a [(0, 1)]) (hL : LL w la [(2, [(1, 0)])]) : Calls Try.prog 30 #[.agg #[.int .i64 0, .slice a 1 cap], .slice la 1 lcap] w fun e w' => ∃ a' cap', e = .returned (.tuple #[.agg #[.int .i64 3, .slice a' 1 cap'], .int .i64 0]) ∧ SL w' a' [(1, 1)] ∧ RowKit.Below w.heap.size w w' := by
  have h := Subst_any 0 [(0, 1)] a cap [(2, [(1, 0)])] la lcap w hS (by simp) hL (by simp) (by simp)
  rw [ex2] at h
  refine Calls.mono h ?_
  rintro e w' ⟨v, he, hO, hb⟩
  obtain ⟨a', cap', rfl, hs⟩ := hO.one
  exact ⟨a', cap', he, hs, hb⟩

theorem Leq_ex1 (a b : Option Addr) (ca cb : Nat) (w : World) (hA : SL w a [(0, 0)]) (hB : SL w b [(0, 1)]) : Calls Try.prog 21 #[.agg #[.int .i64 0, .slice a 1 ca], .agg #[.int .i64 0, .slice b 1 cb]] w fun e w' => e = .returned (.bool true) ∧ RowKit.Below w.heap.size w w' := by
  have h := Leq_any 0 0 [(0, 0)] [(0, 1)] a b ca cb w hA hB (by simp) (by simp)
  rw [ex3] at h
  exact h

theorem Leq_ex2 (a b : Option Addr) (ca cb : Nat) (w : World) (hA : SL w a [(0, 1)]) (hB : SL w b [(0, 0)]) : Calls Try.prog 21 #[.agg #[.int .i64 0, .slice a 1 ca], .agg #[.int .i64 3, .slice b 1 cb]] w fun e w' => e = .returned (.bool false) ∧ RowKit.Below w.heap.size w w' := by
  have h := Leq_any 0 3 [(0, 1)] [(0, 0)] a b ca cb w hA hB (by simp) (by simp)
  rw [ex4] at h
  exact h

theorem Exact_ex (n x y : Int) (a b : Option Addr) (ca cb : Nat) (w : World) (hA : SL w a [(x, y)]) (hB : SL w b [(x, y)]) : Calls Try.prog 16 #[.agg #[.int .i64 n, .slice a 1 ca], .agg #[.int .i64 n, .slice b 1 cb]] w fun e w' => e = .returned (.bool true) ∧ Grew w w' := by
  have h := Exact_any n n [(x, y)] [(x, y)] a b ca cb w hA hB (by simp) (by simp)
  rw [show exactB n [(x, y)] n [(x, y)] = true by simp [exactB]] at h
  exact h

set_option maxHeartbeats 400000 in
theorem num_any (k : Int) (w : World) : Calls Try.prog 15 #[.int .i64 k] w fun e w' => e = .returned (.int .i64 k) ∧ w' = w := by
  go_enter Try.func15, Try.ntmps15
  go_wp2
  go_ret
  exact ⟨rfl, rfl⟩

theorem V_ex (v k : Int) (w : World) : Calls Try.prog 32 #[.int .i64 v, .int .i64 k] w fun e w' => ∃ a, e = .returned (.agg #[.int .i64 0, .slice a 1 1]) ∧ SL w' a [(v, k)] ∧ Grew w w' :=
  (V_any v k w).mono fun _ _ h => ⟨_, h⟩

set_option maxHeartbeats 2000000 in
theorem alive_any (w : World) : Calls Try.prog 9 #[] w fun e w' => e = .returned (.bool true) ∧ RowKit.Below w.heap.size w w' := by
  have mx := mixed
  go_enter Try.func9, Try.ntmps9
  go_wp2_with fail
  have hS0 : SL (w.alloc (.cells #[.int .i64 0, .int .i64 2] 32)) (some ⟨w.heap.size, 0, none⟩) [(0, 2)] := SL.one (alloc_new _ _)
  refine (Norm_ex _ _ _ hS0).mono ?_
  rintro e w1 ⟨a1, c1, rfl, hS1, hb1⟩
  have hB1 : RowKit.Below w.heap.size w w1 := ((Below.refl _ _).alloc (Nat.le_refl _) _).trans (hb1.mono (by simp))
  have hz1 := hB1.size
  clear hS0 hb1
  go_wp2_with fail
  refine (V_ex _ _ _).mono ?_
  rintro e w2 ⟨a2, rfl, hS2, hg2⟩
  have hbl : w2.heap[w1.heap.size]? = some (.cells #[.int .i64 0, .slice a1 1 c1] 24 (0, 0)) := (hg2.below.block w1.heap.size (by simp)).trans (alloc_new _ _)
  have hg2' := ((Grew.refl w1).alloc _).trans hg2
  have hS1b := hS1.below hg2'.below
  have hB2 : RowKit.Below w.heap.size w w2 := hB1.trans (hg2'.below.mono hz1)
  have hz2 : w1.heap.size < w2.heap.size := (Array.getElem?_eq_some_iff.1 hbl).1
  have HBL := Hid.mk hbl
  have HS1 := Hid.mk hS1b
  have HB2 := Hid.mk hB2
  have HS2 := Hid.mk hS2
  clear hbl hS1b hB2 hS2 hS1 hB1 hg2 hg2'
  go_wp2_with fail
  have hLL : LL ((w2.alloc (.cells #[.int .i64 1, .int .i64 0] 32)).alloc (.cells #[.int .i64 2, .slice (some ⟨w2.heap.size, 0, none⟩) 1 1] 24)) (some ⟨w2.heap.size + 1, 0, none⟩) [(2, [(1, 0)])] := LL.one box_at1 (SL.one box_at)
  refine (Subst_ex a2 (some ⟨w2.heap.size + 1, 0, none⟩) 1 1 _ (HS2.out.below (((Grew.refl w2).alloc _).alloc _).below) hLL).mono ?_
  rintro e w3 ⟨a3, c3, rfl, hS3, hb3⟩
  have hB23 : RowKit.Below w2.heap.size w2 w3 := (((Grew.refl w2).alloc _).alloc _).below.trans (hb3.mono (by simp; omega))
  have hz3 := hB23.size
  have HBL3 := Hid.mk ((hB23.block w1.heap.size hz2).trans HBL.out)
  have HS13 := Hid.mk (HS1.out.below hB23)
  have HB3 := Hid.mk (HB2.out.trans (hB23.mono (by omega)))
  have HS3 := Hid.mk hS3
  clear hLL hB23 hb3 hS3 HBL HS1 HB2 HS2
  go_wp2_with fail
  refine (V_ex _ _ _).mono ?_
  rintro e w4 ⟨a4, rfl, hS4, hg4⟩
  have hbs : w4.heap[w3.heap.size]? = some (.cells #[.int .i64 3, .slice a3 1 c3] 24 (0, 0)) := (hg4.below.block w3.heap.size (by simp)).trans (alloc_new _ _)
  have hg4' := ((Grew.refl w3).alloc _).trans hg4
  have hz4 : w3.heap.size < w4.heap.size := (Array.getElem?_eq_some_iff.1 hbs).1
  have HBS4 := Hid.mk hbs
  have HBL4 := Hid.mk ((hg4'.below.block w1.heap.size (by omega)).trans HBL3.out)
  have HS14 := Hid.mk (HS13.out.below hg4'.below)
  have HS34 := Hid.mk (HS3.out.below hg4'.below)
  have HB4 := Hid.mk (HB3.out.trans (hg4'.below.mono (by omega)))
  have HS4 := Hid.mk hS4
  clear hbs hS4 hg4 hg4' HBL3 HS13 HB3 HS3
  go_wp2_with fail
  refine (V_ex _ _ _).mono ?_
  rintro e w5 ⟨a5, rfl, hS5, hg5⟩
  have HS45 := Hid.mk (HS4.out.below hg5.below)
  go_wp2_with fail
  refine (Leq_ex1 a4 a5 1 1 w5 HS45.out hS5).mono ?_
  rintro e w6 ⟨rfl, hb6⟩
  have hB46 : RowKit.Below w4.heap.size w4 w6 := hg5.below.trans (hb6.mono hg5.below.size)
  clear hS5 hg5 hb6 HS45 HS4
  go_wp2_with fail
  refine (V_ex _ _ _).mono ?_
  rintro e w7 ⟨a7, rfl, hS7, hg7⟩
  have HS7 := Hid.mk hS7
  clear hS7
  go_wp2_with fail
  have hS0 : SL (w7.alloc (.cells #[.int .i64 0, .int .i64 0] 32)) (some ⟨w7.heap.size, 0, none⟩) [(0, 0)] := SL.one (alloc_new _ _)
  refine (Leq_ex2 a7 (some ⟨w7.heap.size, 0, none⟩) 1 1 _ (HS7.out.below ((Grew.refl w7).alloc _).below) hS0).mono ?_
  rintro e w8 ⟨rfl, hb8⟩
  have hB78 : RowKit.Below w7.heap.size w7 w8 := ((Grew.refl w7).alloc _).below.trans (hb8.mono (by simp))
  have hB48 : RowKit.Below w4.heap.size w4 w8 := (hB46.trans (hg7.below.mono hB46.size)).trans (hB78.mono (Nat.le_trans hB46.size hg7.below.size))
  have hz8 := hB48.size
  have hbl8 := (hB48.block w1.heap.size (by omega)).trans HBL4.out
  have hbs8 := (hB48.block w3.heap.size (by omega)).trans HBS4.out
  have HS18 := Hid.mk (HS14.out.below hB48)
  have HS38 := Hid.mk (HS34.out.below hB48)
  have HB8 := Hid.mk (HB4.out.trans (hB48.mono (by omega)))
  clear hS0 hb8 hB78 hB48 hB46 hg7 HS7 HBS4 HBL4 HS14 HS34 HB4
  obtain ⟨l0, l1, -, -, l4⟩ := cells2 hbl8
  obtain ⟨s0, s1, -, -, s4⟩ := cells2 hbs8
  clear hbl8 hbs8
  go_wp2_with fail
  go_region_held3 (fun w' => w'.cell? ⟨w1.heap.size, 0, none⟩ = some (.int .i64 0) ∧ w'.cell? ⟨w1.heap.size, 1, none⟩ = some (.slice a1 1 c1) ∧ w'.cell? ⟨w3.heap.size, 0, none⟩ = some (.int .i64 3) ∧ w'.cell? ⟨w3.heap.size, 1, none⟩ = some (.slice a3 1 c3)) (first | go_keep | (go_split_ands; refine ⟨?_, ?_, ?_, ?_⟩ <;> (first | (rw [hgk3.below.cell (by first | (simp; done) | (simp; omega))]; assumption) | (rw [hgk2.below.cell (by first | (simp; done) | (simp; omega))]; assumption) | (rw [hgk.below.cell (by first | (simp; done) | (simp; omega))]; assumption))))
    (first | (go_at_call 15; refine (num_any _ _).mono ?_; rintro e ww ⟨rfl, hww⟩; have hww := hww.symm; subst hww) | (go_at_call 32; refine (V_ex _ _ _).mono ?_; rintro e w9 ⟨a9, rfl, hS9, hgk⟩; have hz9 : w8.heap.size ≤ w9.heap.size := hgk.below.size) | (go_at_call_of 16 a1; refine (Exact_ex 0 0 2 a1 a9 c1 1 w9 (HS18.out.below ((Grew.drew (Grew.refl w8)).trans hgk).below) hS9).mono ?_; rintro e w10 ⟨rfl, hgk2⟩; have hz10 : w9.heap.size ≤ w10.heap.size := hgk2.below.size) | (go_at_call_of 16 a3; refine (Exact_ex 3 1 1 a3 (some ⟨w10.heap.size, 0, none⟩) c3 1 (w10.alloc (.cells #[.int .i64 1, .int .i64 1] 32)) (HS38.out.below ((((Grew.drew (Grew.refl w8)).trans hgk).trans hgk2).alloc _).below) (SL.one (alloc_new _ _))).mono ?_; rintro e w11 ⟨rfl, hgk3⟩; have hz11 : (w10.alloc (.cells #[.int .i64 1, .int .i64 1] 32)).heap.size ≤ w11.heap.size := hgk3.below.size))
  go_wp2
  go_ret
  have hfin : Grew w8 w11 := ((((Grew.drew (Grew.refl w8)).trans hgk).trans hgk2).alloc _).trans hgk3
  exact ⟨rfl, HB8.out.trans (hfin.below.mono (by omega))⟩
end Go.Proofs.Ytphemmifckdjjaa
