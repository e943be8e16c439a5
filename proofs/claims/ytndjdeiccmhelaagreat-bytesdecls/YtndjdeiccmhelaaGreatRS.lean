/- The contracts of term.Size, Free, Has. -/
import Derived.Test.YtndjdeiccmhelaaGreatWG
import Derived.Deep.AppendLies
import Derived.Deep.RegionHeld3
import Derived.Laws.AppendOwnNone
import Derived.Test.YtndjdeiccmhelaaGreatRB
namespace Go.Proofs.YtndjdeiccmhelaaGreat
open Go.RowKit Go.Sort

theorem check_ok {t : Tm} (h : checkT t = 0) : sizeT t ≤ 20000 ∧ heightT t ≤ 500 ∧ formedB t = true := by
  unfold checkT at h
  split at h
  · rename_i hc
    split at h
    · rename_i hf; exact ⟨hc.1, hc.2, hf⟩
    · cases h
  · cases h

end Go.Proofs.YtndjdeiccmhelaaGreat

/- Terms in memory of their own. -/
namespace Go.Proofs.YtndjdeiccmhelaaGreat
open Go.RowKit Go.Sort

theorem heap_lt {w : World} {b : Nat} {o : Obj} (h : w.heap[b]? = some o) : b < w.heap.size := (Array.getElem?_eq_some_iff.1 h).1

/-- the six cells from o on in block g are the value v -/
def CellsAt (w : World) (g o : Nat) (v : Value) : Prop :=
  ∃ (v0 v1 : Int) (v2 : Bool) (v3 : ByteArray) (l1 : Option Addr) (l2 l3 : Nat) (k1 : Option Addr) (k2 k3 : Nat), v = .agg #[.int .i64 v0, .int .i64 v1, .bool v2, .string v3, .slice l1 l2 l3, .slice k1 k2 k3] ∧ w.cell? ⟨g, o, none⟩ = some (.int .i64 v0) ∧ w.cell? ⟨g, o + 1, none⟩ = some (.int .i64 v1) ∧ w.cell? ⟨g, o + 2, none⟩ = some (.bool v2) ∧ w.cell? ⟨g, o + 3, none⟩ = some (.string v3) ∧ w.cell? ⟨g, o + 4, none⟩ = some (.slice l1 l2 l3) ∧ w.cell? ⟨g, o + 5, none⟩ = some (.slice k1 k2 k3)

theorem CellsAt.tc {w : World} {g o : Nat} {v : Value} {t : Tm} (h : CellsAt w g o v) (hv : TV w v t) : TC w g o t := by
  obtain ⟨v0, v1, v2, v3, l1, l2, l3, k1, k2, k3, rfl, c0, c1, c2, c3, c4, c5⟩ := h
  cases hv with
  | mk hl hln hlc hlm hkn hkc hkm hk kids => exact TC.mk c0 c1 c2 c3 c4 c5 hl hln hlc hlm hkn hkc hkm hk kids

end Go.Proofs.YtndjdeiccmhelaaGreat

/- The contract of term.withKid. -/
namespace Go.Proofs.YtndjdeiccmhelaaGreat
open Go.RowKit Go.Sort

theorem infoTerm : (Tryz.prog.info? 38).map (fun i => (i.zero, i.size, i.bytes)) = some (some (.agg #[.int .i64 0, .int .i64 0, .bool false, .string ByteArray.empty, .slice none 0 0, .slice none 0 0]), 6, 88) := by kernel_rfl

end Go.Proofs.YtndjdeiccmhelaaGreat

/- The contract of term.withKid. -/
namespace Go.Proofs.YtndjdeiccmhelaaGreat
open Go.RowKit Go.Sort

theorem new3 {w : World} {a b c d : Obj} : ((((w.alloc a).alloc b).alloc c).alloc d).heap[w.heap.size + 1 + 1 + 1]? = some d := by
  have := alloc_new (((w.alloc a).alloc b).alloc c) d
  have e : (((w.alloc a).alloc b).alloc c).heap.size = w.heap.size + 1 + 1 + 1 := by simp
  rwa [e] at this

end Go.Proofs.YtndjdeiccmhelaaGreat

/- The contract of term.copied. -/
namespace Go.Proofs.YtndjdeiccmhelaaGreat
open Go.RowKit Go.Sort

theorem infoLevel : (Tryz.prog.info? 105).map (fun i => (i.zero, i.size, i.bytes)) = some (some (.agg #[.int .i64 0, .slice none 0 0]), 2, 32) := by kernel_rfl

end Go.Proofs.YtndjdeiccmhelaaGreat

/- Rows of terms in memory of the call's own, by their cells; append onto such a row. -/
namespace Go.Proofs.YtndjdeiccmhelaaGreat
open Go.RowKit Go.Sort

/-- the six cells from o on in the list xs are the value v -/
def SixAt (xs : List Value) (o : Nat) (v : Value) : Prop :=
  ∃ (v0 v1 : Int) (v2 : Bool) (v3 : ByteArray) (l1 : Option Addr) (l2 l3 : Nat) (k1 : Option Addr) (k2 k3 : Nat), v = .agg #[.int .i64 v0, .int .i64 v1, .bool v2, .string v3, .slice l1 l2 l3, .slice k1 k2 k3] ∧ xs[o]? = some (.int .i64 v0) ∧ xs[o + 1]? = some (.int .i64 v1) ∧ xs[o + 2]? = some (.bool v2) ∧ xs[o + 3]? = some (.string v3) ∧ xs[o + 4]? = some (.slice l1 l2 l3) ∧ xs[o + 5]? = some (.slice k1 k2 k3)

theorem SixAt.cells {base g cap n o : Nat} {w : World} {xs : List Value} {v : Value} (h : w.ownsRow base 38 6 (.slice (some ⟨g, 0, none⟩) n cap) n xs) (hs : SixAt xs o v) (ho : o + 5 < n * 6) : CellsAt w g o v := by
  obtain ⟨v0, v1, v2, v3, l1, l2, l3, k1, k2, k3, hv, c0, c1, c2, c3, c4, c5⟩ := hs
  exact ⟨v0, v1, v2, v3, l1, l2, l3, k1, k2, k3, hv, (World.ownsRow.cellAt h o (by omega)).trans c0, (World.ownsRow.cellAt h (o + 1) (by omega)).trans c1, (World.ownsRow.cellAt h (o + 2) (by omega)).trans c2, (World.ownsRow.cellAt h (o + 3) (by omega)).trans c3, (World.ownsRow.cellAt h (o + 4) (by omega)).trans c4, (World.ownsRow.cellAt h (o + 5) (by omega)).trans c5⟩

theorem SixAt.left {xs ys : List Value} {o : Nat} {v : Value} (h : SixAt xs o v) (ho : o + 5 < xs.length) : SixAt (xs ++ ys) o v := by
  obtain ⟨v0, v1, v2, v3, l1, l2, l3, k1, k2, k3, hv, c0, c1, c2, c3, c4, c5⟩ := h
  exact ⟨v0, v1, v2, v3, l1, l2, l3, k1, k2, k3, hv, by rw [List.getElem?_append_left (by omega)]; exact c0, by rw [List.getElem?_append_left (by omega)]; exact c1, by rw [List.getElem?_append_left (by omega)]; exact c2, by rw [List.getElem?_append_left (by omega)]; exact c3, by rw [List.getElem?_append_left (by omega)]; exact c4, by rw [List.getElem?_append_left (by omega)]; exact c5⟩

theorem owns_shape {w : World} {B n : Nat} {v : Value} {xs : List Value} (h : w.ownsRow B 38 6 v n xs) : ∃ a cap, v = .slice a n cap ∧ n ≤ cap ∧ cap ≤ 9223372036854775807 ∧ (a = none → n = 0 ∧ cap = 0) ∧ ∀ ad, a = some ad → ∃ g, ad = ⟨g, 0, none⟩ ∧ B ≤ g ∧ g < w.heap.size := by
  rcases h.2 with ⟨hv, hn⟩ | ⟨g, cap, cur, hv, hg, hh, hc, hm, hs, ht⟩
  · exact ⟨none, 0, by rw [hv, hn], by omega, by omega, fun _ => ⟨hn, rfl⟩, fun ad h => by cases h⟩
  · exact ⟨_, cap, hv, hc, by unfold maxLen at hm; omega, fun h => (by cases h), fun ad h => ⟨g, (by simpa using h.symm), hg, heap_lt hh⟩⟩

theorem owns_block {w W : World} {B n cap : Nat} {a : Option Addr} {xs : List Value} (h : w.ownsRow B 38 6 (.slice a n cap) n xs) (hk : ∀ g, a = some ⟨g, 0, none⟩ → W.heap[g]? = w.heap[g]?) : W.ownsRow B 38 6 (.slice a n cap) n xs := by
  rcases h with ⟨h1, h2⟩
  refine ⟨h1, ?_⟩
  rcases h2 with h2 | ⟨g, cap', cur, hv, hg, hh, r⟩
  · exact Or.inl h2
  · refine Or.inr ⟨g, cap', cur, hv, hg, (hk g ?_).trans hh, r⟩
    simp at hv
    exact hv.1

end Go.Proofs.YtndjdeiccmhelaaGreat

/- The contract of telamonref1.Norm. -/
namespace Go.Proofs.YtndjdeiccmhelaaGreat
open Go.RowKit Go.Sort Go.Shelf Go.Lib

theorem right_tidy {n : Int} {xs : List (Int × Int)} (h : rightB n xs = true) : rightB (nOf n (tidyL xs)) (tidyL xs) = true := by
  have hm : ∀ p ∈ tidyL xs, p ∈ xs := fun p hp => (((tidyL_is xs).2 p).1 hp).1
  have hl := tidyL_le xs
  have hN := right_n h
  simp only [rightB, Bool.and_eq_true, List.all_eq_true, decide_eq_true_eq, inR] at h ⊢
  refine ⟨⟨by omega, ?_⟩, fun p hp => h.2 p (hm p hp)⟩
  unfold nOf; split <;> omega

theorem canonR_right {n : Int} {xs : List (Int × Int)} (h : rightB n xs = true) : canonR n xs = (nOf n (tidyL xs), tidyL xs, 0) := by
  unfold canonR; rw [if_pos (right_tidy h)]

theorem normR_right {n : Int} {xs : List (Int × Int)} (h : rightB n xs = true) : normR n xs = (nOf n (tidyL xs), tidyL xs, 0) := by
  unfold normR; rw [if_pos h, canonR_right h]

theorem right_nonneg {n : Int} {xs : List (Int × Int)} (h : rightB n xs = true) : ∀ p ∈ xs, 0 ≤ p.1 := fun p hp => by
  simp only [rightB, Bool.and_eq_true, List.all_eq_true, decide_eq_true_eq, inR] at h
  exact ((h.2 p hp).1).1

set_option maxHeartbeats 1000000 in
theorem rNorm_any (n : Int) (xs : List (Int × Int)) (a : Option Addr) (cap : Nat) (w : World) (hS : SL w a xs) (hn : xs.length ≤ 4398046511104) :
    Calls Tryz.prog 133 #[.agg #[.int .i64 n, .slice a xs.length cap]] w fun e w' => Res w w' e (normR n xs) := by
  have HR := rright_any n xs a cap ((w.alloc (.cells #[.int .i64 n, .slice a xs.length cap] 105)).alloc (.cells #[.int .i64 0, .slice none 0 0] 105)) (hS.below (((Grew.refl w).alloc _).alloc _).below) (by omega)
  have HS := Hid.mk hS
  clear hS
  have hA : Grew w ((w.alloc (.cells #[.int .i64 n, .slice a xs.length cap] 105)).alloc (.cells #[.int .i64 0, .slice none 0 0] 105)) := ((Grew.refl w).alloc _).alloc _
  have HA := Hid.mk hA
  clear hA
  cases hr : rightB n xs
  · have HC : Hid (normR n xs = (0, [], 13)) := by unfold Hid normR; rw [hr]; rfl
    rw [hr] at HR
    generalize normR n xs = D at HC ⊢
    go_enter Tryz.func133, Tryz.ntmps133
    go_wp2_with (go_at_call 140; refine HR.mono ?_; rintro e w1 ⟨rfl, hg⟩; obtain ⟨p0, p1, p2, p3, p4⟩ := cells2 ((hg.below.block (w.heap.size + 1) (by simp)).trans box_at1))
    have hCe := HC.out
    subst hCe
    refine bodyPost_ret (v := .tuple #[.agg #[.int .i64 0, .slice none 0 0], .int .i64 13]) (by simp [results, Tryz.results133, go_sem, p0, p1]) rfl ⟨_, rfl, OR.nil _ _, ?_⟩
    exact ((HA.out.trans hg).below.setCell (p := ⟨w.heap.size + 1, 0, none⟩) (Nat.le_succ _) _).setCell (p := ⟨w.heap.size + 1, 1, none⟩) (Nat.le_succ _) _
  · have HC : Hid (normR n xs = (nOf n (tidyL xs), tidyL xs, 0)) := normR_right hr
    rw [hr] at HR
    have HCa := fun (W : World) (h : SL W a xs) => tidy_any n xs a cap W h hn (right_nonneg hr)
    generalize nOf n (tidyL xs) = m at HC HCa
    generalize tidyL xs = T at HC HCa
    generalize normR n xs = D at HC ⊢
    go_enter Tryz.func133, Tryz.ntmps133
    go_wp2_with (first | (go_at_call 140; refine HR.mono ?_; rintro e w1 ⟨rfl, hg⟩; obtain ⟨r0, r1, r2, r3, r4⟩ := cells2 ((hg.below.block w.heap.size (by simp; omega)).trans box_at); have hR1 := (hg.below.block (w.heap.size + 1) (by simp)).trans box_at1; have hlt1 : w.heap.size + 1 < w1.heap.size := (Array.getElem?_eq_some_iff.1 hR1).1) | (go_at_call 141; refine (HCa _ (by exact HS.out.below (HA.out.trans hg).below)).mono ?_; rintro e w2 ⟨v, rfl, hO, hb2⟩; obtain ⟨a', cap', rfl, -⟩ := hO.shape; obtain ⟨p0, p1, p2, p3, p4⟩ := cells2 ((hb2.block (w.heap.size + 1) hlt1).trans hR1)))
    have hCe := HC.out
    subst hCe
    refine bodyPost_ret (v := .tuple #[.agg #[.int .i64 m, .slice a' T.length cap'], .int .i64 0]) (by simp [results, Tryz.results133, go_sem, p0, p1]) rfl ⟨_, rfl, ?_, ?_⟩
    · exact OR.mono ((hO.setBelow (a := ⟨w.heap.size + 1, 0, none⟩) hlt1 _).setBelow (a := ⟨w.heap.size + 1, 1, none⟩) hlt1 _) (by omega)
    · exact (((HA.out.trans hg).below.trans (hb2.mono (by omega))).setCell (p := ⟨w.heap.size + 1, 0, none⟩) (Nat.le_succ _) _).setCell (p := ⟨w.heap.size + 1, 1, none⟩) (Nat.le_succ _) _
end Go.Proofs.YtndjdeiccmhelaaGreat

/- The contracts of the reference's Canonical, formed, Check, Size. -/
namespace Go.Proofs.YtndjdeiccmhelaaGreat
open Go.RowKit Go.Sort

set_option maxRecDepth 100000 in
set_option maxHeartbeats 2000000 in
theorem rCanonical_any (n : Int) (xs : List (Int × Int)) (a : Option Addr) (cap : Nat) (w : World) (hS : SL w a xs) (hn : xs.length ≤ 4398046511104) :
    Calls Tryz.prog 119 #[.agg #[.int .i64 n, .slice a xs.length cap]] w fun e w' => e = .returned (.bool (canonB (n, xs))) ∧ RowKit.Below w.heap.size w w' := by
  have HN := rNorm_any n xs a cap (w.alloc (.cells #[.int .i64 n, .slice a xs.length cap] 105)) (hS.below ((Grew.refl w).alloc _).below) hn
  have HL := normR_len n xs
  have HC : Hid (canonB (n, xs) = ((normR n xs).2.2 == 0 && exactB (normR n xs).1 (normR n xs).2.1 n xs)) := rfl
  generalize canonB (n, xs) = C at HC ⊢
  obtain ⟨m, ys, e, hD⟩ : ∃ m ys e, normR n xs = (m, ys, e) := ⟨_, _, _, rfl⟩
  rw [hD] at HN HC HL
  simp only [] at HC HL
  clear hD
  have HS := Hid.mk hS
  have mx := mixed
  clear hS
  have pre : ∀ w1, RowKit.Below (w.alloc (.cells #[.int .i64 n, .slice a xs.length cap] 105)).heap.size (w.alloc (.cells #[.int .i64 n, .slice a xs.length cap] 105)) w1 → w.heap.size < w1.heap.size ∧ Hid (RowKit.Below w.heap.size w w1) ∧ Hid (w1.heap[w.heap.size]? = some (.cells #[.int .i64 n, .slice a xs.length cap] 105 (0, 0))) := fun w1 hb1 => ⟨by have := hb1.size; simp at this; omega, ((Below.refl w.heap.size w).alloc (Nat.le_refl _) _).trans (hb1.mono (by simp)), (hb1.block w.heap.size (by simp)).trans (alloc_new _ _)⟩
  by_cases he : e = 0
  · subst he
    have HC : Hid (C = exactB m ys n xs) := by unfold Hid; rw [HC.out]; rfl
    by_cases hm : m = n
    · subst hm
      have hmb : (m != m) = false := by simp
      by_cases hl : ys.length = xs.length
      · have hlb : ((ys.length : Int) != (xs.length : Int)) = false := by simp [hl]
        have HLQ := Hid.mk hl
        clear hl
        go_enter Tryz.func119, Tryz.ntmps119
        go_wp2_with fail
        refine HN.mono ?_
        rintro e w1 ⟨v, rfl, hO, hb1⟩
        obtain ⟨a', cap', rfl, hS1, -⟩ := hO.shape
        obtain ⟨hz1, HB1, HX1⟩ := pre w1 hb1
        obtain ⟨x0, x1, -, -, -⟩ := cells2 HX1.out
        have HS1 := Hid.mk hS1
        clear hO hS1 hb1 pre
        go_wp2
        obtain ⟨W1, hW1⟩ : ∃ W, w1.alloc (.cells #[.int .i64 m, .slice a' ys.length cap'] 105) = W := ⟨_, rfl⟩
        have HG1 : Hid (Grew w1 W1) := by unfold Hid; rw [← hW1]; exact (Grew.refl w1).alloc _
        have HN1 : Hid (W1.heap[w1.heap.size]? = some (.cells #[.int .i64 m, .slice a' ys.length cap'] 105 (0, 0))) := by unfold Hid; rw [← hW1]; exact alloc_new _ _
        rw [hW1]
        clear hW1 x0 x1
        go_loopw [5] (fun i wr => ∃ k : Nat, k ≤ ys.length ∧ i = .int .i64 k ∧ Grew W1 wr ∧ ys.take k = xs.take k) (fun i _ => ys.length - (intOf i).toNat)
        case atStart => exact ⟨0, Nat.zero_le _, rfl, Grew.refl _, rfl⟩
        case round =>
          obtain ⟨k, hk, rfl, hb, htk⟩ := hrel
          have HT := Hid.mk htk
          clear htk
          have hg1 := HG1.out.trans hb
          have hzr := hg1.below.size
          obtain ⟨a0, a1, -, -, -⟩ := cells2 ((hb.below.block w1.heap.size (heap_lt HN1.out)).trans HN1.out)
          obtain ⟨b0, b1, -, -, -⟩ := cells2 ((hg1.below.block w.heap.size hz1).trans HX1.out)
          by_cases hlt : k < ys.length
          · obtain ⟨b, off, x, y, rfl, hbl, hc0, hc1, hxy⟩ := (HS1.out.below hg1.below).at hlt
            obtain ⟨b', off', x', y', rfl, hbl', hc0', hc1', hxy'⟩ := (HS.out.below (HB1.out.trans (hg1.below.mono HB1.out.size))).at (k := k) (by rw [← HLQ.out]; exact hlt)
            have z1 : (k : Int) < (ys.length : Int) := by omega
            have z2 : (k : Int) < (xs.length : Int) := by have := HLQ.out; omega
            have hq := fun W => run_neqLVar x y x' y' W
            have hgu := run_guardLVar
            by_cases he : x = x' ∧ y = y'
            · have hb1 : (x == x' && y == y') = true := by simp [he.1, he.2]
              simp only [hb1] at hq
              have HX : Hid (ys[k]? = some (x', y')) := by have := hxy.out; rwa [he.1, he.2] at this
              clear he hb1
              go_wp2_with fail
              go_quiet (fail)
              go_wp2
              refine ⟨⟨k + 1, hlt, by go_num, hb.drewN _, take_eq HX.out hxy'.out HT.out⟩, by simp [intOf]; omega⟩
            · have hb1 : (x == x' && y == y') = false := by rw [Bool.eq_false_iff]; simpa using he
              simp only [hb1] at hq
              have HE : Hid (exactB m ys m xs = false) := exact_at hxy.out hxy'.out (by simpa using he)
              clear he hb1
              go_wp2_with fail
              go_quiet (fail)
              go_wp2
              go_ret
              exact ⟨by rw [HC.out, HE.out]; rfl, HB1.out.trans ((hg1.drewN _).below.mono HB1.out.size)⟩
          · have HE : Hid (exactB m ys m xs = true) := by
              have h1 : ys.take k = ys := List.take_of_length_le (by omega)
              have h2 : xs.take k = xs := List.take_of_length_le (by have := HLQ.out; omega)
              have h3 := HT.out
              rw [h1, h2] at h3
              unfold Hid; simp [exactB, h3]
            go_wp2
            go_ret
            exact ⟨by rw [HC.out, HE.out]; rfl, HB1.out.trans (hg1.below.mono HB1.out.size)⟩
      · have hlb : ((ys.length : Int) != (xs.length : Int)) = true := by simp; omega
        have HE : Hid (exactB m ys m xs = false) := exact_len hl
        clear hl
        go_enter Tryz.func119, Tryz.ntmps119
        go_wp2_with fail
        refine HN.mono ?_
        rintro e w1 ⟨v, rfl, hO, hb1⟩
        obtain ⟨a', cap', rfl, -, -⟩ := hO.shape
        obtain ⟨hz1, HB1, HX1⟩ := pre w1 hb1
        obtain ⟨x0, x1, -, -, -⟩ := cells2 HX1.out
        clear hO hb1 pre
        go_wp2
        go_ret
        exact ⟨by rw [HC.out, HE.out]; rfl, HB1.out.alloc HB1.out.size _⟩
    · have hmb : (m != n) = true := by simpa using hm
      have HE : Hid (exactB m ys n xs = false) := by unfold Hid; simp [exactB, hm]
      clear hm
      go_enter Tryz.func119, Tryz.ntmps119
      go_wp2_with fail
      refine HN.mono ?_
      rintro e w1 ⟨v, rfl, hO, hb1⟩
      obtain ⟨a', cap', rfl, -, -⟩ := hO.shape
      obtain ⟨hz1, HB1, HX1⟩ := pre w1 hb1
      obtain ⟨x0, x1, -, -, -⟩ := cells2 HX1.out
      clear hO hb1 pre
      go_wp2
      go_ret
      exact ⟨by rw [HC.out, HE.out]; rfl, HB1.out.alloc HB1.out.size _⟩
  · have heb : (e != 0) = true := by simpa using he
    have HC : Hid (C = false) := by unfold Hid; rw [HC.out]; simp [he]
    clear he
    go_enter Tryz.func119, Tryz.ntmps119
    go_wp2_with fail
    refine HN.mono ?_
    rintro e w1 ⟨v, rfl, hO, hb1⟩
    obtain ⟨a', cap', rfl, -, -⟩ := hO.shape
    obtain ⟨hz1, HB1, HX1⟩ := pre w1 hb1
    clear hO hb1 pre
    go_wp2
    go_ret
    exact ⟨by rw [HC.out]; rfl, HB1.out.alloc HB1.out.size _⟩
end Go.Proofs.YtndjdeiccmhelaaGreat
