/- The contracts of the reference's Canonical, formed, Check, Size. -/
import Derived.Test.YtbgkeomlfdmkeaaOB
import Derived.Test.YtbgkeomlfdmkeaaRC
namespace Go.Proofs.Ytbgkeomlfdmkeaa
open Go.RowKit Go.Sort

set_option maxRecDepth 100000 in
set_option maxHeartbeats 2000000 in
theorem rCanonical_any (n : Int) (xs : List (Int × Int)) (a : Option Addr) (cap : Nat) (w : World) (hS : SL w a xs) (hn : xs.length ≤ 4398046511104) :
    Calls Try.prog 65 #[.agg #[.int .i64 n, .slice a xs.length cap]] w fun e w' => e = .returned (.bool (canonB (n, xs))) ∧ RowKit.Below w.heap.size w w' := by
  have HN := rNorm_any n xs a cap (w.alloc (.cells #[.int .i64 n, .slice a xs.length cap] 43)) (hS.below ((Grew.refl w).alloc _).below) hn
  have HL := normR_len n xs
  have HC : Hid (canonB (n, xs) = ((normR n xs).2.2 == 0 && exactB (normR n xs).1 (normR n xs).2.1 n xs)) := rfl
  generalize canonB (n, xs) = C at HC ⊢
  obtain ⟨m, ys, e, hD⟩ : ∃ m ys e, normR n xs = (m, ys, e) := ⟨_, _, _, rfl⟩
  rw [hD] at HN HC HL
  simp only [] at HC HL
  clear hD
  have HS := Hid.mk hS
  have mx := mixed
  clear hS
  have pre : ∀ w1, RowKit.Below (w.alloc (.cells #[.int .i64 n, .slice a xs.length cap] 43)).heap.size (w.alloc (.cells #[.int .i64 n, .slice a xs.length cap] 43)) w1 → w.heap.size < w1.heap.size ∧ Hid (RowKit.Below w.heap.size w w1) ∧ Hid (w1.heap[w.heap.size]? = some (.cells #[.int .i64 n, .slice a xs.length cap] 43 (0, 0))) := fun w1 hb1 => ⟨by have := hb1.size; simp at this; omega, ((Below.refl w.heap.size w).alloc (Nat.le_refl _) _).trans (hb1.mono (by simp)), (hb1.block w.heap.size (by simp)).trans (alloc_new _ _)⟩
  by_cases he : e = 0
  · subst he
    have HC : Hid (C = exactB m ys n xs) := by unfold Hid; rw [HC.out]; rfl
    by_cases hm : m = n
    · subst hm
      have hmb : (m != m) = false := by simp
      by_cases hl : ys.length = xs.length
      · have hlb : ((ys.length : Int) != (xs.length : Int)) = false := by simp [hl]
        have HLQ := Hid.mk hl
        clear hl
        go_enter Try.func65, Try.ntmps65
        go_wp2_with fail
        refine HN.mono ?_
        rintro e w1 ⟨v, rfl, hO, hb1⟩
        obtain ⟨a', cap', rfl, hS1, -⟩ := hO.shape
        obtain ⟨hz1, HB1, HX1⟩ := pre w1 hb1
        obtain ⟨x0, x1, -, -, -⟩ := cells2 HX1.out
        have HS1 := Hid.mk hS1
        clear hO hS1 hb1 pre
        go_wp2
        obtain ⟨W1, hW1⟩ : ∃ W, w1.alloc (.cells #[.int .i64 m, .slice a' ys.length cap'] 43) = W := ⟨_, rfl⟩
        have HG1 : Hid (Grew w1 W1) := by unfold Hid; rw [← hW1]; exact (Grew.refl w1).alloc _
        have HN1 : Hid (W1.heap[w1.heap.size]? = some (.cells #[.int .i64 m, .slice a' ys.length cap'] 43 (0, 0))) := by unfold Hid; rw [← hW1]; exact alloc_new _ _
        rw [hW1]
        clear hW1 x0 x1
        go_loopw [5] (fun i wr => ∃ k : Nat, k ≤ ys.length ∧ i = .int .i64 k ∧ Grew W1 wr ∧ ys.take k = xs.take k) (fun i _ => ys.length - (intOf i).toNat)
        case atStart => exact ⟨0, Nat.zero_le _, rfl, Grew.refl _, rfl⟩
        case round =>
          obtain ⟨k, hk, rfl, hb, htk⟩ := hrel
          have HT := Hid.mk htk
          clear htk
          have hg1 := HG1.out.trans hb
          have hzr := hg1.below.size
          obtain ⟨a0, a1, -, -, -⟩ := cells2 ((hb.below.block w1.heap.size (heap_lt HN1.out)).trans HN1.out)
          obtain ⟨b0, b1, -, -, -⟩ := cells2 ((hg1.below.block w.heap.size hz1).trans HX1.out)
          by_cases hlt : k < ys.length
          · obtain ⟨b, off, x, y, rfl, hbl, hc0, hc1, hxy⟩ := (HS1.out.below hg1.below).at hlt
            obtain ⟨b', off', x', y', rfl, hbl', hc0', hc1', hxy'⟩ := (HS.out.below (HB1.out.trans (hg1.below.mono HB1.out.size))).at (k := k) (by rw [← HLQ.out]; exact hlt)
            have z1 : (k : Int) < (ys.length : Int) := by omega
            have z2 : (k : Int) < (xs.length : Int) := by have := HLQ.out; omega
            have hq := fun W => run_neqLVar x y x' y' W
            have hgu := run_guardLVar
            by_cases he : x = x' ∧ y = y'
            · have hb1 : (x == x' && y == y') = true := by simp [he.1, he.2]
              simp only [hb1] at hq
              have HX : Hid (ys[k]? = some (x', y')) := by have := hxy.out; rwa [he.1, he.2] at this
              clear he hb1
              go_wp2_with fail
              go_quiet (fail)
              go_wp2
              refine ⟨⟨k + 1, hlt, by go_num, hb.drewN _, take_eq HX.out hxy'.out HT.out⟩, by simp [intOf]; omega⟩
            · have hb1 : (x == x' && y == y') = false := by rw [Bool.eq_false_iff]; simpa using he
              simp only [hb1] at hq
              have HE : Hid (exactB m ys m xs = false) := exact_at hxy.out hxy'.out (by simpa using he)
              clear he hb1
              go_wp2_with fail
              go_quiet (fail)
              go_wp2
              go_ret
              exact ⟨by rw [HC.out, HE.out]; rfl, HB1.out.trans ((hg1.drewN _).below.mono HB1.out.size)⟩
          · have HE : Hid (exactB m ys m xs = true) := by
              have h1 : ys.take k = ys := List.take_of_length_le (by omega)
              have h2 : xs.take k = xs := List.take_of_length_le (by have := HLQ.out; omega)
              have h3 := HT.out
              rw [h1, h2] at h3
              unfold Hid; simp [exactB, h3]
            go_wp2
            go_ret
            exact ⟨by rw [HC.out, HE.out]; rfl, HB1.out.trans (hg1.below.mono HB1.out.size)⟩
      · have hlb : ((ys.length : Int) != (xs.length : Int)) = true := by simp; omega
        have HE : Hid (exactB m ys m xs = false) := exact_len hl
        clear hl
        go_enter Try.func65, Try.ntmps65
        go_wp2_with fail
        refine HN.mono ?_
        rintro e w1 ⟨v, rfl, hO, hb1⟩
        obtain ⟨a', cap', rfl, -, -⟩ := hO.shape
        obtain ⟨hz1, HB1, HX1⟩ := pre w1 hb1
        obtain ⟨x0, x1, -, -, -⟩ := cells2 HX1.out
        clear hO hb1 pre
        go_wp2
        go_ret
        exact ⟨by rw [HC.out, HE.out]; rfl, HB1.out.alloc HB1.out.size _⟩
    · have hmb : (m != n) = true := by simpa using hm
      have HE : Hid (exactB m ys n xs = false) := by unfold Hid; simp [exactB, hm]
      clear hm
      go_enter Try.func65, Try.ntmps65
      go_wp2_with fail
      refine HN.mono ?_
      rintro e w1 ⟨v, rfl, hO, hb1⟩
      obtain ⟨a', cap', rfl, -, -⟩ := hO.shape
      obtain ⟨hz1, HB1, HX1⟩ := pre w1 hb1
      obtain ⟨x0, x1, -, -, -⟩ := cells2 HX1.out
      clear hO hb1 pre
      go_wp2
      go_ret
      exact ⟨by rw [HC.out, HE.out]; rfl, HB1.out.alloc HB1.out.size _⟩
  · have heb : (e != 0) = true := by simpa using he
    have HC : Hid (C = false) := by unfold Hid; rw [HC.out]; simp [he]
    clear he
    go_enter Try.func65, Try.ntmps65
    go_wp2_with fail
    refine HN.mono ?_
    rintro e w1 ⟨v, rfl, hO, hb1⟩
    obtain ⟨a', cap', rfl, -, -⟩ := hO.shape
    obtain ⟨hz1, HB1, HX1⟩ := pre w1 hb1
    clear hO hb1 pre
    go_wp2
    go_ret
    exact ⟨by rw [HC.out]; rfl, HB1.out.alloc HB1.out.size _⟩
end Go.Proofs.Ytbgkeomlfdmkeaa
