/- The contracts of term's sameLevel, canonical, uncanonical, arity, fieldsRight. -/
import Derived.Test.YtmmbnimehmfadaaWC
import Derived.Test.YtmmbnimehmfadaaTH
namespace Go.Proofs.Ytmmbnimehmfadaa
open Go.RowKit Go.Sort

set_option maxHeartbeats 2000000 in
theorem Equal_any (xs ys : List (Int × Int)) (aa ab : Option Addr) (ca cb : Nat) (w : World) (hSa : SL w aa xs) (hSb : SL w ab ys) (hxn : xs.length ≤ 4398046511104) (_hyn : ys.length ≤ 4398046511104) :
    Calls Try.prog 74 #[.slice aa xs.length ca, .slice ab ys.length cb] w fun e w' => e = .returned (.bool (exactB 0 xs 0 ys)) ∧ Grew w w' := by
  have HSa := Hid.mk hSa
  have HSb := Hid.mk hSb
  have mx := mixed
  clear hSa hSb
  by_cases hL : xs.length = ys.length
  · have hL' : ((xs.length : Int) != (ys.length : Int)) = false := by simp [hL]
    have HL := Hid.mk hL
    clear hL
    go_enter Try.func74, Try.ntmps74
    go_wp2
    go_loopw [13] (fun i wr => ∃ k : Nat, k ≤ xs.length ∧ i = .int .i64 k ∧ Grew w wr ∧ xs.take k = ys.take k) (fun i _ => xs.length - (intOf i).toNat)
    case atStart => exact ⟨0, Nat.zero_le _, rfl, Grew.refl _, rfl⟩
    case round =>
      obtain ⟨k, hk, rfl, hb, htk⟩ := hrel
      have HT := Hid.mk htk
      clear htk
      by_cases hlt : k < xs.length
      · obtain ⟨b, off, x, y, rfl, hbl, hc0, hc1, hxy⟩ := (HSa.out.below hb.below).at hlt
        obtain ⟨b', off', x', y', rfl, hbl', hc0', hc1', hxy'⟩ := (HSb.out.below hb.below).at (k := k) (by rw [← HL.out]; exact hlt)
        have z1 : (k : Int) < (xs.length : Int) := by omega
        have z2 : (k : Int) < (ys.length : Int) := by have := HL.out; omega
        have hq := fun W => run_neqLVar x y x' y' W
        have hgu := run_guardLVar
        by_cases he : x = x' ∧ y = y'
        · have hb1 : (x == x' && y == y') = true := by simp [he.1, he.2]
          simp only [hb1] at hq
          have HX : Hid (xs[k]? = some (x', y')) := by have := hxy.out; rwa [he.1, he.2] at this
          clear he hb1
          go_wp2_with fail
          go_quiet (fail)
          go_wp2
          refine ⟨⟨k + 1, hlt, by go_num, hb.drewN _, take_eq HX.out hxy'.out HT.out⟩, by simp [intOf]; omega⟩
        · have hb1 : (x == x' && y == y') = false := by rw [Bool.eq_false_iff]; simpa using he
          simp only [hb1] at hq
          have HE : Hid (exactB 0 xs 0 ys = false) := exact_at hxy.out hxy'.out (by simpa using he)
          clear he hb1
          go_wp2_with fail
          go_quiet (fail)
          go_wp2
          go_ret
          exact ⟨by rw [HE.out]; rfl, hb.drewN _⟩
      · have HE : Hid (exactB 0 xs 0 ys = true) := by
          have h1 : xs.take k = xs := List.take_of_length_le (by omega)
          have h2 : ys.take k = ys := List.take_of_length_le (by have := HL.out; omega)
          have h3 := HT.out
          rw [h1, h2] at h3
          unfold Hid; simp [exactB, h3]
        go_wp2
        go_ret
        exact ⟨by rw [HE.out]; rfl, hb⟩
  · have hL' : ((xs.length : Int) != (ys.length : Int)) = true := by simp; omega
    have HE : Hid (exactB 0 xs 0 ys = false) := exact_len hL
    clear hL
    go_enter Try.func74, Try.ntmps74
    go_wp2
    go_ret
    exact ⟨by rw [HE.out]; rfl, Grew.refl _⟩

set_option maxHeartbeats 2000000 in
theorem sameLevel_any (na nb : Int) (xs ys : List (Int × Int)) (aa ab : Option Addr) (ca cb : Nat) (w : World) (hSa : SL w aa xs) (hSb : SL w ab ys) (hxn : xs.length ≤ 4398046511104) (hyn : ys.length ≤ 4398046511104) :
    Calls Try.prog 70 #[.agg #[.int .i64 na, .slice aa xs.length ca], .agg #[.int .i64 nb, .slice ab ys.length cb]] w fun e w' => e = .returned (.bool (exactB na xs nb ys)) ∧ Grew w w' := by
  have HQ := fun (W : World) (h : Grew w W) => Equal_any xs ys aa ab ca cb W (hSa.below h.below) (hSb.below h.below) hxn hyn
  clear hSa hSb
  have HG := fun (o1 o2 : Obj) => ((Grew.refl w).alloc o1).alloc o2
  by_cases hN : na = nb
  · subst hN
    rw [show exactB na xs na ys = exactB 0 xs 0 ys by simp [exactB]]
    generalize exactB 0 xs 0 ys = r at *
    go_enter Try.func70, Try.ntmps70
    go_wp2_with fail
    refine (HQ _ (HG _ _)).mono ?_
    rintro e w1 ⟨rfl, hg⟩
    go_wp2
    go_ret
    exact ⟨rfl, (HG _ _).trans hg⟩
  · have hb : (na == nb) = false := by simpa using hN
    rw [show exactB na xs nb ys = false by simp [exactB, hN]]
    clear hN
    go_enter Try.func70, Try.ntmps70
    go_wp2
    go_ret
    exact ⟨rfl, HG _ _⟩

/-- is a level right and canonical? -/
def canonB (l : LvT) : Bool := (normR l.1 l.2).2.2 == 0 && exactB (normR l.1 l.2).1 (normR l.1 l.2).2.1 l.1 l.2

theorem normR_len (n : Int) (xs : List (Int × Int)) : (normR n xs).2.1.length ≤ xs.length := by
  unfold normR canonR
  split
  · split
    · exact tidyL_le xs
    · simp
  · simp

set_option maxRecDepth 100000 in
set_option maxHeartbeats 2000000 in
theorem tcanonical_any (n : Int) (xs : List (Int × Int)) (a : Option Addr) (cap : Nat) (w : World) (hS : SL w a xs) (hn : xs.length ≤ 4398046511104) :
    Calls Try.prog 64 #[.agg #[.int .i64 n, .slice a xs.length cap]] w fun e w' => e = .returned (.bool (canonB (n, xs))) ∧ RowKit.Below w.heap.size w w' := by
  have HN := fun (W : World) (h : SL W a xs) => Norm_any n xs a cap W h hn
  have HL := normR_len n xs
  have HC : Hid (canonB (n, xs) = ((normR n xs).2.2 == 0 && exactB (normR n xs).1 (normR n xs).2.1 n xs)) := rfl
  generalize canonB (n, xs) = C at HC ⊢
  obtain ⟨m, ys, e, hD⟩ : ∃ m ys e, normR n xs = (m, ys, e) := ⟨_, _, _, rfl⟩
  rw [hD] at HN HC HL
  simp only [] at HC HL
  clear hD
  have HS := Hid.mk hS
  clear hS
  by_cases he : e = 0
  · subst he
    have HC : Hid (C = exactB m ys n xs) := by unfold Hid; rw [HC.out]; rfl
    go_enter Try.func64, Try.ntmps64
    go_wp2_with fail
    refine (HN _ (HS.out.below ((Grew.refl w).alloc _).below)).mono ?_
    rintro e w1 ⟨v, rfl, hO, hb1⟩
    obtain ⟨a', cap', rfl, hS1, -⟩ := hO.shape
    have hz1 : w.heap.size < w1.heap.size := by have := hb1.size; simp at this; omega
    have HB1 : Hid (RowKit.Below w.heap.size w w1) := (((Below.refl w.heap.size w).alloc (Nat.le_refl _) _).trans (hb1.mono (by simp)))
    obtain ⟨x0, x1, -, -, -⟩ := cells2 ((hb1.block w.heap.size (by simp)).trans (alloc_new _ _))
    have HSL := fun (W : World) (g : RowKit.Below w1.heap.size w1 W) => sameLevel_any m n ys xs a' a cap' cap W (hS1.below g) (HS.out.below (HB1.out.trans (g.mono HB1.out.size))) (by omega) hn
    generalize exactB m ys n xs = r at *
    clear hO hS1 hb1
    go_wp2_with fail
    refine (HSL _ ((Below.refl _ _).alloc (Nat.le_refl _) _)).mono ?_
    rintro e w2 ⟨rfl, hg⟩
    go_wp2
    go_ret
    exact ⟨by rw [HC.out]; rfl, HB1.out.trans (((Below.refl _ _).alloc (Nat.le_refl _) _).trans ((hg.below.mono (by simp))) |>.mono HB1.out.size)⟩
  · have heb : (e == 0) = false := by simpa using he
    have HC : Hid (C = false) := by unfold Hid; rw [HC.out, heb]; rfl
    clear he
    go_enter Try.func64, Try.ntmps64
    go_wp2_with fail
    refine (HN _ (HS.out.below ((Grew.refl w).alloc _).below)).mono ?_
    rintro e w1 ⟨v, rfl, hO, hb1⟩
    obtain ⟨a', cap', rfl, -, -⟩ := hO.shape
    have HB1 : Hid (RowKit.Below w.heap.size w w1) := (((Below.refl w.heap.size w).alloc (Nat.le_refl _) _).trans (hb1.mono (by simp)))
    have hz1 : w.heap.size < w1.heap.size := by have := hb1.size; simp at this; omega
    clear hO hb1
    go_wp2
    go_ret
    exact ⟨by rw [HC.out]; rfl, HB1.out.alloc HB1.out.size _⟩

set_option maxHeartbeats 400000 in
theorem uncanonical_any (n : Int) (xs : List (Int × Int)) (a : Option Addr) (cap : Nat) (w : World) (hS : SL w a xs) (hn : xs.length ≤ 4398046511104) :
    Calls Try.prog 66 #[.agg #[.int .i64 n, .slice a xs.length cap]] w fun e w' => e = .returned (.bool (!canonB (n, xs))) ∧ RowKit.Below w.heap.size w w' := by
  have HN := fun (W : World) (h : SL W a xs) => tcanonical_any n xs a cap W h hn
  have HS := Hid.mk hS
  clear hS
  generalize canonB (n, xs) = C at *
  go_enter Try.func66, Try.ntmps66
  go_wp2_with fail
  refine (HN _ (HS.out.below ((Grew.refl w).alloc _).below)).mono ?_
  rintro e w1 ⟨rfl, hb1⟩
  go_wp2
  go_ret
  exact ⟨rfl, ((Below.refl w.heap.size w).alloc (Nat.le_refl _) _).trans (hb1.mono (by simp))⟩
end Go.Proofs.Ytmmbnimehmfadaa
