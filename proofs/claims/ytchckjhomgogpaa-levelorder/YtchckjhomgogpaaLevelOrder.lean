/- For every three levels: LevelOrder answers true, and leaves its arguments as they were; no condition. -/
import Derived.Test.YtchckjhomgogpaaRF
import Derived.Test.YtchckjhomgogpaaU2
import Derived.Test.YtchckjhomgogpaaME
namespace Go.Proofs.Ytchckjhomgogpaa
namespace levelOrder
open Go.ChangeShapes Go.WideShapes Go.ChangeAt Go.RowKit Go.Sort

/-- the three boxes stand -/
structure At (w W : World) (A B C : Obj) : Prop where
  bel : RowKit.Below w.heap.size w W
  a : W.heap[w.heap.size]? = some A
  b : W.heap[w.heap.size + 1]? = some B
  c : W.heap[w.heap.size + 2]? = some C
  sz : w.heap.size + 3 ≤ W.heap.size

theorem At.on {w W W' : World} {A B C : Obj} (h : At w W A B C) (hb : RowKit.Below W.heap.size W W') : At w W' A B C :=
  have := h.sz
  ⟨h.bel.trans (hb.mono h.bel.size), (hb.block _ (by omega)).trans h.a, (hb.block _ (by omega)).trans h.b, (hb.block _ (by omega)).trans h.c, by have := hb.size; omega⟩

/-- the three boxes and the two made ones stand -/
structure St (w : World) (A B C : Obj) (n8 n9 : Int) (z8 z9 : List (Int × Int)) (a8 a9 : Option Addr) (c8 c9 : Nat) (b8 b9 : Nat) (W : World) : Prop where
  at_ : At w W A B C
  m : W.heap[b8]? = some (.cells #[.int .i64 n8, .slice a8 z8.length c8] 24 (0, 0))
  s : W.heap[b9]? = some (.cells #[.int .i64 n9, .slice a9 z9.length c9] 24 (0, 0))
  sm : SL W a8 z8
  ss : SL W a9 z9

theorem heap_lt {w : World} {b : Nat} {o : Obj} (h : w.heap[b]? = some o) : b < w.heap.size := by
  rw [Array.getElem?_eq_some_iff] at h; exact h.1

theorem St.on {w : World} {A B C : Obj} {n8 n9 : Int} {z8 z9 : List (Int × Int)} {a8 a9 : Option Addr} {c8 c9 b8 b9 : Nat} {W W' : World} (h : St w A B C n8 n9 z8 z9 a8 a9 c8 c9 b8 b9 W) (hb : RowKit.Below W.heap.size W W') : St w A B C n8 n9 z8 z9 a8 a9 c8 c9 b8 b9 W' :=
  ⟨h.at_.on hb, (hb.block _ (heap_lt h.m)).trans h.m, (hb.block _ (heap_lt h.s)).trans h.s, h.sm.below hb, h.ss.below hb⟩

theorem St.cells {w : World} {na nb nc : Value} {va vb vc : Value} {n8 n9 : Int} {z8 z9 : List (Int × Int)} {a8 a9 : Option Addr} {c8 c9 b8 b9 : Nat} {W : World} {ta tb tc : TypeId} (h : St w (.cells #[na, va] ta) (.cells #[nb, vb] tb) (.cells #[nc, vc] tc) n8 n9 z8 z9 a8 a9 c8 c9 b8 b9 W) :
    W.cell? ⟨w.heap.size, 0, none⟩ = some na ∧ W.cell? ⟨w.heap.size, 1, none⟩ = some va ∧ W.cell? ⟨w.heap.size + 1, 0, none⟩ = some nb ∧ W.cell? ⟨w.heap.size + 1, 1, none⟩ = some vb ∧ W.cell? ⟨w.heap.size + 2, 0, none⟩ = some nc ∧ W.cell? ⟨w.heap.size + 2, 1, none⟩ = some vc ∧
    W.cell? ⟨b8, 0, none⟩ = some (.int .i64 n8) ∧ W.cell? ⟨b8, 1, none⟩ = some (.slice a8 z8.length c8) ∧ W.cell? ⟨b9, 0, none⟩ = some (.int .i64 n9) ∧ W.cell? ⟨b9, 1, none⟩ = some (.slice a9 z9.length c9) := by
  obtain ⟨p0, p1, -⟩ := cells2 h.at_.a
  obtain ⟨q0, q1, -⟩ := cells2 h.at_.b
  obtain ⟨r0, r1, -⟩ := cells2 h.at_.c
  obtain ⟨s0, s1, -⟩ := cells2 h.m
  obtain ⟨t0, t1, -⟩ := cells2 h.s
  exact ⟨p0, p1, q0, q1, r0, r1, s0, s1, t0, t1⟩

theorem norm_err (n : Int) (xs : List (Int × Int)) : (normR n xs).2.2 = if rightB n xs then 0 else 13 := by
  by_cases h : rightB n xs = true
  · rw [normR_right h, if_pos h]
  · unfold normR; rw [if_neg h, if_neg h]

set_option maxRecDepth 100000 in
set_option maxHeartbeats 4000000 in
theorem walk (na : Int) (xs : List (Int × Int)) (aa : Option Addr) (ca : Nat) (nb : Int) (ys : List (Int × Int)) (ab : Option Addr) (cb : Nat) (nc : Int) (zs : List (Int × Int)) (ac : Option Addr) (cc : Nat) (w : World) (hSa : SL w aa xs) (hNa : aa = none → ca = 0) (hSb : SL w ab ys) (hNb : ab = none → cb = 0) (hSc : SL w ac zs) (_hNc : ac = none → cc = 0) :
    Calls Try.prog 8 #[.agg #[.int .i64 na, .slice aa xs.length ca], .agg #[.int .i64 nb, .slice ab ys.length cb], .agg #[.int .i64 nc, .slice ac zs.length cc]] w fun e w' => e = .returned (.bool true) ∧ RowKit.Below w.heap.size w w' := by
  have mx := mixed
  obtain ⟨W0, hW0⟩ : ∃ W0, ((w.alloc (.cells #[.int .i64 na, .slice aa xs.length ca] 24)).alloc (.cells #[.int .i64 nb, .slice ab ys.length cb] 24)).alloc (.cells #[.int .i64 nc, .slice ac zs.length cc] 24) = W0 := ⟨_, rfl⟩
  have hA : Grew w W0 := by rw [← hW0]; exact (((Grew.refl w).alloc _).alloc _).alloc _
  obtain ⟨hb0, hb1, hb2⟩ : W0.heap[w.heap.size]? = some (.cells #[.int .i64 na, .slice aa xs.length ca] 24 (0, 0)) ∧ W0.heap[w.heap.size + 1]? = some (.cells #[.int .i64 nb, .slice ab ys.length cb] 24 (0, 0)) ∧ W0.heap[w.heap.size + 2]? = some (.cells #[.int .i64 nc, .slice ac zs.length cc] 24 (0, 0)) := by rw [← hW0]; exact box3
  have hsz : W0.heap.size = w.heap.size + 3 := by rw [← hW0]; simp
  have HA := Hid.mk hA
  have HW0 := Hid.mk hW0
  have HSZ := Hid.mk hsz
  have HB0 := Hid.mk hb0
  have HB1 := Hid.mk hb1
  have HB2 := Hid.mk hb2
  have HSa := Hid.mk hSa
  have HSb := Hid.mk hSb
  have HSc := Hid.mk hSc
  have HNa := Hid.mk hNa
  have HNb := Hid.mk hNb
  clear hA hW0 hsz hSa hSb hSc hb0 hb1 hb2 hNa hNb _hNc
  go_enter Try.func8, Try.ntmps8
  go_wp2_with fail
  rw [HW0.out]
  refine (alive_any W0).mono ?_
  rintro e w1 ⟨rfl, hb1⟩
  have hz1 := hb1.size
  have hzz := HSZ.out
  have HL1 := Hid.mk ((hb1.block w.heap.size (by omega)).trans HB0.out)
  have HM1 := Hid.mk ((hb1.block (w.heap.size + 1) (by omega)).trans HB1.out)
  have HK1 := Hid.mk ((hb1.block (w.heap.size + 2) (by omega)).trans HB2.out)
  have HBW1 : Hid (RowKit.Below w.heap.size w w1) := HA.out.below.trans (hb1.mono HA.out.below.size)
  obtain ⟨a0, a1, -, -, a4⟩ := cells2 HL1.out
  have hw1 : w.heap.size + 3 ≤ w1.heap.size := by omega
  clear hb1 hzz hz1 HB0 HB1 HB2 HA HW0 HSZ
  by_cases hx : 200 < xs.length
  · have hxd : decide (200 < xs.length) = true := by simp [hx]
    have HBG := fun W => big_any na aa xs.length ca W
    simp only [hxd] at HBG
    go_wp2_with (go_at_call 10; refine (HBG _).mono ?_; rintro e w2 ⟨rfl, hg2⟩)
    go_ret
    exact ⟨rfl, HBW1.out.trans (hg2.below.mono HBW1.out.size)⟩
  · have hxd : decide (200 < xs.length) = false := by simp; omega
    have HBG := fun W => big_any na aa xs.length ca W
    simp only [hxd] at HBG
    go_wp2_with fail
    refine (HBG _).mono ?_
    rintro e w2 ⟨rfl, hg2⟩
    have hz2 := hg2.below.size
    obtain ⟨b0, b1, -, -, b4⟩ := cells2 ((hg2.below.block (w.heap.size + 1) (by omega)).trans HM1.out)
    clear HBG a0 a1
    by_cases hy : 200 < ys.length
    · have hyd : decide (200 < ys.length) = true := by simp [hy]
      have HBH := fun W => big_any nb ab ys.length cb W
      simp only [hyd] at HBH
      go_wp2_with (go_at_call 10; refine (HBH _).mono ?_; rintro e w3 ⟨rfl, hg3⟩)
      go_ret
      exact ⟨rfl, HBW1.out.trans ((hg2.trans hg3).below.mono HBW1.out.size)⟩
    · have hyd : decide (200 < ys.length) = false := by simp; omega
      have HBH := fun W => big_any nb ab ys.length cb W
      simp only [hyd] at HBH
      go_wp2_with fail
      refine (HBH _).mono ?_
      rintro e w3 ⟨rfl, hg3⟩
      have hg13 := hg2.trans hg3
      have hz3 := hg13.below.size
      obtain ⟨d0, d1, -, -, d4⟩ := cells2 ((hg13.below.block (w.heap.size + 2) (by omega)).trans HK1.out)
      clear HBH b0 b1 hg2 hg3 hz2
      by_cases hzl : 200 < zs.length
      · have hyd : decide (200 < zs.length) = true := by simp [hzl]
        have HBH := fun W => big_any nc ac zs.length cc W
        simp only [hyd] at HBH
        go_wp2_with (go_at_call 10; refine (HBH _).mono ?_; rintro e w4 ⟨rfl, hg4⟩)
        go_ret
        exact ⟨rfl, HBW1.out.trans ((hg13.trans hg4).below.mono HBW1.out.size)⟩
      · have hzd : decide (200 < zs.length) = false := by simp; omega
        have HBH := fun W => big_any nc ac zs.length cc W
        simp only [hzd] at HBH
        go_wp2_with fail
        refine (HBH _).mono ?_
        rintro e w4 ⟨rfl, hg4⟩
        have hg14 := hg13.trans hg4
        have hz4 := hg14.below.size
        have HAt4 : Hid (At w w4 (.cells #[.int .i64 na, .slice aa xs.length ca] 24) (.cells #[.int .i64 nb, .slice ab ys.length cb] 24) (.cells #[.int .i64 nc, .slice ac zs.length cc] 24)) := At.on ⟨HBW1.out, HL1.out, HM1.out, HK1.out, hw1⟩ hg14.below
        obtain ⟨l0, l1, -, -, l4⟩ := cells2 HAt4.out.a
        clear HBH d0 d1 hg13 hg4 hg14 hz3 hz4 HL1 HM1 HK1 HBW1 a4 b4 d4 hxd hyd hzd
        have N1 := fun (W : World) (g : RowKit.Below w.heap.size w W) => rNorm_any na xs aa ca W (HSa.out.below g) (by omega)
        have N2 := fun (W : World) (g : RowKit.Below w.heap.size w W) => rNorm_any nb ys ab cb W (HSb.out.below g) (by omega)
        have N3 := fun (W : World) (g : RowKit.Below w.heap.size w W) => rNorm_any nc zs ac cc W (HSc.out.below g) (by omega)
        go_wp2_with fail
        refine (N1 _ HAt4.out.bel).mono ?_
        rintro e w5 ⟨v5, rfl, hO5, hb5⟩
        obtain ⟨a5, c5, hv5, -, -⟩ := hO5.shape
        have HE5 := Hid.mk (norm_err na xs)
        generalize normR na xs = D5 at HE5 hv5 hO5 ⊢
        subst hv5
        obtain ⟨W5, hW5⟩ : ∃ W5, w5.alloc (.cells #[.int .i64 D5.1, .slice a5 D5.2.1.length c5] 24) = W5 := ⟨_, rfl⟩
        have HAt5 := Hid.mk (HAt4.out.on (show RowKit.Below w4.heap.size w4 W5 by rw [← hW5]; exact hb5.alloc hb5.size _))
        obtain ⟨l0, l1, -, -, l4⟩ := cells2 (HAt4.out.on hb5).b
        have HW5 := Hid.mk hW5
        clear hW5 hO5 hb5 HAt4 N1
        go_wp2_with fail
        rw [HW5.out]
        refine (N2 _ HAt5.out.bel).mono ?_
        rintro e w6 ⟨v6, rfl, hO6, hb6⟩
        obtain ⟨a6, c6, hv6, -, -⟩ := hO6.shape
        have HE6 := Hid.mk (norm_err nb ys)
        generalize normR nb ys = D6 at HE6 hv6 hO6 ⊢
        subst hv6
        obtain ⟨W6, hW6⟩ : ∃ W6, w6.alloc (.cells #[.int .i64 D6.1, .slice a6 D6.2.1.length c6] 24) = W6 := ⟨_, rfl⟩
        have HAt6 := Hid.mk (HAt5.out.on (show RowKit.Below W5.heap.size W5 W6 by rw [← hW6]; exact hb6.alloc hb6.size _))
        obtain ⟨l0, l1, -, -, l4⟩ := cells2 (HAt5.out.on hb6).c
        have HW6 := Hid.mk hW6
        clear hW6 hO6 hb6 HAt5 N2 HW5
        go_wp2_with fail
        rw [HW6.out]
        refine (N3 _ HAt6.out.bel).mono ?_
        rintro e w7 ⟨v7, rfl, hO7, hb7⟩
        obtain ⟨a7, c7, hv7, -, -⟩ := hO7.shape
        have HE7 := Hid.mk (norm_err nc zs)
        generalize normR nc zs = D7 at HE7 hv7 hO7 ⊢
        subst hv7
        obtain ⟨W7, hW7⟩ : ∃ W7, w7.alloc (.cells #[.int .i64 D7.1, .slice a7 D7.2.1.length c7] 24) = W7 := ⟨_, rfl⟩
        have HAt7 := Hid.mk (HAt6.out.on (show RowKit.Below W6.heap.size W6 W7 by rw [← hW7]; exact hb7.alloc hb7.size _))
        obtain ⟨l0, l1, -, -, l4⟩ := cells2 (HAt6.out.on hb7).a
        obtain ⟨m0, m1, -, -, m4⟩ := cells2 (HAt6.out.on hb7).b
        have HW7 := Hid.mk hW7
        clear hW7 hO7 hb7 HAt6 N3 HW6
        obtain ⟨e5, he5⟩ : ∃ e5, D5.2.2 = e5 := ⟨_, rfl⟩
        obtain ⟨e6, he6⟩ : ∃ e6, D6.2.2 = e6 := ⟨_, rfl⟩
        obtain ⟨e7, he7⟩ : ∃ e7, D7.2.2 = e7 := ⟨_, rfl⟩
        rw [he5] at HE5
        rw [he6] at HE6
        rw [he7] at HE7
        rw [he5, he6, he7]
        by_cases hr : rightB na xs = true ∧ rightB nb ys = true ∧ rightB nc zs = true
        · have h5 := HE5.out
          have h6 := HE6.out
          have h7 := HE7.out
          rw [if_pos hr.1] at h5
          rw [if_pos hr.2.1] at h6
          rw [if_pos hr.2.2] at h7
          subst h5 h6 h7
          have HR := Hid.mk hr
          clear hr HE5 HE6 HE7 he5 he6 he7
          go_wp2_with fail
          rw [HW7.out]
          refine (Max_any na nb xs ys aa ab ca cb W7 (HSa.out.below HAt7.out.bel) (HSb.out.below HAt7.out.bel) (by omega) (by omega) HNa.out HNb.out).mono ?_
          rintro e w8 ⟨v8, rfl, hO8, hb8⟩
          obtain ⟨a8, c8, hv8, hS8, hl8⟩ := hO8.shape
          have HEM : Hid ((maxR na xs nb ys).2.2 = 0 ∨ ((maxR na xs nb ys).2.2 = 13 ∧ (maxR na xs nb ys).1 = 0 ∧ (maxR na xs nb ys).2.1 = [])) := by unfold Hid; rw [maxR_eq HR.out.1 HR.out.2.1]; exact canonR_err _ _
          have HML := Hid.mk (max_leqs HR.out.1 HR.out.2.1)
          generalize maxR na xs nb ys = D8 at HEM HML hv8 hO8 hS8 hl8 ⊢
          subst hv8
          obtain ⟨W8, hW8⟩ : ∃ W8, w8.alloc (.cells #[.int .i64 D8.1, .slice a8 D8.2.1.length c8] 24) = W8 := ⟨_, rfl⟩
          have hbb8 : RowKit.Below w8.heap.size w8 W8 := by rw [← hW8]; exact ((Grew.refl _).alloc _).below
          have HAt8 := Hid.mk ((HAt7.out.on hb8).on hbb8)
          have HS8 := Hid.mk (hS8.below hbb8)
          have hX8 : W8.heap[w8.heap.size]? = some (.cells #[.int .i64 D8.1, .slice a8 D8.2.1.length c8] 24 (0, 0)) := by rw [← hW8]; exact alloc_new _ _
          have HX8 := Hid.mk hX8
          obtain ⟨k0, k1, -, -, k4⟩ := cells2 (HAt7.out.on hb8).a
          have HW8 := Hid.mk hW8
          have hz8 : w8.heap.size < W8.heap.size := by rw [← hW8]; simp
          have hy8 : w.heap.size + 3 ≤ w8.heap.size := (HAt7.out.on hb8).sz
          clear hW8 hO8 hb8 hS8 hbb8 hX8 l0 l1 l4 m0 m1 m4
          go_wp2_with fail
          rw [HW8.out]
          refine (Suc_any na 1 xs aa ca W8 (HSa.out.below HAt8.out.bel) (by omega)).mono ?_
          rintro e w9 ⟨v9, rfl, hO9, hb9⟩
          obtain ⟨a9, c9, hv9, hS9, hl9⟩ := hO9.shape
          have HES : Hid ((sucR na xs 1).2.2 = 0 ∨ ((sucR na xs 1).2.2 = 13 ∧ (sucR na xs 1).1 = 0 ∧ (sucR na xs 1).2.1 = [])) := by unfold Hid; rw [sucR_eq HR.out.1]; exact canonR_err _ _
          have HSL := Hid.mk (suc_leqs HR.out.1)
          generalize sucR na xs 1 = D9 at HES HSL hv9 hO9 hS9 hl9 ⊢
          subst hv9
          obtain ⟨W9, hW9⟩ : ∃ W9, w9.alloc (.cells #[.int .i64 D9.1, .slice a9 D9.2.1.length c9] 24) = W9 := ⟨_, rfl⟩
          have hbb9 : RowKit.Below w9.heap.size w9 W9 := by rw [← hW9]; exact ((Grew.refl _).alloc _).below
          have HAt9 := Hid.mk ((HAt8.out.on hb9).on hbb9)
          have HS89 := Hid.mk ((HS8.out.below hb9).below hbb9)
          have HS9 := Hid.mk (hS9.below hbb9)
          have hX9 : W9.heap[w9.heap.size]? = some (.cells #[.int .i64 D9.1, .slice a9 D9.2.1.length c9] 24 (0, 0)) := by rw [← hW9]; exact alloc_new _ _
          have HX9 := Hid.mk hX9
          have hy9 : W8.heap.size ≤ w9.heap.size := hb9.size
          have HX89 := Hid.mk ((hbb9.block w8.heap.size (by omega)).trans ((hb9.block w8.heap.size hz8).trans HX8.out))
          obtain ⟨k0, k1, -, -, k4⟩ := cells2 (HAt8.out.on hb9).a
          have HW9 := Hid.mk hW9
          have hz9 : w9.heap.size < W9.heap.size := by rw [← hW9]; simp
          clear hW9 hO9 hb9 hS9 hbb9 hX9 HX8 HS8 HAt7 HAt8 HW7 HW8
          go_wp2_with fail
          rw [HW9.out]
          have HSt : Hid (St w (.cells #[.int .i64 na, .slice aa xs.length ca] 24) (.cells #[.int .i64 nb, .slice ab ys.length cb] 24) (.cells #[.int .i64 nc, .slice ac zs.length cc] 24) D8.1 D9.1 D8.2.1 D9.2.1 a8 a9 c8 c9 w8.heap.size w9.heap.size W9) := ⟨HAt9.out, HX89.out, HX9.out, HS89.out, HS9.out⟩
          have LAA := fun (W : World) (h : St w (.cells #[.int .i64 na, .slice aa xs.length ca] 24) (.cells #[.int .i64 nb, .slice ab ys.length cb] 24) (.cells #[.int .i64 nc, .slice ac zs.length cc] 24) D8.1 D9.1 D8.2.1 D9.2.1 a8 a9 c8 c9 w8.heap.size w9.heap.size W) => Leq_any na na xs xs aa aa ca ca W (HSa.out.below h.at_.bel) (HSa.out.below h.at_.bel) (by omega) (by omega)
          have LAB := fun (W : World) (h : St w (.cells #[.int .i64 na, .slice aa xs.length ca] 24) (.cells #[.int .i64 nb, .slice ab ys.length cb] 24) (.cells #[.int .i64 nc, .slice ac zs.length cc] 24) D8.1 D9.1 D8.2.1 D9.2.1 a8 a9 c8 c9 w8.heap.size w9.heap.size W) => Leq_any na nb xs ys aa ab ca cb W (HSa.out.below h.at_.bel) (HSb.out.below h.at_.bel) (by omega) (by omega)
          have LBC := fun (W : World) (h : St w (.cells #[.int .i64 na, .slice aa xs.length ca] 24) (.cells #[.int .i64 nb, .slice ab ys.length cb] 24) (.cells #[.int .i64 nc, .slice ac zs.length cc] 24) D8.1 D9.1 D8.2.1 D9.2.1 a8 a9 c8 c9 w8.heap.size w9.heap.size W) => Leq_any nb nc ys zs ab ac cb cc W (HSb.out.below h.at_.bel) (HSc.out.below h.at_.bel) (by omega) (by omega)
          have LAC := fun (W : World) (h : St w (.cells #[.int .i64 na, .slice aa xs.length ca] 24) (.cells #[.int .i64 nb, .slice ab ys.length cb] 24) (.cells #[.int .i64 nc, .slice ac zs.length cc] 24) D8.1 D9.1 D8.2.1 D9.2.1 a8 a9 c8 c9 w8.heap.size w9.heap.size W) => Leq_any na nc xs zs aa ac ca cc W (HSa.out.below h.at_.bel) (HSc.out.below h.at_.bel) (by omega) (by omega)
          have LAM := fun (W : World) (h : St w (.cells #[.int .i64 na, .slice aa xs.length ca] 24) (.cells #[.int .i64 nb, .slice ab ys.length cb] 24) (.cells #[.int .i64 nc, .slice ac zs.length cc] 24) D8.1 D9.1 D8.2.1 D9.2.1 a8 a9 c8 c9 w8.heap.size w9.heap.size W) (hl : D8.2.1.length ≤ 64) => Leq_any na D8.1 xs D8.2.1 aa a8 ca c8 W (HSa.out.below h.at_.bel) h.sm (by omega) (by omega)
          have LBM := fun (W : World) (h : St w (.cells #[.int .i64 na, .slice aa xs.length ca] 24) (.cells #[.int .i64 nb, .slice ab ys.length cb] 24) (.cells #[.int .i64 nc, .slice ac zs.length cc] 24) D8.1 D9.1 D8.2.1 D9.2.1 a8 a9 c8 c9 w8.heap.size w9.heap.size W) (hl : D8.2.1.length ≤ 64) => Leq_any nb D8.1 ys D8.2.1 ab a8 cb c8 W (HSb.out.below h.at_.bel) h.sm (by omega) (by omega)
          have LMB := fun (W : World) (h : St w (.cells #[.int .i64 na, .slice aa xs.length ca] 24) (.cells #[.int .i64 nb, .slice ab ys.length cb] 24) (.cells #[.int .i64 nc, .slice ac zs.length cc] 24) D8.1 D9.1 D8.2.1 D9.2.1 a8 a9 c8 c9 w8.heap.size w9.heap.size W) (hl : D8.2.1.length ≤ 64) => Same_any D8.1 nb D8.2.1 ys a8 ab c8 cb W h.sm (HSb.out.below h.at_.bel) (by omega) (by omega)
          have LAS := fun (W : World) (h : St w (.cells #[.int .i64 na, .slice aa xs.length ca] 24) (.cells #[.int .i64 nb, .slice ab ys.length cb] 24) (.cells #[.int .i64 nc, .slice ac zs.length cc] 24) D8.1 D9.1 D8.2.1 D9.2.1 a8 a9 c8 c9 w8.heap.size w9.heap.size W) (hl : D9.2.1.length ≤ 64) => Leq_any na D9.1 xs D9.2.1 aa a9 ca c9 W (HSa.out.below h.at_.bel) h.ss (by omega) (by omega)
          have LSA := fun (W : World) (h : St w (.cells #[.int .i64 na, .slice aa xs.length ca] 24) (.cells #[.int .i64 nb, .slice ab ys.length cb] 24) (.cells #[.int .i64 nc, .slice ac zs.length cc] 24) D8.1 D9.1 D8.2.1 D9.2.1 a8 a9 c8 c9 w8.heap.size w9.heap.size W) (hl : D9.2.1.length ≤ 64) => Leq_any D9.1 na D9.2.1 xs a9 aa c9 ca W h.ss (HSa.out.below h.at_.bel) (by omega) (by omega)
          simp only [leq_self HR.out.1] at LAA
          have HON := Hid.mk (fun h1 h2 => leq_on HR.out.1 HR.out.2.1 HR.out.2.2 h1 h2)
          have HBB := Hid.mk (leq_self HR.out.2.1)
          obtain ⟨e8, he8⟩ : ∃ e8, D8.2.2 = e8 := ⟨_, rfl⟩
          obtain ⟨e9, he9⟩ : ∃ e9, D9.2.2 = e9 := ⟨_, rfl⟩
          simp only [he8] at HEM HML
          simp only [he9] at HES HSL
          rw [he8, he9]
          have HLen : Hid ((e8 = 0 → D8.2.1.length ≤ 64) ∧ (e9 = 0 → D9.2.1.length ≤ 64)) :=
            ⟨fun h => (right_n (HML.out h).1).2.2, fun h => (right_n (HSL.out h).1).2.2⟩
          clear he8 he9
          obtain ⟨c0, c1, c2, c3, c4, c5, c6, c7, c8', c9'⟩ := HSt.out.cells
          clear HX89 HX9 HS89 HS9 HAt9 HW9 k0 k1
          have hm : e8 = 0 ∨ e8 = 13 := by rcases HEM.out with h | h <;> omega
          have hs : e9 = 0 ∨ e9 = 13 := by rcases HES.out with h | h <;> omega
          obtain ⟨ab', hab⟩ : ∃ x, leqB na xs nb ys = x := ⟨_, rfl⟩
          obtain ⟨bc', hbc⟩ : ∃ x, leqB nb ys nc zs = x := ⟨_, rfl⟩
          obtain ⟨ac', hac⟩ : ∃ x, leqB na xs nc zs = x := ⟨_, rfl⟩
          simp only [hab] at LAB HML HON
          simp only [hbc] at LBC HON
          simp only [hac] at LAC HON
          clear hab hbc hac HR
          rcases hm with rfl | rfl
          · have HLm := Hid.mk (HLen.out.1 rfl)
            obtain ⟨-, h1, h2, h3⟩ := HML.out rfl
            simp only [h1] at LAM
            simp only [h2] at LBM
            simp only [h2, h3, Bool.and_true] at LMB
            clear h1 h2 h3 HML
            rcases hs with rfl | rfl
            · have HLs := Hid.mk (HLen.out.2 rfl)
              obtain ⟨-, h1, h2⟩ := HSL.out rfl
              simp only [h1] at LAS
              simp only [h2] at LSA
              clear h1 h2 HSL
              refine (LAA _ HSt.out).mono ?_
              rintro e W' ⟨rfl, hb'⟩
              clear c0 c1 c2 c3 c4 c5 c6 c7 c8' c9'
              replace HSt := Hid.mk (HSt.out.on hb')
              clear hb'
              obtain ⟨c0, c1, c2, c3, c4, c5, c6, c7, c8', c9'⟩ := HSt.out.cells
              go_wp2_with fail
              refine (num_any _ _).mono ?_
              rintro e ww ⟨rfl, hww⟩
              have hww := hww.symm
              subst hww
              clear hww
              go_wp2_with fail
              refine (LAM _ HSt.out HLm.out).mono ?_
              rintro e W' ⟨rfl, hb'⟩
              clear c0 c1 c2 c3 c4 c5 c6 c7 c8' c9'
              replace HSt := Hid.mk (HSt.out.on hb')
              clear hb'
              obtain ⟨c0, c1, c2, c3, c4, c5, c6, c7, c8', c9'⟩ := HSt.out.cells
              go_wp2_with fail
              refine (LBM _ HSt.out HLm.out).mono ?_
              rintro e W' ⟨rfl, hb'⟩
              clear c0 c1 c2 c3 c4 c5 c6 c7 c8' c9'
              replace HSt := Hid.mk (HSt.out.on hb')
              clear hb'
              obtain ⟨c0, c1, c2, c3, c4, c5, c6, c7, c8', c9'⟩ := HSt.out.cells
              go_wp2_with fail
              refine (num_any _ _).mono ?_
              rintro e ww ⟨rfl, hww⟩
              have hww := hww.symm
              subst hww
              clear hww
              go_wp2_with fail
              refine (LAS _ HSt.out HLs.out).mono ?_
              rintro e W' ⟨rfl, hb'⟩
              clear c0 c1 c2 c3 c4 c5 c6 c7 c8' c9'
              replace HSt := Hid.mk (HSt.out.on hb')
              clear hb'
              obtain ⟨c0, c1, c2, c3, c4, c5, c6, c7, c8', c9'⟩ := HSt.out.cells
              go_wp2_with fail
              refine (LSA _ HSt.out HLs.out).mono ?_
              rintro e W' ⟨rfl, hb'⟩
              clear c0 c1 c2 c3 c4 c5 c6 c7 c8' c9'
              replace HSt := Hid.mk (HSt.out.on hb')
              clear hb'
              obtain ⟨c0, c1, c2, c3, c4, c5, c6, c7, c8', c9'⟩ := HSt.out.cells
              go_wp2_with fail
              cases ab' with
              | false =>
                cases bc' with
                | false =>
                  refine (LAB _ HSt.out).mono ?_
                  rintro e W' ⟨rfl, hb'⟩
                  clear c0 c1 c2 c3 c4 c5 c6 c7 c8' c9'
                  replace HSt := Hid.mk (HSt.out.on hb')
                  clear hb'
                  obtain ⟨c0, c1, c2, c3, c4, c5, c6, c7, c8', c9'⟩ := HSt.out.cells
                  go_wp2_with fail
                  refine (LBC _ HSt.out).mono ?_
                  rintro e W' ⟨rfl, hb'⟩
                  clear c0 c1 c2 c3 c4 c5 c6 c7 c8' c9'
                  replace HSt := Hid.mk (HSt.out.on hb')
                  clear hb'
                  obtain ⟨c0, c1, c2, c3, c4, c5, c6, c7, c8', c9'⟩ := HSt.out.cells
                  go_wp2_with fail
                  refine (num_any _ _).mono ?_
                  rintro e ww ⟨rfl, hww⟩
                  have hww := hww.symm
                  subst hww
                  clear hww
                  go_wp2_with fail
                  refine (LMB _ HSt.out HLm.out).mono ?_
                  rintro e W' ⟨rfl, hb'⟩
                  clear c0 c1 c2 c3 c4 c5 c6 c7 c8' c9'
                  replace HSt := Hid.mk (HSt.out.on hb')
                  clear hb'
                  obtain ⟨c0, c1, c2, c3, c4, c5, c6, c7, c8', c9'⟩ := HSt.out.cells
                  go_wp2_with fail
                  go_ret
                  exact ⟨rfl, HSt.out.at_.bel⟩
                | true =>
                  refine (LAB _ HSt.out).mono ?_
                  rintro e W' ⟨rfl, hb'⟩
                  clear c0 c1 c2 c3 c4 c5 c6 c7 c8' c9'
                  replace HSt := Hid.mk (HSt.out.on hb')
                  clear hb'
                  obtain ⟨c0, c1, c2, c3, c4, c5, c6, c7, c8', c9'⟩ := HSt.out.cells
                  go_wp2_with fail
                  refine (LBC _ HSt.out).mono ?_
                  rintro e W' ⟨rfl, hb'⟩
                  clear c0 c1 c2 c3 c4 c5 c6 c7 c8' c9'
                  replace HSt := Hid.mk (HSt.out.on hb')
                  clear hb'
                  obtain ⟨c0, c1, c2, c3, c4, c5, c6, c7, c8', c9'⟩ := HSt.out.cells
                  go_wp2_with fail
                  refine (num_any _ _).mono ?_
                  rintro e ww ⟨rfl, hww⟩
                  have hww := hww.symm
                  subst hww
                  clear hww
                  go_wp2_with fail
                  refine (LMB _ HSt.out HLm.out).mono ?_
                  rintro e W' ⟨rfl, hb'⟩
                  clear c0 c1 c2 c3 c4 c5 c6 c7 c8' c9'
                  replace HSt := Hid.mk (HSt.out.on hb')
                  clear hb'
                  obtain ⟨c0, c1, c2, c3, c4, c5, c6, c7, c8', c9'⟩ := HSt.out.cells
                  go_wp2_with fail
                  go_ret
                  exact ⟨rfl, HSt.out.at_.bel⟩
              | true =>
                cases bc' with
                | false =>
                  refine (LAB _ HSt.out).mono ?_
                  rintro e W' ⟨rfl, hb'⟩
                  clear c0 c1 c2 c3 c4 c5 c6 c7 c8' c9'
                  replace HSt := Hid.mk (HSt.out.on hb')
                  clear hb'
                  obtain ⟨c0, c1, c2, c3, c4, c5, c6, c7, c8', c9'⟩ := HSt.out.cells
                  go_wp2_with fail
                  refine (LBC _ HSt.out).mono ?_
                  rintro e W' ⟨rfl, hb'⟩
                  clear c0 c1 c2 c3 c4 c5 c6 c7 c8' c9'
                  replace HSt := Hid.mk (HSt.out.on hb')
                  clear hb'
                  obtain ⟨c0, c1, c2, c3, c4, c5, c6, c7, c8', c9'⟩ := HSt.out.cells
                  go_wp2_with fail
                  refine (num_any _ _).mono ?_
                  rintro e ww ⟨rfl, hww⟩
                  have hww := hww.symm
                  subst hww
                  clear hww
                  go_wp2_with fail
                  refine (LMB _ HSt.out HLm.out).mono ?_
                  rintro e W' ⟨rfl, hb'⟩
                  clear c0 c1 c2 c3 c4 c5 c6 c7 c8' c9'
                  replace HSt := Hid.mk (HSt.out.on hb')
                  clear hb'
                  obtain ⟨c0, c1, c2, c3, c4, c5, c6, c7, c8', c9'⟩ := HSt.out.cells
                  go_wp2_with fail
                  go_ret
                  exact ⟨rfl, HSt.out.at_.bel⟩
                | true =>
                  obtain rfl : ac' = true := HON.out rfl rfl
                  refine (LAB _ HSt.out).mono ?_
                  rintro e W' ⟨rfl, hb'⟩
                  clear c0 c1 c2 c3 c4 c5 c6 c7 c8' c9'
                  replace HSt := Hid.mk (HSt.out.on hb')
                  clear hb'
                  obtain ⟨c0, c1, c2, c3, c4, c5, c6, c7, c8', c9'⟩ := HSt.out.cells
                  go_wp2_with fail
                  refine (LBC _ HSt.out).mono ?_
                  rintro e W' ⟨rfl, hb'⟩
                  clear c0 c1 c2 c3 c4 c5 c6 c7 c8' c9'
                  replace HSt := Hid.mk (HSt.out.on hb')
                  clear hb'
                  obtain ⟨c0, c1, c2, c3, c4, c5, c6, c7, c8', c9'⟩ := HSt.out.cells
                  go_wp2_with fail
                  refine (LAC _ HSt.out).mono ?_
                  rintro e W' ⟨rfl, hb'⟩
                  clear c0 c1 c2 c3 c4 c5 c6 c7 c8' c9'
                  replace HSt := Hid.mk (HSt.out.on hb')
                  clear hb'
                  obtain ⟨c0, c1, c2, c3, c4, c5, c6, c7, c8', c9'⟩ := HSt.out.cells
                  go_wp2_with fail
                  refine (num_any _ _).mono ?_
                  rintro e ww ⟨rfl, hww⟩
                  have hww := hww.symm
                  subst hww
                  clear hww
                  go_wp2_with fail
                  refine (LMB _ HSt.out HLm.out).mono ?_
                  rintro e W' ⟨rfl, hb'⟩
                  clear c0 c1 c2 c3 c4 c5 c6 c7 c8' c9'
                  replace HSt := Hid.mk (HSt.out.on hb')
                  clear hb'
                  obtain ⟨c0, c1, c2, c3, c4, c5, c6, c7, c8', c9'⟩ := HSt.out.cells
                  go_wp2_with fail
                  go_ret
                  exact ⟨rfl, HSt.out.at_.bel⟩
            · clear LAS LSA HSL
              refine (LAA _ HSt.out).mono ?_
              rintro e W' ⟨rfl, hb'⟩
              clear c0 c1 c2 c3 c4 c5 c6 c7 c8' c9'
              replace HSt := Hid.mk (HSt.out.on hb')
              clear hb'
              obtain ⟨c0, c1, c2, c3, c4, c5, c6, c7, c8', c9'⟩ := HSt.out.cells
              go_wp2_with fail
              refine (num_any _ _).mono ?_
              rintro e ww ⟨rfl, hww⟩
              have hww := hww.symm
              subst hww
              clear hww
              go_wp2_with fail
              refine (LAM _ HSt.out HLm.out).mono ?_
              rintro e W' ⟨rfl, hb'⟩
              clear c0 c1 c2 c3 c4 c5 c6 c7 c8' c9'
              replace HSt := Hid.mk (HSt.out.on hb')
              clear hb'
              obtain ⟨c0, c1, c2, c3, c4, c5, c6, c7, c8', c9'⟩ := HSt.out.cells
              go_wp2_with fail
              refine (LBM _ HSt.out HLm.out).mono ?_
              rintro e W' ⟨rfl, hb'⟩
              clear c0 c1 c2 c3 c4 c5 c6 c7 c8' c9'
              replace HSt := Hid.mk (HSt.out.on hb')
              clear hb'
              obtain ⟨c0, c1, c2, c3, c4, c5, c6, c7, c8', c9'⟩ := HSt.out.cells
              go_wp2_with fail
              refine (num_any _ _).mono ?_
              rintro e ww ⟨rfl, hww⟩
              have hww := hww.symm
              subst hww
              clear hww
              go_wp2_with fail
              cases ab' with
              | false =>
                cases bc' with
                | false =>
                  refine (LAB _ HSt.out).mono ?_
                  rintro e W' ⟨rfl, hb'⟩
                  clear c0 c1 c2 c3 c4 c5 c6 c7 c8' c9'
                  replace HSt := Hid.mk (HSt.out.on hb')
                  clear hb'
                  obtain ⟨c0, c1, c2, c3, c4, c5, c6, c7, c8', c9'⟩ := HSt.out.cells
                  go_wp2_with fail
                  refine (LBC _ HSt.out).mono ?_
                  rintro e W' ⟨rfl, hb'⟩
                  clear c0 c1 c2 c3 c4 c5 c6 c7 c8' c9'
                  replace HSt := Hid.mk (HSt.out.on hb')
                  clear hb'
                  obtain ⟨c0, c1, c2, c3, c4, c5, c6, c7, c8', c9'⟩ := HSt.out.cells
                  go_wp2_with fail
                  refine (num_any _ _).mono ?_
                  rintro e ww ⟨rfl, hww⟩
                  have hww := hww.symm
                  subst hww
                  clear hww
                  go_wp2_with fail
                  refine (LMB _ HSt.out HLm.out).mono ?_
                  rintro e W' ⟨rfl, hb'⟩
                  clear c0 c1 c2 c3 c4 c5 c6 c7 c8' c9'
                  replace HSt := Hid.mk (HSt.out.on hb')
                  clear hb'
                  obtain ⟨c0, c1, c2, c3, c4, c5, c6, c7, c8', c9'⟩ := HSt.out.cells
                  go_wp2_with fail
                  go_ret
                  exact ⟨rfl, HSt.out.at_.bel⟩
                | true =>
                  refine (LAB _ HSt.out).mono ?_
                  rintro e W' ⟨rfl, hb'⟩
                  clear c0 c1 c2 c3 c4 c5 c6 c7 c8' c9'
                  replace HSt := Hid.mk (HSt.out.on hb')
                  clear hb'
                  obtain ⟨c0, c1, c2, c3, c4, c5, c6, c7, c8', c9'⟩ := HSt.out.cells
                  go_wp2_with fail
                  refine (LBC _ HSt.out).mono ?_
                  rintro e W' ⟨rfl, hb'⟩
                  clear c0 c1 c2 c3 c4 c5 c6 c7 c8' c9'
                  replace HSt := Hid.mk (HSt.out.on hb')
                  clear hb'
                  obtain ⟨c0, c1, c2, c3, c4, c5, c6, c7, c8', c9'⟩ := HSt.out.cells
                  go_wp2_with fail
                  refine (num_any _ _).mono ?_
                  rintro e ww ⟨rfl, hww⟩
                  have hww := hww.symm
                  subst hww
                  clear hww
                  go_wp2_with fail
                  refine (LMB _ HSt.out HLm.out).mono ?_
                  rintro e W' ⟨rfl, hb'⟩
                  clear c0 c1 c2 c3 c4 c5 c6 c7 c8' c9'
                  replace HSt := Hid.mk (HSt.out.on hb')
                  clear hb'
                  obtain ⟨c0, c1, c2, c3, c4, c5, c6, c7, c8', c9'⟩ := HSt.out.cells
                  go_wp2_with fail
                  go_ret
                  exact ⟨rfl, HSt.out.at_.bel⟩
              | true =>
                cases bc' with
                | false =>
                  refine (LAB _ HSt.out).mono ?_
                  rintro e W' ⟨rfl, hb'⟩
                  clear c0 c1 c2 c3 c4 c5 c6 c7 c8' c9'
                  replace HSt := Hid.mk (HSt.out.on hb')
                  clear hb'
                  obtain ⟨c0, c1, c2, c3, c4, c5, c6, c7, c8', c9'⟩ := HSt.out.cells
                  go_wp2_with fail
                  refine (LBC _ HSt.out).mono ?_
                  rintro e W' ⟨rfl, hb'⟩
                  clear c0 c1 c2 c3 c4 c5 c6 c7 c8' c9'
                  replace HSt := Hid.mk (HSt.out.on hb')
                  clear hb'
                  obtain ⟨c0, c1, c2, c3, c4, c5, c6, c7, c8', c9'⟩ := HSt.out.cells
                  go_wp2_with fail
                  refine (num_any _ _).mono ?_
                  rintro e ww ⟨rfl, hww⟩
                  have hww := hww.symm
                  subst hww
                  clear hww
                  go_wp2_with fail
                  refine (LMB _ HSt.out HLm.out).mono ?_
                  rintro e W' ⟨rfl, hb'⟩
                  clear c0 c1 c2 c3 c4 c5 c6 c7 c8' c9'
                  replace HSt := Hid.mk (HSt.out.on hb')
                  clear hb'
                  obtain ⟨c0, c1, c2, c3, c4, c5, c6, c7, c8', c9'⟩ := HSt.out.cells
                  go_wp2_with fail
                  go_ret
                  exact ⟨rfl, HSt.out.at_.bel⟩
                | true =>
                  obtain rfl : ac' = true := HON.out rfl rfl
                  refine (LAB _ HSt.out).mono ?_
                  rintro e W' ⟨rfl, hb'⟩
                  clear c0 c1 c2 c3 c4 c5 c6 c7 c8' c9'
                  replace HSt := Hid.mk (HSt.out.on hb')
                  clear hb'
                  obtain ⟨c0, c1, c2, c3, c4, c5, c6, c7, c8', c9'⟩ := HSt.out.cells
                  go_wp2_with fail
                  refine (LBC _ HSt.out).mono ?_
                  rintro e W' ⟨rfl, hb'⟩
                  clear c0 c1 c2 c3 c4 c5 c6 c7 c8' c9'
                  replace HSt := Hid.mk (HSt.out.on hb')
                  clear hb'
                  obtain ⟨c0, c1, c2, c3, c4, c5, c6, c7, c8', c9'⟩ := HSt.out.cells
                  go_wp2_with fail
                  refine (LAC _ HSt.out).mono ?_
                  rintro e W' ⟨rfl, hb'⟩
                  clear c0 c1 c2 c3 c4 c5 c6 c7 c8' c9'
                  replace HSt := Hid.mk (HSt.out.on hb')
                  clear hb'
                  obtain ⟨c0, c1, c2, c3, c4, c5, c6, c7, c8', c9'⟩ := HSt.out.cells
                  go_wp2_with fail
                  refine (num_any _ _).mono ?_
                  rintro e ww ⟨rfl, hww⟩
                  have hww := hww.symm
                  subst hww
                  clear hww
                  go_wp2_with fail
                  refine (LMB _ HSt.out HLm.out).mono ?_
                  rintro e W' ⟨rfl, hb'⟩
                  clear c0 c1 c2 c3 c4 c5 c6 c7 c8' c9'
                  replace HSt := Hid.mk (HSt.out.on hb')
                  clear hb'
                  obtain ⟨c0, c1, c2, c3, c4, c5, c6, c7, c8', c9'⟩ := HSt.out.cells
                  go_wp2_with fail
                  go_ret
                  exact ⟨rfl, HSt.out.at_.bel⟩
          · clear LAM LBM LMB HML
            rcases hs with rfl | rfl
            · have HLs := Hid.mk (HLen.out.2 rfl)
              obtain ⟨-, h1, h2⟩ := HSL.out rfl
              simp only [h1] at LAS
              simp only [h2] at LSA
              clear h1 h2 HSL
              refine (LAA _ HSt.out).mono ?_
              rintro e W' ⟨rfl, hb'⟩
              clear c0 c1 c2 c3 c4 c5 c6 c7 c8' c9'
              replace HSt := Hid.mk (HSt.out.on hb')
              clear hb'
              obtain ⟨c0, c1, c2, c3, c4, c5, c6, c7, c8', c9'⟩ := HSt.out.cells
              go_wp2_with fail
              refine (num_any _ _).mono ?_
              rintro e ww ⟨rfl, hww⟩
              have hww := hww.symm
              subst hww
              clear hww
              go_wp2_with fail
              refine (num_any _ _).mono ?_
              rintro e ww ⟨rfl, hww⟩
              have hww := hww.symm
              subst hww
              clear hww
              go_wp2_with fail
              refine (LAS _ HSt.out HLs.out).mono ?_
              rintro e W' ⟨rfl, hb'⟩
              clear c0 c1 c2 c3 c4 c5 c6 c7 c8' c9'
              replace HSt := Hid.mk (HSt.out.on hb')
              clear hb'
              obtain ⟨c0, c1, c2, c3, c4, c5, c6, c7, c8', c9'⟩ := HSt.out.cells
              go_wp2_with fail
              refine (LSA _ HSt.out HLs.out).mono ?_
              rintro e W' ⟨rfl, hb'⟩
              clear c0 c1 c2 c3 c4 c5 c6 c7 c8' c9'
              replace HSt := Hid.mk (HSt.out.on hb')
              clear hb'
              obtain ⟨c0, c1, c2, c3, c4, c5, c6, c7, c8', c9'⟩ := HSt.out.cells
              go_wp2_with fail
              cases ab' with
              | false =>
                cases bc' with
                | false =>
                  refine (LAB _ HSt.out).mono ?_
                  rintro e W' ⟨rfl, hb'⟩
                  clear c0 c1 c2 c3 c4 c5 c6 c7 c8' c9'
                  replace HSt := Hid.mk (HSt.out.on hb')
                  clear hb'
                  obtain ⟨c0, c1, c2, c3, c4, c5, c6, c7, c8', c9'⟩ := HSt.out.cells
                  go_wp2_with fail
                  refine (LBC _ HSt.out).mono ?_
                  rintro e W' ⟨rfl, hb'⟩
                  clear c0 c1 c2 c3 c4 c5 c6 c7 c8' c9'
                  replace HSt := Hid.mk (HSt.out.on hb')
                  clear hb'
                  obtain ⟨c0, c1, c2, c3, c4, c5, c6, c7, c8', c9'⟩ := HSt.out.cells
                  go_wp2_with fail
                  refine (num_any _ _).mono ?_
                  rintro e ww ⟨rfl, hww⟩
                  have hww := hww.symm
                  subst hww
                  clear hww
                  go_wp2_with fail
                  go_ret
                  exact ⟨rfl, HSt.out.at_.bel⟩
                | true =>
                  refine (LAB _ HSt.out).mono ?_
                  rintro e W' ⟨rfl, hb'⟩
                  clear c0 c1 c2 c3 c4 c5 c6 c7 c8' c9'
                  replace HSt := Hid.mk (HSt.out.on hb')
                  clear hb'
                  obtain ⟨c0, c1, c2, c3, c4, c5, c6, c7, c8', c9'⟩ := HSt.out.cells
                  go_wp2_with fail
                  refine (LBC _ HSt.out).mono ?_
                  rintro e W' ⟨rfl, hb'⟩
                  clear c0 c1 c2 c3 c4 c5 c6 c7 c8' c9'
                  replace HSt := Hid.mk (HSt.out.on hb')
                  clear hb'
                  obtain ⟨c0, c1, c2, c3, c4, c5, c6, c7, c8', c9'⟩ := HSt.out.cells
                  go_wp2_with fail
                  refine (num_any _ _).mono ?_
                  rintro e ww ⟨rfl, hww⟩
                  have hww := hww.symm
                  subst hww
                  clear hww
                  go_wp2_with fail
                  go_ret
                  exact ⟨rfl, HSt.out.at_.bel⟩
              | true =>
                cases bc' with
                | false =>
                  refine (LAB _ HSt.out).mono ?_
                  rintro e W' ⟨rfl, hb'⟩
                  clear c0 c1 c2 c3 c4 c5 c6 c7 c8' c9'
                  replace HSt := Hid.mk (HSt.out.on hb')
                  clear hb'
                  obtain ⟨c0, c1, c2, c3, c4, c5, c6, c7, c8', c9'⟩ := HSt.out.cells
                  go_wp2_with fail
                  refine (LBC _ HSt.out).mono ?_
                  rintro e W' ⟨rfl, hb'⟩
                  clear c0 c1 c2 c3 c4 c5 c6 c7 c8' c9'
                  replace HSt := Hid.mk (HSt.out.on hb')
                  clear hb'
                  obtain ⟨c0, c1, c2, c3, c4, c5, c6, c7, c8', c9'⟩ := HSt.out.cells
                  go_wp2_with fail
                  refine (num_any _ _).mono ?_
                  rintro e ww ⟨rfl, hww⟩
                  have hww := hww.symm
                  subst hww
                  clear hww
                  go_wp2_with fail
                  go_ret
                  exact ⟨rfl, HSt.out.at_.bel⟩
                | true =>
                  obtain rfl : ac' = true := HON.out rfl rfl
                  refine (LAB _ HSt.out).mono ?_
                  rintro e W' ⟨rfl, hb'⟩
                  clear c0 c1 c2 c3 c4 c5 c6 c7 c8' c9'
                  replace HSt := Hid.mk (HSt.out.on hb')
                  clear hb'
                  obtain ⟨c0, c1, c2, c3, c4, c5, c6, c7, c8', c9'⟩ := HSt.out.cells
                  go_wp2_with fail
                  refine (LBC _ HSt.out).mono ?_
                  rintro e W' ⟨rfl, hb'⟩
                  clear c0 c1 c2 c3 c4 c5 c6 c7 c8' c9'
                  replace HSt := Hid.mk (HSt.out.on hb')
                  clear hb'
                  obtain ⟨c0, c1, c2, c3, c4, c5, c6, c7, c8', c9'⟩ := HSt.out.cells
                  go_wp2_with fail
                  refine (LAC _ HSt.out).mono ?_
                  rintro e W' ⟨rfl, hb'⟩
                  clear c0 c1 c2 c3 c4 c5 c6 c7 c8' c9'
                  replace HSt := Hid.mk (HSt.out.on hb')
                  clear hb'
                  obtain ⟨c0, c1, c2, c3, c4, c5, c6, c7, c8', c9'⟩ := HSt.out.cells
                  go_wp2_with fail
                  refine (num_any _ _).mono ?_
                  rintro e ww ⟨rfl, hww⟩
                  have hww := hww.symm
                  subst hww
                  clear hww
                  go_wp2_with fail
                  go_ret
                  exact ⟨rfl, HSt.out.at_.bel⟩
            · clear LAS LSA HSL
              refine (LAA _ HSt.out).mono ?_
              rintro e W' ⟨rfl, hb'⟩
              clear c0 c1 c2 c3 c4 c5 c6 c7 c8' c9'
              replace HSt := Hid.mk (HSt.out.on hb')
              clear hb'
              obtain ⟨c0, c1, c2, c3, c4, c5, c6, c7, c8', c9'⟩ := HSt.out.cells
              go_wp2_with fail
              refine (num_any _ _).mono ?_
              rintro e ww ⟨rfl, hww⟩
              have hww := hww.symm
              subst hww
              clear hww
              go_wp2_with fail
              refine (num_any _ _).mono ?_
              rintro e ww ⟨rfl, hww⟩
              have hww := hww.symm
              subst hww
              clear hww
              go_wp2_with fail
              cases ab' with
              | false =>
                cases bc' with
                | false =>
                  refine (LAB _ HSt.out).mono ?_
                  rintro e W' ⟨rfl, hb'⟩
                  clear c0 c1 c2 c3 c4 c5 c6 c7 c8' c9'
                  replace HSt := Hid.mk (HSt.out.on hb')
                  clear hb'
                  obtain ⟨c0, c1, c2, c3, c4, c5, c6, c7, c8', c9'⟩ := HSt.out.cells
                  go_wp2_with fail
                  refine (LBC _ HSt.out).mono ?_
                  rintro e W' ⟨rfl, hb'⟩
                  clear c0 c1 c2 c3 c4 c5 c6 c7 c8' c9'
                  replace HSt := Hid.mk (HSt.out.on hb')
                  clear hb'
                  obtain ⟨c0, c1, c2, c3, c4, c5, c6, c7, c8', c9'⟩ := HSt.out.cells
                  go_wp2_with fail
                  refine (num_any _ _).mono ?_
                  rintro e ww ⟨rfl, hww⟩
                  have hww := hww.symm
                  subst hww
                  clear hww
                  go_wp2_with fail
                  go_ret
                  exact ⟨rfl, HSt.out.at_.bel⟩
                | true =>
                  refine (LAB _ HSt.out).mono ?_
                  rintro e W' ⟨rfl, hb'⟩
                  clear c0 c1 c2 c3 c4 c5 c6 c7 c8' c9'
                  replace HSt := Hid.mk (HSt.out.on hb')
                  clear hb'
                  obtain ⟨c0, c1, c2, c3, c4, c5, c6, c7, c8', c9'⟩ := HSt.out.cells
                  go_wp2_with fail
                  refine (LBC _ HSt.out).mono ?_
                  rintro e W' ⟨rfl, hb'⟩
                  clear c0 c1 c2 c3 c4 c5 c6 c7 c8' c9'
                  replace HSt := Hid.mk (HSt.out.on hb')
                  clear hb'
                  obtain ⟨c0, c1, c2, c3, c4, c5, c6, c7, c8', c9'⟩ := HSt.out.cells
                  go_wp2_with fail
                  refine (num_any _ _).mono ?_
                  rintro e ww ⟨rfl, hww⟩
                  have hww := hww.symm
                  subst hww
                  clear hww
                  go_wp2_with fail
                  go_ret
                  exact ⟨rfl, HSt.out.at_.bel⟩
              | true =>
                cases bc' with
                | false =>
                  refine (LAB _ HSt.out).mono ?_
                  rintro e W' ⟨rfl, hb'⟩
                  clear c0 c1 c2 c3 c4 c5 c6 c7 c8' c9'
                  replace HSt := Hid.mk (HSt.out.on hb')
                  clear hb'
                  obtain ⟨c0, c1, c2, c3, c4, c5, c6, c7, c8', c9'⟩ := HSt.out.cells
                  go_wp2_with fail
                  refine (LBC _ HSt.out).mono ?_
                  rintro e W' ⟨rfl, hb'⟩
                  clear c0 c1 c2 c3 c4 c5 c6 c7 c8' c9'
                  replace HSt := Hid.mk (HSt.out.on hb')
                  clear hb'
                  obtain ⟨c0, c1, c2, c3, c4, c5, c6, c7, c8', c9'⟩ := HSt.out.cells
                  go_wp2_with fail
                  refine (num_any _ _).mono ?_
                  rintro e ww ⟨rfl, hww⟩
                  have hww := hww.symm
                  subst hww
                  clear hww
                  go_wp2_with fail
                  go_ret
                  exact ⟨rfl, HSt.out.at_.bel⟩
                | true =>
                  obtain rfl : ac' = true := HON.out rfl rfl
                  refine (LAB _ HSt.out).mono ?_
                  rintro e W' ⟨rfl, hb'⟩
                  clear c0 c1 c2 c3 c4 c5 c6 c7 c8' c9'
                  replace HSt := Hid.mk (HSt.out.on hb')
                  clear hb'
                  obtain ⟨c0, c1, c2, c3, c4, c5, c6, c7, c8', c9'⟩ := HSt.out.cells
                  go_wp2_with fail
                  refine (LBC _ HSt.out).mono ?_
                  rintro e W' ⟨rfl, hb'⟩
                  clear c0 c1 c2 c3 c4 c5 c6 c7 c8' c9'
                  replace HSt := Hid.mk (HSt.out.on hb')
                  clear hb'
                  obtain ⟨c0, c1, c2, c3, c4, c5, c6, c7, c8', c9'⟩ := HSt.out.cells
                  go_wp2_with fail
                  refine (LAC _ HSt.out).mono ?_
                  rintro e W' ⟨rfl, hb'⟩
                  clear c0 c1 c2 c3 c4 c5 c6 c7 c8' c9'
                  replace HSt := Hid.mk (HSt.out.on hb')
                  clear hb'
                  obtain ⟨c0, c1, c2, c3, c4, c5, c6, c7, c8', c9'⟩ := HSt.out.cells
                  go_wp2_with fail
                  refine (num_any _ _).mono ?_
                  rintro e ww ⟨rfl, hww⟩
                  have hww := hww.symm
                  subst hww
                  clear hww
                  go_wp2_with fail
                  go_ret
                  exact ⟨rfl, HSt.out.at_.bel⟩
        · have h5 : e5 = 0 ∨ e5 = 13 := by have := HE5.out; split at this <;> omega
          have h6 : e6 = 0 ∨ e6 = 13 := by have := HE6.out; split at this <;> omega
          have h7 : e7 = 0 ∨ e7 = 13 := by have := HE7.out; split at this <;> omega
          have hne : e5 + e6 + e7 ≠ 0 := fun h => hr ⟨by have := HE5.out; split at this <;> first | assumption | omega, by have := HE6.out; split at this <;> first | assumption | omega, by have := HE7.out; split at this <;> first | assumption | omega⟩
          clear hr HE5 HE6 HE7 he5 he6 he7
          rcases h5 with rfl | rfl <;> rcases h6 with rfl | rfl <;> rcases h7 with rfl | rfl
          · simp at hne
          all_goals
            clear hne
            go_wp2
            go_ret
            exact ⟨rfl, by rw [HW7.out]; exact HAt7.out.bel⟩

set_option maxRecDepth 100000 in
theorem lifted (os : Os) (started : os.Started) (H : Type) (enc : TypeId × Value → H) :
    ReturnsInHanded {} Try.checked os 8 .any (Rows.levelOrderSpec.pre6 enc Try.prog Try.f8 Rows.levelOrderRow.domain false) (Rows.levelOrderSpec.post enc Try.prog Try.f8 false true false false) := by
  refine returnsInHanded_of_change (C := Try.checked) own started (by kernel_rfl) Try.func8
    (ChangeSpec.witness6 (enc := enc) (C := Try.checked) false ⟨#[], #[.agg #[.int .i64 0, .slice none 0 0], .agg #[.int .i64 0, .slice none 0 0], .agg #[.int .i64 0, .slice none 0 0]], []⟩ 8 (by kernel_rfl) (by kernel_rfl) (by kernel_rfl) (by kernel_rfl)) ?_
  intro W base args ds gs before hval0 hW hcnd _
  have hval : ∀ (j : Nat) t v, Try.f8.params[j]? = some t → args[j]? = some v → Value.okWide Try.prog W .any base t v := hval0
  have hW' := hW
  obtain ⟨p, q, hA0, hV, rfl, hfz, hnd⟩ := hW
  have hA : DataW.TrodAll enc Try.prog W 0 (fun _ => true) true Try.f8.params.toList args.toList ds p := hA0
  rw [Try.params8] at hA hval
  obtain ⟨v0, v1, v2, d0, d1, d2, p0, p1, p2, rfl, rfl, rfl, h0, h1, h2⟩ := trodAll_three hA
  obtain ⟨rfl, rfl⟩ := trodVars_none hV
  have k0 := h0
  have lt0 : ∀ x ∈ p0, x.block < W.heap.size := by obtain ⟨m, hm⟩ := k0; exact DataW.trod_lt m _ _ _ hm
  obtain ⟨n0, xs0, a0, c0, rfl, hS0, hN0⟩ := open_level2 (hval 0 24 v0 rfl rfl) h0
  have k1 := h1
  have lt1 : ∀ x ∈ p1, x.block < W.heap.size := by obtain ⟨m, hm⟩ := k1; exact DataW.trod_lt m _ _ _ hm
  obtain ⟨n1, xs1, a1, c1, rfl, hS1, hN1⟩ := open_level2 (hval 1 24 v1 rfl rfl) h1
  have k2 := h2
  have lt2 : ∀ x ∈ p2, x.block < W.heap.size := by obtain ⟨m, hm⟩ := k2; exact DataW.trod_lt m _ _ _ hm
  obtain ⟨n2, xs2, a2, c2, rfl, hS2, hN2⟩ := open_level2 (hval 2 24 v2 rfl rfl) h2
  clear hA0 hval0
  refine (walk n0 xs0 a0 c0 n1 xs1 a1 c1 n2 xs2 a2 c2 W hS0 hN0 hS1 hN1 hS2 hN2).mono fun e W' ⟨he, bel⟩ => ?_
  subst he
  exact ⟨_, rfl, _, _, _, [], _, [], hW', trodAll_mk1 (shut_bool Try.underlying4 _), trodAll_mk3 (Below.trod laidOut (by kernel_rfl) (of_decide_eq_true (by kernel_rfl)) k0 bel lt0) (Below.trod laidOut (by kernel_rfl) (of_decide_eq_true (by kernel_rfl)) k1 bel lt1) (Below.trod laidOut (by kernel_rfl) (of_decide_eq_true (by kernel_rfl)) k2 bel lt2), rfl, bel.frame _, fun h => by cases h⟩

theorem over : Rows.levelOrderRow.holds Try.pinned (OpenSpec.ofChange Rows.levelOrderSpec) :=
  OpenClaim.holds_of_wide 8 Try.f8 rfl rfl rfl rfl rfl rfl rfl ⟨rfl, rfl, rfl, rfl, rfl⟩ rfl rfl rfl rfl rfl (by kernel_rfl) Try.func8 (by kernel_rfl)
    (of_decide_eq_true (by kernel_rfl)) (by unfold Func.isWrapper; first | (rw [if_pos (by decide +kernel)]; kernel_rfl) | (rw [if_neg (by decide +kernel)]; exact ⟨rfl, rfl⟩))
    (fun os started H enc _ => lifted os started H enc)

end levelOrder

theorem levelOrder_holds : Rows.LevelOrderSaid := levelOrder.over
#print axioms levelOrder_holds
end Go.Proofs.Ytchckjhomgogpaa
