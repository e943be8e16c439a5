/- The contracts of term's visits that count: limits.count, above, search.count; of plus and greater. -/
import Derived.Test.YtmmbnimehmfadaaWB
import Derived.Test.YtmmbnimehmfadaaTH
namespace Go.Proofs.Ytmmbnimehmfadaa
open Go.RowKit Go.Sort

theorem cf_count (xs : Array Value) (w : World) : Sem.run Try.prog (callFunc 54 xs) w = .ok (.enter 54 xs) w := by simp [callFunc, go_sem, Try.func54]; rfl
theorem cf_above (xs : Array Value) (w : World) : Sem.run Try.prog (callFunc 45 xs) w = .ok (.enter 45 xs) w := by simp [callFunc, go_sem, Try.func45]; rfl
theorem cf_judged (xs : Array Value) (w : World) : Sem.run Try.prog (callFunc 47 xs) w = .ok (.enter 47 xs) w := by simp [callFunc, go_sem, Try.func47]; rfl
theorem cf_plus (xs : Array Value) (w : World) : Sem.run Try.prog (callFunc 48 xs) w = .ok (.enter 48 xs) w := by simp [callFunc, go_sem, Try.func48]; rfl
theorem cf_greater (xs : Array Value) (w : World) : Sem.run Try.prog (callFunc 46 xs) w = .ok (.enter 46 xs) w := by simp [callFunc, go_sem, Try.func46]; rfl

/-- the sum, as Go's int has it -/
def wplus (a b : Int) : Int := wrap64 (a + b)

theorem plus_any : JoinsI 48 wplus := by
  intro a b w
  go_enter Try.func48, Try.ntmps48
  go_wp2
  go_ret
  exact ⟨rfl, rfl⟩

theorem greater_any : JoinsI 46 max := by
  intro a b w
  by_cases h : a < b
  · go_enter Try.func46, Try.ntmps46
    go_wp2
    go_ret
    exact ⟨ret_int (by omega), rfl⟩
  · go_enter Try.func46, Try.ntmps46
    go_wp2
    go_ret
    exact ⟨ret_int (by omega), rfl⟩

/-- counting parts, as long as there may be more of them (s), and no more than H within one another -/
def cntV (H : Int) (s : Int) (_ : Tm) (_ p : Int) : Except Int (Int × Int) := if s ≤ 0 ∨ H ≤ p then .error 2 else .ok (s - 1, 1)

/-- limits lies in block X: s parts may still come -/
def cntI (H : Int) (X : Nat) (s : Int) (w : World) : Prop := w.heap[X]? = some (.cells #[.int .i64 s, .int .i64 H] 108 (0, 0)) ∧ 0 ≤ s ∧ s ≤ 16777216

theorem heap_set20 {w : World} {b : Nat} {u u2 x : Value} {t : TypeId} (h : w.heap[b]? = some (.cells #[u, u2] t (0, 0))) : (w.setCell ⟨b, 0, none⟩ x).heap[b]? = some (.cells #[x, u2] t (0, 0)) := by
  rw [setCell_eq]; show (w.heap.modify b _)[b]? = _
  rw [Array.getElem?_modify, if_pos rfl, h]; rfl

theorem cntI_grow (H : Int) (X : Nat) (s : Int) (w w' : World) (h : cntI H X s w) (hb : RowKit.Below w.heap.size w w') : cntI H X s w' := ⟨(hb.block X (Array.getElem?_eq_some_iff.1 h.1).1).trans h.1, h.2⟩

theorem Kept.drewN {P : Nat → Prop} {a w : World} (h : Kept P a w) (n : Nat) : Kept P a (w.drewN n) := h.trans (Kept.of_grew ((Grew.refl w).drewN n))

set_option maxRecDepth 100000 in
set_option maxHeartbeats 1000000 in
theorem count_visits (H : Int) (X : Nat) (w0 : World) : VisitsI (fun _ => True) (· = X) (cntI H X) w0 54 #[.pointer (some ⟨X, 0, none⟩)] (cntV H) := by
  intro s t v b p w _ hI hv _ hb0 hbp hp
  obtain ⟨hX, hs0, hs1⟩ := hI
  obtain ⟨x0, x1, x2, x3, x4⟩ := cells2 hX
  have HX := Hid.mk hX
  clear hX
  have hvv : ∃ f n hd nm la l1 lc ka k1 kc, v = .agg #[.int .i64 f, .int .i64 n, .bool hd, .string nm, .slice la l1 lc, .slice ka k1 kc] := by
    cases hv with
    | mk => exact ⟨_, _, _, _, _, _, _, _, _, _, rfl⟩
  clear hv
  obtain ⟨f, n, hd, nm, la, l1, lc, ka, k1, kc, rfl⟩ := hvv
  show Calls Try.prog 54 #[.pointer (some ⟨X, 0, none⟩), .agg #[.int .i64 f, .int .i64 n, .bool hd, .string nm, .slice la l1 lc, .slice ka k1 kc], .agg #[.int .i64 b, .int .i64 p]] w _
  obtain ⟨W1, hW1⟩ : ∃ W1, ((w.setCell ⟨X, 0, none⟩ (.int .i64 (s - 1))).alloc (.cells #[.int .i64 f, .int .i64 n, .bool hd, .string nm, .slice la l1 lc, .slice ka k1 kc] 26)).alloc (.cells #[.int .i64 b, .int .i64 p] 95) = W1 := ⟨_, rfl⟩
  have hXl : X < w.heap.size := x4
  have hsz0 : (w.setCell ⟨X, 0, none⟩ (.int .i64 (s - 1))).heap.size = w.heap.size := by simp [World.setCell]
  have HX1 : Hid (W1.heap[X]? = some (.cells #[.int .i64 (s - 1), .int .i64 H] 108 (0, 0))) := by unfold Hid; rw [← hW1]; exact alloc_old (alloc_old (heap_set20 HX.out) _) _
  have HP1 : Hid (W1.heap[w.heap.size + 1]? = some (.cells #[.int .i64 b, .int .i64 p] 95 (0, 0))) := by unfold Hid; rw [← hW1, ← hsz0]; exact box_at1
  have HK1 : Hid (Kept (· = X) w W1) := by unfold Hid; rw [← hW1]; exact (((Kept.refl (· = X) w).setCell (p := ⟨X, 0, none⟩) rfl _).alloc _).alloc _
  have HW1 := Hid.mk hW1
  clear hW1 hsz0
  obtain ⟨u, hu⟩ : ∃ u, s - 1 = u := ⟨_, rfl⟩
  rw [hu] at HX1
  have HU := Hid.mk hu
  rcases (show s ≤ 0 ∨ (0 < s ∧ H ≤ p) ∨ (0 < s ∧ p < H) by omega) with h | ⟨h, h2⟩ | ⟨h, h2⟩
  · have HE : Hid (cntV H s t b p = .error 2) := by unfold Hid cntV; rw [if_pos (by omega)]
    generalize cntV H s t b p = R at HE ⊢
    have hz : u < 0 := by omega
    clear hu
    go_enter Try.func54, Try.ntmps54
    go_wp2
    rw [HW1.out]
    clear x0 x1 x2 x3 x4
    obtain ⟨x0, x1, x2, x3, x4⟩ := cells2 HX1.out
    obtain ⟨y0, y1, y2, y3, y4⟩ := cells2 HP1.out
    go_quiet (fail)
    go_wp2
    go_ret2
    rw [HE.out]
    exact ⟨HK1.out.drewN _, by decide, _, rfl⟩
  · have HE : Hid (cntV H s t b p = .error 2) := by unfold Hid cntV; rw [if_pos (by omega)]
    generalize cntV H s t b p = R at HE ⊢
    have hz : ¬ u < 0 := by omega
    clear hu
    go_enter Try.func54, Try.ntmps54
    go_wp2
    rw [HW1.out]
    clear x0 x1 x2 x3 x4
    obtain ⟨x0, x1, x2, x3, x4⟩ := cells2 HX1.out
    obtain ⟨y0, y1, y2, y3, y4⟩ := cells2 HP1.out
    go_quiet (fail)
    go_wp2
    go_ret2
    rw [HE.out]
    exact ⟨HK1.out.drewN _, by decide, _, rfl⟩
  · have HE : Hid (cntV H s t b p = .ok (s - 1, 1)) := by unfold Hid cntV; rw [if_neg (by omega)]
    generalize cntV H s t b p = R at HE ⊢
    have hz : ¬ u < 0 := by omega
    clear hu
    go_enter Try.func54, Try.ntmps54
    go_wp2
    rw [HW1.out]
    clear x0 x1 x2 x3 x4
    obtain ⟨x0, x1, x2, x3, x4⟩ := cells2 HX1.out
    obtain ⟨y0, y1, y2, y3, y4⟩ := cells2 HP1.out
    go_quiet (fail)
    go_wp2
    go_ret2
    rw [HE.out]
    exact ⟨HK1.out.drewN _, rfl, by rw [HU.out]; exact HX1.out, by omega, by omega⟩

/-- the least number above a part's free index -/
def aboV (_ : Unit) (t : Tm) (b _ : Int) : Except Int (Unit × Int) := .ok ((), if t.form = 1 then max 0 (wrap64 (wrap64 (t.n - b) + 1)) else 0)

theorem TV.shape {w : World} {v : Value} {t : Tm} (h : TV w v t) : ∃ la lc ka kc, v = .agg #[.int .i64 t.form, .int .i64 t.n, .bool t.hid, .string t.name, .slice la t.levels.length lc, .slice ka t.kids.length kc] := by
  cases h with
  | mk => exact ⟨_, _, _, _, rfl⟩

set_option maxRecDepth 100000 in
set_option maxHeartbeats 1000000 in
theorem above_visits (w0 : World) : VisitsI (fun _ => True) (fun _ => False) (fun _ _ => True) w0 45 #[] aboV := by
  intro s t v b p w _ _ hv _ hb0 hbp hp
  obtain ⟨la, lc, ka, kc, rfl⟩ := hv.shape
  clear hv
  have HE : Hid (aboV s t b p = .ok ((), if t.form = 1 then max 0 (wrap64 (wrap64 (t.n - b) + 1)) else 0)) := rfl
  generalize aboV s t b p = R at HE ⊢
  generalize t.form = f at *
  generalize t.n = n at *
  generalize t.hid = hd at *
  generalize t.name = nm at *
  generalize t.levels.length = l1 at *
  generalize t.kids.length = k1 at *
  show Calls Try.prog 45 #[.agg #[.int .i64 f, .int .i64 n, .bool hd, .string nm, .slice la l1 lc, .slice ka k1 kc], .agg #[.int .i64 b, .int .i64 p]] w _
  by_cases hf : f = 1
  · rw [if_pos hf] at HE
    have hfb : (f != 1) = false := by simp [hf]
    clear hf
    by_cases hm : 0 < wrap64 (wrap64 (n - b) + 1)
    all_goals
      go_enter Try.func45, Try.ntmps45
      go_wp2
      go_ret2
      rw [HE.out]
      refine ⟨((Kept.refl _ w).alloc _).alloc _, ?_, trivial⟩
      exact congrArg (fun x => Ending.returned (.tuple #[.int .i64 x, .int .i64 0])) (by omega)
  · rw [if_neg hf] at HE
    have hfb : (f != 1) = true := by simp [hf]
    clear hf
    go_enter Try.func45, Try.ntmps45
    go_wp2
    go_ret2
    rw [HE.out]
    exact ⟨((Kept.refl _ w).alloc _).alloc _, rfl, trivial⟩

end Go.Proofs.Ytmmbnimehmfadaa

/- The contracts of term's sameLevel, canonical, uncanonical, arity, fieldsRight. -/
namespace Go.Proofs.Ytmmbnimehmfadaa
open Go.RowKit Go.Sort

set_option maxHeartbeats 2000000 in
theorem Equal_any (xs ys : List (Int × Int)) (aa ab : Option Addr) (ca cb : Nat) (w : World) (hSa : SL w aa xs) (hSb : SL w ab ys) (hxn : xs.length ≤ 4398046511104) (_hyn : ys.length ≤ 4398046511104) :
    Calls Try.prog 74 #[.slice aa xs.length ca, .slice ab ys.length cb] w fun e w' => e = .returned (.bool (exactB 0 xs 0 ys)) ∧ Grew w w' := by
  have HSa := Hid.mk hSa
  have HSb := Hid.mk hSb
  have mx := mixed
  clear hSa hSb
  by_cases hL : xs.length = ys.length
  · have hL' : ((xs.length : Int) != (ys.length : Int)) = false := by simp [hL]
    have HL := Hid.mk hL
    clear hL
    go_enter Try.func74, Try.ntmps74
    go_wp2
    go_loopw [13] (fun i wr => ∃ k : Nat, k ≤ xs.length ∧ i = .int .i64 k ∧ Grew w wr ∧ xs.take k = ys.take k) (fun i _ => xs.length - (intOf i).toNat)
    case atStart => exact ⟨0, Nat.zero_le _, rfl, Grew.refl _, rfl⟩
    case round =>
      obtain ⟨k, hk, rfl, hb, htk⟩ := hrel
      have HT := Hid.mk htk
      clear htk
      by_cases hlt : k < xs.length
      · obtain ⟨b, off, x, y, rfl, hbl, hc0, hc1, hxy⟩ := (HSa.out.below hb.below).at hlt
        obtain ⟨b', off', x', y', rfl, hbl', hc0', hc1', hxy'⟩ := (HSb.out.below hb.below).at (k := k) (by rw [← HL.out]; exact hlt)
        have z1 : (k : Int) < (xs.length : Int) := by omega
        have z2 : (k : Int) < (ys.length : Int) := by have := HL.out; omega
        have hq := fun W => run_neqLVar x y x' y' W
        have hgu := run_guardLVar
        by_cases he : x = x' ∧ y = y'
        · have hb1 : (x == x' && y == y') = true := by simp [he.1, he.2]
          simp only [hb1] at hq
          have HX : Hid (xs[k]? = some (x', y')) := by have := hxy.out; rwa [he.1, he.2] at this
          clear he hb1
          go_wp2_with fail
          go_quiet (fail)
          go_wp2
          refine ⟨⟨k + 1, hlt, by go_num, hb.drewN _, take_eq HX.out hxy'.out HT.out⟩, by simp [intOf]; omega⟩
        · have hb1 : (x == x' && y == y') = false := by rw [Bool.eq_false_iff]; simpa using he
          simp only [hb1] at hq
          have HE : Hid (exactB 0 xs 0 ys = false) := exact_at hxy.out hxy'.out (by simpa using he)
          clear he hb1
          go_wp2_with fail
          go_quiet (fail)
          go_wp2
          go_ret
          exact ⟨by rw [HE.out]; rfl, hb.drewN _⟩
      · have HE : Hid (exactB 0 xs 0 ys = true) := by
          have h1 : xs.take k = xs := List.take_of_length_le (by omega)
          have h2 : ys.take k = ys := List.take_of_length_le (by have := HL.out; omega)
          have h3 := HT.out
          rw [h1, h2] at h3
          unfold Hid; simp [exactB, h3]
        go_wp2
        go_ret
        exact ⟨by rw [HE.out]; rfl, hb⟩
  · have hL' : ((xs.length : Int) != (ys.length : Int)) = true := by simp; omega
    have HE : Hid (exactB 0 xs 0 ys = false) := exact_len hL
    clear hL
    go_enter Try.func74, Try.ntmps74
    go_wp2
    go_ret
    exact ⟨by rw [HE.out]; rfl, Grew.refl _⟩

set_option maxHeartbeats 2000000 in
theorem sameLevel_any (na nb : Int) (xs ys : List (Int × Int)) (aa ab : Option Addr) (ca cb : Nat) (w : World) (hSa : SL w aa xs) (hSb : SL w ab ys) (hxn : xs.length ≤ 4398046511104) (hyn : ys.length ≤ 4398046511104) :
    Calls Try.prog 70 #[.agg #[.int .i64 na, .slice aa xs.length ca], .agg #[.int .i64 nb, .slice ab ys.length cb]] w fun e w' => e = .returned (.bool (exactB na xs nb ys)) ∧ Grew w w' := by
  have HQ := fun (W : World) (h : Grew w W) => Equal_any xs ys aa ab ca cb W (hSa.below h.below) (hSb.below h.below) hxn hyn
  clear hSa hSb
  have HG := fun (o1 o2 : Obj) => ((Grew.refl w).alloc o1).alloc o2
  by_cases hN : na = nb
  · subst hN
    rw [show exactB na xs na ys = exactB 0 xs 0 ys by simp [exactB]]
    generalize exactB 0 xs 0 ys = r at *
    go_enter Try.func70, Try.ntmps70
    go_wp2_with fail
    refine (HQ _ (HG _ _)).mono ?_
    rintro e w1 ⟨rfl, hg⟩
    go_wp2
    go_ret
    exact ⟨rfl, (HG _ _).trans hg⟩
  · have hb : (na == nb) = false := by simpa using hN
    rw [show exactB na xs nb ys = false by simp [exactB, hN]]
    clear hN
    go_enter Try.func70, Try.ntmps70
    go_wp2
    go_ret
    exact ⟨rfl, HG _ _⟩

/-- is a level right and canonical? -/
def canonB (l : LvT) : Bool := (normR l.1 l.2).2.2 == 0 && exactB (normR l.1 l.2).1 (normR l.1 l.2).2.1 l.1 l.2

theorem normR_len (n : Int) (xs : List (Int × Int)) : (normR n xs).2.1.length ≤ xs.length := by
  unfold normR canonR
  split
  · split
    · exact tidyL_le xs
    · simp
  · simp

set_option maxRecDepth 100000 in
set_option maxHeartbeats 2000000 in
theorem tcanonical_any (n : Int) (xs : List (Int × Int)) (a : Option Addr) (cap : Nat) (w : World) (hS : SL w a xs) (hn : xs.length ≤ 4398046511104) :
    Calls Try.prog 64 #[.agg #[.int .i64 n, .slice a xs.length cap]] w fun e w' => e = .returned (.bool (canonB (n, xs))) ∧ RowKit.Below w.heap.size w w' := by
  have HN := fun (W : World) (h : SL W a xs) => Norm_any n xs a cap W h hn
  have HL := normR_len n xs
  have HC : Hid (canonB (n, xs) = ((normR n xs).2.2 == 0 && exactB (normR n xs).1 (normR n xs).2.1 n xs)) := rfl
  generalize canonB (n, xs) = C at HC ⊢
  obtain ⟨m, ys, e, hD⟩ : ∃ m ys e, normR n xs = (m, ys, e) := ⟨_, _, _, rfl⟩
  rw [hD] at HN HC HL
  simp only [] at HC HL
  clear hD
  have HS := Hid.mk hS
  clear hS
  by_cases he : e = 0
  · subst he
    have HC : Hid (C = exactB m ys n xs) := by unfold Hid; rw [HC.out]; rfl
    go_enter Try.func64, Try.ntmps64
    go_wp2_with fail
    refine (HN _ (HS.out.below ((Grew.refl w).alloc _).below)).mono ?_
    rintro e w1 ⟨v, rfl, hO, hb1⟩
    obtain ⟨a', cap', rfl, hS1, -⟩ := hO.shape
    have hz1 : w.heap.size < w1.heap.size := by have := hb1.size; simp at this; omega
    have HB1 : Hid (RowKit.Below w.heap.size w w1) := (((Below.refl w.heap.size w).alloc (Nat.le_refl _) _).trans (hb1.mono (by simp)))
    obtain ⟨x0, x1, -, -, -⟩ := cells2 ((hb1.block w.heap.size (by simp)).trans (alloc_new _ _))
    have HSL := fun (W : World) (g : RowKit.Below w1.heap.size w1 W) => sameLevel_any m n ys xs a' a cap' cap W (hS1.below g) (HS.out.below (HB1.out.trans (g.mono HB1.out.size))) (by omega) hn
    generalize exactB m ys n xs = r at *
    clear hO hS1 hb1
    go_wp2_with fail
    refine (HSL _ ((Below.refl _ _).alloc (Nat.le_refl _) _)).mono ?_
    rintro e w2 ⟨rfl, hg⟩
    go_wp2
    go_ret
    exact ⟨by rw [HC.out]; rfl, HB1.out.trans (((Below.refl _ _).alloc (Nat.le_refl _) _).trans ((hg.below.mono (by simp))) |>.mono HB1.out.size)⟩
  · have heb : (e == 0) = false := by simpa using he
    have HC : Hid (C = false) := by unfold Hid; rw [HC.out, heb]; rfl
    clear he
    go_enter Try.func64, Try.ntmps64
    go_wp2_with fail
    refine (HN _ (HS.out.below ((Grew.refl w).alloc _).below)).mono ?_
    rintro e w1 ⟨v, rfl, hO, hb1⟩
    obtain ⟨a', cap', rfl, -, -⟩ := hO.shape
    have HB1 : Hid (RowKit.Below w.heap.size w w1) := (((Below.refl w.heap.size w).alloc (Nat.le_refl _) _).trans (hb1.mono (by simp)))
    have hz1 : w.heap.size < w1.heap.size := by have := hb1.size; simp at this; omega
    clear hO hb1
    go_wp2
    go_ret
    exact ⟨by rw [HC.out]; rfl, HB1.out.alloc HB1.out.size _⟩

set_option maxHeartbeats 400000 in
theorem uncanonical_any (n : Int) (xs : List (Int × Int)) (a : Option Addr) (cap : Nat) (w : World) (hS : SL w a xs) (hn : xs.length ≤ 4398046511104) :
    Calls Try.prog 66 #[.agg #[.int .i64 n, .slice a xs.length cap]] w fun e w' => e = .returned (.bool (!canonB (n, xs))) ∧ RowKit.Below w.heap.size w w' := by
  have HN := fun (W : World) (h : SL W a xs) => tcanonical_any n xs a cap W h hn
  have HS := Hid.mk hS
  clear hS
  generalize canonB (n, xs) = C at *
  go_enter Try.func66, Try.ntmps66
  go_wp2_with fail
  refine (HN _ (HS.out.below ((Grew.refl w).alloc _).below)).mono ?_
  rintro e w1 ⟨rfl, hb1⟩
  go_wp2
  go_ret
  exact ⟨rfl, ((Below.refl w.heap.size w).alloc (Nat.le_refl _) _).trans (hb1.mono (by simp))⟩
end Go.Proofs.Ytmmbnimehmfadaa
