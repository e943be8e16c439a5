/- The contracts of term's visits that count: limits.count, above, search.count; of plus and greater. -/
import Derived.Test.YtmmbnimehmfadaaWB
namespace Go.Proofs.Ytmmbnimehmfadaa
open Go.RowKit Go.Sort

theorem cf_count (xs : Array Value) (w : World) : Sem.run Try.prog (callFunc 54 xs) w = .ok (.enter 54 xs) w := by simp [callFunc, go_sem, Try.func54]; rfl
theorem cf_above (xs : Array Value) (w : World) : Sem.run Try.prog (callFunc 45 xs) w = .ok (.enter 45 xs) w := by simp [callFunc, go_sem, Try.func45]; rfl
theorem cf_judged (xs : Array Value) (w : World) : Sem.run Try.prog (callFunc 47 xs) w = .ok (.enter 47 xs) w := by simp [callFunc, go_sem, Try.func47]; rfl
theorem cf_plus (xs : Array Value) (w : World) : Sem.run Try.prog (callFunc 48 xs) w = .ok (.enter 48 xs) w := by simp [callFunc, go_sem, Try.func48]; rfl
theorem cf_greater (xs : Array Value) (w : World) : Sem.run Try.prog (callFunc 46 xs) w = .ok (.enter 46 xs) w := by simp [callFunc, go_sem, Try.func46]; rfl

/-- the sum, as Go's int has it -/
def wplus (a b : Int) : Int := wrap64 (a + b)

theorem plus_any : JoinsI 48 wplus := by
  intro a b w
  go_enter Try.func48, Try.ntmps48
  go_wp2
  go_ret
  exact ⟨rfl, rfl⟩

theorem greater_any : JoinsI 46 max := by
  intro a b w
  by_cases h : a < b
  · go_enter Try.func46, Try.ntmps46
    go_wp2
    go_ret
    exact ⟨ret_int (by omega), rfl⟩
  · go_enter Try.func46, Try.ntmps46
    go_wp2
    go_ret
    exact ⟨ret_int (by omega), rfl⟩

/-- counting parts, as long as there may be more of them (s), and no more than H within one another -/
def cntV (H : Int) (s : Int) (_ : Tm) (_ p : Int) : Except Int (Int × Int) := if s ≤ 0 ∨ H ≤ p then .error 2 else .ok (s - 1, 1)

/-- limits lies in block X: s parts may still come -/
def cntI (H : Int) (X : Nat) (s : Int) (w : World) : Prop := w.heap[X]? = some (.cells #[.int .i64 s, .int .i64 H] 108 (0, 0)) ∧ 0 ≤ s ∧ s ≤ 16777216

theorem heap_set20 {w : World} {b : Nat} {u u2 x : Value} {t : TypeId} (h : w.heap[b]? = some (.cells #[u, u2] t (0, 0))) : (w.setCell ⟨b, 0, none⟩ x).heap[b]? = some (.cells #[x, u2] t (0, 0)) := by
  rw [setCell_eq]; show (w.heap.modify b _)[b]? = _
  rw [Array.getElem?_modify, if_pos rfl, h]; rfl

theorem cntI_grow (H : Int) (X : Nat) (s : Int) (w w' : World) (h : cntI H X s w) (hb : RowKit.Below w.heap.size w w') : cntI H X s w' := ⟨(hb.block X (Array.getElem?_eq_some_iff.1 h.1).1).trans h.1, h.2⟩

theorem Kept.drewN {P : Nat → Prop} {a w : World} (h : Kept P a w) (n : Nat) : Kept P a (w.drewN n) := h.trans (Kept.of_grew ((Grew.refl w).drewN n))

set_option maxRecDepth 100000 in
set_option maxHeartbeats 1000000 in
theorem count_visits (H : Int) (X : Nat) (w0 : World) : VisitsI (fun _ => True) (· = X) (cntI H X) w0 54 #[.pointer (some ⟨X, 0, none⟩)] (cntV H) := by
  intro s t v b p w _ hI hv _ hb0 hbp hp
  obtain ⟨hX, hs0, hs1⟩ := hI
  obtain ⟨x0, x1, x2, x3, x4⟩ := cells2 hX
  have HX := Hid.mk hX
  clear hX
  have hvv : ∃ f n hd nm la l1 lc ka k1 kc, v = .agg #[.int .i64 f, .int .i64 n, .bool hd, .string nm, .slice la l1 lc, .slice ka k1 kc] := by
    cases hv with
    | mk => exact ⟨_, _, _, _, _, _, _, _, _, _, rfl⟩
  clear hv
  obtain ⟨f, n, hd, nm, la, l1, lc, ka, k1, kc, rfl⟩ := hvv
  show Calls Try.prog 54 #[.pointer (some ⟨X, 0, none⟩), .agg #[.int .i64 f, .int .i64 n, .bool hd, .string nm, .slice la l1 lc, .slice ka k1 kc], .agg #[.int .i64 b, .int .i64 p]] w _
  obtain ⟨W1, hW1⟩ : ∃ W1, ((w.setCell ⟨X, 0, none⟩ (.int .i64 (s - 1))).alloc (.cells #[.int .i64 f, .int .i64 n, .bool hd, .string nm, .slice la l1 lc, .slice ka k1 kc] 26)).alloc (.cells #[.int .i64 b, .int .i64 p] 95) = W1 := ⟨_, rfl⟩
  have hXl : X < w.heap.size := x4
  have hsz0 : (w.setCell ⟨X, 0, none⟩ (.int .i64 (s - 1))).heap.size = w.heap.size := by simp [World.setCell]
  have HX1 : Hid (W1.heap[X]? = some (.cells #[.int .i64 (s - 1), .int .i64 H] 108 (0, 0))) := by unfold Hid; rw [← hW1]; exact alloc_old (alloc_old (heap_set20 HX.out) _) _
  have HP1 : Hid (W1.heap[w.heap.size + 1]? = some (.cells #[.int .i64 b, .int .i64 p] 95 (0, 0))) := by unfold Hid; rw [← hW1, ← hsz0]; exact box_at1
  have HK1 : Hid (Kept (· = X) w W1) := by unfold Hid; rw [← hW1]; exact (((Kept.refl (· = X) w).setCell (p := ⟨X, 0, none⟩) rfl _).alloc _).alloc _
  have HW1 := Hid.mk hW1
  clear hW1 hsz0
  obtain ⟨u, hu⟩ : ∃ u, s - 1 = u := ⟨_, rfl⟩
  rw [hu] at HX1
  have HU := Hid.mk hu
  rcases (show s ≤ 0 ∨ (0 < s ∧ H ≤ p) ∨ (0 < s ∧ p < H) by omega) with h | ⟨h, h2⟩ | ⟨h, h2⟩
  · have HE : Hid (cntV H s t b p = .error 2) := by unfold Hid cntV; rw [if_pos (by omega)]
    generalize cntV H s t b p = R at HE ⊢
    have hz : u < 0 := by omega
    clear hu
    go_enter Try.func54, Try.ntmps54
    go_wp2
    rw [HW1.out]
    clear x0 x1 x2 x3 x4
    obtain ⟨x0, x1, x2, x3, x4⟩ := cells2 HX1.out
    obtain ⟨y0, y1, y2, y3, y4⟩ := cells2 HP1.out
    go_quiet (fail)
    go_wp2
    go_ret2
    rw [HE.out]
    exact ⟨HK1.out.drewN _, by decide, _, rfl⟩
  · have HE : Hid (cntV H s t b p = .error 2) := by unfold Hid cntV; rw [if_pos (by omega)]
    generalize cntV H s t b p = R at HE ⊢
    have hz : ¬ u < 0 := by omega
    clear hu
    go_enter Try.func54, Try.ntmps54
    go_wp2
    rw [HW1.out]
    clear x0 x1 x2 x3 x4
    obtain ⟨x0, x1, x2, x3, x4⟩ := cells2 HX1.out
    obtain ⟨y0, y1, y2, y3, y4⟩ := cells2 HP1.out
    go_quiet (fail)
    go_wp2
    go_ret2
    rw [HE.out]
    exact ⟨HK1.out.drewN _, by decide, _, rfl⟩
  · have HE : Hid (cntV H s t b p = .ok (s - 1, 1)) := by unfold Hid cntV; rw [if_neg (by omega)]
    generalize cntV H s t b p = R at HE ⊢
    have hz : ¬ u < 0 := by omega
    clear hu
    go_enter Try.func54, Try.ntmps54
    go_wp2
    rw [HW1.out]
    clear x0 x1 x2 x3 x4
    obtain ⟨x0, x1, x2, x3, x4⟩ := cells2 HX1.out
    obtain ⟨y0, y1, y2, y3, y4⟩ := cells2 HP1.out
    go_quiet (fail)
    go_wp2
    go_ret2
    rw [HE.out]
    exact ⟨HK1.out.drewN _, rfl, by rw [HU.out]; exact HX1.out, by omega, by omega⟩

/-- the least number above a part's free index -/
def aboV (_ : Unit) (t : Tm) (b _ : Int) : Except Int (Unit × Int) := .ok ((), if t.form = 1 then max 0 (wrap64 (wrap64 (t.n - b) + 1)) else 0)

theorem TV.shape {w : World} {v : Value} {t : Tm} (h : TV w v t) : ∃ la lc ka kc, v = .agg #[.int .i64 t.form, .int .i64 t.n, .bool t.hid, .string t.name, .slice la t.levels.length lc, .slice ka t.kids.length kc] := by
  cases h with
  | mk => exact ⟨_, _, _, _, rfl⟩

set_option maxRecDepth 100000 in
set_option maxHeartbeats 1000000 in
theorem above_visits (w0 : World) : VisitsI (fun _ => True) (fun _ => False) (fun _ _ => True) w0 45 #[] aboV := by
  intro s t v b p w _ _ hv _ hb0 hbp hp
  obtain ⟨la, lc, ka, kc, rfl⟩ := hv.shape
  clear hv
  have HE : Hid (aboV s t b p = .ok ((), if t.form = 1 then max 0 (wrap64 (wrap64 (t.n - b) + 1)) else 0)) := rfl
  generalize aboV s t b p = R at HE ⊢
  generalize t.form = f at *
  generalize t.n = n at *
  generalize t.hid = hd at *
  generalize t.name = nm at *
  generalize t.levels.length = l1 at *
  generalize t.kids.length = k1 at *
  show Calls Try.prog 45 #[.agg #[.int .i64 f, .int .i64 n, .bool hd, .string nm, .slice la l1 lc, .slice ka k1 kc], .agg #[.int .i64 b, .int .i64 p]] w _
  by_cases hf : f = 1
  · rw [if_pos hf] at HE
    have hfb : (f != 1) = false := by simp [hf]
    clear hf
    by_cases hm : 0 < wrap64 (wrap64 (n - b) + 1)
    all_goals
      go_enter Try.func45, Try.ntmps45
      go_wp2
      go_ret2
      rw [HE.out]
      refine ⟨((Kept.refl _ w).alloc _).alloc _, ?_, trivial⟩
      exact congrArg (fun x => Ending.returned (.tuple #[.int .i64 x, .int .i64 0])) (by omega)
  · rw [if_neg hf] at HE
    have hfb : (f != 1) = true := by simp [hf]
    clear hf
    go_enter Try.func45, Try.ntmps45
    go_wp2
    go_ret2
    rw [HE.out]
    exact ⟨((Kept.refl _ w).alloc _).alloc _, rfl, trivial⟩

end Go.Proofs.Ytmmbnimehmfadaa
