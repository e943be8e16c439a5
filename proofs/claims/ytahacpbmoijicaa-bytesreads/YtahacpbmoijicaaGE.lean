/- The contract of telamonlaw2.Wipe at a term of which only this is known: it may be written over. -/
import Derived.Test.YtahacpbmoijicaaEM
import Derived.Test.YtahacpbmoijicaaFW
namespace Go.Proofs.Ytahacpbmoijicaa
open Go.RowKit Go.Sort

/-- a leaf is written over one term of a row: whatever could be written over, still can -/
theorem WK.leafed {P : Nat → Bool} {w w' : World} {g j : Nat} {cur cur' : Array Value} (hh : w.heap[g]? = some (.cells cur 25 (0, 0))) (ho : ∀ k, k ≠ g → w'.heap[k]? = w.heap[k]?) (hg : w'.heap[g]? = some (.cells cur' 25 (0, 0))) (hs : cur'.size = cur.size)
    (hc : ∀ p v, CellsAt w g p v → p + 6 ≤ j * 6 ∨ j * 6 + 6 ≤ p → CellsAt w' g p v) (hl : CellsAt w' g (j * 6) (.agg #[.int .i64 (-1), .int .i64 0, .bool false, .string { data := #[] }, .slice none 0 0, .slice none 0 0])) : ∀ (d : Nat) (v : Value), WK P d w v → WK P d w' v
  | 0, _, h => h.elim
  | d + 1, _, h => by
    obtain ⟨v0, v1, v2, v3, la, ln, lc, ka, kn, kc, hv, hlv, hlm, hkm, h⟩ := h
    refine ⟨v0, v1, v2, v3, la, ln, lc, ka, kn, kc, hv, ?_, hlm, hkm, ?_⟩
    · rcases hlv with h | ⟨g2, cur2, h1, h2, h3, h4⟩
      · exact Or.inl h
      · have hne : g2 ≠ g := fun e => by
          subst e
          rw [hh] at h3
          simp only [Option.some.injEq, Obj.cells.injEq] at h3
          exact absurd h3.2.1 (by decide)
        exact Or.inr ⟨g2, cur2, h1, h2, (ho g2 hne).trans h3, h4⟩
    · rcases h with h | ⟨g2, cur2, h1, h2, h3, h4, h5⟩
      · exact Or.inl h
      · by_cases hne : g2 = g
        · subst hne
          rw [hh] at h3
          simp only [Option.some.injEq, Obj.cells.injEq] at h3
          obtain ⟨rfl, -⟩ := h3
          refine Or.inr ⟨g2, cur', h1, h2, hg, by omega, fun i hi => ?_⟩
          obtain ⟨kv, c, e⟩ := h5 i hi
          by_cases hij : i = j
          · subst hij
            refine ⟨_, hl, ?_⟩
            cases d with
            | zero => exact e.elim
            | succ d => exact WK.leaf d _ _ _ _
          · exact ⟨kv, hc _ _ c (by omega), WK.leafed hh ho hg hs hc hl d kv e⟩
        · refine Or.inr ⟨g2, cur2, h1, h2, (ho g2 hne).trans h3, h4, fun i hi => ?_⟩
          obtain ⟨kv, c, e⟩ := h5 i hi
          exact ⟨kv, c.same (ho g2 hne), WK.leafed hh ho hg hs hc hl d kv e⟩

/-- a level is written over -/
theorem WK.leveled {P : Nat → Bool} {w w' : World} {g : Nat} {cur cur' : Array Value} (hh : w.heap[g]? = some (.cells cur 66 (0, 0))) (ho : ∀ k, k ≠ g → w'.heap[k]? = w.heap[k]?) (hg : w'.heap[g]? = some (.cells cur' 66 (0, 0))) (hs : cur'.size = cur.size) : ∀ (d : Nat) (v : Value), WK P d w v → WK P d w' v
  | 0, _, h => h.elim
  | d + 1, _, h => by
    obtain ⟨v0, v1, v2, v3, la, ln, lc, ka, kn, kc, hv, hlv, hlm, hkm, h⟩ := h
    refine ⟨v0, v1, v2, v3, la, ln, lc, ka, kn, kc, hv, ?_, hlm, hkm, ?_⟩
    · rcases hlv with h | ⟨g2, cur2, h1, h2, h3, h4⟩
      · exact Or.inl h
      · by_cases hne : g2 = g
        · subst hne
          rw [hh] at h3
          simp only [Option.some.injEq, Obj.cells.injEq] at h3
          obtain ⟨rfl, -⟩ := h3
          exact Or.inr ⟨g2, cur', h1, h2, hg, by omega⟩
        · exact Or.inr ⟨g2, cur2, h1, h2, (ho g2 hne).trans h3, h4⟩
    · rcases h with h | ⟨g2, cur2, h1, h2, h3, h4, h5⟩
      · exact Or.inl h
      · have hne : g2 ≠ g := fun e => by
          subst e
          rw [hh] at h3
          simp only [Option.some.injEq, Obj.cells.injEq] at h3
          exact absurd h3.2.1 (by decide)
        refine Or.inr ⟨g2, cur2, h1, h2, (ho g2 hne).trans h3, h4, fun i hi => ?_⟩
        obtain ⟨kv, c, e⟩ := h5 i hi
        exact ⟨kv, c.same (ho g2 hne), WK.leveled hh ho hg hs d kv e⟩

/-- of the old blocks only such have turned as P leaves free, and whatever could be written over, still can -/
def Wip (P : Nat → Bool) (w w' : World) : Prop := Kept (fun k => P k = false) w w' ∧ ∀ d v, WK P d w v → WK P d w' v

theorem Wip.refl (P : Nat → Bool) (w : World) : Wip P w w := ⟨Kept.refl _ _, fun _ _ h => h⟩

theorem Wip.trans {P : Nat → Bool} {a b c : World} (h : Wip P a b) (k : Wip P b c) : Wip P a c := ⟨h.1.trans k.1, fun d v x => k.2 d v (h.2 d v x)⟩

theorem Wip.alloc {P : Nat → Bool} {a w : World} (h : Wip P a w) (o : Obj) : Wip P a (w.alloc o) := h.trans ⟨(Kept.refl _ w).alloc o, WK.move fun _ hk hp => ⟨hp, Below.heap_alloc _ _ _ hk⟩⟩

theorem set6_all {w : World} {g o : Nat} {cur : Array Value} {t : TypeId} (h : w.heap[g]? = some (.cells cur t (0, 0))) (u0 u1 u2 u3 u4 u5 : Value) : ∃ cur', ((((((w.setCell ⟨g, o, none⟩ u0).setCell ⟨g, o + 1, none⟩ u1).setCell ⟨g, o + 2, none⟩ u2).setCell ⟨g, o + 3, none⟩ u3).setCell ⟨g, o + 4, none⟩ u4).setCell ⟨g, o + 5, none⟩ u5).heap[g]? = some (.cells cur' t (0, 0)) ∧ cur'.size = cur.size := by
  obtain ⟨c1, e1, s1⟩ := row_set (o := o) h u0
  obtain ⟨c2, e2, s2⟩ := row_set (o := o + 1) e1 u1
  obtain ⟨c3, e3, s3⟩ := row_set (o := o + 2) e2 u2
  obtain ⟨c4, e4, s4⟩ := row_set (o := o + 3) e3 u3
  obtain ⟨c5, e5, s5⟩ := row_set (o := o + 4) e4 u4
  obtain ⟨c6, e6, s6⟩ := row_set (o := o + 5) e5 u5
  exact ⟨c6, e6, by omega⟩

theorem set6_at {w : World} {g o : Nat} {cur : Array Value} {t : TypeId} (h : w.heap[g]? = some (.cells cur t (0, 0))) (hb : o + 5 < cur.size) (v0 v1 : Int) (v2 : Bool) (v3 : ByteArray) (l1 : Option Addr) (l2 l3 : Nat) (k1 : Option Addr) (k2 k3 : Nat) : CellsAt ((((((w.setCell ⟨g, o, none⟩ (.int .i64 v0)).setCell ⟨g, o + 1, none⟩ (.int .i64 v1)).setCell ⟨g, o + 2, none⟩ (.bool v2)).setCell ⟨g, o + 3, none⟩ (.string v3)).setCell ⟨g, o + 4, none⟩ (.slice l1 l2 l3)).setCell ⟨g, o + 5, none⟩ (.slice k1 k2 k3)) g o (.agg #[.int .i64 v0, .int .i64 v1, .bool v2, .string v3, .slice l1 l2 l3, .slice k1 k2 k3]) := by
  have st : ∀ (w : World) (cur : Array Value) (p : Nat) (u : Value), w.heap[g]? = some (.cells cur t (0, 0)) → p < cur.size → (w.setCell ⟨g, p, none⟩ u).cell? ⟨g, p, none⟩ = some u := by
    intro w cur p u hh hp
    obtain ⟨c', e, hs⟩ : ∃ c', (w.setCell ⟨g, p, none⟩ u).heap[g]? = some (.cells c' t (0, 0)) ∧ c' = cur.setIfInBounds p u := by
      refine ⟨_, ?_, rfl⟩
      rw [setCell_eq]; show (w.heap.modify g _)[g]? = _
      rw [Array.getElem?_modify, if_pos rfl, hh]; rfl
    rw [cell_of_row _ g p _ _ _ e, hs]
    simp [hp]
  have ot : ∀ (w : World) (p q : Nat) (u : Value), p ≠ q → (w.setCell ⟨g, q, none⟩ u).cell? ⟨g, p, none⟩ = w.cell? ⟨g, p, none⟩ := fun w p q u hq => World.cell?_setCell_other _ _ _ _ fun e => hq (congrArg Addr.off e).symm
  obtain ⟨c1, e1, s1⟩ := row_set (o := o) h (.int .i64 v0)
  obtain ⟨c2, e2, s2⟩ := row_set (o := o + 1) e1 (.int .i64 v1)
  obtain ⟨c3, e3, s3⟩ := row_set (o := o + 2) e2 (.bool v2)
  obtain ⟨c4, e4, s4⟩ := row_set (o := o + 3) e3 (.string v3)
  obtain ⟨c5, e5, s5⟩ := row_set (o := o + 4) e4 (.slice l1 l2 l3)
  refine ⟨v0, v1, v2, v3, l1, l2, l3, k1, k2, k3, rfl, ?_, ?_, ?_, ?_, ?_, ?_⟩
  · rw [ot _ _ _ _ (by omega), ot _ _ _ _ (by omega), ot _ _ _ _ (by omega), ot _ _ _ _ (by omega), ot _ _ _ _ (by omega)]; exact st _ _ _ _ h (by omega)
  · rw [ot _ _ _ _ (by omega), ot _ _ _ _ (by omega), ot _ _ _ _ (by omega), ot _ _ _ _ (by omega)]; exact st _ _ _ _ e1 (by omega)
  · rw [ot _ _ _ _ (by omega), ot _ _ _ _ (by omega), ot _ _ _ _ (by omega)]; exact st _ _ _ _ e2 (by omega)
  · rw [ot _ _ _ _ (by omega), ot _ _ _ _ (by omega)]; exact st _ _ _ _ e3 (by omega)
  · rw [ot _ _ _ _ (by omega)]; exact st _ _ _ _ e4 (by omega)
  · exact st _ _ _ _ e5 (by omega)

theorem Wip.term {P : Nat → Bool} {w : World} {g j : Nat} {cur : Array Value} (hh : w.heap[g]? = some (.cells cur 25 (0, 0))) (hP : P g = false) (hj : j * 6 + 5 < cur.size) : Wip P w ((((((w.setCell ⟨g, j * 6, none⟩ (.int .i64 (-1))).setCell ⟨g, j * 6 + 1, none⟩ (.int .i64 0)).setCell ⟨g, j * 6 + 2, none⟩ (.bool false)).setCell ⟨g, j * 6 + 3, none⟩ (.string { data := #[] })).setCell ⟨g, j * 6 + 4, none⟩ (.slice none 0 0)).setCell ⟨g, j * 6 + 5, none⟩ (.slice none 0 0)) := by
  have hk : Kept (fun k => k = g) w ((((((w.setCell ⟨g, j * 6, none⟩ (.int .i64 (-1))).setCell ⟨g, j * 6 + 1, none⟩ (.int .i64 0)).setCell ⟨g, j * 6 + 2, none⟩ (.bool false)).setCell ⟨g, j * 6 + 3, none⟩ (.string { data := #[] })).setCell ⟨g, j * 6 + 4, none⟩ (.slice none 0 0)).setCell ⟨g, j * 6 + 5, none⟩ (.slice none 0 0)) := ((((((Kept.refl (fun k => k = g) w).setCell (p := ⟨g, j * 6, none⟩) rfl _).setCell (p := ⟨g, j * 6 + 1, none⟩) rfl _).setCell (p := ⟨g, j * 6 + 2, none⟩) rfl _).setCell (p := ⟨g, j * 6 + 3, none⟩) rfl _).setCell (p := ⟨g, j * 6 + 4, none⟩) rfl _).setCell (p := ⟨g, j * 6 + 5, none⟩) rfl _
  have hsz : ∀ (w : World) (p : Addr) (u : Value), (w.setCell p u).heap.size = w.heap.size := fun w p u => by simp [World.setCell]
  obtain ⟨c', e', s'⟩ := set6_all (o := j * 6) hh (.int .i64 (-1)) (.int .i64 0) (.bool false) (.string { data := #[] }) (.slice none 0 0) (.slice none 0 0)
  refine ⟨⟨hk.os, hk.tape, hk.output, hk.size, fun k h1 h2 => hk.block k h1 fun e => h2 (e ▸ hP)⟩, WK.leafed hh (fun k hne => ?_) e' s' (fun p v h hp => h.set6 hp _ _ _ _ _ _) (set6_at hh hj _ _ _ _ _ _ _ _ _ _)⟩
  by_cases hlt : k < w.heap.size
  · exact hk.block k hlt hne
  · rw [Array.getElem?_eq_none (by rw [hsz, hsz, hsz, hsz, hsz, hsz]; omega), Array.getElem?_eq_none (by omega)]

theorem Wip.level {P : Nat → Bool} {w : World} {g o : Nat} {cur : Array Value} (hh : w.heap[g]? = some (.cells cur 66 (0, 0))) (hP : P g = false) (u0 u1 : Value) : Wip P w ((w.setCell ⟨g, o, none⟩ u0).setCell ⟨g, o + 1, none⟩ u1) := by
  have hk : Kept (fun k => k = g) w ((w.setCell ⟨g, o, none⟩ u0).setCell ⟨g, o + 1, none⟩ u1) := ((Kept.refl (fun k => k = g) w).setCell (p := ⟨g, o, none⟩) rfl _).setCell (p := ⟨g, o + 1, none⟩) rfl _
  have hsz : ∀ (w : World) (p : Addr) (u : Value), (w.setCell p u).heap.size = w.heap.size := fun w p u => by simp [World.setCell]
  obtain ⟨c1, e1, s1⟩ := row_set (o := o) hh u0
  obtain ⟨c2, e2, s2⟩ := row_set (o := o + 1) e1 u1
  refine ⟨⟨hk.os, hk.tape, hk.output, hk.size, fun k h1 h2 => hk.block k h1 fun e => h2 (e ▸ hP)⟩, WK.leveled hh (fun k hne => ?_) e2 (by omega)⟩
  by_cases hlt : k < w.heap.size
  · exact hk.block k hlt hne
  · rw [Array.getElem?_eq_none (by rw [hsz, hsz]; omega), Array.getElem?_eq_none (by omega)]

set_option maxRecDepth 100000 in
set_option maxHeartbeats 4000000 in
theorem WipeK_any (P : Nat → Bool) (E : Nat) (hE : ∀ k, E ≤ k → P k = true) : ∀ (d : Nat) (v : Value) (w : World), E ≤ w.heap.size → WK P d w v → Calls Try.prog 15 #[v] w fun e w' => e = .returned (.tuple #[]) ∧ Wip P w w' := by
  intro d
  induction d with
  | zero => intro v w _ h; exact h.elim
  | succ d ih =>
    intro v w hEw hW
    have HWK := Hid.mk hW
    obtain ⟨f, n, hd, nm, la, ln, lc, ka, kn, kc, rfl, -, hlm, hkm, -⟩ := hW
    have HIH := Hid.mk ih
    clear ih
    obtain ⟨W0, hW0⟩ : ∃ W0, w.alloc (.cells #[.int .i64 f, .int .i64 n, .bool hd, .string nm, .slice la ln lc, .slice ka kn kc] 25) = W0 := ⟨_, rfl⟩
    have HW0W : Hid (Wip P w W0) := by unfold Hid; rw [← hW0]; exact (Wip.refl P w).alloc _
    have HX0 : Hid (W0.heap[w.heap.size]? = some (.cells #[.int .i64 f, .int .i64 n, .bool hd, .string nm, .slice la ln lc, .slice ka kn kc] 25 (0, 0))) := by unfold Hid; rw [← hW0]; exact alloc_new _ _
    have hPb : ¬ (P w.heap.size = false) := by rw [hE _ hEw]; simp
    have HW0 := Hid.mk hW0
    clear hW0
    go_enter Try.func15, Try.ntmps15
    go_wp2
    rw [HW0.out]
    go_loopw [2] (fun i wr => ∃ j : Nat, j ≤ kn ∧ i = .int .i64 j ∧ Wip P W0 wr) (fun i _ => kn - (intOf i).toNat)
    case atStart => exact ⟨0, Nat.zero_le _, rfl, Wip.refl _ _⟩
    case round =>
      obtain ⟨j, hj, rfl, hwr⟩ := hrel
      have HWR := Hid.mk hwr
      have hszr := hwr.1.size
      have hsz0 := HW0W.out.1.size
      clear hwr
      have HXR := Hid.mk ((HWR.out.1.block w.heap.size (heap_lt HX0.out) hPb).trans HX0.out)
      obtain ⟨x0, x1, x2, x3, x4, x5, x7⟩ := cells6 HXR.out
      by_cases hlt : j < kn
      · obtain ⟨_, _, _, _, _, _, _, _, _, _, e, -, -, -, hkid⟩ := (HWR.out.2 _ _ (HW0W.out.2 _ _ HWK.out) : WK P (d + 1) wr _)
        simp only [Value.agg.injEq, Array.mk.injEq, List.cons.injEq, Value.slice.injEq, and_true] at e
        obtain ⟨-, -, -, -, -, rfl, rfl, rfl⟩ := e
        obtain ⟨g, cur, rfl, hgP, hh, hcs, hcell⟩ := hkid.resolve_left (by omega)
        obtain ⟨kv, hca, hwk⟩ := hcell j hlt
        have HKID := Hid.mk hwk
        obtain ⟨v0, v1, v2, v3, p1, p2, p3, q1, q2, q3, hkv, c0, c1, c2, c3, c4, c5⟩ := hca
        have HCALL := HIH.out kv wr (by omega) hwk
        rw [hkv] at HCALL
        have zj : (j : Int) < (kn : Int) := by omega
        have hgr : g < wr.heap.size := heap_lt hh
        have fzr : ∀ o, wr.frozen? ⟨g, o, none⟩ = false := frz hh
        clear hkv hcell hwk hh
        go_wp2_with fail
        refine HCALL.mono ?_
        rintro e w5 ⟨rfl, hk5⟩
        have HK5 := Hid.mk hk5
        have hs5 := hk5.1.size
        have HX5 := Hid.mk ((hk5.1.block w.heap.size (heap_lt HXR.out) hPb).trans HXR.out)
        obtain ⟨_, _, _, _, _, _, _, _, _, _, e, -, -, -, hkid⟩ := (hk5.2 _ _ (HWR.out.2 _ _ (HW0W.out.2 _ _ HWK.out)) : WK P (d + 1) w5 _)
        simp only [Value.agg.injEq, Array.mk.injEq, List.cons.injEq, Value.slice.injEq, and_true] at e
        obtain ⟨-, -, -, -, -, e1, rfl, -⟩ := e
        obtain ⟨g', cur5, e2, -, hh5, hcs5, hcell⟩ := hkid.resolve_left (by omega)
        rw [← e1] at e2
        simp only [Option.some.injEq, Addr.mk.injEq, and_true] at e2
        obtain rfl := e2
        obtain ⟨kv5, ⟨a0, a1, a2, a3, b1, b2, b3, f1, f2, f3, -, d0, d1, d2, d3, d4, d5⟩, -⟩ := hcell j hlt
        have HH5 := Hid.mk hh5
        have fz5 : ∀ o, w5.frozen? ⟨g, o, none⟩ = false := frz hh5
        have hgr5 : g < w5.heap.size := by omega
        clear hk5 HCALL c0 c1 c2 c3 c4 c5 x0 x1 x2 x3 x4 x5 x7 fzr hcell hh5 e1 HKID
        obtain ⟨x0, x1, x2, x3, x4, x5, x7⟩ := cells6 HX5.out
        go_wp2
        exact ⟨⟨j + 1, hlt, by go_num, (HWR.out.trans HK5.out).trans (Wip.term HH5.out hgP (by omega))⟩, by simp [intOf]; omega⟩
      · go_wp2
        clear x0 x1 x2 x3 x4 x5 x7
        obtain ⟨W1, hW1⟩ : ∃ W1, W1 = wr := ⟨_, rfl⟩
        rw [← hW1] at HWR HXR ⊢
        have HX1 := HXR
        have HW1 := HWR
        clear hW1 HXR HWR
        go_loopw [3] (fun i wr => ∃ j : Nat, j ≤ ln ∧ i = .int .i64 j ∧ Wip P W1 wr) (fun i _ => ln - (intOf i).toNat)
        case atStart => exact ⟨0, Nat.zero_le _, rfl, Wip.refl _ _⟩
        case round =>
          obtain ⟨j, hj, rfl, hwr⟩ := hrel
          have HWR := Hid.mk hwr
          clear hwr
          obtain ⟨x0, x1, x2, x3, x4, x5, x7⟩ := cells6 ((HWR.out.1.block w.heap.size (heap_lt HX1.out) hPb).trans HX1.out)
          by_cases hlt : j < ln
          · obtain ⟨_, _, _, _, _, _, _, _, _, _, e, hlv, -, -, -⟩ := (HWR.out.2 _ _ (HW1.out.2 _ _ (HW0W.out.2 _ _ HWK.out)) : WK P (d + 1) wr _)
            simp only [Value.agg.injEq, Array.mk.injEq, List.cons.injEq, Value.slice.injEq, and_true] at e
            obtain ⟨-, -, -, -, ⟨rfl, rfl, rfl⟩, -⟩ := e
            obtain ⟨g2, cur, rfl, hgP, hh, hcs⟩ := hlv.resolve_left (by omega)
            have zj : (j : Int) < (ln : Int) := by omega
            obtain ⟨p0, c0⟩ : ∃ u, wr.cell? ⟨g2, j * 2, none⟩ = some u := by
              refine ⟨cur[j * 2]'(by omega), ?_⟩
              rw [cell_of_row _ g2 (j * 2) _ _ _ hh]; simp
            obtain ⟨p1, c1⟩ : ∃ u, wr.cell? ⟨g2, j * 2 + 1, none⟩ = some u := by
              refine ⟨cur[j * 2 + 1]'(by omega), ?_⟩
              rw [cell_of_row _ g2 (j * 2 + 1) _ _ _ hh]; simp
            have hfz := frz hh
            have HH := Hid.mk hh
            have hgs := heap_lt hh
            clear hh
            go_wp2
            exact ⟨⟨j + 1, hlt, by go_num, HWR.out.trans (Wip.level HH.out hgP _ _)⟩, by simp [intOf]; omega⟩
          · go_wp2
            refine bodyPost_end (v := .tuple #[]) (by simp [results, Try.results15, go_sem]) rfl ?_
            exact ⟨rfl, (HW0W.out.trans HW1.out).trans HWR.out⟩
end Go.Proofs.Ytahacpbmoijicaa
