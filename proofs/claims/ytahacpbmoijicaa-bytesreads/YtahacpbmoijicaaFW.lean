/- The contract of telamonlaw2.Wipe: of a term in memory of its own it writes that memory alone. -/
import Derived.Test.YtahacpbmoijicaaCE
import Derived.Test.YtahacpbmoijicaaOG
namespace Go.Proofs.Ytahacpbmoijicaa
open Go.RowKit Go.Sort

/-- the slice value v has room for n levels in a block from B on and ahead of E, or n is 0 -/
def LvRow (w : World) (B E : Nat) (v : Value) (n : Nat) : Prop :=
  (n = 0 ∧ v = .slice none 0 0) ∨ ∃ g cap cur, v = .slice (some ⟨g, 0, none⟩) n cap ∧ B ≤ g ∧ g < E ∧ w.heap[g]? = some (.cells cur 66 (0, 0)) ∧ n ≤ cap ∧ cur.size = cap * 2

theorem LvRow.at {w : World} {B E : Nat} {v : Value} {n : Nat} (h : LvRow w B E v n) (hn : 0 < n) : ∃ g cap cur, v = .slice (some ⟨g, 0, none⟩) n cap ∧ B ≤ g ∧ g < E ∧ w.heap[g]? = some (.cells cur 66 (0, 0)) ∧ n ≤ cap ∧ cur.size = cap * 2 := by
  rcases h with ⟨h, -⟩ | h
  · omega
  · exact h

theorem LO.lvRow {w : World} {B E m : Nat} {v : Value} {ls : List LvT} (h : LO w B m v ls) (hm : m ≤ E) : LvRow w B E v ls.length := by
  rcases h with ⟨h, hv⟩ | ⟨g, cap, cur, hv, h1, h2, hh, hc, -, hs, -⟩
  · exact Or.inl ⟨by rw [h]; rfl, hv⟩
  · exact Or.inr ⟨g, cap, cur, hv, h1, by omega, hh, hc, hs⟩

theorem LvRow.on {w w' : World} {B E : Nat} {v : Value} {n : Nat} (h : LvRow w B E v n) (hk : ∀ g a c, v = .slice (some ⟨g, 0, none⟩) a c → w'.heap[g]? = w.heap[g]?) : LvRow w' B E v n := by
  rcases h with h | ⟨g, cap, cur, hv, h1, h2, hh, hc, hs⟩
  · exact Or.inl h
  · exact Or.inr ⟨g, cap, cur, hv, h1, h2, (hk g _ _ hv).trans hh, hc, hs⟩

theorem row_set {w : World} {g o : Nat} {cur : Array Value} {t : TypeId} (h : w.heap[g]? = some (.cells cur t (0, 0))) (u : Value) : ∃ cur', (w.setCell ⟨g, o, none⟩ u).heap[g]? = some (.cells cur' t (0, 0)) ∧ cur'.size = cur.size := by
  refine ⟨cur.setIfInBounds o u, ?_, by simp⟩
  rw [setCell_eq]; show (w.heap.modify g _)[g]? = _
  rw [Array.getElem?_modify, if_pos rfl, h]; rfl

theorem LvRow.set {w : World} {B E g cap n o : Nat} {cur : Array Value} (hh : w.heap[g]? = some (.cells cur 66 (0, 0))) (h1 : B ≤ g) (h2 : g < E) (hc : n ≤ cap) (hs : cur.size = cap * 2) (u0 u1 : Value) : LvRow ((w.setCell ⟨g, o, none⟩ u0).setCell ⟨g, o + 1, none⟩ u1) B E (.slice (some ⟨g, 0, none⟩) n cap) n := by
  obtain ⟨c1, e1, s1⟩ := row_set (o := o) hh u0
  obtain ⟨c2, e2, s2⟩ := row_set (o := o + 1) e1 u1
  exact Or.inr ⟨g, cap, c2, rfl, h1, h2, e2, hc, by rw [s2, s1, hs]⟩

theorem RowAt.set6 {w : World} {g kc o : Nat} (h : RowAt w g kc) (u0 u1 u2 u3 u4 u5 : Value) : RowAt ((((((w.setCell ⟨g, o, none⟩ u0).setCell ⟨g, o + 1, none⟩ u1).setCell ⟨g, o + 2, none⟩ u2).setCell ⟨g, o + 3, none⟩ u3).setCell ⟨g, o + 4, none⟩ u4).setCell ⟨g, o + 5, none⟩ u5) g kc := by
  obtain ⟨cur, hh, hs⟩ := h
  obtain ⟨c1, e1, s1⟩ := row_set (o := o) hh u0
  obtain ⟨c2, e2, s2⟩ := row_set (o := o + 1) e1 u1
  obtain ⟨c3, e3, s3⟩ := row_set (o := o + 2) e2 u2
  obtain ⟨c4, e4, s4⟩ := row_set (o := o + 3) e3 u3
  obtain ⟨c5, e5, s5⟩ := row_set (o := o + 4) e4 u4
  obtain ⟨c6, e6, s6⟩ := row_set (o := o + 5) e5 u5
  exact ⟨c6, e6, by omega⟩

theorem cell_set6 {w : World} {g o p : Nat} (hp : p < o ∨ o + 6 ≤ p) (u0 u1 u2 u3 u4 u5 : Value) : ((((((w.setCell ⟨g, o, none⟩ u0).setCell ⟨g, o + 1, none⟩ u1).setCell ⟨g, o + 2, none⟩ u2).setCell ⟨g, o + 3, none⟩ u3).setCell ⟨g, o + 4, none⟩ u4).setCell ⟨g, o + 5, none⟩ u5).cell? ⟨g, p, none⟩ = w.cell? ⟨g, p, none⟩ := by
  have h : ∀ q, p ≠ q → (⟨g, q, none⟩ : Addr) ≠ ⟨g, p, none⟩ := fun q hq e => hq (congrArg Addr.off e).symm
  rw [World.cell?_setCell_other _ _ _ _ (h _ (by omega)), World.cell?_setCell_other _ _ _ _ (h _ (by omega)), World.cell?_setCell_other _ _ _ _ (h _ (by omega)), World.cell?_setCell_other _ _ _ _ (h _ (by omega)), World.cell?_setCell_other _ _ _ _ (h _ (by omega)), World.cell?_setCell_other _ _ _ _ (h _ (by omega))]

theorem CellsAt.set6 {w : World} {g o p : Nat} {v : Value} (h : CellsAt w g p v) (hp : p + 6 ≤ o ∨ o + 6 ≤ p) (u0 u1 u2 u3 u4 u5 : Value) : CellsAt ((((((w.setCell ⟨g, o, none⟩ u0).setCell ⟨g, o + 1, none⟩ u1).setCell ⟨g, o + 2, none⟩ u2).setCell ⟨g, o + 3, none⟩ u3).setCell ⟨g, o + 4, none⟩ u4).setCell ⟨g, o + 5, none⟩ u5) g p v := by
  obtain ⟨v0, v1, v2, v3, l1, l2, l3, k1, k2, k3, hv, c0, c1, c2, c3, c4, c5⟩ := h
  exact ⟨v0, v1, v2, v3, l1, l2, l3, k1, k2, k3, hv, (cell_set6 (by omega) _ _ _ _ _ _).trans c0, (cell_set6 (by omega) _ _ _ _ _ _).trans c1, (cell_set6 (by omega) _ _ _ _ _ _).trans c2, (cell_set6 (by omega) _ _ _ _ _ _).trans c3, (cell_set6 (by omega) _ _ _ _ _ _).trans c4, (cell_set6 (by omega) _ _ _ _ _ _).trans c5⟩

set_option maxRecDepth 100000 in
set_option maxHeartbeats 4000000 in
theorem wipe_leaf (f n : Int) (hd : Bool) (nm : ByteArray) (ls : List LvT) (B E : Nat) (lv : Value) (w : World) (hL : LvRow w B E lv ls.length) (hE : E ≤ w.heap.size) (hl : ls.length ≤ 1000000) : Calls Try.prog 15 #[.agg #[.int .i64 f, .int .i64 n, .bool hd, .string nm, lv, .slice none 0 0]] w fun e w' => e = .returned (.tuple #[]) ∧ Kept (fun k => B ≤ k ∧ k < E) w w' := by
  obtain ⟨la, lc, rfl⟩ : ∃ la lc, lv = .slice la ls.length lc := by
    rcases hL with ⟨h, hv⟩ | ⟨g, cap, cur, hv, -⟩
    · exact ⟨none, 0, by rw [h]; exact hv⟩
    · exact ⟨_, cap, hv⟩
  obtain ⟨W1, hW1⟩ : ∃ W1, w.alloc (.cells #[.int .i64 f, .int .i64 n, .bool hd, .string nm, .slice la ls.length lc, .slice none 0 0] 25) = W1 := ⟨_, rfl⟩
  have HK1 : Hid (Kept (fun k => B ≤ k ∧ k < E) w W1) := by unfold Hid; rw [← hW1]; exact (Kept.refl _ w).alloc _
  have HX1 : Hid (W1.heap[w.heap.size]? = some (.cells #[.int .i64 f, .int .i64 n, .bool hd, .string nm, .slice la ls.length lc, .slice none 0 0] 25 (0, 0))) := by unfold Hid; rw [← hW1]; exact alloc_new _ _
  have HLV : Hid (LvRow W1 B E (.slice la ls.length lc) ls.length) := by
    unfold Hid
    rw [← hW1]
    rcases hL with h | ⟨g, cap, cur, hv, h1, h2, hh, r⟩
    · exact Or.inl h
    · exact Or.inr ⟨g, cap, cur, hv, h1, h2, alloc_old hh _, r⟩
  have HW1 := Hid.mk hW1
  clear hW1 hL
  go_enter Try.func15, Try.ntmps15
  go_wp2
  refine wp_loop_rounds 1 ?_
  rw [rounds_succ]
  go_wp2
  rw [HW1.out]
  go_loopw [3] (fun i wr => ∃ j : Nat, j ≤ ls.length ∧ i = .int .i64 j ∧ Kept (fun k => B ≤ k ∧ k < E) W1 wr ∧ LvRow wr B E (.slice la ls.length lc) ls.length) (fun i _ => ls.length - (intOf i).toNat)
  case atStart => exact ⟨0, Nat.zero_le _, rfl, Kept.refl _ _, HLV.out⟩
  case round =>
    obtain ⟨j, hj, rfl, hkr, hlr⟩ := hrel
    have HKR := Hid.mk hkr
    have HLR := Hid.mk hlr
    clear hkr hlr
    obtain ⟨x0, x1, x2, x3, x4, x5, x7⟩ := cells6 ((HKR.out.block w.heap.size (heap_lt HX1.out) (by omega)).trans HX1.out)
    by_cases hlt : j < ls.length
    · obtain ⟨g2, cap, cur, hsl, hg1, hg2, hh, hcap, hcs⟩ := HLR.out.at (by omega)
      simp only [Value.slice.injEq, true_and] at hsl
      obtain ⟨rfl, rfl⟩ := hsl
      have zj : (j : Int) < (ls.length : Int) := by omega
      obtain ⟨p0, c0⟩ : ∃ u, wr.cell? ⟨g2, j * 2, none⟩ = some u := by
        refine ⟨cur[j * 2]'(by omega), ?_⟩
        rw [cell_of_row _ g2 (j * 2) _ _ _ hh]; simp
      obtain ⟨p1, c1⟩ : ∃ u, wr.cell? ⟨g2, j * 2 + 1, none⟩ = some u := by
        refine ⟨cur[j * 2 + 1]'(by omega), ?_⟩
        rw [cell_of_row _ g2 (j * 2 + 1) _ _ _ hh]; simp
      have hfz := frz hh
      have HH := Hid.mk hh
      have hgs := heap_lt hh
      clear hh
      go_wp2
      refine ⟨⟨j + 1, hlt, by go_num, (HKR.out.setCell (p := ⟨g2, j * 2, none⟩) ⟨hg1, hg2⟩ _).setCell (p := ⟨g2, j * 2 + 1, none⟩) ⟨hg1, hg2⟩ _, ?_⟩, by simp [intOf]; omega⟩
      exact LvRow.set HH.out hg1 hg2 hcap hcs _ _
    · go_wp2
      refine bodyPost_end (v := .tuple #[]) (by simp [results, Try.results15, go_sem]) rfl ?_
      exact ⟨rfl, HK1.out.trans HKR.out⟩

set_option maxRecDepth 100000 in
set_option maxHeartbeats 4000000 in
theorem Wipe_any (t : Tm) : ∀ (B E : Nat) (v : Value) (w : World), smT 1000000 t → TO w B E v t → E ≤ w.heap.size → Calls Try.prog 15 #[v] w fun e w' => e = .returned (.tuple #[]) ∧ Kept (fun k => B ≤ k ∧ k < E) w w' := by
  refine Tm.ind (P := fun t => ∀ (B E : Nat) (v : Value) (w : World), smT 1000000 t → TO w B E v t → E ≤ w.heap.size → Calls Try.prog 15 #[v] w fun e w' => e = .returned (.tuple #[]) ∧ Kept (fun k => B ≤ k ∧ k < E) w w') ?_ t
  intro f n hd nm ls ks ih B E v w hsm hT hE
  obtain ⟨-, s1, s2, s3, s4⟩ := (smT_mk _ _ _ _ _ _ _).1 hsm
  cases hT with
  | leaf hl hBm hmE => exact wipe_leaf f n hd nm ls B E _ w (hl.lvRow hmE) hE s1
  | @row _ _ m g kc _ _ _ _ _ _ lv bd kvs hl hBm hmg hgE hbd hbE hrow hkc hkm cells kids =>
    have hL := hl.lvRow (E := g) hmg
    have h0 := bd_mono hbd (Nat.zero_le ks.length)
    obtain ⟨la, lc, rfl, -⟩ := hl.ln
    have HIH := Hid.mk ih
    have HS4 := Hid.mk s4
    have HBD := Hid.mk hbd
    clear ih s2 s4 hsm hl hbd
    obtain ⟨W0, hW0⟩ : ∃ W0, w.alloc (.cells #[.int .i64 f, .int .i64 n, .bool hd, .string nm, .slice la ls.length lc, .slice (some ⟨g, 0, none⟩) ks.length kc] 25) = W0 := ⟨_, rfl⟩
    have HB0 : Hid (RowKit.Below w.heap.size w W0) := by unfold Hid; rw [← hW0]; exact ((Grew.refl w).alloc _).below
    have HX0 : Hid (W0.heap[w.heap.size]? = some (.cells #[.int .i64 f, .int .i64 n, .bool hd, .string nm, .slice la ls.length lc, .slice (some ⟨g, 0, none⟩) ks.length kc] 25 (0, 0))) := by unfold Hid; rw [← hW0]; exact alloc_new _ _
    have HST : Hid (RowAt W0 g kc ∧ (∀ i, i < ks.length → CellsAt W0 g (i * 6) (kvs i)) ∧ ∀ i t, ks[i]? = some t → TO W0 (bd i) (bd (i + 1)) (kvs i) t) := by
      have hag : Agree 0 w.heap.size w W0 := Agree.of_below HB0.out (Nat.le_refl _)
      refine ⟨hrow.on hag (Nat.zero_le _) (by omega), fun i hi => (cells i hi).on hag (Nat.zero_le _) (by omega), fun i t hi => (kids i t hi).on (hag.mono (Nat.zero_le _) ?_)⟩
      have := (List.getElem?_eq_some_iff.1 hi).1
      have := bd_mono HBD.out (show i + 1 ≤ ks.length from this)
      omega
    have HLR0 : Hid (LvRow W0 B g (.slice la ls.length lc) ls.length) := hL.on fun g' _ _ _ => by
      rcases hL with h | ⟨g2, cap, cur, hv, h1, h2, hh, r⟩
      · rename_i hv; rw [h.2] at hv; simp at hv
      · rename_i hv'
        rw [hv] at hv'
        simp at hv'
        rw [← hv'.1]
        exact HB0.out.block g2 (heap_lt hh)
    have HW0 := Hid.mk hW0
    clear hW0 hrow cells kids hL
    go_enter Try.func15, Try.ntmps15
    go_wp2
    rw [HW0.out]
    go_loopw [2] (fun i wr => ∃ j : Nat, j ≤ ks.length ∧ i = .int .i64 j ∧ Kept (fun k => g ≤ k ∧ k < E) W0 wr ∧ RowAt wr g kc ∧ (∀ i, j ≤ i → i < ks.length → CellsAt wr g (i * 6) (kvs i)) ∧ ∀ i t, j ≤ i → ks[i]? = some t → TO wr (bd i) (bd (i + 1)) (kvs i) t) (fun i _ => ks.length - (intOf i).toNat)
    case atStart => exact ⟨0, Nat.zero_le _, rfl, Kept.refl _ _, HST.out.1, fun i _ hi => HST.out.2.1 i hi, fun i t _ hi => HST.out.2.2 i t hi⟩
    case round =>
      obtain ⟨j, hj, rfl, hkr, hrr, hcr, htr⟩ := hrel
      have HKR := Hid.mk hkr
      have HRR := Hid.mk hrr
      have HCR := Hid.mk hcr
      have HTR := Hid.mk htr
      have hszr := hkr.size
      have hsz0 := HB0.out.size
      clear hkr hrr hcr htr
      have HXR := Hid.mk ((HKR.out.block w.heap.size (heap_lt HX0.out) (by omega)).trans HX0.out)
      obtain ⟨x0, x1, x2, x3, x4, x5, x7⟩ := cells6 HXR.out
      by_cases hlt : j < ks.length
      · have hkt : ks[j]? = some ks[j] := List.getElem?_eq_getElem hlt
        have hmem : ks[j] ∈ ks := List.getElem_mem hlt
        have hbj := bd_mono HBD.out (Nat.zero_le j)
        have hbj1 := HBD.out j
        have hbj2 := bd_mono HBD.out (show j + 1 ≤ ks.length from hlt)
        obtain ⟨v0, v1, v2, v3, p1, p2, p3, q1, q2, q3, hkv, c0, c1, c2, c3, c4, c5⟩ := HCR.out j (Nat.le_refl _) hlt
        have HCALL := HIH.out ks[j] hmem (bd j) (bd (j + 1)) _ wr (HS4.out _ hmem) (HTR.out j _ (Nat.le_refl _) hkt) (by omega)
        rw [hkv] at HCALL
        have zj : (j : Int) < (ks.length : Int) := by omega
        have hgr : g < wr.heap.size := by omega
        have fzr : ∀ o, wr.frozen? ⟨g, o, none⟩ = false := by obtain ⟨cur, hh, -⟩ := HRR.out; exact frz hh
        clear hkt hmem hkv
        go_wp2_with fail
        refine HCALL.mono ?_
        rintro e w5 ⟨rfl, hk5⟩
        have HK5 := Hid.mk hk5
        have hs5 := hk5.size
        have hg5 := hk5.block g hgr (by omega)
        have HR5 : Hid (RowAt w5 g kc) := by obtain ⟨cur, hh, hs⟩ := HRR.out; exact ⟨cur, hg5.trans hh, hs⟩
        have fz5 : ∀ o, w5.frozen? ⟨g, o, none⟩ = false := by obtain ⟨cur, hh, -⟩ := HR5.out; exact frz hh
        have HX5 := Hid.mk ((hk5.block w.heap.size (heap_lt HXR.out) (by omega)).trans HXR.out)
        have d0 := (World.cell?_of_block (a := ⟨g, j * 6, none⟩) hg5).trans c0
        have d1 := (World.cell?_of_block (a := ⟨g, j * 6 + 1, none⟩) hg5).trans c1
        have d2 := (World.cell?_of_block (a := ⟨g, j * 6 + 2, none⟩) hg5).trans c2
        have d3 := (World.cell?_of_block (a := ⟨g, j * 6 + 3, none⟩) hg5).trans c3
        have d4 := (World.cell?_of_block (a := ⟨g, j * 6 + 4, none⟩) hg5).trans c4
        have d5 := (World.cell?_of_block (a := ⟨g, j * 6 + 5, none⟩) hg5).trans c5
        have hgr5 : g < w5.heap.size := by omega
        clear hk5 HCALL c0 c1 c2 c3 c4 c5 x0 x1 x2 x3 x4 x5 x7 fzr
        obtain ⟨x0, x1, x2, x3, x4, x5, x7⟩ := cells6 HX5.out
        have HG5 := Hid.mk hg5
        clear hg5
        go_wp2
        have KS := kept_setx6 (g := g) w5 (j * 6) (.int .i64 (-1)) (.int .i64 0) (.bool false) (.string { data := #[] }) (.slice none 0 0) (.slice none 0 0)
        refine ⟨⟨j + 1, hlt, by go_num, HKR.out.trans ((HK5.out.imp (fun k _ h => by omega)).trans (KS.imp (fun k _ h => by omega))), HR5.out.set6 _ _ _ _ _ _, fun i hi1 hi2 => ?_, fun i t hi1 hi2 => ?_⟩, by simp [intOf]; omega⟩
        · have hci := HCR.out i (by omega) hi2
          have : CellsAt w5 g (i * 6) (kvs i) := by
            obtain ⟨v0, v1, v2, v3, l1, l2, l3, k1, k2, k3, hv, c0, c1, c2, c3, c4, c5⟩ := hci
            exact ⟨v0, v1, v2, v3, l1, l2, l3, k1, k2, k3, hv, (World.cell?_of_block (a := ⟨g, i * 6, none⟩) HG5.out).trans c0, (World.cell?_of_block (a := ⟨g, i * 6 + 1, none⟩) HG5.out).trans c1, (World.cell?_of_block (a := ⟨g, i * 6 + 2, none⟩) HG5.out).trans c2, (World.cell?_of_block (a := ⟨g, i * 6 + 3, none⟩) HG5.out).trans c3, (World.cell?_of_block (a := ⟨g, i * 6 + 4, none⟩) HG5.out).trans c4, (World.cell?_of_block (a := ⟨g, i * 6 + 5, none⟩) HG5.out).trans c5⟩
          exact this.set6 (by omega) _ _ _ _ _ _
        · have hi' := (List.getElem?_eq_some_iff.1 hi2).1
          have hbi := bd_mono HBD.out (show j + 1 ≤ i from hi1)
          have hbi2 := bd_mono HBD.out (show i + 1 ≤ ks.length from hi')
          exact (HTR.out i t (by omega) hi2).on (fun k h1 h2 => (KS.block k (by omega) (by omega)).trans (HK5.out.block k (by omega) (by omega)))
      · obtain ⟨W1, hW1⟩ : ∃ W1, wr = W1 := ⟨_, rfl⟩
        subst hW1
        have HK1 : Hid (Kept (fun k => B ≤ k ∧ k < E) w wr) := (Kept.of_below HB0.out).trans (HKR.out.imp (fun k _ h => by omega))
        have HLV : Hid (LvRow wr B E (.slice la ls.length lc) ls.length) := by
          rcases HLR0.out with h | ⟨g2, cap, cur, hv, h1, h2, hh, r⟩
          · exact Or.inl h
          · exact Or.inr ⟨g2, cap, cur, hv, h1, by omega, (HKR.out.block g2 (heap_lt hh) (by omega)).trans hh, r⟩
        go_wp2
        clear x0 x1 x2 x3 x4 x5 x7
        obtain ⟨W1, hW1⟩ : ∃ W1, W1 = wr := ⟨_, rfl⟩
        rw [← hW1] at HK1 HLV HXR ⊢
        have HX1 := HXR
        clear hW1 HXR HKR HRR HCR HTR
        go_loopw [3] (fun i wr => ∃ j : Nat, j ≤ ls.length ∧ i = .int .i64 j ∧ Kept (fun k => B ≤ k ∧ k < E) W1 wr ∧ LvRow wr B E (.slice la ls.length lc) ls.length) (fun i _ => ls.length - (intOf i).toNat)
        case atStart => exact ⟨0, Nat.zero_le _, rfl, Kept.refl _ _, HLV.out⟩
        case round =>
          obtain ⟨j, hj, rfl, hkr, hlr⟩ := hrel
          have HKR := Hid.mk hkr
          have HLR := Hid.mk hlr
          clear hkr hlr
          obtain ⟨x0, x1, x2, x3, x4, x5, x7⟩ := cells6 ((HKR.out.block w.heap.size (heap_lt HX1.out) (by omega)).trans HX1.out)
          by_cases hlt : j < ls.length
          · obtain ⟨g2, cap, cur, hsl, hg1, hg2, hh, hcap, hcs⟩ := HLR.out.at (by omega)
            simp only [Value.slice.injEq, true_and] at hsl
            obtain ⟨rfl, rfl⟩ := hsl
            have zj : (j : Int) < (ls.length : Int) := by omega
            obtain ⟨p0, c0⟩ : ∃ u, wr.cell? ⟨g2, j * 2, none⟩ = some u := by
              refine ⟨cur[j * 2]'(by omega), ?_⟩
              rw [cell_of_row _ g2 (j * 2) _ _ _ hh]; simp
            obtain ⟨p1, c1⟩ : ∃ u, wr.cell? ⟨g2, j * 2 + 1, none⟩ = some u := by
              refine ⟨cur[j * 2 + 1]'(by omega), ?_⟩
              rw [cell_of_row _ g2 (j * 2 + 1) _ _ _ hh]; simp
            have hfz := frz hh
            have HH := Hid.mk hh
            have hgs := heap_lt hh
            clear hh
            go_wp2
            refine ⟨⟨j + 1, hlt, by go_num, (HKR.out.setCell (p := ⟨g2, j * 2, none⟩) ⟨hg1, hg2⟩ _).setCell (p := ⟨g2, j * 2 + 1, none⟩) ⟨hg1, hg2⟩ _, ?_⟩, by simp [intOf]; omega⟩
            exact LvRow.set HH.out hg1 hg2 hcap hcs _ _
          · go_wp2
            refine bodyPost_end (v := .tuple #[]) (by simp [results, Try.results15, go_sem]) rfl ?_
            exact ⟨rfl, HK1.out.trans HKR.out⟩
end Go.Proofs.Ytahacpbmoijicaa
