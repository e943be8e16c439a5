/- The contract of term's replacing.part. -/
import Derived.Test.YtggiibkboblknaaOI
namespace Go.Proofs.Ytggiibkboblknaa
open Go.RowKit Go.Sort

/-- a part with a variable replaced, as long as there is room -/
def repV (at_ size : Int) (sT : Tm) (room : Int) (t : Tm) (b _ : Int) : Except Int (Int × Tm) :=
  if t.form = 1 ∧ t.n - b = at_ then (if room - size < 0 then .error 2 else .ok (room - size, liftT 0 b sT 0))
  else if room - 1 < 0 then .error 2 else .ok (room - 1, if t.form = 1 ∧ at_ < t.n - b then (bareT t).setN (t.n - 1) else bareT t)

/-- replacing lies in block X, with that much room -/
def repI (X : Nat) (at_ size : Int) (z0 z1 : Int) (z2 : Bool) (z3 : ByteArray) (z4 : Option Addr) (z5 z6 : Nat) (z7 : Option Addr) (z8 z9 : Nat) (room : Int) (w : World) : Prop :=
  w.heap[X]? = some (.cells #[.int .i64 at_, .int .i64 z0, .int .i64 z1, .bool z2, .string z3, .slice z4 z5 z6, .slice z7 z8 z9, .int .i64 size, .int .i64 room] 82 (0, 0)) ∧ 0 ≤ room ∧ room ≤ 20000

theorem cells9 {w : World} {b : Nat} {v0 v1 v2 v3 v4 v5 v6 v7 v8 : Value} {t : TypeId} (h : w.heap[b]? = some (.cells #[v0, v1, v2, v3, v4, v5, v6, v7, v8] t (0, 0))) :
    w.cell? ⟨b, 0, none⟩ = some v0 ∧ w.cell? ⟨b, 1, none⟩ = some v1 ∧ w.cell? ⟨b, 2, none⟩ = some v2 ∧ w.cell? ⟨b, 3, none⟩ = some v3 ∧ w.cell? ⟨b, 4, none⟩ = some v4 ∧ w.cell? ⟨b, 5, none⟩ = some v5 ∧ w.cell? ⟨b, 6, none⟩ = some v6 ∧ w.cell? ⟨b, 7, none⟩ = some v7 ∧ w.cell? ⟨b, 8, none⟩ = some v8 ∧ b < w.heap.size :=
  ⟨by rw [cell_of_row _ b 0 _ _ _ h]; rfl, by rw [cell_of_row _ b 1 _ _ _ h]; rfl, by rw [cell_of_row _ b 2 _ _ _ h]; rfl, by rw [cell_of_row _ b 3 _ _ _ h]; rfl, by rw [cell_of_row _ b 4 _ _ _ h]; rfl, by rw [cell_of_row _ b 5 _ _ _ h]; rfl, by rw [cell_of_row _ b 6 _ _ _ h]; rfl, by rw [cell_of_row _ b 7 _ _ _ h]; rfl, by rw [cell_of_row _ b 8 _ _ _ h]; rfl, (Array.getElem?_eq_some_iff.1 h).1⟩

theorem set9 {w : World} {b : Nat} {v0 v1 v2 v3 v4 v5 v6 v7 v8 x : Value} {t : TypeId} (h : w.heap[b]? = some (.cells #[v0, v1, v2, v3, v4, v5, v6, v7, v8] t (0, 0))) : (w.setCell ⟨b, 8, none⟩ x).heap[b]? = some (.cells #[v0, v1, v2, v3, v4, v5, v6, v7, x] t (0, 0)) := by
  rw [setCell_eq]; show (w.heap.modify b _)[b]? = _
  rw [Array.getElem?_modify, if_pos rfl, h]; rfl

theorem repI_grow {X : Nat} {at_ size : Int} {z0 z1 : Int} {z2 : Bool} {z3 : ByteArray} {z4 : Option Addr} {z5 z6 : Nat} {z7 : Option Addr} {z8 z9 : Nat} {w0 : World} (s : Int) (a b : World) (M : Nat) (h : repI X at_ size z0 z1 z2 z3 z4 z5 z6 z7 z8 z9 s a) (_ : w0.heap.size ≤ M) (hM : ∀ k, k = X → k < M) (hk : Kept (fun k => M ≤ k) a b) : repI X at_ size z0 z1 z2 z3 z4 z5 z6 z7 z8 z9 s b :=
  ⟨(hk.block X (heap_lt h.1) (by have := hM X rfl; omega)).trans h.1, h.2⟩

theorem cf_replacing (xs : Array Value) (w : World) : Sem.run Try.prog (callFunc 59 xs) w = .ok (.enter 59 xs) w := by simp [callFunc, go_sem, Try.func59]; rfl

set_option maxRecDepth 100000 in
set_option maxHeartbeats 2000000 in
theorem replacing_visits (X : Nat) (at_ size : Int) (sT : Tm) (z0 z1 : Int) (z2 : Bool) (z3 : ByteArray) (z4 : Option Addr) (z5 z6 : Nat) (z7 : Option Addr) (z8 z9 : Nat) (w0 : World) (hat : 0 ≤ at_) (hat2 : at_ ≤ 9223372036854775807) (hs0 : 0 ≤ size) (hs1 : size ≤ 20000) (hX : w0.heap.size ≤ X) (hS : TV w0 (.agg #[.int .i64 z0, .int .i64 z1, .bool z2, .string z3, .slice z4 z5 z6, .slice z7 z8 z9]) sT) (hG : GT sT) (hH : heightT sT ≤ 500) :
    VisitsT GT (· = X) (repI X at_ size z0 z1 z2 z3 z4 z5 z6 z7 z8 z9) w0 59 #[.pointer (some ⟨X, 0, none⟩)] (repV at_ size sT) := by
  intro s t v b p w hGt hI hv0 hBw hb0 hbp hp
  have hv := hv0.on hBw
  obtain ⟨hXc, hr0, hr1⟩ := hI
  obtain ⟨c0, c1, c2, c3, c4, c5, c6, c7, c8, cX⟩ := cells9 hXc
  have fX := frz hXc
  have HXC := Hid.mk hXc
  clear hXc
  have HBA := fun (W : World) (hb : TV W v t) => bare_any t v W hb hGt.1 (fun h => GT_leaf hGt (by omega))
  have HTVK : Hid (∀ W : World, Kept (· = X) w W → TV W v t) := fun W hK => hv0.on (hBw.trans (hK.below hBw.size (fun k hk => by rw [hk]; exact hX)))
  clear hv0
  have HVAR := fun (h : t.form = 1) => GT_var hGt h
  have HLF := fun (h : t.form = 1) => GT_leaf hGt (Or.inl h)
  obtain ⟨la, lc, ka, kc, rfl⟩ := hv.shape
  have HE : Hid (repV at_ size sT s t b p = if t.form = 1 ∧ t.n - b = at_ then (if s - size < 0 then .error 2 else .ok (s - size, liftT 0 b sT 0)) else if s - 1 < 0 then .error 2 else .ok (s - 1, if t.form = 1 ∧ at_ < t.n - b then (bareT t).setN (t.n - 1) else bareT t)) := rfl
  have HBF := Hid.mk (bareT_form t)
  have HBK := Hid.mk (bareT_kids t)
  have HBN : Hid (t.form = 1 → (bareT t).n = t.n) := fun h => by cases t; simp only [Tm.form] at h; simp [bareT, Tm.n, h]
  have HWK := fun (W : World) (hB : RowKit.Below w0.heap.size w0 W) => walkT_any (w0 := w0) (bs := #[.agg #[.int .i64 0, .int .i64 b]]) GT_kid (fun k hk => hk.elim) (fun s w' k hI hk => hk.elim) (fun s a b M _ _ _ _ => trivial) cf_lifting (lifting_visits 0 b (by omega) (by omega) hb0 (by omega) w0) sT () _ 0 0 W hG trivial hS hB (by omega) (by omega) (by omega) (Or.inr (by omega))
  rw [lif_walk 0 b sT 0 0] at HWK
  generalize liftT 0 b sT 0 = LS at *
  generalize repV at_ size sT s t b p = R at HE ⊢
  generalize bareT t = r at *
  clear hv hGt hS hG hH
  generalize t.form = f at *
  generalize t.n = n at *
  generalize t.hid = hd at *
  generalize t.name = nm at *
  generalize t.levels.length = l1 at *
  generalize hkk : t.kids = ks at *
  clear hkk
  have HLF : Hid (f = 1 → ks.length = 0) := fun h => by rw [HLF h]; rfl
  generalize ks.length = k1 at *
  have HBW := Hid.mk hBw
  have hXw : X < w.heap.size := cX
  have hXw1 : X < w.heap.size + 1 := by omega
  have hXw2 : X < w.heap.size + 1 + 1 := by omega
  have k0 := cell3 (p := ⟨X, 0, none⟩) hXw c0
  have k7 := cell3 (p := ⟨X, 7, none⟩) hXw c7
  have k8 := cell3 (p := ⟨X, 8, none⟩) hXw c8
  clear hBw
  show Calls Try.prog 59 #[.pointer (some ⟨X, 0, none⟩), .agg #[.int .i64 f, .int .i64 n, .bool hd, .string nm, .slice la l1 lc, .slice ka k1 kc], .agg #[.int .i64 b, .int .i64 p]] w _
  obtain ⟨W0, hW0⟩ : ∃ W0, ((w.alloc (.cells #[.int .i64 f, .int .i64 n, .bool hd, .string nm, .slice la l1 lc, .slice ka k1 kc] 25)).alloc (.cells #[.int .i64 b, .int .i64 p] 59)).alloc (.cells #[.int .i64 0, .int .i64 0, .bool false, .string { data := #[] }, .slice none 0 0, .slice none 0 0] 25) = W0 := ⟨_, rfl⟩
  have HG0 : Hid (Grew w W0) := by unfold Hid; rw [← hW0]; exact (((Grew.refl w).alloc _).alloc _).alloc _
  have HT0 : Hid (W0.heap[w.heap.size]? = some (.cells #[.int .i64 f, .int .i64 n, .bool hd, .string nm, .slice la l1 lc, .slice ka k1 kc] 25 (0, 0))) := by unfold Hid; rw [← hW0]; exact alloc_old box_at _
  have HP0 : Hid (W0.heap[w.heap.size + 1]? = some (.cells #[.int .i64 b, .int .i64 p] 59 (0, 0))) := by unfold Hid; rw [← hW0]; exact on1
  have HZ0 : Hid (W0.heap[w.heap.size + 1 + 1]? = some (.cells #[.int .i64 0, .int .i64 0, .bool false, .string { data := #[] }, .slice none 0 0, .slice none 0 0] 25 (0, 0))) := by unfold Hid; rw [← hW0]; exact on2
  have HX0 : Hid (W0.heap[X]? = some (.cells #[.int .i64 at_, .int .i64 z0, .int .i64 z1, .bool z2, .string z3, .slice z4 z5 z6, .slice z7 z8 z9, .int .i64 size, .int .i64 s] 82 (0, 0))) := (HG0.out.below.block X hXw).trans HXC.out
  have HSZ : Hid (W0.heap.size = w.heap.size + 1 + 1 + 1) := by unfold Hid; rw [← hW0]; exact sz3
  have HW0 := Hid.mk hW0
  clear hW0
  have HTVW : Hid (∀ W : World, Kept (· = X) w W → TV W (.agg #[.int .i64 f, .int .i64 n, .bool hd, .string nm, .slice la l1 lc, .slice ka k1 kc]) t) := HTVK.out
  clear HTVK
  by_cases hf : f = 1
  · subst hf
    obtain ⟨hn0, hn1⟩ := HVAR rfl
    obtain rfl : k1 = 0 := HLF.out rfl
    have HRN := Hid.mk (HBN.out rfl)
    clear HVAR HLF HBN
    by_cases hhit : n - b = at_
    · have hhb : (n - b == at_) = true := by simpa using hhit
      by_cases hroom : s - size < 0
      · have hR : Hid (R = .error 2) := by unfold Hid; rw [HE.out, if_pos ⟨by trivial, hhit⟩, if_pos hroom]
        clear HE hhit HWK HBA
        go_enter Try.func59, Try.ntmps59
        go_wp2
        rw [HW0.out]
        clear c0 c1 c2 c3 c4 c5 c6 c7 c8 fX k0 k7 k8
        obtain ⟨c0, c1, c2, c3, c4, c5, c6, c7, c8, cX'⟩ := cells9 HX0.out
        have fX := frz HX0.out
        go_region
        rename_i K hK
        refine hK _ _ ?_
        clear c0 c1 c2 c3 c4 c5 c6 c7 c8 fX cX'
        obtain ⟨W1, hW1⟩ : ∃ W1, (W0.setCell ⟨X, 8, none⟩ (.int .i64 (s - size))).drew = W1 := ⟨_, rfl⟩
        have hX1 : W1.heap[X]? = some (.cells #[.int .i64 at_, .int .i64 z0, .int .i64 z1, .bool z2, .string z3, .slice z4 z5 z6, .slice z7 z8 z9, .int .i64 size, .int .i64 (s - size)] 82 (0, 0)) := by rw [← hW1]; exact set9 HX0.out
        have hK1 : Kept (· = X) w W1 := by rw [← hW1]; exact (((Kept.of_grew (P := fun k => k = X) HG0.out).setCell (p := ⟨X, 8, none⟩) rfl _)).drew
        have hS1 : W1.heap.size = w.heap.size + 1 + 1 + 1 := by rw [← hW1, ← HSZ.out]; simp [World.setCell, World.drew]
        have hT1 : W1.heap[w.heap.size]? = some (.cells #[.int .i64 1, .int .i64 n, .bool hd, .string nm, .slice la l1 lc, .slice ka 0 kc] 25 (0, 0)) := by rw [← hW1]; exact (Below.heap_setCell W0 ⟨X, 8, none⟩ _ _ (show w.heap.size ≠ X by omega)).trans HT0.out
        have hP1 : W1.heap[w.heap.size + 1]? = some (.cells #[.int .i64 b, .int .i64 p] 59 (0, 0)) := by rw [← hW1]; exact (Below.heap_setCell W0 ⟨X, 8, none⟩ _ _ (show w.heap.size + 1 ≠ X by omega)).trans HP0.out
        have hZ1 : W1.heap[w.heap.size + 1 + 1]? = some (.cells #[.int .i64 0, .int .i64 0, .bool false, .string { data := #[] }, .slice none 0 0, .slice none 0 0] 25 (0, 0)) := by rw [← hW1]; exact (Below.heap_setCell W0 ⟨X, 8, none⟩ _ _ (show w.heap.size + 1 + 1 ≠ X by omega)).trans HZ0.out
        rw [hW1]
        clear hW1
        have HX1 : Hid (W1.heap[X]? = some (.cells #[.int .i64 at_, .int .i64 z0, .int .i64 z1, .bool z2, .string z3, .slice z4 z5 z6, .slice z7 z8 z9, .int .i64 size, .int .i64 (s - size)] 82 (0, 0))) := hX1
        have HK1 : Hid (Kept (· = X) w W1) := hK1
        have HSZ1 : Hid (W1.heap.size = w.heap.size + 1 + 1 + 1) := hS1
        have HT1 : Hid (W1.heap[w.heap.size]? = some (.cells #[.int .i64 1, .int .i64 n, .bool hd, .string nm, .slice la l1 lc, .slice ka 0 kc] 25 (0, 0))) := hT1
        have HP1 : Hid (W1.heap[w.heap.size + 1]? = some (.cells #[.int .i64 b, .int .i64 p] 59 (0, 0))) := hP1
        have HZ1 : Hid (W1.heap[w.heap.size + 1 + 1]? = some (.cells #[.int .i64 0, .int .i64 0, .bool false, .string { data := #[] }, .slice none 0 0, .slice none 0 0] 25 (0, 0))) := hZ1
        clear hX1 hK1 hS1 hT1 hP1 hZ1
        obtain ⟨c0, c1, c2, c3, c4, c5, c6, c7, c8, cX'⟩ := cells9 HX1.out
        obtain ⟨y0, y1, y2, y3, y4, y5, y6⟩ := cells6 HZ1.out
        have fr := frz HZ1.out
        go_wp2
        refine bodyPost_ret (v := .tuple #[zeroV, .int .i64 2]) (by simp [results, Try.results59, go_sem, zeroV, y0, y1, y2, y3, y4, y5]) rfl ⟨?_, ?_⟩
        · exact HK1.out.old (Q := fun k => k = w.heap.size + 1 + 1) (keep6 rfl) (fun i h1 h2 => by omega)
        · rw [hR.out]
          exact ⟨by decide, _, ⟨_, _, _, _, _, _, _, _, _, _, rfl⟩, rfl⟩
      · have hR : Hid (R = .ok (s - size, LS)) := by unfold Hid; rw [HE.out, if_pos ⟨by trivial, hhit⟩, if_neg hroom]
        clear HE hhit HBA
        go_enter Try.func59, Try.ntmps59
        go_wp2
        rw [HW0.out]
        clear c0 c1 c2 c3 c4 c5 c6 c7 c8 fX k0 k7 k8
        obtain ⟨c0, c1, c2, c3, c4, c5, c6, c7, c8, cX'⟩ := cells9 HX0.out
        have fX := frz HX0.out
        go_region
        rename_i K hK
        refine hK _ _ ?_
        clear c0 c1 c2 c3 c4 c5 c6 c7 c8 fX cX'
        obtain ⟨W1, hW1⟩ : ∃ W1, (W0.setCell ⟨X, 8, none⟩ (.int .i64 (s - size))).drew = W1 := ⟨_, rfl⟩
        have hX1 : W1.heap[X]? = some (.cells #[.int .i64 at_, .int .i64 z0, .int .i64 z1, .bool z2, .string z3, .slice z4 z5 z6, .slice z7 z8 z9, .int .i64 size, .int .i64 (s - size)] 82 (0, 0)) := by rw [← hW1]; exact set9 HX0.out
        have hK1 : Kept (· = X) w W1 := by rw [← hW1]; exact (((Kept.of_grew (P := fun k => k = X) HG0.out).setCell (p := ⟨X, 8, none⟩) rfl _)).drew
        have hS1 : W1.heap.size = w.heap.size + 1 + 1 + 1 := by rw [← hW1, ← HSZ.out]; simp [World.setCell, World.drew]
        have hT1 : W1.heap[w.heap.size]? = some (.cells #[.int .i64 1, .int .i64 n, .bool hd, .string nm, .slice la l1 lc, .slice ka 0 kc] 25 (0, 0)) := by rw [← hW1]; exact (Below.heap_setCell W0 ⟨X, 8, none⟩ _ _ (show w.heap.size ≠ X by omega)).trans HT0.out
        have hP1 : W1.heap[w.heap.size + 1]? = some (.cells #[.int .i64 b, .int .i64 p] 59 (0, 0)) := by rw [← hW1]; exact (Below.heap_setCell W0 ⟨X, 8, none⟩ _ _ (show w.heap.size + 1 ≠ X by omega)).trans HP0.out
        have hZ1 : W1.heap[w.heap.size + 1 + 1]? = some (.cells #[.int .i64 0, .int .i64 0, .bool false, .string { data := #[] }, .slice none 0 0, .slice none 0 0] 25 (0, 0)) := by rw [← hW1]; exact (Below.heap_setCell W0 ⟨X, 8, none⟩ _ _ (show w.heap.size + 1 + 1 ≠ X by omega)).trans HZ0.out
        rw [hW1]
        clear hW1
        have HX1 : Hid (W1.heap[X]? = some (.cells #[.int .i64 at_, .int .i64 z0, .int .i64 z1, .bool z2, .string z3, .slice z4 z5 z6, .slice z7 z8 z9, .int .i64 size, .int .i64 (s - size)] 82 (0, 0))) := hX1
        have HK1 : Hid (Kept (· = X) w W1) := hK1
        have HSZ1 : Hid (W1.heap.size = w.heap.size + 1 + 1 + 1) := hS1
        have HT1 : Hid (W1.heap[w.heap.size]? = some (.cells #[.int .i64 1, .int .i64 n, .bool hd, .string nm, .slice la l1 lc, .slice ka 0 kc] 25 (0, 0))) := hT1
        have HP1 : Hid (W1.heap[w.heap.size + 1]? = some (.cells #[.int .i64 b, .int .i64 p] 59 (0, 0))) := hP1
        have HZ1 : Hid (W1.heap[w.heap.size + 1 + 1]? = some (.cells #[.int .i64 0, .int .i64 0, .bool false, .string { data := #[] }, .slice none 0 0, .slice none 0 0] 25 (0, 0))) := hZ1
        clear hX1 hK1 hS1 hT1 hP1 hZ1
        obtain ⟨c0, c1, c2, c3, c4, c5, c6, c7, c8, cX'⟩ := cells9 HX1.out
        obtain ⟨b0, b1, -, -, b4⟩ := cells2 HP1.out
        obtain ⟨-, -, -, -, -, -, y6⟩ := cells6 HZ1.out
        have HBW1 : Hid (RowKit.Below w0.heap.size w0 W1) := HBW.out.trans (HK1.out.below HBW.out.size (fun k hk => by rw [hk]; exact hX))
        have HC := HWK W1.drew HBW1.out.drew
        clear HWK HTVW
        have mx := mixed
        have HCEL : Hid (∀ W : World, RowKit.Below W1.heap.size W1 W → W.cell? ⟨X, 1, none⟩ = some (.int .i64 z0) ∧ W.cell? ⟨X, 2, none⟩ = some (.int .i64 z1) ∧ W.cell? ⟨X, 3, none⟩ = some (.bool z2) ∧ W.cell? ⟨X, 4, none⟩ = some (.string z3) ∧ W.cell? ⟨X, 5, none⟩ = some (.slice z4 z5 z6) ∧ W.cell? ⟨X, 6, none⟩ = some (.slice z7 z8 z9) ∧ W.cell? ⟨w.heap.size + 1, 0, none⟩ = some (.int .i64 b)) := fun W h => ⟨(h.cell (p := ⟨X, 1, none⟩) cX').trans c1, (h.cell (p := ⟨X, 2, none⟩) cX').trans c2, (h.cell (p := ⟨X, 3, none⟩) cX').trans c3, (h.cell (p := ⟨X, 4, none⟩) cX').trans c4, (h.cell (p := ⟨X, 5, none⟩) cX').trans c5, (h.cell (p := ⟨X, 6, none⟩) cX').trans c6, (h.cell (p := ⟨w.heap.size + 1, 0, none⟩) b4).trans b0⟩
        have HCE6 : Hid (∀ (W : World) (h : RowKit.Below W1.heap.size W1 W) (a0 a1 a2 a3 a4 a5 : Value), ((((((W.setCell ⟨w.heap.size + 1 + 1, 0, none⟩ a0).setCell ⟨w.heap.size + 1 + 1, 1, none⟩ a1).setCell ⟨w.heap.size + 1 + 1, 2, none⟩ a2).setCell ⟨w.heap.size + 1 + 1, 3, none⟩ a3).setCell ⟨w.heap.size + 1 + 1, 4, none⟩ a4).setCell ⟨w.heap.size + 1 + 1, 5, none⟩ a5).cell? ⟨X, 1, none⟩ = some (.int .i64 z0) ∧ ((((((W.setCell ⟨w.heap.size + 1 + 1, 0, none⟩ a0).setCell ⟨w.heap.size + 1 + 1, 1, none⟩ a1).setCell ⟨w.heap.size + 1 + 1, 2, none⟩ a2).setCell ⟨w.heap.size + 1 + 1, 3, none⟩ a3).setCell ⟨w.heap.size + 1 + 1, 4, none⟩ a4).setCell ⟨w.heap.size + 1 + 1, 5, none⟩ a5).cell? ⟨X, 2, none⟩ = some (.int .i64 z1) ∧ ((((((W.setCell ⟨w.heap.size + 1 + 1, 0, none⟩ a0).setCell ⟨w.heap.size + 1 + 1, 1, none⟩ a1).setCell ⟨w.heap.size + 1 + 1, 2, none⟩ a2).setCell ⟨w.heap.size + 1 + 1, 3, none⟩ a3).setCell ⟨w.heap.size + 1 + 1, 4, none⟩ a4).setCell ⟨w.heap.size + 1 + 1, 5, none⟩ a5).cell? ⟨X, 3, none⟩ = some (.bool z2) ∧ ((((((W.setCell ⟨w.heap.size + 1 + 1, 0, none⟩ a0).setCell ⟨w.heap.size + 1 + 1, 1, none⟩ a1).setCell ⟨w.heap.size + 1 + 1, 2, none⟩ a2).setCell ⟨w.heap.size + 1 + 1, 3, none⟩ a3).setCell ⟨w.heap.size + 1 + 1, 4, none⟩ a4).setCell ⟨w.heap.size + 1 + 1, 5, none⟩ a5).cell? ⟨X, 4, none⟩ = some (.string z3) ∧ ((((((W.setCell ⟨w.heap.size + 1 + 1, 0, none⟩ a0).setCell ⟨w.heap.size + 1 + 1, 1, none⟩ a1).setCell ⟨w.heap.size + 1 + 1, 2, none⟩ a2).setCell ⟨w.heap.size + 1 + 1, 3, none⟩ a3).setCell ⟨w.heap.size + 1 + 1, 4, none⟩ a4).setCell ⟨w.heap.size + 1 + 1, 5, none⟩ a5).cell? ⟨X, 5, none⟩ = some (.slice z4 z5 z6) ∧ ((((((W.setCell ⟨w.heap.size + 1 + 1, 0, none⟩ a0).setCell ⟨w.heap.size + 1 + 1, 1, none⟩ a1).setCell ⟨w.heap.size + 1 + 1, 2, none⟩ a2).setCell ⟨w.heap.size + 1 + 1, 3, none⟩ a3).setCell ⟨w.heap.size + 1 + 1, 4, none⟩ a4).setCell ⟨w.heap.size + 1 + 1, 5, none⟩ a5).cell? ⟨X, 6, none⟩ = some (.slice z7 z8 z9) ∧ ((((((W.setCell ⟨w.heap.size + 1 + 1, 0, none⟩ a0).setCell ⟨w.heap.size + 1 + 1, 1, none⟩ a1).setCell ⟨w.heap.size + 1 + 1, 2, none⟩ a2).setCell ⟨w.heap.size + 1 + 1, 3, none⟩ a3).setCell ⟨w.heap.size + 1 + 1, 4, none⟩ a4).setCell ⟨w.heap.size + 1 + 1, 5, none⟩ a5).cell? ⟨w.heap.size + 1, 0, none⟩ = some (.int .i64 b)) := fun W h a0 a1 a2 a3 a4 a5 => by
          obtain ⟨e1, e2, e3, e4, e5, e6, e7⟩ := HCEL.out W h
          have hXl : X < W.heap.size := Nat.lt_of_lt_of_le cX' h.size
          have hPl : w.heap.size + 1 < W.heap.size := Nat.lt_of_lt_of_le b4 h.size
          have K6 := keep6 (P := fun k => k = w.heap.size + 1 + 1) (w := W) (b := w.heap.size + 1 + 1) (a0 := a0) (a1 := a1) (a2 := a2) (a3 := a3) (a4 := a4) (a5 := a5) rfl
          exact ⟨(K6.cell (p := ⟨X, 1, none⟩) hXl (by simp; omega)).trans e1, (K6.cell (p := ⟨X, 2, none⟩) hXl (by simp; omega)).trans e2, (K6.cell (p := ⟨X, 3, none⟩) hXl (by simp; omega)).trans e3, (K6.cell (p := ⟨X, 4, none⟩) hXl (by simp; omega)).trans e4, (K6.cell (p := ⟨X, 5, none⟩) hXl (by simp; omega)).trans e5, (K6.cell (p := ⟨X, 6, none⟩) hXl (by simp; omega)).trans e6, (K6.cell (p := ⟨w.heap.size + 1, 0, none⟩) hPl (by simp)).trans e7⟩
        go_wp2_with fail
        go_region_held3 (fun w' => w'.cell? ⟨X, 1, none⟩ = some (.int .i64 z0) ∧ w'.cell? ⟨X, 2, none⟩ = some (.int .i64 z1) ∧ w'.cell? ⟨X, 3, none⟩ = some (.bool z2) ∧ w'.cell? ⟨X, 4, none⟩ = some (.string z3) ∧ w'.cell? ⟨X, 5, none⟩ = some (.slice z4 z5 z6) ∧ w'.cell? ⟨X, 6, none⟩ = some (.slice z7 z8 z9) ∧ w'.cell? ⟨w.heap.size + 1, 0, none⟩ = some (.int .i64 b)) (first | with_reducible exact HCEL.out _ hb5 | with_reducible exact HCE6.out _ hb5 _ _ _ _ _ _ | exact HCEL.out _ (Below.refl _ _).drew)
          (first | (go_at_call 49; refine HC.mono ?_; rintro e w5 ⟨hk5, ⟨v5, rfl, hto5⟩, -⟩; have hb5 : RowKit.Below W1.heap.size W1 w5 := (Below.refl _ _).drew.trans (hk5.below (Nat.le_refl _) (fun k hk => hk.elim)); obtain ⟨v0, v1, v2, v3, u1, u2, u3, p1, p2, p3, rfl⟩ := hto5.shapeE; have hr5 := (hb5.block (w.heap.size + 1 + 1) y6).trans HZ1.out; obtain ⟨y0, y1, y2, y3, y4, y5, -⟩ := cells6 hr5; have fr := frz hr5; have HB5 := Hid.mk hb5; have HTO5 := Hid.mk hto5; clear hk5 hr5 hto5))
        go_wp2
        refine bodyPost_ret (v := .tuple #[.agg #[.int .i64 v0, .int .i64 v1, .bool v2, .string v3, .slice u1 u2 u3, .slice p1 p2 p3], .int .i64 0]) (by simp [results, Try.results59, go_sem, y0, y1, y2, y3, y4, y5]) rfl ⟨?_, ?_⟩
        · exact (HK1.out.trans (Kept.of_below HB5.out)).old (Q := fun k => k = w.heap.size + 1 + 1) (keep6 rfl) (fun i h1 h2 => by omega)
        · rw [hR.out]
          have hT : TO w5 W1.heap.size w5.heap.size (.agg #[.int .i64 v0, .int .i64 v1, .bool v2, .string v3, .slice u1 u2 u3, .slice p1 p2 p3]) LS := HTO5.out
          refine ⟨⟨_, rfl, Or.inl ⟨rfl, ?_⟩, fun h => by omega⟩, ?_, by omega, by omega⟩
          · rw [size6]
            exact (hT.on (fun k h1 h2 => (keep6 (P := fun k => k = w.heap.size + 1 + 1) rfl).block k h2 (by have := HSZ1.out; omega))).mono (by have := HSZ1.out; omega) (Nat.le_refl _)
          · exact ((keep6 (P := fun k => k = w.heap.size + 1 + 1) rfl).block X (by have := HB5.out.size; omega) (by omega)).trans ((HB5.out.block X cX').trans HX1.out)
    · have hhb : (n - b == at_) = false := by simpa using hhit
      have HMISS : Hid (¬ (n - b = at_)) := hhit
      clear hhit
      by_cases hroom : s - 1 < 0
      · have hR : Hid (R = .error 2) := by unfold Hid; rw [HE.out, if_neg (fun h => HMISS.out h.2), if_pos hroom]
        clear HE HWK HBA
        go_enter Try.func59, Try.ntmps59
        go_wp2
        refine bodyPost_ret (v := .tuple #[zeroV, .int .i64 2]) (by simp [results, Try.results59, go_sem, zeroV]) rfl ⟨?_, ?_⟩
        · exact ((((Kept.refl (· = X) w).setCell (p := ⟨X, 8, none⟩) rfl _).alloc _).alloc _).alloc _
        · rw [hR.out]
          exact ⟨by decide, _, ⟨_, _, _, _, _, _, _, _, _, _, rfl⟩, rfl⟩
      · by_cases hgr : at_ < n - b
        · have hR : Hid (R = .ok (s - 1, r.setN (n - 1))) := by unfold Hid; rw [HE.out, if_neg (fun h => HMISS.out h.2), if_neg hroom, if_pos ⟨by trivial, hgr⟩]
          clear HE HWK
          go_enter Try.func59, Try.ntmps59
          go_wp2_with fail
          obtain ⟨W1, hW1⟩ : ∃ W1, (((w.setCell ⟨X, 8, none⟩ (.int .i64 (s - 1))).alloc (.cells #[.int .i64 1, .int .i64 n, .bool hd, .string nm, .slice la l1 lc, .slice ka 0 kc] 25)).alloc (.cells #[.int .i64 b, .int .i64 p] 59)).alloc (.cells #[.int .i64 0, .int .i64 0, .bool false, .string { data := #[] }, .slice none 0 0, .slice none 0 0] 25) = W1 := ⟨_, rfl⟩
          have hsz : (w.setCell ⟨X, 8, none⟩ (.int .i64 (s - 1))).heap.size = w.heap.size := by simp [World.setCell]
          have hX1 : W1.heap[X]? = some (.cells #[.int .i64 at_, .int .i64 z0, .int .i64 z1, .bool z2, .string z3, .slice z4 z5 z6, .slice z7 z8 z9, .int .i64 size, .int .i64 (s - 1)] 82 (0, 0)) := by rw [← hW1]; exact alloc_old (alloc_old (alloc_old (set9 HXC.out) _) _) _
          have hK1 : Kept (· = X) w W1 := by rw [← hW1]; exact ((((Kept.refl (· = X) w).setCell (p := ⟨X, 8, none⟩) rfl _).alloc _).alloc _).alloc _
          have hS1 : W1.heap.size = w.heap.size + 1 + 1 + 1 := by rw [← hW1, sz3, hsz]
          have hT1 : W1.heap[w.heap.size]? = some (.cells #[.int .i64 1, .int .i64 n, .bool hd, .string nm, .slice la l1 lc, .slice ka 0 kc] 25 (0, 0)) := by rw [← hW1, ← hsz]; exact alloc_old box_at _
          have hP1 : W1.heap[w.heap.size + 1]? = some (.cells #[.int .i64 b, .int .i64 p] 59 (0, 0)) := by rw [← hW1, ← hsz]; exact on1
          have hZ1 : W1.heap[w.heap.size + 1 + 1]? = some (.cells #[.int .i64 0, .int .i64 0, .bool false, .string { data := #[] }, .slice none 0 0, .slice none 0 0] 25 (0, 0)) := by rw [← hW1, ← hsz]; exact on2
          rw [hW1]
          clear hW1 hsz
          have HX1 : Hid (W1.heap[X]? = some (.cells #[.int .i64 at_, .int .i64 z0, .int .i64 z1, .bool z2, .string z3, .slice z4 z5 z6, .slice z7 z8 z9, .int .i64 size, .int .i64 (s - 1)] 82 (0, 0))) := hX1
          have HK1 : Hid (Kept (· = X) w W1) := hK1
          have HSZ1 : Hid (W1.heap.size = w.heap.size + 1 + 1 + 1) := hS1
          have HT1 : Hid (W1.heap[w.heap.size]? = some (.cells #[.int .i64 1, .int .i64 n, .bool hd, .string nm, .slice la l1 lc, .slice ka 0 kc] 25 (0, 0))) := hT1
          have HP1 : Hid (W1.heap[w.heap.size + 1]? = some (.cells #[.int .i64 b, .int .i64 p] 59 (0, 0))) := hP1
          have HZ1 : Hid (W1.heap[w.heap.size + 1 + 1]? = some (.cells #[.int .i64 0, .int .i64 0, .bool false, .string { data := #[] }, .slice none 0 0, .slice none 0 0] 25 (0, 0))) := hZ1
          clear hX1 hK1 hS1 hT1 hP1 hZ1
          have HBW1 : Hid (RowKit.Below w0.heap.size w0 W1) := HBW.out.trans (HK1.out.below HBW.out.size (fun k hk => by rw [hk]; exact hX))
          refine (HBA W1 ?_).mono ?_
          · exact HTVW.out W1 HK1.out
          rintro e w5 ⟨v5, rfl, hfr, hb5⟩
          have hz5 := hb5.size
          have hsz1 := HSZ1.out
          have hzr : w.heap.size + 1 + 1 < w5.heap.size := by omega
          have hzt : w.heap.size < w5.heap.size := by omega
          have hzp : w.heap.size + 1 < w5.heap.size := by omega
          have hzX : X < w5.heap.size := by omega
          obtain ⟨q1, q2, q3, p1, p2, p3, rfl⟩ := hfr.shapeF
          have hrf := HBF.out
          rw [hrf] at hfr ⊢
          have hrn := HRN.out
          rw [hrn] at hfr ⊢
          have HFR := Hid.mk hfr
          generalize r.hid = rh at *
          generalize r.name = rn at *
          obtain ⟨c0, c1, c2, c3, c4, c5, c6, c7, c8, -⟩ := cells9 ((hb5.block X (by omega)).trans HX1.out)
          obtain ⟨x0, x1, x2, x3, x4, x5, x6⟩ := cells6 ((hb5.block w.heap.size (by omega)).trans HT1.out)
          have hr := (hb5.block (w.heap.size + 1 + 1) (by omega)).trans HZ1.out
          obtain ⟨y0, y1, y2, y3, y4, y5, y6⟩ := cells6 hr
          have fr := frz hr
          have HB5 := Hid.mk hb5
          clear hr hb5 hfr hsz1 hrf HBA hrn
          go_wp2
          refine bodyPost_ret (v := .tuple #[.agg #[.int .i64 1, .int .i64 (n - 1), .bool rh, .string rn, .slice q1 q2 q3, .slice p1 p2 p3], .int .i64 0]) (by simp [results, Try.results59, go_sem, y0, y1, y2, y3, y4, y5, hzr]) rfl ⟨?_, ?_⟩
          · exact ((HK1.out.trans (Kept.of_below HB5.out)).old (Q := fun k => k = w.heap.size + 1 + 1) (keep6 rfl) (fun i h1 h2 => by omega)).alloc _
          · rw [hR.out]
            have hT : Fresh w5 W1.heap.size 0 (.agg #[.int .i64 1, .int .i64 (n - 1), .bool rh, .string rn, .slice q1 q2 q3, .slice p1 p2 p3]) (r.setN (n - 1)) := by
              rcases HFR.out with ⟨-, h⟩ | ⟨h, -⟩
              · exact Or.inl ⟨rfl, h.setN _⟩
              · omega
            refine ⟨⟨_, rfl, hT.fin (fun h => by omega) (by have := HSZ1.out; omega) (by have := HSZ1.out; omega), fun h => by omega⟩, ?_, by omega, by omega⟩
            exact alloc_old (((keep6 (P := fun k => k = w.heap.size + 1 + 1) rfl).block X hzX (by omega)).trans ((HB5.out.block X (by have := HSZ1.out; omega)).trans HX1.out)) _
        · have hR : Hid (R = .ok (s - 1, r)) := by unfold Hid; rw [HE.out, if_neg (fun h => HMISS.out h.2), if_neg hroom, if_neg (fun h => by have := h.2; omega)]
          clear HE HWK
          go_enter Try.func59, Try.ntmps59
          go_wp2_with fail
          obtain ⟨W1, hW1⟩ : ∃ W1, (((w.setCell ⟨X, 8, none⟩ (.int .i64 (s - 1))).alloc (.cells #[.int .i64 1, .int .i64 n, .bool hd, .string nm, .slice la l1 lc, .slice ka 0 kc] 25)).alloc (.cells #[.int .i64 b, .int .i64 p] 59)).alloc (.cells #[.int .i64 0, .int .i64 0, .bool false, .string { data := #[] }, .slice none 0 0, .slice none 0 0] 25) = W1 := ⟨_, rfl⟩
          have hsz : (w.setCell ⟨X, 8, none⟩ (.int .i64 (s - 1))).heap.size = w.heap.size := by simp [World.setCell]
          have hX1 : W1.heap[X]? = some (.cells #[.int .i64 at_, .int .i64 z0, .int .i64 z1, .bool z2, .string z3, .slice z4 z5 z6, .slice z7 z8 z9, .int .i64 size, .int .i64 (s - 1)] 82 (0, 0)) := by rw [← hW1]; exact alloc_old (alloc_old (alloc_old (set9 HXC.out) _) _) _
          have hK1 : Kept (· = X) w W1 := by rw [← hW1]; exact ((((Kept.refl (· = X) w).setCell (p := ⟨X, 8, none⟩) rfl _).alloc _).alloc _).alloc _
          have hS1 : W1.heap.size = w.heap.size + 1 + 1 + 1 := by rw [← hW1, sz3, hsz]
          have hT1 : W1.heap[w.heap.size]? = some (.cells #[.int .i64 1, .int .i64 n, .bool hd, .string nm, .slice la l1 lc, .slice ka 0 kc] 25 (0, 0)) := by rw [← hW1, ← hsz]; exact alloc_old box_at _
          have hP1 : W1.heap[w.heap.size + 1]? = some (.cells #[.int .i64 b, .int .i64 p] 59 (0, 0)) := by rw [← hW1, ← hsz]; exact on1
          have hZ1 : W1.heap[w.heap.size + 1 + 1]? = some (.cells #[.int .i64 0, .int .i64 0, .bool false, .string { data := #[] }, .slice none 0 0, .slice none 0 0] 25 (0, 0)) := by rw [← hW1, ← hsz]; exact on2
          rw [hW1]
          clear hW1 hsz
          have HX1 : Hid (W1.heap[X]? = some (.cells #[.int .i64 at_, .int .i64 z0, .int .i64 z1, .bool z2, .string z3, .slice z4 z5 z6, .slice z7 z8 z9, .int .i64 size, .int .i64 (s - 1)] 82 (0, 0))) := hX1
          have HK1 : Hid (Kept (· = X) w W1) := hK1
          have HSZ1 : Hid (W1.heap.size = w.heap.size + 1 + 1 + 1) := hS1
          have HT1 : Hid (W1.heap[w.heap.size]? = some (.cells #[.int .i64 1, .int .i64 n, .bool hd, .string nm, .slice la l1 lc, .slice ka 0 kc] 25 (0, 0))) := hT1
          have HP1 : Hid (W1.heap[w.heap.size + 1]? = some (.cells #[.int .i64 b, .int .i64 p] 59 (0, 0))) := hP1
          have HZ1 : Hid (W1.heap[w.heap.size + 1 + 1]? = some (.cells #[.int .i64 0, .int .i64 0, .bool false, .string { data := #[] }, .slice none 0 0, .slice none 0 0] 25 (0, 0))) := hZ1
          clear hX1 hK1 hS1 hT1 hP1 hZ1
          have HBW1 : Hid (RowKit.Below w0.heap.size w0 W1) := HBW.out.trans (HK1.out.below HBW.out.size (fun k hk => by rw [hk]; exact hX))
          refine (HBA W1 ?_).mono ?_
          · exact HTVW.out W1 HK1.out
          rintro e w5 ⟨v5, rfl, hfr, hb5⟩
          have hz5 := hb5.size
          have hsz1 := HSZ1.out
          have hzr : w.heap.size + 1 + 1 < w5.heap.size := by omega
          have hzt : w.heap.size < w5.heap.size := by omega
          have hzp : w.heap.size + 1 < w5.heap.size := by omega
          have hzX : X < w5.heap.size := by omega
          obtain ⟨q1, q2, q3, p1, p2, p3, rfl⟩ := hfr.shapeF
          have hrf := HBF.out
          rw [hrf] at hfr ⊢
          have hrn := HRN.out
          rw [hrn] at hfr ⊢
          have HFR := Hid.mk hfr
          generalize r.hid = rh at *
          generalize r.name = rn at *
          obtain ⟨c0, c1, c2, c3, c4, c5, c6, c7, c8, -⟩ := cells9 ((hb5.block X (by omega)).trans HX1.out)
          obtain ⟨x0, x1, x2, x3, x4, x5, x6⟩ := cells6 ((hb5.block w.heap.size (by omega)).trans HT1.out)
          have hr := (hb5.block (w.heap.size + 1 + 1) (by omega)).trans HZ1.out
          obtain ⟨y0, y1, y2, y3, y4, y5, y6⟩ := cells6 hr
          have fr := frz hr
          have HB5 := Hid.mk hb5
          clear hr hb5 hfr hsz1 hrf HBA hrn
          go_wp2
          refine bodyPost_ret (v := .tuple #[.agg #[.int .i64 1, .int .i64 n, .bool rh, .string rn, .slice q1 q2 q3, .slice p1 p2 p3], .int .i64 0]) (by simp [results, Try.results59, go_sem, y0, y1, y2, y3, y4, y5, hzr]) rfl ⟨?_, ?_⟩
          · exact ((HK1.out.trans (Kept.of_below HB5.out)).old (Q := fun k => k = w.heap.size + 1 + 1) (keep6 rfl) (fun i h1 h2 => by omega)).alloc _
          · rw [hR.out]
            refine ⟨⟨_, rfl, HFR.out.fin (fun _ => HBK.out) (by have := HSZ1.out; omega) (by have := HSZ1.out; omega), fun _ => HBK.out⟩, ?_, by omega, by omega⟩
            exact alloc_old (((keep6 (P := fun k => k = w.heap.size + 1 + 1) rfl).block X hzX (by omega)).trans ((HB5.out.block X (by have := HSZ1.out; omega)).trans HX1.out)) _
  · have hfb : (f == 1) = false := by simpa using hf
    have HNF := Hid.mk hf
    have HMISS : Hid (f ≠ 1) := hf
    clear hf HVAR HLF HBN
    by_cases hroom : s - 1 < 0
    · have hR : Hid (R = .error 2) := by unfold Hid; rw [HE.out, if_neg (fun h => HMISS.out h.1), if_pos hroom]
      clear HE HWK HBA
      go_enter Try.func59, Try.ntmps59
      go_wp2
      refine bodyPost_ret (v := .tuple #[zeroV, .int .i64 2]) (by simp [results, Try.results59, go_sem, zeroV]) rfl ⟨?_, ?_⟩
      · exact ((((Kept.refl (· = X) w).setCell (p := ⟨X, 8, none⟩) rfl _).alloc _).alloc _).alloc _
      · rw [hR.out]
        exact ⟨by decide, _, ⟨_, _, _, _, _, _, _, _, _, _, rfl⟩, rfl⟩
    · have hR : Hid (R = .ok (s - 1, r)) := by unfold Hid; rw [HE.out, if_neg (fun h => HMISS.out h.1), if_neg hroom, if_neg (fun h => HNF.out h.1)]
      clear HE HWK
      go_enter Try.func59, Try.ntmps59
      go_wp2_with fail
      obtain ⟨W1, hW1⟩ : ∃ W1, (((w.setCell ⟨X, 8, none⟩ (.int .i64 (s - 1))).alloc (.cells #[.int .i64 f, .int .i64 n, .bool hd, .string nm, .slice la l1 lc, .slice ka k1 kc] 25)).alloc (.cells #[.int .i64 b, .int .i64 p] 59)).alloc (.cells #[.int .i64 0, .int .i64 0, .bool false, .string { data := #[] }, .slice none 0 0, .slice none 0 0] 25) = W1 := ⟨_, rfl⟩
      have hsz : (w.setCell ⟨X, 8, none⟩ (.int .i64 (s - 1))).heap.size = w.heap.size := by simp [World.setCell]
      have hX1 : W1.heap[X]? = some (.cells #[.int .i64 at_, .int .i64 z0, .int .i64 z1, .bool z2, .string z3, .slice z4 z5 z6, .slice z7 z8 z9, .int .i64 size, .int .i64 (s - 1)] 82 (0, 0)) := by rw [← hW1]; exact alloc_old (alloc_old (alloc_old (set9 HXC.out) _) _) _
      have hK1 : Kept (· = X) w W1 := by rw [← hW1]; exact ((((Kept.refl (· = X) w).setCell (p := ⟨X, 8, none⟩) rfl _).alloc _).alloc _).alloc _
      have hS1 : W1.heap.size = w.heap.size + 1 + 1 + 1 := by rw [← hW1, sz3, hsz]
      have hT1 : W1.heap[w.heap.size]? = some (.cells #[.int .i64 f, .int .i64 n, .bool hd, .string nm, .slice la l1 lc, .slice ka k1 kc] 25 (0, 0)) := by rw [← hW1, ← hsz]; exact alloc_old box_at _
      have hP1 : W1.heap[w.heap.size + 1]? = some (.cells #[.int .i64 b, .int .i64 p] 59 (0, 0)) := by rw [← hW1, ← hsz]; exact on1
      have hZ1 : W1.heap[w.heap.size + 1 + 1]? = some (.cells #[.int .i64 0, .int .i64 0, .bool false, .string { data := #[] }, .slice none 0 0, .slice none 0 0] 25 (0, 0)) := by rw [← hW1, ← hsz]; exact on2
      rw [hW1]
      clear hW1 hsz
      have HX1 : Hid (W1.heap[X]? = some (.cells #[.int .i64 at_, .int .i64 z0, .int .i64 z1, .bool z2, .string z3, .slice z4 z5 z6, .slice z7 z8 z9, .int .i64 size, .int .i64 (s - 1)] 82 (0, 0))) := hX1
      have HK1 : Hid (Kept (· = X) w W1) := hK1
      have HSZ1 : Hid (W1.heap.size = w.heap.size + 1 + 1 + 1) := hS1
      have HT1 : Hid (W1.heap[w.heap.size]? = some (.cells #[.int .i64 f, .int .i64 n, .bool hd, .string nm, .slice la l1 lc, .slice ka k1 kc] 25 (0, 0))) := hT1
      have HP1 : Hid (W1.heap[w.heap.size + 1]? = some (.cells #[.int .i64 b, .int .i64 p] 59 (0, 0))) := hP1
      have HZ1 : Hid (W1.heap[w.heap.size + 1 + 1]? = some (.cells #[.int .i64 0, .int .i64 0, .bool false, .string { data := #[] }, .slice none 0 0, .slice none 0 0] 25 (0, 0))) := hZ1
      clear hX1 hK1 hS1 hT1 hP1 hZ1
      have HBW1 : Hid (RowKit.Below w0.heap.size w0 W1) := HBW.out.trans (HK1.out.below HBW.out.size (fun k hk => by rw [hk]; exact hX))
      refine (HBA W1 ?_).mono ?_
      · exact HTVW.out W1 HK1.out
      rintro e w5 ⟨v5, rfl, hfr, hb5⟩
      have hz5 := hb5.size
      have hsz1 := HSZ1.out
      have hzr : w.heap.size + 1 + 1 < w5.heap.size := by omega
      have hzt : w.heap.size < w5.heap.size := by omega
      have hzp : w.heap.size + 1 < w5.heap.size := by omega
      have hzX : X < w5.heap.size := by omega
      obtain ⟨q1, q2, q3, p1, p2, p3, rfl⟩ := hfr.shapeF
      have hrf := HBF.out
      rw [hrf] at hfr ⊢
      have HFR := Hid.mk hfr
      generalize r.hid = rh at *
      generalize r.name = rn at *
      generalize r.n = rnn at *
      obtain ⟨c0, c1, c2, c3, c4, c5, c6, c7, c8, -⟩ := cells9 ((hb5.block X (by omega)).trans HX1.out)
      obtain ⟨x0, x1, x2, x3, x4, x5, x6⟩ := cells6 ((hb5.block w.heap.size (by omega)).trans HT1.out)
      have hr := (hb5.block (w.heap.size + 1 + 1) (by omega)).trans HZ1.out
      obtain ⟨y0, y1, y2, y3, y4, y5, y6⟩ := cells6 hr
      have fr := frz hr
      have HB5 := Hid.mk hb5
      clear hr hb5 hfr hsz1 hrf HBA
      go_wp2
      refine bodyPost_ret (v := .tuple #[.agg #[.int .i64 f, .int .i64 rnn, .bool rh, .string rn, .slice q1 q2 q3, .slice p1 p2 p3], .int .i64 0]) (by simp [results, Try.results59, go_sem, y0, y1, y2, y3, y4, y5, hzr]) rfl ⟨?_, ?_⟩
      · exact ((HK1.out.trans (Kept.of_below HB5.out)).old (Q := fun k => k = w.heap.size + 1 + 1) (keep6 rfl) (fun i h1 h2 => by omega)).alloc _
      · rw [hR.out]
        refine ⟨⟨_, rfl, HFR.out.fin (fun _ => HBK.out) (by have := HSZ1.out; omega) (by have := HSZ1.out; omega), fun _ => HBK.out⟩, ?_, by omega, by omega⟩
        exact alloc_old (((keep6 (P := fun k => k = w.heap.size + 1 + 1) rfl).block X hzX (by omega)).trans ((HB5.out.block X (by have := HSZ1.out; omega)).trans HX1.out)) _
end Go.Proofs.Ytggiibkboblknaa
