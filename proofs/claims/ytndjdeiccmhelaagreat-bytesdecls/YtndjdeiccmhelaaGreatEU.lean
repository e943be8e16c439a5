/- The contract of the reader's term, whatever it reads. -/
import Derived.Test.YtndjdeiccmhelaaGreatET
namespace Go.Proofs.YtndjdeiccmhelaaGreat
open Go.RowKit Go.Sort Go.Lib

theorem lv_fin2 {w w3 w4 WF : World} {a : Option Addr} {cap : Nat} {ls : List LvT} (f : Int) (nm : ByteArray) (h : RowL w4 w3.heap.size (oldB w3) a cap ls) (hs : WF.heap.size = w4.heap.size) (hw : w.heap.size ≤ w3.heap.size) (hk : ∀ k, w3.heap.size ≤ k → WF.heap[k]? = w4.heap[k]?) (hnm : nm.size ≤ 1000000) (hl : ls.length ≤ 1000000) (hll : ∀ l ∈ ls, l.2.length ≤ 1000000) : TmQ w (.agg #[.int .i64 f, .int .i64 0, .bool false, .string nm, .slice a ls.length cap, .slice none 0 0]) WF :=
  ⟨_, ⟨_, _, _, _, _, _, _, _, _, _, rfl⟩, lv_fin f nm h hs hw hk, (smT_mk _ _ _ _ _ _ _).2 ⟨hnm, hl, hll, by simp, by simp⟩⟩

theorem kd_fin2 {w w3 w4 WF : World} {a : Option Addr} {cap n : Nat} {ts : List Tm} (f : Int) (hd : Bool) (h : RowF w4 w3.heap.size (oldB w3) a cap ts) (hn : ts.length = n) (hn3 : n ≤ 3) (hs : WF.heap.size = w4.heap.size) (hw : w.heap.size ≤ w3.heap.size) (hk : ∀ k, w3.heap.size ≤ k → WF.heap[k]? = w4.heap[k]?) (hsm : ∀ t ∈ ts, smT 1000000 t) : TmQ w (.agg #[.int .i64 f, .int .i64 0, .bool hd, .string { data := #[] }, .slice none 0 0, .slice a n cap]) WF := by
  have h1 := kd_fin (w := w) f hd h hs hw hk
  rw [hn] at h1
  exact ⟨_, ⟨_, _, _, _, _, _, _, _, _, _, rfl⟩, h1, (smT_mk _ _ _ _ _ _ _).2 ⟨by decide, by simp, by simp, by omega, hsm⟩⟩

theorem leaf_fin2 {w WF : World} (f n : Int) : TmQ w (.agg #[.int .i64 f, .int .i64 n, .bool false, .string { data := #[] }, .slice none 0 0, .slice none 0 0]) WF :=
  ⟨_, ⟨_, _, _, _, _, _, _, _, _, _, rfl⟩, TF.leaf f n false { data := #[] }, (smT_mk _ _ _ _ _ _ _).2 ⟨by decide, by simp, by simp, by simp, by simp⟩⟩

set_option maxRecDepth 100000 in
set_option maxHeartbeats 40000000 in
theorem term_step (N rb : Nat) (deep : Int) (hd0 : 0 ≤ deep) (hd5 : deep ≤ 1000) (HREC : deep + 1 ≤ 500 → RdAny N rb (deep + 1)) : RdAny N rb deep := by
  intro bs w hR hbl
  have hlR := hR.2.1
  have hrbN := hR.1
  obtain ⟨W0, hW0⟩ : ∃ W0, w.alloc (.cells #[.int .i64 0, .int .i64 0, .bool false, .string { data := #[] }, .slice none 0 0, .slice none 0 0] 38) = W0 := ⟨_, rfl⟩
  have hb : RowKit.Below w.heap.size w W0 := by rw [← hW0]; exact (Below.refl _ _).alloc (Nat.le_refl _) _
  have hX0 : W0.heap[w.heap.size]? = some (.cells #[.int .i64 0, .int .i64 0, .bool false, .string { data := #[] }, .slice none 0 0, .slice none 0 0] 38 (0, 0)) := by rw [← hW0]; exact alloc_new _ _
  have hR0 := hR.on hb
  obtain ⟨z1, zf⟩ := hR0.deepAt
  obtain ⟨W1, hW1⟩ : ∃ W1, W0.setCell ⟨rb, 1, none⟩ (.int .i64 (deep + 1)) = W1 := ⟨_, rfl⟩
  have hR1 := hR0.setDeep (deep + 1)
  rw [hW1] at hR1
  have hk01 : Kept (fun k => k = rb) W0 W1 := by rw [← hW1]; exact (Kept.refl (fun k => k = rb) W0).setCell (p := ⟨rb, 1, none⟩) rfl _
  have HK1 : Hid (Kept (fun k => k = rb) w W1) := (Kept.of_below hb).trans hk01
  have HX1 : Hid (W1.heap[w.heap.size]? = some (.cells #[.int .i64 0, .int .i64 0, .bool false, .string { data := #[] }, .slice none 0 0, .slice none 0 0] 38 (0, 0))) := box6 hX0 hk01 (by omega)
  obtain ⟨d1, df⟩ := hR1.deepAt
  have HC := number_all N rb bs (deep + 1) W1 hR1
  have HG := giveUp_any W1
  have HW0 := Hid.mk hW0
  have HW1 := Hid.mk hW1
  have hlt0 : rb < W0.heap.size := hR0.lt
  have hlt1 : rb < W1.heap.size := hR1.lt
  clear hR hb hX0 hR0 hR1 hk01 hW0 hW1
  by_cases h500 : (500 : Int) < deep + 1
  · go_enter Tryz.func104, Tryz.ntmps104
    go_wp2_with (first | rw [HW0.out] | rw [HW1.out] | fail)
    (try rw [HW0.out])
    (try rw [HW1.out])
    refine HG.mono ?_
    rintro e w2 ⟨rfl, rfl⟩
    exact ⟨rfl, Or.inr ⟨rfl, HK1.out⟩⟩
  have HRE := HREC (by omega)
  clear HREC HG
  go_enter Tryz.func104, Tryz.ntmps104
  go_wp2_with (first | rw [HW0.out] | rw [HW1.out] | fail)
  (try rw [HW0.out])
  (try rw [HW1.out])
  refine HC.mono ?_
  rintro e w2 (⟨v2, bs2, rfl, ⟨m, hm, rfl⟩, hR2, hl2, hk2⟩ | ⟨rfl, hk2⟩)
  rotate_left
  · exact ⟨rfl, Or.inr ⟨rfl, HK1.out.trans hk2⟩⟩
  have HK2 : Hid (Kept (fun k => k = rb) w w2) := HK1.out.trans hk2
  have hX2 := box6 HX1.out hk2 (by omega)
  have HX2 := Hid.mk hX2
  have HR2 := Hid.mk hR2
  have hwR : w.heap.size < w2.heap.size := heap_lt hX2
  have hTrb : w2.heap.size ≠ rb := by omega
  have hRrb : w.heap.size ≠ rb := by omega
  have hTR : w2.heap.size ≠ w.heap.size := by omega
  have hTrb' := hTrb.symm
  have hRrb' := hRrb.symm
  have hTR' := hTR.symm
  have hl2' : bs2.length + 1 ≤ bs.length := hl2
  clear hR2 hk2 hX2 HC z1 zf d1 df HX1 HK1 hl2 HW0 HW1
  obtain ⟨f, hf⟩ : ∃ f : Int, (m : Int) = f := ⟨_, rfl⟩
  rw [hf]
  clear hf hm
  rcases (show f = 1 ∨ f = 2 ∨ f = 3 ∨ f = 4 ∨ f = 5 ∨ f = 6 ∨ f = 7 ∨ f = 8 ∨ f = 9 ∨ f = 10 ∨ f = 11 ∨ ((f == 1) = false ∧ (f == 2) = false ∧ (f == 3) = false ∧ (f == 4) = false ∧ (f == 5) = false ∧ (f == 6) = false ∧ (f == 7) = false ∧ (f == 8) = false ∧ (f == 9) = false ∧ (f == 10) = false ∧ (f == 11) = false) by simp only [beq_eq_false_iff_ne]; omega) with rfl | rfl | rfl | rfl | rfl | rfl | rfl | rfl | rfl | rfl | rfl | ⟨e1, e2, e3, e4, e5, e6, e7, e8, e9, e10, e11⟩
  · obtain ⟨W3, hW3⟩ : ∃ W3, w2.alloc (.cells #[.int .i64 1, .int .i64 0, .bool false, .string { data := #[] }, .slice none 0 0, .slice none 0 0] 38) = W3 := ⟨_, rfl⟩
    have hb3 : RowKit.Below w2.heap.size w2 W3 := by rw [← hW3]; exact (Below.refl _ _).alloc (Nat.le_refl _) _
    have HT3 : Hid (W3.heap[w2.heap.size]? = some (.cells #[.int .i64 1, .int .i64 0, .bool false, .string { data := #[] }, .slice none 0 0, .slice none 0 0] 38 (0, 0))) := by unfold Hid; rw [← hW3]; exact alloc_new _ _
    have HX3 : Hid (W3.heap[w.heap.size]? = some (.cells #[.int .i64 0, .int .i64 0, .bool false, .string { data := #[] }, .slice none 0 0, .slice none 0 0] 38 (0, 0))) := (hb3.block _ (heap_lt HX2.out)).trans HX2.out
    have HR3 := Hid.mk (HR2.out.on hb3)
    have HK3 : Hid (Kept (fun k => k = rb) w W3) := HK2.out.trans (Kept.of_below hb3)
    have HW3 := Hid.mk hW3
    clear hb3 hW3 HR2 HK2 HX2
    obtain ⟨t0, t1, t2, t3, t4, t5, t6⟩ := cells6 HT3.out
    have HC3 := number_all N rb bs2 (deep + 1) W3 HR3.out
    go_wp2_with fail
    (try rw [HW3.out])
    refine HC3.mono ?_
    rintro e w4 (⟨v4, bs4, rfl, ⟨m4, hm4, rfl⟩, hR4, hl4, hk4⟩ | ⟨rfl, hkp⟩)
    rotate_left
    · exact ⟨rfl, Or.inr ⟨rfl, HK3.out.trans hkp⟩⟩
    clear t0 t1 t2 t3 t4 t5 t6 HC3
    have HR4 := Hid.mk hR4
    have HK4 : Hid (Kept (fun k => k = rb) w w4) := HK3.out.trans hk4
    have HT4 := Hid.mk (box6 HT3.out hk4 hTrb)
    have HX4 := Hid.mk (box6 HX3.out hk4 hRrb)
    obtain ⟨t0, t1, t2, t3, t4, t5, t6⟩ := cells6 HT4.out
    have tf := frz6 HT4.out
    obtain ⟨y0, y1, y2, y3, y4, y5, y6⟩ := cells6 HX4.out
    have yf := frz6 HX4.out
    obtain ⟨d1, df⟩ := HR4.out.deepAt
    have dl : rb < w4.heap.size := HR4.out.lt
    clear hR4 hk4
    go_wp2
    refine bodyPost_ret (v := .agg #[.int .i64 1, .int .i64 m4, .bool false, .string { data := #[] }, .slice none 0 0, .slice none 0 0]) (by simp [results, Tryz.results104, go_sem, y0, y1, y2, y3, y4, y5]) rfl (Or.inl ⟨_, bs4, rfl, ?_, ?_, by omega, ?_⟩)
    · exact leaf_fin2 1 _
    · exact fin_rd (HR4.out.setNew (p := ⟨w2.heap.size, 1, none⟩) (by simp only; omega) _) hlR
    · exact fin_kept (HK4.out.setNew (p := ⟨w2.heap.size, 1, none⟩) (by simp only; omega) _) (Nat.le_refl _)
  · obtain ⟨W3, hW3⟩ : ∃ W3, w2.alloc (.cells #[.int .i64 2, .int .i64 0, .bool false, .string { data := #[] }, .slice none 0 0, .slice none 0 0] 38) = W3 := ⟨_, rfl⟩
    have hb3 : RowKit.Below w2.heap.size w2 W3 := by rw [← hW3]; exact (Below.refl _ _).alloc (Nat.le_refl _) _
    have HT3 : Hid (W3.heap[w2.heap.size]? = some (.cells #[.int .i64 2, .int .i64 0, .bool false, .string { data := #[] }, .slice none 0 0, .slice none 0 0] 38 (0, 0))) := by unfold Hid; rw [← hW3]; exact alloc_new _ _
    have HX3 : Hid (W3.heap[w.heap.size]? = some (.cells #[.int .i64 0, .int .i64 0, .bool false, .string { data := #[] }, .slice none 0 0, .slice none 0 0] 38 (0, 0))) := (hb3.block _ (heap_lt HX2.out)).trans HX2.out
    have HR3 := Hid.mk (HR2.out.on hb3)
    have HK3 : Hid (Kept (fun k => k = rb) w W3) := HK2.out.trans (Kept.of_below hb3)
    have HW3 := Hid.mk hW3
    clear hb3 hW3 HR2 HK2 HX2
    obtain ⟨t0, t1, t2, t3, t4, t5, t6⟩ := cells6 HT3.out
    have HC3 := severalL_all N rb 1 bs2 (deep + 1) W3 HR3.out (by omega) (by omega)
    go_wp2_with fail
    (try rw [HW3.out])
    refine HC3.mono ?_
    rintro e w4 (⟨v4, bs4, rfl, ⟨ls, la, lc, rfl, hrow, hll, hlx⟩, hR4, hl4, hk4⟩ | ⟨rfl, hkp⟩)
    rotate_left
    · exact ⟨rfl, Or.inr ⟨rfl, HK3.out.trans hkp⟩⟩
    have HROW := Hid.mk hrow
    have HLX : Hid (∀ l ∈ ls, l.2.length ≤ 1000000) := fun l hl => by have := hlx l hl; omega
    have hs4 := hk4.size
    clear t0 t1 t2 t3 t4 t5 HC3 hrow hlx
    have HR4 := Hid.mk hR4
    have HK4 : Hid (Kept (fun k => k = rb) w w4) := HK3.out.trans hk4
    have HT4 := Hid.mk (box6 HT3.out hk4 hTrb)
    have HX4 := Hid.mk (box6 HX3.out hk4 hRrb)
    obtain ⟨t0, t1, t2, t3, t4, t5, t6⟩ := cells6 HT4.out
    have tf := frz6 HT4.out
    obtain ⟨y0, y1, y2, y3, y4, y5, y6⟩ := cells6 HX4.out
    have yf := frz6 HX4.out
    obtain ⟨d1, df⟩ := HR4.out.deepAt
    have dl : rb < w4.heap.size := HR4.out.lt
    clear hR4 hk4
    go_wp2
    refine bodyPost_ret (v := .agg #[.int .i64 2, .int .i64 0, .bool false, .string { data := #[] }, .slice la ls.length lc, .slice none 0 0]) (by simp [results, Tryz.results104, go_sem, y0, y1, y2, y3, y4, y5]) rfl (Or.inl ⟨_, bs4, rfl, ?_, ?_, by omega, ?_⟩)
    · exact lv_fin2 (w3 := W3) (w4 := w4) 2 _ HROW.out (fin_size.trans (by simp [World.setCell])) (by omega) (fun k hk => (fin_block (by omega) (by omega)).trans (Below.heap_setCell _ _ _ _ (by simp only; omega))) (by decide) (by omega) HLX.out
    · exact fin_rd (HR4.out.setNew (p := ⟨w2.heap.size, 4, none⟩) (by simp only; omega) _) hlR
    · exact fin_kept (HK4.out.setNew (p := ⟨w2.heap.size, 4, none⟩) (by simp only; omega) _) (Nat.le_refl _)
  · obtain ⟨W3, hW3⟩ : ∃ W3, w2.alloc (.cells #[.int .i64 3, .int .i64 0, .bool false, .string { data := #[] }, .slice none 0 0, .slice none 0 0] 38) = W3 := ⟨_, rfl⟩
    have hb3 : RowKit.Below w2.heap.size w2 W3 := by rw [← hW3]; exact (Below.refl _ _).alloc (Nat.le_refl _) _
    have HT3 : Hid (W3.heap[w2.heap.size]? = some (.cells #[.int .i64 3, .int .i64 0, .bool false, .string { data := #[] }, .slice none 0 0, .slice none 0 0] 38 (0, 0))) := by unfold Hid; rw [← hW3]; exact alloc_new _ _
    have HX3 : Hid (W3.heap[w.heap.size]? = some (.cells #[.int .i64 0, .int .i64 0, .bool false, .string { data := #[] }, .slice none 0 0, .slice none 0 0] 38 (0, 0))) := (hb3.block _ (heap_lt HX2.out)).trans HX2.out
    have HR3 := Hid.mk (HR2.out.on hb3)
    have HK3 : Hid (Kept (fun k => k = rb) w W3) := HK2.out.trans (Kept.of_below hb3)
    have HW3 := Hid.mk hW3
    clear hb3 hW3 HR2 HK2 HX2
    obtain ⟨t0, t1, t2, t3, t4, t5, t6⟩ := cells6 HT3.out
    have HC3 := flag_all N rb bs2 (deep + 1) W3 HR3.out
    go_wp2_with fail
    (try rw [HW3.out])
    refine HC3.mono ?_
    rintro e w4 (⟨v4, bs4, rfl, ⟨hd, rfl⟩, hR4, hl4, hk4⟩ | ⟨rfl, hkp⟩)
    rotate_left
    · exact ⟨rfl, Or.inr ⟨rfl, HK3.out.trans hkp⟩⟩
    clear t0 t1 t2 t3 t4 t5 t6 HC3
    have HR4 := Hid.mk hR4
    have HK4 : Hid (Kept (fun k => k = rb) w w4) := HK3.out.trans hk4
    have HT4 := Hid.mk (box6 HT3.out hk4 hTrb)
    have HX4 := Hid.mk (box6 HX3.out hk4 hRrb)
    obtain ⟨t0, t1, t2, t3, t4, t5, t6⟩ := cells6 HT4.out
    have tf := frz6 HT4.out
    obtain ⟨y0, y1, y2, y3, y4, y5, y6⟩ := cells6 HX4.out
    have yf := frz6 HX4.out
    obtain ⟨d1, df⟩ := HR4.out.deepAt
    have dl : rb < w4.heap.size := HR4.out.lt
    clear hR4 hk4
    obtain ⟨W5, hW5⟩ : ∃ W5, w4.setCell ⟨w2.heap.size, 2, none⟩ (.bool hd) = W5 := ⟨_, rfl⟩
    have hR5 := HR4.out.setNew (p := ⟨w2.heap.size, 2, none⟩) (by simp only; omega) (.bool hd)
    have hK5 := HK4.out.setNew (p := ⟨w2.heap.size, 2, none⟩) (by simp only; omega) (.bool hd)
    rw [hW5] at hR5 hK5
    have HT5 : Hid (W5.heap[w2.heap.size]? = some (.cells #[.int .i64 3, .int .i64 0, .bool hd, .string { data := #[] }, .slice none 0 0, .slice none 0 0] 38 (0, 0))) := by
      unfold Hid; rw [← hW5, setCell_eq]; show (w4.heap.modify w2.heap.size _)[w2.heap.size]? = _
      rw [Array.getElem?_modify, if_pos rfl, HT4.out]; rfl
    have HX5 : Hid (W5.heap[w.heap.size]? = some (.cells #[.int .i64 0, .int .i64 0, .bool false, .string { data := #[] }, .slice none 0 0, .slice none 0 0] 38 (0, 0))) := by unfold Hid; rw [← hW5]; exact (Below.heap_setCell _ _ _ _ hTR').trans HX4.out
    have HR5 := Hid.mk hR5
    have HK5 := Hid.mk hK5
    have HW5 := Hid.mk hW5
    have hT5 : w2.heap.size < W5.heap.size := heap_lt HT5.out
    clear hW5 hR5 hK5
    have HC5 := severalT_all N rb 2 bs4 (deep + 1) W5 HR5.out (by omega) (by omega) HRE
    go_wp2_with fail
    (try rw [HW5.out])
    refine HC5.mono ?_
    rintro e w6 (⟨v6, bs6, rfl, ⟨ts, ka, kc, rfl, htn, hrow, hsm⟩, hR6, hl6, hk6⟩ | ⟨rfl, hkp⟩)
    rotate_left
    · exact ⟨rfl, Or.inr ⟨rfl, HK5.out.trans hkp⟩⟩
    have HROW := Hid.mk hrow
    have HTN := Hid.mk htn
    have HSM := Hid.mk hsm
    have hs6 := hk6.size
    clear HC5 hrow htn hsm
    clear t0 t1 t2 t3 t4 t5 t6 tf y0 y1 y2 y3 y4 y5 y6 yf d1 df dl
    have HR6 := Hid.mk hR6
    have HK6 : Hid (Kept (fun k => k = rb) w w6) := HK5.out.trans hk6
    have HT6 := Hid.mk (box6 HT5.out hk6 hTrb)
    have HX6 := Hid.mk (box6 HX5.out hk6 hRrb)
    obtain ⟨t0, t1, t2, t3, t4, t5, t6⟩ := cells6 HT6.out
    have tf := frz6 HT6.out
    obtain ⟨y0, y1, y2, y3, y4, y5, y6⟩ := cells6 HX6.out
    have yf := frz6 HX6.out
    obtain ⟨d1, df⟩ := HR6.out.deepAt
    have dl : rb < w6.heap.size := HR6.out.lt
    clear hR6 hk6
    go_wp2
    refine bodyPost_ret (v := .agg #[.int .i64 3, .int .i64 0, .bool hd, .string { data := #[] }, .slice none 0 0, .slice ka 2 kc]) (by simp [results, Tryz.results104, go_sem, y0, y1, y2, y3, y4, y5]) rfl (Or.inl ⟨_, bs6, rfl, ?_, ?_, by omega, ?_⟩)
    · exact kd_fin2 (w3 := W5) (w4 := w6) 3 hd HROW.out HTN.out (by omega) (fin_size.trans (by simp [World.setCell])) (by omega) (fun k hk => (fin_block (by omega) (by omega)).trans (Below.heap_setCell _ _ _ _ (by simp only; omega))) HSM.out
    · exact fin_rd (HR6.out.setNew (p := ⟨w2.heap.size, 5, none⟩) (by simp only; omega) _) hlR
    · exact fin_kept (HK6.out.setNew (p := ⟨w2.heap.size, 5, none⟩) (by simp only; omega) _) (Nat.le_refl _)
  · obtain ⟨W3, hW3⟩ : ∃ W3, w2.alloc (.cells #[.int .i64 4, .int .i64 0, .bool false, .string { data := #[] }, .slice none 0 0, .slice none 0 0] 38) = W3 := ⟨_, rfl⟩
    have hb3 : RowKit.Below w2.heap.size w2 W3 := by rw [← hW3]; exact (Below.refl _ _).alloc (Nat.le_refl _) _
    have HT3 : Hid (W3.heap[w2.heap.size]? = some (.cells #[.int .i64 4, .int .i64 0, .bool false, .string { data := #[] }, .slice none 0 0, .slice none 0 0] 38 (0, 0))) := by unfold Hid; rw [← hW3]; exact alloc_new _ _
    have HX3 : Hid (W3.heap[w.heap.size]? = some (.cells #[.int .i64 0, .int .i64 0, .bool false, .string { data := #[] }, .slice none 0 0, .slice none 0 0] 38 (0, 0))) := (hb3.block _ (heap_lt HX2.out)).trans HX2.out
    have HR3 := Hid.mk (HR2.out.on hb3)
    have HK3 : Hid (Kept (fun k => k = rb) w W3) := HK2.out.trans (Kept.of_below hb3)
    have HW3 := Hid.mk hW3
    clear hb3 hW3 HR2 HK2 HX2
    obtain ⟨t0, t1, t2, t3, t4, t5, t6⟩ := cells6 HT3.out
    have HC3 := flag_all N rb bs2 (deep + 1) W3 HR3.out
    go_wp2_with fail
    (try rw [HW3.out])
    refine HC3.mono ?_
    rintro e w4 (⟨v4, bs4, rfl, ⟨hd, rfl⟩, hR4, hl4, hk4⟩ | ⟨rfl, hkp⟩)
    rotate_left
    · exact ⟨rfl, Or.inr ⟨rfl, HK3.out.trans hkp⟩⟩
    clear t0 t1 t2 t3 t4 t5 t6 HC3
    have HR4 := Hid.mk hR4
    have HK4 : Hid (Kept (fun k => k = rb) w w4) := HK3.out.trans hk4
    have HT4 := Hid.mk (box6 HT3.out hk4 hTrb)
    have HX4 := Hid.mk (box6 HX3.out hk4 hRrb)
    obtain ⟨t0, t1, t2, t3, t4, t5, t6⟩ := cells6 HT4.out
    have tf := frz6 HT4.out
    obtain ⟨y0, y1, y2, y3, y4, y5, y6⟩ := cells6 HX4.out
    have yf := frz6 HX4.out
    obtain ⟨d1, df⟩ := HR4.out.deepAt
    have dl : rb < w4.heap.size := HR4.out.lt
    clear hR4 hk4
    obtain ⟨W5, hW5⟩ : ∃ W5, w4.setCell ⟨w2.heap.size, 2, none⟩ (.bool hd) = W5 := ⟨_, rfl⟩
    have hR5 := HR4.out.setNew (p := ⟨w2.heap.size, 2, none⟩) (by simp only; omega) (.bool hd)
    have hK5 := HK4.out.setNew (p := ⟨w2.heap.size, 2, none⟩) (by simp only; omega) (.bool hd)
    rw [hW5] at hR5 hK5
    have HT5 : Hid (W5.heap[w2.heap.size]? = some (.cells #[.int .i64 4, .int .i64 0, .bool hd, .string { data := #[] }, .slice none 0 0, .slice none 0 0] 38 (0, 0))) := by
      unfold Hid; rw [← hW5, setCell_eq]; show (w4.heap.modify w2.heap.size _)[w2.heap.size]? = _
      rw [Array.getElem?_modify, if_pos rfl, HT4.out]; rfl
    have HX5 : Hid (W5.heap[w.heap.size]? = some (.cells #[.int .i64 0, .int .i64 0, .bool false, .string { data := #[] }, .slice none 0 0, .slice none 0 0] 38 (0, 0))) := by unfold Hid; rw [← hW5]; exact (Below.heap_setCell _ _ _ _ hTR').trans HX4.out
    have HR5 := Hid.mk hR5
    have HK5 := Hid.mk hK5
    have HW5 := Hid.mk hW5
    have hT5 : w2.heap.size < W5.heap.size := heap_lt HT5.out
    clear hW5 hR5 hK5
    have HC5 := severalT_all N rb 2 bs4 (deep + 1) W5 HR5.out (by omega) (by omega) HRE
    go_wp2_with fail
    (try rw [HW5.out])
    refine HC5.mono ?_
    rintro e w6 (⟨v6, bs6, rfl, ⟨ts, ka, kc, rfl, htn, hrow, hsm⟩, hR6, hl6, hk6⟩ | ⟨rfl, hkp⟩)
    rotate_left
    · exact ⟨rfl, Or.inr ⟨rfl, HK5.out.trans hkp⟩⟩
    have HROW := Hid.mk hrow
    have HTN := Hid.mk htn
    have HSM := Hid.mk hsm
    have hs6 := hk6.size
    clear HC5 hrow htn hsm
    clear t0 t1 t2 t3 t4 t5 t6 tf y0 y1 y2 y3 y4 y5 y6 yf d1 df dl
    have HR6 := Hid.mk hR6
    have HK6 : Hid (Kept (fun k => k = rb) w w6) := HK5.out.trans hk6
    have HT6 := Hid.mk (box6 HT5.out hk6 hTrb)
    have HX6 := Hid.mk (box6 HX5.out hk6 hRrb)
    obtain ⟨t0, t1, t2, t3, t4, t5, t6⟩ := cells6 HT6.out
    have tf := frz6 HT6.out
    obtain ⟨y0, y1, y2, y3, y4, y5, y6⟩ := cells6 HX6.out
    have yf := frz6 HX6.out
    obtain ⟨d1, df⟩ := HR6.out.deepAt
    have dl : rb < w6.heap.size := HR6.out.lt
    clear hR6 hk6
    go_wp2
    refine bodyPost_ret (v := .agg #[.int .i64 4, .int .i64 0, .bool hd, .string { data := #[] }, .slice none 0 0, .slice ka 2 kc]) (by simp [results, Tryz.results104, go_sem, y0, y1, y2, y3, y4, y5]) rfl (Or.inl ⟨_, bs6, rfl, ?_, ?_, by omega, ?_⟩)
    · exact kd_fin2 (w3 := W5) (w4 := w6) 4 hd HROW.out HTN.out (by omega) (fin_size.trans (by simp [World.setCell])) (by omega) (fun k hk => (fin_block (by omega) (by omega)).trans (Below.heap_setCell _ _ _ _ (by simp only; omega))) HSM.out
    · exact fin_rd (HR6.out.setNew (p := ⟨w2.heap.size, 5, none⟩) (by simp only; omega) _) hlR
    · exact fin_kept (HK6.out.setNew (p := ⟨w2.heap.size, 5, none⟩) (by simp only; omega) _) (Nat.le_refl _)
  · obtain ⟨W3, hW3⟩ : ∃ W3, w2.alloc (.cells #[.int .i64 5, .int .i64 0, .bool false, .string { data := #[] }, .slice none 0 0, .slice none 0 0] 38) = W3 := ⟨_, rfl⟩
    have hb3 : RowKit.Below w2.heap.size w2 W3 := by rw [← hW3]; exact (Below.refl _ _).alloc (Nat.le_refl _) _
    have HT3 : Hid (W3.heap[w2.heap.size]? = some (.cells #[.int .i64 5, .int .i64 0, .bool false, .string { data := #[] }, .slice none 0 0, .slice none 0 0] 38 (0, 0))) := by unfold Hid; rw [← hW3]; exact alloc_new _ _
    have HX3 : Hid (W3.heap[w.heap.size]? = some (.cells #[.int .i64 0, .int .i64 0, .bool false, .string { data := #[] }, .slice none 0 0, .slice none 0 0] 38 (0, 0))) := (hb3.block _ (heap_lt HX2.out)).trans HX2.out
    have HR3 := Hid.mk (HR2.out.on hb3)
    have HK3 : Hid (Kept (fun k => k = rb) w W3) := HK2.out.trans (Kept.of_below hb3)
    have HW3 := Hid.mk hW3
    clear hb3 hW3 HR2 HK2 HX2
    obtain ⟨t0, t1, t2, t3, t4, t5, t6⟩ := cells6 HT3.out
    have HC3 := flag_all N rb bs2 (deep + 1) W3 HR3.out
    go_wp2_with fail
    (try rw [HW3.out])
    refine HC3.mono ?_
    rintro e w4 (⟨v4, bs4, rfl, ⟨hd, rfl⟩, hR4, hl4, hk4⟩ | ⟨rfl, hkp⟩)
    rotate_left
    · exact ⟨rfl, Or.inr ⟨rfl, HK3.out.trans hkp⟩⟩
    clear t0 t1 t2 t3 t4 t5 t6 HC3
    have HR4 := Hid.mk hR4
    have HK4 : Hid (Kept (fun k => k = rb) w w4) := HK3.out.trans hk4
    have HT4 := Hid.mk (box6 HT3.out hk4 hTrb)
    have HX4 := Hid.mk (box6 HX3.out hk4 hRrb)
    obtain ⟨t0, t1, t2, t3, t4, t5, t6⟩ := cells6 HT4.out
    have tf := frz6 HT4.out
    obtain ⟨y0, y1, y2, y3, y4, y5, y6⟩ := cells6 HX4.out
    have yf := frz6 HX4.out
    obtain ⟨d1, df⟩ := HR4.out.deepAt
    have dl : rb < w4.heap.size := HR4.out.lt
    clear hR4 hk4
    obtain ⟨W5, hW5⟩ : ∃ W5, w4.setCell ⟨w2.heap.size, 2, none⟩ (.bool hd) = W5 := ⟨_, rfl⟩
    have hR5 := HR4.out.setNew (p := ⟨w2.heap.size, 2, none⟩) (by simp only; omega) (.bool hd)
    have hK5 := HK4.out.setNew (p := ⟨w2.heap.size, 2, none⟩) (by simp only; omega) (.bool hd)
    rw [hW5] at hR5 hK5
    have HT5 : Hid (W5.heap[w2.heap.size]? = some (.cells #[.int .i64 5, .int .i64 0, .bool hd, .string { data := #[] }, .slice none 0 0, .slice none 0 0] 38 (0, 0))) := by
      unfold Hid; rw [← hW5, setCell_eq]; show (w4.heap.modify w2.heap.size _)[w2.heap.size]? = _
      rw [Array.getElem?_modify, if_pos rfl, HT4.out]; rfl
    have HX5 : Hid (W5.heap[w.heap.size]? = some (.cells #[.int .i64 0, .int .i64 0, .bool false, .string { data := #[] }, .slice none 0 0, .slice none 0 0] 38 (0, 0))) := by unfold Hid; rw [← hW5]; exact (Below.heap_setCell _ _ _ _ hTR').trans HX4.out
    have HR5 := Hid.mk hR5
    have HK5 := Hid.mk hK5
    have HW5 := Hid.mk hW5
    have hT5 : w2.heap.size < W5.heap.size := heap_lt HT5.out
    clear hW5 hR5 hK5
    have HC5 := severalT_all N rb 2 bs4 (deep + 1) W5 HR5.out (by omega) (by omega) HRE
    go_wp2_with fail
    (try rw [HW5.out])
    refine HC5.mono ?_
    rintro e w6 (⟨v6, bs6, rfl, ⟨ts, ka, kc, rfl, htn, hrow, hsm⟩, hR6, hl6, hk6⟩ | ⟨rfl, hkp⟩)
    rotate_left
    · exact ⟨rfl, Or.inr ⟨rfl, HK5.out.trans hkp⟩⟩
    have HROW := Hid.mk hrow
    have HTN := Hid.mk htn
    have HSM := Hid.mk hsm
    have hs6 := hk6.size
    clear HC5 hrow htn hsm
    clear t0 t1 t2 t3 t4 t5 t6 tf y0 y1 y2 y3 y4 y5 y6 yf d1 df dl
    have HR6 := Hid.mk hR6
    have HK6 : Hid (Kept (fun k => k = rb) w w6) := HK5.out.trans hk6
    have HT6 := Hid.mk (box6 HT5.out hk6 hTrb)
    have HX6 := Hid.mk (box6 HX5.out hk6 hRrb)
    obtain ⟨t0, t1, t2, t3, t4, t5, t6⟩ := cells6 HT6.out
    have tf := frz6 HT6.out
    obtain ⟨y0, y1, y2, y3, y4, y5, y6⟩ := cells6 HX6.out
    have yf := frz6 HX6.out
    obtain ⟨d1, df⟩ := HR6.out.deepAt
    have dl : rb < w6.heap.size := HR6.out.lt
    clear hR6 hk6
    go_wp2
    refine bodyPost_ret (v := .agg #[.int .i64 5, .int .i64 0, .bool hd, .string { data := #[] }, .slice none 0 0, .slice ka 2 kc]) (by simp [results, Tryz.results104, go_sem, y0, y1, y2, y3, y4, y5]) rfl (Or.inl ⟨_, bs6, rfl, ?_, ?_, by omega, ?_⟩)
    · exact kd_fin2 (w3 := W5) (w4 := w6) 5 hd HROW.out HTN.out (by omega) (fin_size.trans (by simp [World.setCell])) (by omega) (fun k hk => (fin_block (by omega) (by omega)).trans (Below.heap_setCell _ _ _ _ (by simp only; omega))) HSM.out
    · exact fin_rd (HR6.out.setNew (p := ⟨w2.heap.size, 5, none⟩) (by simp only; omega) _) hlR
    · exact fin_kept (HK6.out.setNew (p := ⟨w2.heap.size, 5, none⟩) (by simp only; omega) _) (Nat.le_refl _)
  · obtain ⟨W3, hW3⟩ : ∃ W3, w2.alloc (.cells #[.int .i64 6, .int .i64 0, .bool false, .string { data := #[] }, .slice none 0 0, .slice none 0 0] 38) = W3 := ⟨_, rfl⟩
    have hb3 : RowKit.Below w2.heap.size w2 W3 := by rw [← hW3]; exact (Below.refl _ _).alloc (Nat.le_refl _) _
    have HT3 : Hid (W3.heap[w2.heap.size]? = some (.cells #[.int .i64 6, .int .i64 0, .bool false, .string { data := #[] }, .slice none 0 0, .slice none 0 0] 38 (0, 0))) := by unfold Hid; rw [← hW3]; exact alloc_new _ _
    have HX3 : Hid (W3.heap[w.heap.size]? = some (.cells #[.int .i64 0, .int .i64 0, .bool false, .string { data := #[] }, .slice none 0 0, .slice none 0 0] 38 (0, 0))) := (hb3.block _ (heap_lt HX2.out)).trans HX2.out
    have HR3 := Hid.mk (HR2.out.on hb3)
    have HK3 : Hid (Kept (fun k => k = rb) w W3) := HK2.out.trans (Kept.of_below hb3)
    have HW3 := Hid.mk hW3
    clear hb3 hW3 HR2 HK2 HX2
    obtain ⟨t0, t1, t2, t3, t4, t5, t6⟩ := cells6 HT3.out
    have HC3 := severalT_all N rb 2 bs2 (deep + 1) W3 HR3.out (by omega) (by omega) HRE
    go_wp2_with fail
    (try rw [HW3.out])
    refine HC3.mono ?_
    rintro e w4 (⟨v4, bs4, rfl, ⟨ts, ka, kc, rfl, htn, hrow, hsm⟩, hR4, hl4, hk4⟩ | ⟨rfl, hkp⟩)
    rotate_left
    · exact ⟨rfl, Or.inr ⟨rfl, HK3.out.trans hkp⟩⟩
    have HROW := Hid.mk hrow
    have HTN := Hid.mk htn
    have HSM := Hid.mk hsm
    have hs4 := hk4.size
    clear t0 t1 t2 t3 t4 t5 HC3 hrow htn hsm
    have HR4 := Hid.mk hR4
    have HK4 : Hid (Kept (fun k => k = rb) w w4) := HK3.out.trans hk4
    have HT4 := Hid.mk (box6 HT3.out hk4 hTrb)
    have HX4 := Hid.mk (box6 HX3.out hk4 hRrb)
    obtain ⟨t0, t1, t2, t3, t4, t5, t6⟩ := cells6 HT4.out
    have tf := frz6 HT4.out
    obtain ⟨y0, y1, y2, y3, y4, y5, y6⟩ := cells6 HX4.out
    have yf := frz6 HX4.out
    obtain ⟨d1, df⟩ := HR4.out.deepAt
    have dl : rb < w4.heap.size := HR4.out.lt
    clear hR4 hk4
    go_wp2
    refine bodyPost_ret (v := .agg #[.int .i64 6, .int .i64 0, .bool false, .string { data := #[] }, .slice none 0 0, .slice ka 2 kc]) (by simp [results, Tryz.results104, go_sem, y0, y1, y2, y3, y4, y5]) rfl (Or.inl ⟨_, bs4, rfl, ?_, ?_, by omega, ?_⟩)
    · exact kd_fin2 (w3 := W3) (w4 := w4) 6 false HROW.out HTN.out (by omega) (fin_size.trans (by simp [World.setCell])) (by omega) (fun k hk => (fin_block (by omega) (by omega)).trans (Below.heap_setCell _ _ _ _ (by simp only; omega))) HSM.out
    · exact fin_rd (HR4.out.setNew (p := ⟨w2.heap.size, 5, none⟩) (by simp only; omega) _) hlR
    · exact fin_kept (HK4.out.setNew (p := ⟨w2.heap.size, 5, none⟩) (by simp only; omega) _) (Nat.le_refl _)
  · obtain ⟨W3, hW3⟩ : ∃ W3, w2.alloc (.cells #[.int .i64 7, .int .i64 0, .bool false, .string { data := #[] }, .slice none 0 0, .slice none 0 0] 38) = W3 := ⟨_, rfl⟩
    have hb3 : RowKit.Below w2.heap.size w2 W3 := by rw [← hW3]; exact (Below.refl _ _).alloc (Nat.le_refl _) _
    have HT3 : Hid (W3.heap[w2.heap.size]? = some (.cells #[.int .i64 7, .int .i64 0, .bool false, .string { data := #[] }, .slice none 0 0, .slice none 0 0] 38 (0, 0))) := by unfold Hid; rw [← hW3]; exact alloc_new _ _
    have HX3 : Hid (W3.heap[w.heap.size]? = some (.cells #[.int .i64 0, .int .i64 0, .bool false, .string { data := #[] }, .slice none 0 0, .slice none 0 0] 38 (0, 0))) := (hb3.block _ (heap_lt HX2.out)).trans HX2.out
    have HR3 := Hid.mk (HR2.out.on hb3)
    have HK3 : Hid (Kept (fun k => k = rb) w W3) := HK2.out.trans (Kept.of_below hb3)
    have HW3 := Hid.mk hW3
    clear hb3 hW3 HR2 HK2 HX2
    obtain ⟨t0, t1, t2, t3, t4, t5, t6⟩ := cells6 HT3.out
    have HC3 := severalT_all N rb 3 bs2 (deep + 1) W3 HR3.out (by omega) (by omega) HRE
    go_wp2_with fail
    (try rw [HW3.out])
    refine HC3.mono ?_
    rintro e w4 (⟨v4, bs4, rfl, ⟨ts, ka, kc, rfl, htn, hrow, hsm⟩, hR4, hl4, hk4⟩ | ⟨rfl, hkp⟩)
    rotate_left
    · exact ⟨rfl, Or.inr ⟨rfl, HK3.out.trans hkp⟩⟩
    have HROW := Hid.mk hrow
    have HTN := Hid.mk htn
    have HSM := Hid.mk hsm
    have hs4 := hk4.size
    clear t0 t1 t2 t3 t4 t5 HC3 hrow htn hsm
    have HR4 := Hid.mk hR4
    have HK4 : Hid (Kept (fun k => k = rb) w w4) := HK3.out.trans hk4
    have HT4 := Hid.mk (box6 HT3.out hk4 hTrb)
    have HX4 := Hid.mk (box6 HX3.out hk4 hRrb)
    obtain ⟨t0, t1, t2, t3, t4, t5, t6⟩ := cells6 HT4.out
    have tf := frz6 HT4.out
    obtain ⟨y0, y1, y2, y3, y4, y5, y6⟩ := cells6 HX4.out
    have yf := frz6 HX4.out
    obtain ⟨d1, df⟩ := HR4.out.deepAt
    have dl : rb < w4.heap.size := HR4.out.lt
    clear hR4 hk4
    go_wp2
    refine bodyPost_ret (v := .agg #[.int .i64 7, .int .i64 0, .bool false, .string { data := #[] }, .slice none 0 0, .slice ka 3 kc]) (by simp [results, Tryz.results104, go_sem, y0, y1, y2, y3, y4, y5]) rfl (Or.inl ⟨_, bs4, rfl, ?_, ?_, by omega, ?_⟩)
    · exact kd_fin2 (w3 := W3) (w4 := w4) 7 false HROW.out HTN.out (by omega) (fin_size.trans (by simp [World.setCell])) (by omega) (fun k hk => (fin_block (by omega) (by omega)).trans (Below.heap_setCell _ _ _ _ (by simp only; omega))) HSM.out
    · exact fin_rd (HR4.out.setNew (p := ⟨w2.heap.size, 5, none⟩) (by simp only; omega) _) hlR
    · exact fin_kept (HK4.out.setNew (p := ⟨w2.heap.size, 5, none⟩) (by simp only; omega) _) (Nat.le_refl _)
  · obtain ⟨W3, hW3⟩ : ∃ W3, w2.alloc (.cells #[.int .i64 8, .int .i64 0, .bool false, .string { data := #[] }, .slice none 0 0, .slice none 0 0] 38) = W3 := ⟨_, rfl⟩
    have hb3 : RowKit.Below w2.heap.size w2 W3 := by rw [← hW3]; exact (Below.refl _ _).alloc (Nat.le_refl _) _
    have HT3 : Hid (W3.heap[w2.heap.size]? = some (.cells #[.int .i64 8, .int .i64 0, .bool false, .string { data := #[] }, .slice none 0 0, .slice none 0 0] 38 (0, 0))) := by unfold Hid; rw [← hW3]; exact alloc_new _ _
    have HX3 : Hid (W3.heap[w.heap.size]? = some (.cells #[.int .i64 0, .int .i64 0, .bool false, .string { data := #[] }, .slice none 0 0, .slice none 0 0] 38 (0, 0))) := (hb3.block _ (heap_lt HX2.out)).trans HX2.out
    have HR3 := Hid.mk (HR2.out.on hb3)
    have HK3 : Hid (Kept (fun k => k = rb) w W3) := HK2.out.trans (Kept.of_below hb3)
    have HW3 := Hid.mk hW3
    clear hb3 hW3 HR2 HK2 HX2
    obtain ⟨t0, t1, t2, t3, t4, t5, t6⟩ := cells6 HT3.out
    have HC3 := severalT_all N rb 1 bs2 (deep + 1) W3 HR3.out (by omega) (by omega) HRE
    go_wp2_with fail
    (try rw [HW3.out])
    refine HC3.mono ?_
    rintro e w4 (⟨v4, bs4, rfl, ⟨ts, ka, kc, rfl, htn, hrow, hsm⟩, hR4, hl4, hk4⟩ | ⟨rfl, hkp⟩)
    rotate_left
    · exact ⟨rfl, Or.inr ⟨rfl, HK3.out.trans hkp⟩⟩
    have HROW := Hid.mk hrow
    have HTN := Hid.mk htn
    have HSM := Hid.mk hsm
    have hs4 := hk4.size
    clear t0 t1 t2 t3 t4 t5 HC3 hrow htn hsm
    have HR4 := Hid.mk hR4
    have HK4 : Hid (Kept (fun k => k = rb) w w4) := HK3.out.trans hk4
    have HT4 := Hid.mk (box6 HT3.out hk4 hTrb)
    have HX4 := Hid.mk (box6 HX3.out hk4 hRrb)
    obtain ⟨t0, t1, t2, t3, t4, t5, t6⟩ := cells6 HT4.out
    have tf := frz6 HT4.out
    obtain ⟨y0, y1, y2, y3, y4, y5, y6⟩ := cells6 HX4.out
    have yf := frz6 HX4.out
    obtain ⟨d1, df⟩ := HR4.out.deepAt
    have dl : rb < w4.heap.size := HR4.out.lt
    clear hR4 hk4
    go_wp2
    refine bodyPost_ret (v := .agg #[.int .i64 8, .int .i64 0, .bool false, .string { data := #[] }, .slice none 0 0, .slice ka 1 kc]) (by simp [results, Tryz.results104, go_sem, y0, y1, y2, y3, y4, y5]) rfl (Or.inl ⟨_, bs4, rfl, ?_, ?_, by omega, ?_⟩)
    · exact kd_fin2 (w3 := W3) (w4 := w4) 8 false HROW.out HTN.out (by omega) (fin_size.trans (by simp [World.setCell])) (by omega) (fun k hk => (fin_block (by omega) (by omega)).trans (Below.heap_setCell _ _ _ _ (by simp only; omega))) HSM.out
    · exact fin_rd (HR4.out.setNew (p := ⟨w2.heap.size, 5, none⟩) (by simp only; omega) _) hlR
    · exact fin_kept (HK4.out.setNew (p := ⟨w2.heap.size, 5, none⟩) (by simp only; omega) _) (Nat.le_refl _)
  · obtain ⟨W3, hW3⟩ : ∃ W3, w2.alloc (.cells #[.int .i64 9, .int .i64 0, .bool false, .string { data := #[] }, .slice none 0 0, .slice none 0 0] 38) = W3 := ⟨_, rfl⟩
    have hb3 : RowKit.Below w2.heap.size w2 W3 := by rw [← hW3]; exact (Below.refl _ _).alloc (Nat.le_refl _) _
    have HT3 : Hid (W3.heap[w2.heap.size]? = some (.cells #[.int .i64 9, .int .i64 0, .bool false, .string { data := #[] }, .slice none 0 0, .slice none 0 0] 38 (0, 0))) := by unfold Hid; rw [← hW3]; exact alloc_new _ _
    have HX3 : Hid (W3.heap[w.heap.size]? = some (.cells #[.int .i64 0, .int .i64 0, .bool false, .string { data := #[] }, .slice none 0 0, .slice none 0 0] 38 (0, 0))) := (hb3.block _ (heap_lt HX2.out)).trans HX2.out
    have HR3 := Hid.mk (HR2.out.on hb3)
    have HK3 : Hid (Kept (fun k => k = rb) w W3) := HK2.out.trans (Kept.of_below hb3)
    have HW3 := Hid.mk hW3
    clear hb3 hW3 HR2 HK2 HX2
    obtain ⟨t0, t1, t2, t3, t4, t5, t6⟩ := cells6 HT3.out
    have HC3 := severalT_all N rb 1 bs2 (deep + 1) W3 HR3.out (by omega) (by omega) HRE
    go_wp2_with fail
    (try rw [HW3.out])
    refine HC3.mono ?_
    rintro e w4 (⟨v4, bs4, rfl, ⟨ts, ka, kc, rfl, htn, hrow, hsm⟩, hR4, hl4, hk4⟩ | ⟨rfl, hkp⟩)
    rotate_left
    · exact ⟨rfl, Or.inr ⟨rfl, HK3.out.trans hkp⟩⟩
    have HROW := Hid.mk hrow
    have HTN := Hid.mk htn
    have HSM := Hid.mk hsm
    have hs4 := hk4.size
    clear t0 t1 t2 t3 t4 t5 HC3 hrow htn hsm
    have HR4 := Hid.mk hR4
    have HK4 : Hid (Kept (fun k => k = rb) w w4) := HK3.out.trans hk4
    have HT4 := Hid.mk (box6 HT3.out hk4 hTrb)
    have HX4 := Hid.mk (box6 HX3.out hk4 hRrb)
    obtain ⟨t0, t1, t2, t3, t4, t5, t6⟩ := cells6 HT4.out
    have tf := frz6 HT4.out
    obtain ⟨y0, y1, y2, y3, y4, y5, y6⟩ := cells6 HX4.out
    have yf := frz6 HX4.out
    obtain ⟨d1, df⟩ := HR4.out.deepAt
    have dl : rb < w4.heap.size := HR4.out.lt
    clear hR4 hk4
    go_wp2
    refine bodyPost_ret (v := .agg #[.int .i64 9, .int .i64 0, .bool false, .string { data := #[] }, .slice none 0 0, .slice ka 1 kc]) (by simp [results, Tryz.results104, go_sem, y0, y1, y2, y3, y4, y5]) rfl (Or.inl ⟨_, bs4, rfl, ?_, ?_, by omega, ?_⟩)
    · exact kd_fin2 (w3 := W3) (w4 := w4) 9 false HROW.out HTN.out (by omega) (fin_size.trans (by simp [World.setCell])) (by omega) (fun k hk => (fin_block (by omega) (by omega)).trans (Below.heap_setCell _ _ _ _ (by simp only; omega))) HSM.out
    · exact fin_rd (HR4.out.setNew (p := ⟨w2.heap.size, 5, none⟩) (by simp only; omega) _) hlR
    · exact fin_kept (HK4.out.setNew (p := ⟨w2.heap.size, 5, none⟩) (by simp only; omega) _) (Nat.le_refl _)
  · obtain ⟨W3, hW3⟩ : ∃ W3, w2.alloc (.cells #[.int .i64 10, .int .i64 0, .bool false, .string { data := #[] }, .slice none 0 0, .slice none 0 0] 38) = W3 := ⟨_, rfl⟩
    have hb3 : RowKit.Below w2.heap.size w2 W3 := by rw [← hW3]; exact (Below.refl _ _).alloc (Nat.le_refl _) _
    have HT3 : Hid (W3.heap[w2.heap.size]? = some (.cells #[.int .i64 10, .int .i64 0, .bool false, .string { data := #[] }, .slice none 0 0, .slice none 0 0] 38 (0, 0))) := by unfold Hid; rw [← hW3]; exact alloc_new _ _
    have HX3 : Hid (W3.heap[w.heap.size]? = some (.cells #[.int .i64 0, .int .i64 0, .bool false, .string { data := #[] }, .slice none 0 0, .slice none 0 0] 38 (0, 0))) := (hb3.block _ (heap_lt HX2.out)).trans HX2.out
    have HR3 := Hid.mk (HR2.out.on hb3)
    have HK3 : Hid (Kept (fun k => k = rb) w W3) := HK2.out.trans (Kept.of_below hb3)
    have HW3 := Hid.mk hW3
    clear hb3 hW3 HR2 HK2 HX2
    obtain ⟨t0, t1, t2, t3, t4, t5, t6⟩ := cells6 HT3.out
    have HC3 := name_all N rb bs2 (deep + 1) W3 HR3.out
    go_wp2_with fail
    (try rw [HW3.out])
    refine HC3.mono ?_
    rintro e w4 (⟨v4, bs4, rfl, ⟨nm, rfl, hnm⟩, hR4, hl4, hk4⟩ | ⟨rfl, hkp⟩)
    rotate_left
    · exact ⟨rfl, Or.inr ⟨rfl, HK3.out.trans hkp⟩⟩
    clear t0 t1 t2 t3 t4 t5 t6 HC3
    have HR4 := Hid.mk hR4
    have HK4 : Hid (Kept (fun k => k = rb) w w4) := HK3.out.trans hk4
    have HT4 := Hid.mk (box6 HT3.out hk4 hTrb)
    have HX4 := Hid.mk (box6 HX3.out hk4 hRrb)
    obtain ⟨t0, t1, t2, t3, t4, t5, t6⟩ := cells6 HT4.out
    have tf := frz6 HT4.out
    obtain ⟨y0, y1, y2, y3, y4, y5, y6⟩ := cells6 HX4.out
    have yf := frz6 HX4.out
    obtain ⟨d1, df⟩ := HR4.out.deepAt
    have dl : rb < w4.heap.size := HR4.out.lt
    clear hR4 hk4
    obtain ⟨W5, hW5⟩ : ∃ W5, w4.setCell ⟨w2.heap.size, 3, none⟩ (.string nm) = W5 := ⟨_, rfl⟩
    have hR5 := HR4.out.setNew (p := ⟨w2.heap.size, 3, none⟩) (by simp only; omega) (.string nm)
    have hK5 := HK4.out.setNew (p := ⟨w2.heap.size, 3, none⟩) (by simp only; omega) (.string nm)
    rw [hW5] at hR5 hK5
    have HT5 : Hid (W5.heap[w2.heap.size]? = some (.cells #[.int .i64 10, .int .i64 0, .bool false, .string nm, .slice none 0 0, .slice none 0 0] 38 (0, 0))) := by
      unfold Hid; rw [← hW5, setCell_eq]; show (w4.heap.modify w2.heap.size _)[w2.heap.size]? = _
      rw [Array.getElem?_modify, if_pos rfl, HT4.out]; rfl
    have HX5 : Hid (W5.heap[w.heap.size]? = some (.cells #[.int .i64 0, .int .i64 0, .bool false, .string { data := #[] }, .slice none 0 0, .slice none 0 0] 38 (0, 0))) := by unfold Hid; rw [← hW5]; exact (Below.heap_setCell _ _ _ _ hTR').trans HX4.out
    have HR5 := Hid.mk hR5
    have HK5 := Hid.mk hK5
    have HW5 := Hid.mk hW5
    have hT5 : w2.heap.size < W5.heap.size := heap_lt HT5.out
    clear hW5 hR5 hK5
    have HC5 := number_all N rb bs4 (deep + 1) W5 HR5.out
    go_wp2_with fail
    (try rw [HW5.out])
    refine HC5.mono ?_
    rintro e w6 (⟨v6, bs6, rfl, ⟨m6, hm6, rfl⟩, hR6, hl6, hk6⟩ | ⟨rfl, hkp⟩)
    rotate_left
    · exact ⟨rfl, Or.inr ⟨rfl, HK5.out.trans hkp⟩⟩
    clear t0 t1 t2 t3 t4 t5 t6 tf y0 y1 y2 y3 y4 y5 y6 yf d1 df dl
    clear HC5
    have HR6 := Hid.mk hR6
    have HK6 : Hid (Kept (fun k => k = rb) w w6) := HK5.out.trans hk6
    have HT6 := Hid.mk (box6 HT5.out hk6 hTrb)
    have HX6 := Hid.mk (box6 HX5.out hk6 hRrb)
    obtain ⟨t0, t1, t2, t3, t4, t5, t6⟩ := cells6 HT6.out
    have tf := frz6 HT6.out
    obtain ⟨y0, y1, y2, y3, y4, y5, y6⟩ := cells6 HX6.out
    have yf := frz6 HX6.out
    obtain ⟨d1, df⟩ := HR6.out.deepAt
    have dl : rb < w6.heap.size := HR6.out.lt
    clear hR6 hk6
    have HC6 := severalL_all N rb m6 bs6 (deep + 1) w6 HR6.out hm6 (by omega)
    go_wp2_with fail
    refine HC6.mono ?_
    rintro e w7 (⟨v7, bs7, rfl, ⟨ls, la, lc, rfl, hrow, hll, hlx⟩, hR7, hl7, hk7⟩ | ⟨rfl, hkp⟩)
    rotate_left
    · exact ⟨rfl, Or.inr ⟨rfl, HK6.out.trans hkp⟩⟩
    have HROW := Hid.mk hrow
    have HLX : Hid (∀ l ∈ ls, l.2.length ≤ 1000000) := fun l hl => by have := hlx l hl; omega
    have hs7 := hk7.size
    have hT6 : w2.heap.size < w6.heap.size := heap_lt HT6.out
    clear HC6 hrow hlx
    clear t0 t1 t2 t3 t4 t5 t6 tf y0 y1 y2 y3 y4 y5 y6 yf d1 df dl
    have HR7 := Hid.mk hR7
    have HK7 : Hid (Kept (fun k => k = rb) w w7) := HK6.out.trans hk7
    have HT7 := Hid.mk (box6 HT6.out hk7 hTrb)
    have HX7 := Hid.mk (box6 HX6.out hk7 hRrb)
    obtain ⟨t0, t1, t2, t3, t4, t5, t6⟩ := cells6 HT7.out
    have tf := frz6 HT7.out
    obtain ⟨y0, y1, y2, y3, y4, y5, y6⟩ := cells6 HX7.out
    have yf := frz6 HX7.out
    obtain ⟨d1, df⟩ := HR7.out.deepAt
    have dl : rb < w7.heap.size := HR7.out.lt
    clear hR7 hk7
    go_wp2
    refine bodyPost_ret (v := .agg #[.int .i64 10, .int .i64 0, .bool false, .string nm, .slice la ls.length lc, .slice none 0 0]) (by simp [results, Tryz.results104, go_sem, y0, y1, y2, y3, y4, y5]) rfl (Or.inl ⟨_, bs7, rfl, ?_, ?_, by omega, ?_⟩)
    · exact lv_fin2 (w3 := w6) (w4 := w7) 10 nm HROW.out (fin_size.trans (by simp [World.setCell])) (by omega) (fun k hk => (fin_block (by omega) (by omega)).trans (Below.heap_setCell _ _ _ _ (by simp only; omega))) (by omega) (by omega) HLX.out
    · exact fin_rd (HR7.out.setNew (p := ⟨w2.heap.size, 4, none⟩) (by simp only; omega) _) hlR
    · exact fin_kept (HK7.out.setNew (p := ⟨w2.heap.size, 4, none⟩) (by simp only; omega) _) (Nat.le_refl _)
  · obtain ⟨W3, hW3⟩ : ∃ W3, w2.alloc (.cells #[.int .i64 11, .int .i64 0, .bool false, .string { data := #[] }, .slice none 0 0, .slice none 0 0] 38) = W3 := ⟨_, rfl⟩
    have hb3 : RowKit.Below w2.heap.size w2 W3 := by rw [← hW3]; exact (Below.refl _ _).alloc (Nat.le_refl _) _
    have HT3 : Hid (W3.heap[w2.heap.size]? = some (.cells #[.int .i64 11, .int .i64 0, .bool false, .string { data := #[] }, .slice none 0 0, .slice none 0 0] 38 (0, 0))) := by unfold Hid; rw [← hW3]; exact alloc_new _ _
    have HX3 : Hid (W3.heap[w.heap.size]? = some (.cells #[.int .i64 0, .int .i64 0, .bool false, .string { data := #[] }, .slice none 0 0, .slice none 0 0] 38 (0, 0))) := (hb3.block _ (heap_lt HX2.out)).trans HX2.out
    have HR3 := Hid.mk (HR2.out.on hb3)
    have HK3 : Hid (Kept (fun k => k = rb) w W3) := HK2.out.trans (Kept.of_below hb3)
    have HW3 := Hid.mk hW3
    clear hb3 hW3 HR2 HK2 HX2
    obtain ⟨t0, t1, t2, t3, t4, t5, t6⟩ := cells6 HT3.out
    have HC3 := number_all N rb bs2 (deep + 1) W3 HR3.out
    go_wp2_with fail
    (try rw [HW3.out])
    refine HC3.mono ?_
    rintro e w4 (⟨v4, bs4, rfl, ⟨m4, hm4, rfl⟩, hR4, hl4, hk4⟩ | ⟨rfl, hkp⟩)
    rotate_left
    · exact ⟨rfl, Or.inr ⟨rfl, HK3.out.trans hkp⟩⟩
    clear t0 t1 t2 t3 t4 t5 t6 HC3
    have HR4 := Hid.mk hR4
    have HK4 : Hid (Kept (fun k => k = rb) w w4) := HK3.out.trans hk4
    have HT4 := Hid.mk (box6 HT3.out hk4 hTrb)
    have HX4 := Hid.mk (box6 HX3.out hk4 hRrb)
    obtain ⟨t0, t1, t2, t3, t4, t5, t6⟩ := cells6 HT4.out
    have tf := frz6 HT4.out
    obtain ⟨y0, y1, y2, y3, y4, y5, y6⟩ := cells6 HX4.out
    have yf := frz6 HX4.out
    obtain ⟨d1, df⟩ := HR4.out.deepAt
    have dl : rb < w4.heap.size := HR4.out.lt
    clear hR4 hk4
    go_wp2
    refine bodyPost_ret (v := .agg #[.int .i64 11, .int .i64 m4, .bool false, .string { data := #[] }, .slice none 0 0, .slice none 0 0]) (by simp [results, Tryz.results104, go_sem, y0, y1, y2, y3, y4, y5]) rfl (Or.inl ⟨_, bs4, rfl, ?_, ?_, by omega, ?_⟩)
    · exact leaf_fin2 11 _
    · exact fin_rd (HR4.out.setNew (p := ⟨w2.heap.size, 1, none⟩) (by simp only; omega) _) hlR
    · exact fin_kept (HK4.out.setNew (p := ⟨w2.heap.size, 1, none⟩) (by simp only; omega) _) (Nat.le_refl _)
  · obtain ⟨W3, hW3⟩ : ∃ W3, w2.alloc (.cells #[.int .i64 f, .int .i64 0, .bool false, .string { data := #[] }, .slice none 0 0, .slice none 0 0] 38) = W3 := ⟨_, rfl⟩
    have hb3 : RowKit.Below w2.heap.size w2 W3 := by rw [← hW3]; exact (Below.refl _ _).alloc (Nat.le_refl _) _
    have HT3 : Hid (W3.heap[w2.heap.size]? = some (.cells #[.int .i64 f, .int .i64 0, .bool false, .string { data := #[] }, .slice none 0 0, .slice none 0 0] 38 (0, 0))) := by unfold Hid; rw [← hW3]; exact alloc_new _ _
    have HX3 : Hid (W3.heap[w.heap.size]? = some (.cells #[.int .i64 0, .int .i64 0, .bool false, .string { data := #[] }, .slice none 0 0, .slice none 0 0] 38 (0, 0))) := (hb3.block _ (heap_lt HX2.out)).trans HX2.out
    have HR3 := Hid.mk (HR2.out.on hb3)
    have HK3 : Hid (Kept (fun k => k = rb) w W3) := HK2.out.trans (Kept.of_below hb3)
    have HW3 := Hid.mk hW3
    clear hb3 hW3 HR2 HK2 HX2
    obtain ⟨t0, t1, t2, t3, t4, t5, t6⟩ := cells6 HT3.out
    have tf := frz6 HT3.out
    obtain ⟨y0, y1, y2, y3, y4, y5, y6⟩ := cells6 HX3.out
    have yf := frz6 HX3.out
    obtain ⟨d1, df⟩ := HR3.out.deepAt
    have dl : rb < W3.heap.size := HR3.out.lt
    go_wp2_with (first | rw [HW3.out] | fail)
    refine bodyPost_ret (v := .agg #[.int .i64 f, .int .i64 0, .bool false, .string { data := #[] }, .slice none 0 0, .slice none 0 0]) (by simp [results, Tryz.results104, go_sem, y0, y1, y2, y3, y4, y5]) rfl (Or.inl ⟨_, bs2, rfl, ?_, ?_, by omega, ?_⟩)
    · exact leaf_fin2 f 0
    · exact fin_rd HR3.out hlR
    · exact fin_kept HK3.out (Nat.le_refl _)

theorem term_all (N rb : Nat) : ∀ (d : Nat) (deep : Int), 0 ≤ deep → deep ≤ 1000 → 500 < deep + d → RdAny N rb deep
  | 0, deep, h0, h1, h2 => term_step N rb deep h0 h1 fun h => by omega
  | d + 1, deep, h0, h1, h2 => term_step N rb deep h0 h1 fun h => term_all N rb d (deep + 1) (by omega) (by omega) (by omega)
end Go.Proofs.YtndjdeiccmhelaaGreat
