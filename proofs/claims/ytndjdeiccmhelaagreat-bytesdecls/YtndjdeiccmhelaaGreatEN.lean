/- The contract of the reader's term, where what is read was written. -/
import Derived.Test.YtndjdeiccmhelaaGreatEM
namespace Go.Proofs.YtndjdeiccmhelaaGreat
open Go.RowKit Go.Sort Go.Lib

theorem box6 {w w' : World} {rb k : Nat} {o : Obj} (h : w.heap[k]? = some o) (hk : Kept (fun k => k = rb) w w') (hne : k ≠ rb) : w'.heap[k]? = some o := (hk.block k (heap_lt h) hne).trans h

theorem frz6 {w : World} {b : Nat} {u0 u1 u2 u3 u4 u5 : Value} {t : TypeId} (h : w.heap[b]? = some (.cells #[u0, u1, u2, u3, u4, u5] t (0, 0))) : ∀ o, w.frozen? ⟨b, o, none⟩ = false := fun o => by simp [World.frozen?, h]

/-- the last steps of the reader's term: one term less around, and the answer -/
def finW (w : World) (rb R : Nat) (deep : Int) (a0 a1 a2 a3 a4 a5 : Value) : World := ((((((w.setCell ⟨rb, 1, none⟩ (.int .i64 deep)).setCell ⟨R, 0, none⟩ a0).setCell ⟨R, 1, none⟩ a1).setCell ⟨R, 2, none⟩ a2).setCell ⟨R, 3, none⟩ a3).setCell ⟨R, 4, none⟩ a4).setCell ⟨R, 5, none⟩ a5

theorem fin_rd {wT : World} {N rb R : Nat} {rest : List UInt8} {d deep : Int} {a0 a1 a2 a3 a4 a5 : Value} (hR : RD wT N rb rest d) (hN : N ≤ R) : RD (finW wT rb R deep a0 a1 a2 a3 a4 a5) N rb rest deep := by
  unfold finW
  exact ((((((hR.setDeep deep).setNew (p := ⟨R, 0, none⟩) hN _).setNew (p := ⟨R, 1, none⟩) hN _).setNew (p := ⟨R, 2, none⟩) hN _).setNew (p := ⟨R, 3, none⟩) hN _).setNew (p := ⟨R, 4, none⟩) hN _).setNew (p := ⟨R, 5, none⟩) hN _

theorem fin_kept {w wT : World} {rb R : Nat} {deep : Int} {a0 a1 a2 a3 a4 a5 : Value} (h : Kept (fun k => k = rb) w wT) (hR : w.heap.size ≤ R) : Kept (fun k => k = rb) w (finW wT rb R deep a0 a1 a2 a3 a4 a5) := by
  unfold finW
  exact ((((((h.setCell (p := ⟨rb, 1, none⟩) rfl _).setNew (p := ⟨R, 0, none⟩) hR _).setNew (p := ⟨R, 1, none⟩) hR _).setNew (p := ⟨R, 2, none⟩) hR _).setNew (p := ⟨R, 3, none⟩) hR _).setNew (p := ⟨R, 4, none⟩) hR _).setNew (p := ⟨R, 5, none⟩) hR _

theorem fin_size {wT : World} {rb R : Nat} {deep : Int} {a0 a1 a2 a3 a4 a5 : Value} : (finW wT rb R deep a0 a1 a2 a3 a4 a5).heap.size = wT.heap.size := by
  unfold finW; simp [World.setCell]

theorem fin_block {wT : World} {rb R k : Nat} {deep : Int} {a0 a1 a2 a3 a4 a5 : Value} (h1 : k ≠ rb) (h2 : k ≠ R) : (finW wT rb R deep a0 a1 a2 a3 a4 a5).heap[k]? = wT.heap[k]? := by
  unfold finW
  have st : ∀ (w : World) (b o : Nat) (x : Value), k ≠ b → (w.setCell ⟨b, o, none⟩ x).heap[k]? = w.heap[k]? := fun w b o x h => Below.heap_setCell _ _ _ _ h
  rw [st _ R 5 _ h2, st _ R 4 _ h2, st _ R 3 _ h2, st _ R 2 _ h2, st _ R 1 _ h2, st _ R 0 _ h2, st _ rb 1 _ h1]

/-- a leaf, whatever the world -/
theorem TF.leaf {w : World} {P : Nat → Bool} (f n : Int) (h : Bool) (nm : ByteArray) : TF w P (.agg #[.int .i64 f, .int .i64 n, .bool h, .string nm, .slice none 0 0, .slice none 0 0]) (.mk f n h nm [] []) :=
  TV.mk (kb := 0) (ko := 0) (ls := []) (ks := []) (Or.inl rfl) (fun _ => rfl) (Nat.le_refl _) (by omega) (fun _ => rfl) (Nat.le_refl _) (by omega) (fun h => absurd rfl h) (fun i t hi => by simp at hi)

theorem lv_fin {w w3 w4 WF : World} {a : Option Addr} {cap : Nat} {ls : List LvT} (f : Int) (nm : ByteArray) (h : RowL w4 w3.heap.size (oldB w3) a cap ls) (hs : WF.heap.size = w4.heap.size) (hw : w.heap.size ≤ w3.heap.size) (hk : ∀ k, w3.heap.size ≤ k → WF.heap[k]? = w4.heap[k]?) : TF WF (oldB w) (.agg #[.int .i64 f, .int .i64 0, .bool false, .string nm, .slice a ls.length cap, .slice none 0 0]) (.mk f 0 false nm ls []) := by
  obtain ⟨hln, hn, hc, hm⟩ := h.ln fun k hk => oldB_new hk
  exact TV.mk (kb := 0) (ko := 0) (ks := []) (hln.subF (by rw [maskB_size, maskB_size]; omega) (maskB_keeps fun k _ h2 => ⟨oldB_new (by have := oldB_no h2; omega), hk k (oldB_no h2)⟩)) hn hc hm (fun _ => rfl) (Nat.le_refl _) (by omega) (fun h => absurd rfl h) (fun i t hi => by simp at hi)

theorem kd_fin {w w3 w4 WF : World} {a : Option Addr} {cap : Nat} {ts : List Tm} (f : Int) (hd : Bool) (h : RowF w4 w3.heap.size (oldB w3) a cap ts) (hs : WF.heap.size = w4.heap.size) (hw : w.heap.size ≤ w3.heap.size) (hk : ∀ k, w3.heap.size ≤ k → WF.heap[k]? = w4.heap[k]?) : TF WF (oldB w) (.agg #[.int .i64 f, .int .i64 0, .bool hd, .string { data := #[] }, .slice none 0 0, .slice a ts.length cap]) (.mk f 0 hd { data := #[] } [] ts) := by
  have h1 := h.done (fun k hk => oldB_new hk) (f := f) (n := 0) (hd := hd) (nm := { data := #[] }) (ls := []) (la := none) (lc := 0) (Or.inl rfl) (fun _ => rfl) (Nat.le_refl _) (by omega)
  exact h1.move (by omega) fun k _ h2 => ⟨oldB_new (by have := oldB_no h2; omega), hk k (oldB_no h2)⟩

theorem TFW.leaf {w : World} {P : Nat → Bool} (f n : Int) (h : Bool) (nm : ByteArray) : TFW w P (.agg #[.int .i64 f, .int .i64 n, .bool h, .string nm, .slice none 0 0, .slice none 0 0]) (.mk f n h nm [] []) := ⟨TF.leaf f n h nm, 1, WK.leaf 0 f n h nm⟩

theorem lv_finW {w w3 w4 WF : World} {a : Option Addr} {cap : Nat} {ls : List LvT} (f : Int) (nm : ByteArray) (h : RowL w4 w3.heap.size (oldB w3) a cap ls) (hs : WF.heap.size = w4.heap.size) (hw : w.heap.size ≤ w3.heap.size) (hk : ∀ k, w3.heap.size ≤ k → WF.heap[k]? = w4.heap[k]?) : TFW WF (oldB w) (.agg #[.int .i64 f, .int .i64 0, .bool false, .string nm, .slice a ls.length cap, .slice none 0 0]) (.mk f 0 false nm ls []) :=
  (h.tfw fun k hk => oldB_new hk).move (by omega) fun k _ h2 => ⟨oldB_new (by have := oldB_no h2; omega), hk k (oldB_no h2)⟩

theorem kd_finW {w w3 w4 WF : World} {a : Option Addr} {cap : Nat} {ts : List Tm} (f : Int) (hd : Bool) (h : RowFW w4 w3.heap.size (oldB w3) a cap ts) (hs : WF.heap.size = w4.heap.size) (hw : w.heap.size ≤ w3.heap.size) (hk : ∀ k, w3.heap.size ≤ k → WF.heap[k]? = w4.heap[k]?) : TFW WF (oldB w) (.agg #[.int .i64 f, .int .i64 0, .bool hd, .string { data := #[] }, .slice none 0 0, .slice a ts.length cap]) (.mk f 0 hd { data := #[] } [] ts) :=
  (h.done fun k hk => oldB_new hk).move (by omega) fun k _ h2 => ⟨oldB_new (by have := oldB_no h2; omega), hk k (oldB_no h2)⟩

set_option maxRecDepth 100000 in
set_option maxHeartbeats 8000000 in
theorem rdterm1 (N rb : Nat) (n : Int) (hd : Bool) (nm : ByteArray) (ls : List LvT) (ks : List Tm) (hf : formedB (.mk 1 n hd nm ls ks) = true) (_hls : ls.length ≤ 1000000) (_ih : ∀ k ∈ ks, RdT N rb k) : RdT N rb (.mk 1 n hd nm ls ks) := by
  intro rest deep w hR hd0 hdh
  obtain ⟨hkn0, p1, p2, p10, -⟩ := formed_part hf
  have h3 : kidsR 1 = 0 := by decide
  have hkn : ks.length = 0 := by omega
  obtain rfl : ks = [] := List.length_eq_zero_iff.1 hkn
  clear h3 hkn0 hf 
  have HP1 := Hid.mk p1
  have HP2 := Hid.mk p2
  have HP10 := Hid.mk p10
  clear p1 p2 p10
  have hlR := hR.2.1
  have hrbN := hR.1
  have h500 : ¬ (500 : Int) < deep + 1 := by
    have : 1 ≤ heightT (.mk 1 n hd nm ls []) := by rw [heightT_mk]; omega
    omega
  rw [encT_mk, List.append_assoc, show Int.toNat 1 = 1 from rfl] at hR
  obtain ⟨CT, hCT⟩ : ∃ CT, cleanT (.mk 1 n hd nm ls []) = CT := ⟨_, rfl⟩
  rw [hCT]
  have HCT := Hid.mk hCT
  clear hCT
  obtain ⟨W0, hW0⟩ : ∃ W0, w.alloc (.cells #[.int .i64 0, .int .i64 0, .bool false, .string { data := #[] }, .slice none 0 0, .slice none 0 0] 38) = W0 := ⟨_, rfl⟩
  have hb : RowKit.Below w.heap.size w W0 := by rw [← hW0]; exact (Below.refl _ _).alloc (Nat.le_refl _) _
  have hX0 : W0.heap[w.heap.size]? = some (.cells #[.int .i64 0, .int .i64 0, .bool false, .string { data := #[] }, .slice none 0 0, .slice none 0 0] 38 (0, 0)) := by rw [← hW0]; exact alloc_new _ _
  have hR0 := hR.on hb
  obtain ⟨z1, zf⟩ := hR0.deepAt
  obtain ⟨W1, hW1⟩ : ∃ W1, W0.setCell ⟨rb, 1, none⟩ (.int .i64 (deep + 1)) = W1 := ⟨_, rfl⟩
  have hR1 := hR0.setDeep (deep + 1)
  rw [hW1] at hR1
  have hk01 : Kept (fun k => k = rb) W0 W1 := by rw [← hW1]; exact (Kept.refl (fun k => k = rb) W0).setCell (p := ⟨rb, 1, none⟩) rfl _
  have HK1 : Hid (Kept (fun k => k = rb) w W1) := (Kept.of_below hb).trans hk01
  have HX1 : Hid (W1.heap[w.heap.size]? = some (.cells #[.int .i64 0, .int .i64 0, .bool false, .string { data := #[] }, .slice none 0 0, .slice none 0 0] 38 (0, 0))) := box6 hX0 hk01 (by omega)
  obtain ⟨d1, df⟩ := hR1.deepAt
  have HC := rdnum_any N rb 1 _ (deep + 1) W1 hR1 (by decide)
  have HW0 := Hid.mk hW0
  have HW1 := Hid.mk hW1
  have hlt0 : rb < W0.heap.size := hR0.lt
  have hlt1 : rb < W1.heap.size := hR1.lt
  clear hR hb hX0 hR0 hR1 hk01 hW0 hW1 hdh
  go_enter Tryz.func104, Tryz.ntmps104
  go_wp2_with (first | rw [HW0.out] | rw [HW1.out] | fail)
  (try rw [HW0.out])
  (try rw [HW1.out])
  refine HC.mono ?_
  rintro e w2 ⟨rfl, hR2, hk2⟩
  have HK2 : Hid (Kept (fun k => k = rb) w w2) := HK1.out.trans hk2
  have hX2 := box6 HX1.out hk2 (by omega)
  obtain ⟨W3, hW3⟩ : ∃ W3, w2.alloc (.cells #[.int .i64 1, .int .i64 0, .bool false, .string { data := #[] }, .slice none 0 0, .slice none 0 0] 38) = W3 := ⟨_, rfl⟩
  have hb3 : RowKit.Below w2.heap.size w2 W3 := by rw [← hW3]; exact (Below.refl _ _).alloc (Nat.le_refl _) _
  have HT3 : Hid (W3.heap[w2.heap.size]? = some (.cells #[.int .i64 1, .int .i64 0, .bool false, .string { data := #[] }, .slice none 0 0, .slice none 0 0] 38 (0, 0))) := by unfold Hid; rw [← hW3]; exact alloc_new _ _
  have HX3 : Hid (W3.heap[w.heap.size]? = some (.cells #[.int .i64 0, .int .i64 0, .bool false, .string { data := #[] }, .slice none 0 0, .slice none 0 0] 38 (0, 0))) := (hb3.block _ (heap_lt hX2)).trans hX2
  have HR3 := Hid.mk (hR2.on hb3)
  have HK3 : Hid (Kept (fun k => k = rb) w W3) := HK2.out.trans (Kept.of_below hb3)
  have HW3 := Hid.mk hW3
  have hwR : w.heap.size < w2.heap.size := heap_lt hX2
  have hTrb : w2.heap.size ≠ rb := by omega
  have hRrb : w.heap.size ≠ rb := by omega
  have hTR : w2.heap.size ≠ w.heap.size := by omega
  have hTrb' := hTrb.symm
  have hRrb' := hRrb.symm
  have hTR' := hTR.symm
  clear hR2 hk2 hX2 hb3 hW3 HC z1 zf d1 df HX1 HK1
  obtain ⟨hn0, hn1⟩ := HP1.out (by decide)
  have hR3 := HR3.out
  rw [show fieldB 1 n hd nm ls = numB n.toNat by unfold fieldB; simp, List.flatMap_nil, List.append_nil] at hR3
  have HC3 := rdnum_any N rb n.toNat rest (deep + 1) W3 hR3 (by omega)
  rw [show ((n.toNat : Nat) : Int) = n by omega] at HC3
  obtain ⟨t0, t1, t2, t3, t4, t5, t6⟩ := cells6 HT3.out
  clear hR3
  go_wp2_with fail
  (try rw [HW3.out])
  refine HC3.mono ?_
  rintro e w4 ⟨rfl, hR4, hk4⟩
  clear t0 t1 t2 t3 t4 t5 t6 HC3
  have HR4 := Hid.mk hR4
  have HK4 : Hid (Kept (fun k => k = rb) w w4) := HK3.out.trans hk4
  have HT4 := Hid.mk (box6 HT3.out hk4 hTrb)
  have HX4 := Hid.mk (box6 HX3.out hk4 hRrb)
  obtain ⟨t0, t1, t2, t3, t4, t5, t6⟩ := cells6 HT4.out
  have tf := frz6 HT4.out
  obtain ⟨y0, y1, y2, y3, y4, y5, y6⟩ := cells6 HX4.out
  have yf := frz6 HX4.out
  obtain ⟨d1, df⟩ := HR4.out.deepAt
  have dl : rb < w4.heap.size := HR4.out.lt
  clear hR4 hk4
  go_wp2
  refine bodyPost_ret (v := .agg #[.int .i64 1, .int .i64 n, .bool false, .string { data := #[] }, .slice none 0 0, .slice none 0 0]) (by simp [results, Tryz.results104, go_sem, y0, y1, y2, y3, y4, y5]) rfl ⟨_, rfl, ⟨_, _, _, _, _, _, _, _, _, _, rfl⟩, ?_, ?_, ?_⟩
  · rw [← HCT.out, clean_mk]
    exact TFW.leaf 1 n false { data := #[] }
  · exact fin_rd (HR4.out.setNew (p := ⟨w2.heap.size, 1, none⟩) (by simp only; omega) _) hlR
  · exact fin_kept (HK4.out.setNew (p := ⟨w2.heap.size, 1, none⟩) (by simp only; omega) _) (Nat.le_refl _)

set_option maxRecDepth 100000 in
set_option maxHeartbeats 8000000 in
theorem rdterm2 (N rb : Nat) (n : Int) (hd : Bool) (nm : ByteArray) (ls : List LvT) (ks : List Tm) (hf : formedB (.mk 2 n hd nm ls ks) = true) (_hls : ls.length ≤ 1000000) (_ih : ∀ k ∈ ks, RdT N rb k) : RdT N rb (.mk 2 n hd nm ls ks) := by
  intro rest deep w hR hd0 hdh
  obtain ⟨hkn0, p1, p2, p10, -⟩ := formed_part hf
  have h3 : kidsR 2 = 0 := by decide
  have hkn : ks.length = 0 := by omega
  obtain rfl : ks = [] := List.length_eq_zero_iff.1 hkn
  clear h3 hkn0 hf 
  have HP1 := Hid.mk p1
  have HP2 := Hid.mk p2
  have HP10 := Hid.mk p10
  clear p1 p2 p10
  have hlR := hR.2.1
  have hrbN := hR.1
  have h500 : ¬ (500 : Int) < deep + 1 := by
    have : 1 ≤ heightT (.mk 2 n hd nm ls []) := by rw [heightT_mk]; omega
    omega
  rw [encT_mk, List.append_assoc, show Int.toNat 2 = 2 from rfl] at hR
  obtain ⟨CT, hCT⟩ : ∃ CT, cleanT (.mk 2 n hd nm ls []) = CT := ⟨_, rfl⟩
  rw [hCT]
  have HCT := Hid.mk hCT
  clear hCT
  obtain ⟨W0, hW0⟩ : ∃ W0, w.alloc (.cells #[.int .i64 0, .int .i64 0, .bool false, .string { data := #[] }, .slice none 0 0, .slice none 0 0] 38) = W0 := ⟨_, rfl⟩
  have hb : RowKit.Below w.heap.size w W0 := by rw [← hW0]; exact (Below.refl _ _).alloc (Nat.le_refl _) _
  have hX0 : W0.heap[w.heap.size]? = some (.cells #[.int .i64 0, .int .i64 0, .bool false, .string { data := #[] }, .slice none 0 0, .slice none 0 0] 38 (0, 0)) := by rw [← hW0]; exact alloc_new _ _
  have hR0 := hR.on hb
  obtain ⟨z1, zf⟩ := hR0.deepAt
  obtain ⟨W1, hW1⟩ : ∃ W1, W0.setCell ⟨rb, 1, none⟩ (.int .i64 (deep + 1)) = W1 := ⟨_, rfl⟩
  have hR1 := hR0.setDeep (deep + 1)
  rw [hW1] at hR1
  have hk01 : Kept (fun k => k = rb) W0 W1 := by rw [← hW1]; exact (Kept.refl (fun k => k = rb) W0).setCell (p := ⟨rb, 1, none⟩) rfl _
  have HK1 : Hid (Kept (fun k => k = rb) w W1) := (Kept.of_below hb).trans hk01
  have HX1 : Hid (W1.heap[w.heap.size]? = some (.cells #[.int .i64 0, .int .i64 0, .bool false, .string { data := #[] }, .slice none 0 0, .slice none 0 0] 38 (0, 0))) := box6 hX0 hk01 (by omega)
  obtain ⟨d1, df⟩ := hR1.deepAt
  have HC := rdnum_any N rb 2 _ (deep + 1) W1 hR1 (by decide)
  have HW0 := Hid.mk hW0
  have HW1 := Hid.mk hW1
  have hlt0 : rb < W0.heap.size := hR0.lt
  have hlt1 : rb < W1.heap.size := hR1.lt
  clear hR hb hX0 hR0 hR1 hk01 hW0 hW1 hdh
  go_enter Tryz.func104, Tryz.ntmps104
  go_wp2_with (first | rw [HW0.out] | rw [HW1.out] | fail)
  (try rw [HW0.out])
  (try rw [HW1.out])
  refine HC.mono ?_
  rintro e w2 ⟨rfl, hR2, hk2⟩
  have HK2 : Hid (Kept (fun k => k = rb) w w2) := HK1.out.trans hk2
  have hX2 := box6 HX1.out hk2 (by omega)
  obtain ⟨W3, hW3⟩ : ∃ W3, w2.alloc (.cells #[.int .i64 2, .int .i64 0, .bool false, .string { data := #[] }, .slice none 0 0, .slice none 0 0] 38) = W3 := ⟨_, rfl⟩
  have hb3 : RowKit.Below w2.heap.size w2 W3 := by rw [← hW3]; exact (Below.refl _ _).alloc (Nat.le_refl _) _
  have HT3 : Hid (W3.heap[w2.heap.size]? = some (.cells #[.int .i64 2, .int .i64 0, .bool false, .string { data := #[] }, .slice none 0 0, .slice none 0 0] 38 (0, 0))) := by unfold Hid; rw [← hW3]; exact alloc_new _ _
  have HX3 : Hid (W3.heap[w.heap.size]? = some (.cells #[.int .i64 0, .int .i64 0, .bool false, .string { data := #[] }, .slice none 0 0, .slice none 0 0] 38 (0, 0))) := (hb3.block _ (heap_lt hX2)).trans hX2
  have HR3 := Hid.mk (hR2.on hb3)
  have HK3 : Hid (Kept (fun k => k = rb) w W3) := HK2.out.trans (Kept.of_below hb3)
  have HW3 := Hid.mk hW3
  have hwR : w.heap.size < w2.heap.size := heap_lt hX2
  have hTrb : w2.heap.size ≠ rb := by omega
  have hRrb : w.heap.size ≠ rb := by omega
  have hTR : w2.heap.size ≠ w.heap.size := by omega
  have hTrb' := hTrb.symm
  have hRrb' := hRrb.symm
  have hTR' := hTR.symm
  clear hR2 hk2 hX2 hb3 hW3 HC z1 zf d1 df HX1 HK1
  obtain ⟨l, hl1, hcl⟩ := HP2.out (by trivial)
  subst hl1
  have hR3 := HR3.out
  rw [show fieldB 2 n hd nm [l] = [l].flatMap levB by unfold fieldB; simp, List.flatMap_nil, List.append_nil] at hR3
  have HC3 := severalL_any N rb [l] rest (deep + 1) W3 hR3 (by simp) (fun x hx => by rw [List.mem_singleton.1 hx]; exact canon_rightL hcl)
  obtain ⟨t0, t1, t2, t3, t4, t5, t6⟩ := cells6 HT3.out
  clear hR3
  go_wp2_with fail
  (try rw [HW3.out])
  refine HC3.mono ?_
  rintro e w4 ⟨la, lc, rfl, hrow, hR4, hk4⟩
  have HROW := Hid.mk hrow
  have hs4 := hk4.size
  clear t0 t1 t2 t3 t4 t5 HC3 hrow
  have HR4 := Hid.mk hR4
  have HK4 : Hid (Kept (fun k => k = rb) w w4) := HK3.out.trans hk4
  have HT4 := Hid.mk (box6 HT3.out hk4 hTrb)
  have HX4 := Hid.mk (box6 HX3.out hk4 hRrb)
  obtain ⟨t0, t1, t2, t3, t4, t5, t6⟩ := cells6 HT4.out
  have tf := frz6 HT4.out
  obtain ⟨y0, y1, y2, y3, y4, y5, y6⟩ := cells6 HX4.out
  have yf := frz6 HX4.out
  obtain ⟨d1, df⟩ := HR4.out.deepAt
  have dl : rb < w4.heap.size := HR4.out.lt
  clear hR4 hk4
  go_wp2
  refine bodyPost_ret (v := .agg #[.int .i64 2, .int .i64 0, .bool false, .string { data := #[] }, .slice la 1 lc, .slice none 0 0]) (by simp [results, Tryz.results104, go_sem, y0, y1, y2, y3, y4, y5]) rfl ⟨_, rfl, ⟨_, _, _, _, _, _, _, _, _, _, rfl⟩, ?_, ?_, ?_⟩
  · rw [← HCT.out, clean_mk]
    exact lv_finW (w3 := W3) (w4 := w4) 2 _ HROW.out (fin_size.trans (by simp [World.setCell])) (by omega) (fun k hk => (fin_block (by omega) (by omega)).trans (Below.heap_setCell _ _ _ _ (by simp only; omega)))
  · exact fin_rd (HR4.out.setNew (p := ⟨w2.heap.size, 4, none⟩) (by simp only; omega) _) hlR
  · exact fin_kept (HK4.out.setNew (p := ⟨w2.heap.size, 4, none⟩) (by simp only; omega) _) (Nat.le_refl _)

set_option maxRecDepth 100000 in
set_option maxHeartbeats 8000000 in
theorem rdterm3 (N rb : Nat) (n : Int) (hd : Bool) (nm : ByteArray) (ls : List LvT) (ks : List Tm) (hf : formedB (.mk 3 n hd nm ls ks) = true) (_hls : ls.length ≤ 1000000) (ih : ∀ k ∈ ks, RdT N rb k) : RdT N rb (.mk 3 n hd nm ls ks) := by
  intro rest deep w hR hd0 hdh
  obtain ⟨hkn0, p1, p2, p10, -⟩ := formed_part hf
  have h3 : kidsR 3 = 2 := by decide
  have hkn : ks.length = 2 := by omega
  have HKN := Hid.mk hkn
  have HIH := Hid.mk ih
  have HHI : Hid (∀ k ∈ ks, deep + 1 + heightT k ≤ 500) := fun k hk => by
    rw [heightT_mk] at hdh
    have := high_kid hk
    omega
  clear h3 hkn0 hf hkn
  have HP1 := Hid.mk p1
  have HP2 := Hid.mk p2
  have HP10 := Hid.mk p10
  clear p1 p2 p10
  have hlR := hR.2.1
  have hrbN := hR.1
  have h500 : ¬ (500 : Int) < deep + 1 := by
    have : 1 ≤ heightT (.mk 3 n hd nm ls ks) := by rw [heightT_mk]; omega
    omega
  rw [encT_mk, List.append_assoc, show Int.toNat 3 = 3 from rfl] at hR
  obtain ⟨CT, hCT⟩ : ∃ CT, cleanT (.mk 3 n hd nm ls ks) = CT := ⟨_, rfl⟩
  rw [hCT]
  have HCT := Hid.mk hCT
  clear hCT
  obtain ⟨W0, hW0⟩ : ∃ W0, w.alloc (.cells #[.int .i64 0, .int .i64 0, .bool false, .string { data := #[] }, .slice none 0 0, .slice none 0 0] 38) = W0 := ⟨_, rfl⟩
  have hb : RowKit.Below w.heap.size w W0 := by rw [← hW0]; exact (Below.refl _ _).alloc (Nat.le_refl _) _
  have hX0 : W0.heap[w.heap.size]? = some (.cells #[.int .i64 0, .int .i64 0, .bool false, .string { data := #[] }, .slice none 0 0, .slice none 0 0] 38 (0, 0)) := by rw [← hW0]; exact alloc_new _ _
  have hR0 := hR.on hb
  obtain ⟨z1, zf⟩ := hR0.deepAt
  obtain ⟨W1, hW1⟩ : ∃ W1, W0.setCell ⟨rb, 1, none⟩ (.int .i64 (deep + 1)) = W1 := ⟨_, rfl⟩
  have hR1 := hR0.setDeep (deep + 1)
  rw [hW1] at hR1
  have hk01 : Kept (fun k => k = rb) W0 W1 := by rw [← hW1]; exact (Kept.refl (fun k => k = rb) W0).setCell (p := ⟨rb, 1, none⟩) rfl _
  have HK1 : Hid (Kept (fun k => k = rb) w W1) := (Kept.of_below hb).trans hk01
  have HX1 : Hid (W1.heap[w.heap.size]? = some (.cells #[.int .i64 0, .int .i64 0, .bool false, .string { data := #[] }, .slice none 0 0, .slice none 0 0] 38 (0, 0))) := box6 hX0 hk01 (by omega)
  obtain ⟨d1, df⟩ := hR1.deepAt
  have HC := rdnum_any N rb 3 _ (deep + 1) W1 hR1 (by decide)
  have HW0 := Hid.mk hW0
  have HW1 := Hid.mk hW1
  have hlt0 : rb < W0.heap.size := hR0.lt
  have hlt1 : rb < W1.heap.size := hR1.lt
  clear hR hb hX0 hR0 hR1 hk01 hW0 hW1 hdh
  go_enter Tryz.func104, Tryz.ntmps104
  go_wp2_with (first | rw [HW0.out] | rw [HW1.out] | fail)
  (try rw [HW0.out])
  (try rw [HW1.out])
  refine HC.mono ?_
  rintro e w2 ⟨rfl, hR2, hk2⟩
  have HK2 : Hid (Kept (fun k => k = rb) w w2) := HK1.out.trans hk2
  have hX2 := box6 HX1.out hk2 (by omega)
  obtain ⟨W3, hW3⟩ : ∃ W3, w2.alloc (.cells #[.int .i64 3, .int .i64 0, .bool false, .string { data := #[] }, .slice none 0 0, .slice none 0 0] 38) = W3 := ⟨_, rfl⟩
  have hb3 : RowKit.Below w2.heap.size w2 W3 := by rw [← hW3]; exact (Below.refl _ _).alloc (Nat.le_refl _) _
  have HT3 : Hid (W3.heap[w2.heap.size]? = some (.cells #[.int .i64 3, .int .i64 0, .bool false, .string { data := #[] }, .slice none 0 0, .slice none 0 0] 38 (0, 0))) := by unfold Hid; rw [← hW3]; exact alloc_new _ _
  have HX3 : Hid (W3.heap[w.heap.size]? = some (.cells #[.int .i64 0, .int .i64 0, .bool false, .string { data := #[] }, .slice none 0 0, .slice none 0 0] 38 (0, 0))) := (hb3.block _ (heap_lt hX2)).trans hX2
  have HR3 := Hid.mk (hR2.on hb3)
  have HK3 : Hid (Kept (fun k => k = rb) w W3) := HK2.out.trans (Kept.of_below hb3)
  have HW3 := Hid.mk hW3
  have hwR : w.heap.size < w2.heap.size := heap_lt hX2
  have hTrb : w2.heap.size ≠ rb := by omega
  have hRrb : w.heap.size ≠ rb := by omega
  have hTR : w2.heap.size ≠ w.heap.size := by omega
  have hTrb' := hTrb.symm
  have hRrb' := hRrb.symm
  have hTR' := hTR.symm
  clear hR2 hk2 hX2 hb3 hW3 HC z1 zf d1 df HX1 HK1
  have hR3 := HR3.out
  rw [show fieldB 3 n hd nm ls = [if hd then 1 else 0] by unfold fieldB; simp, List.append_assoc] at hR3
  have HC3 := rdflag_any N rb hd _ (deep + 1) W3 hR3
  obtain ⟨t0, t1, t2, t3, t4, t5, t6⟩ := cells6 HT3.out
  clear hR3
  go_wp2_with fail
  (try rw [HW3.out])
  refine HC3.mono ?_
  rintro e w4 ⟨rfl, hR4, hk4⟩
  clear t0 t1 t2 t3 t4 t5 HC3
  have HR4 := Hid.mk hR4
  have HK4 : Hid (Kept (fun k => k = rb) w w4) := HK3.out.trans hk4
  have HT4 := Hid.mk (box6 HT3.out hk4 hTrb)
  have HX4 := Hid.mk (box6 HX3.out hk4 hRrb)
  obtain ⟨t0, t1, t2, t3, t4, t5, t6⟩ := cells6 HT4.out
  have tf := frz6 HT4.out
  obtain ⟨y0, y1, y2, y3, y4, y5, y6⟩ := cells6 HX4.out
  have yf := frz6 HX4.out
  obtain ⟨d1, df⟩ := HR4.out.deepAt
  have dl : rb < w4.heap.size := HR4.out.lt
  clear hR4 hk4
  obtain ⟨W5, hW5⟩ : ∃ W5, w4.setCell ⟨w2.heap.size, 2, none⟩ (.bool hd) = W5 := ⟨_, rfl⟩
  have hR5 := HR4.out.setNew (p := ⟨w2.heap.size, 2, none⟩) (by simp only; omega) (.bool hd)
  have hK5 := HK4.out.setNew (p := ⟨w2.heap.size, 2, none⟩) (by simp only; omega) (.bool hd)
  rw [hW5] at hR5 hK5
  have HT5 : Hid (W5.heap[w2.heap.size]? = some (.cells #[.int .i64 3, .int .i64 0, .bool hd, .string { data := #[] }, .slice none 0 0, .slice none 0 0] 38 (0, 0))) := by
    unfold Hid; rw [← hW5, setCell_eq]; show (w4.heap.modify w2.heap.size _)[w2.heap.size]? = _
    rw [Array.getElem?_modify, if_pos rfl, HT4.out]; rfl
  have HX5 : Hid (W5.heap[w.heap.size]? = some (.cells #[.int .i64 0, .int .i64 0, .bool false, .string { data := #[] }, .slice none 0 0, .slice none 0 0] 38 (0, 0))) := by unfold Hid; rw [← hW5]; exact (Below.heap_setCell _ _ _ _ hTR').trans HX4.out
  have HR5 := Hid.mk hR5
  have HK5 := Hid.mk hK5
  have HW5 := Hid.mk hW5
  have HC5 := severalT_any N rb ks rest (deep + 1) W5 hR5 (by have := HKN.out; omega) (by omega) HHI.out HIH.out
  rw [HKN.out] at HC5
  have hT5 : w2.heap.size < W5.heap.size := heap_lt HT5.out
  clear hW5 hR5 hK5
  go_wp2_with fail
  (try rw [HW5.out])
  refine HC5.mono ?_
  rintro e w6 ⟨ka, kc, rfl, hrow, hR6, hk6⟩
  have HROW := Hid.mk hrow
  have hs6 := hk6.size
  clear t0 t1 t2 t3 t4 t5 t6 tf y0 y1 y2 y3 y4 y5 y6 yf d1 df dl HC5 hrow
  have HR6 := Hid.mk hR6
  have HK6 : Hid (Kept (fun k => k = rb) w w6) := HK5.out.trans hk6
  have HT6 := Hid.mk (box6 HT5.out hk6 hTrb)
  have HX6 := Hid.mk (box6 HX5.out hk6 hRrb)
  obtain ⟨t0, t1, t2, t3, t4, t5, t6⟩ := cells6 HT6.out
  have tf := frz6 HT6.out
  obtain ⟨y0, y1, y2, y3, y4, y5, y6⟩ := cells6 HX6.out
  have yf := frz6 HX6.out
  obtain ⟨d1, df⟩ := HR6.out.deepAt
  have dl : rb < w6.heap.size := HR6.out.lt
  clear hR6 hk6
  go_wp2
  refine bodyPost_ret (v := .agg #[.int .i64 3, .int .i64 0, .bool hd, .string { data := #[] }, .slice none 0 0, .slice ka 2 kc]) (by simp [results, Tryz.results104, go_sem, y0, y1, y2, y3, y4, y5]) rfl ⟨_, rfl, ⟨_, _, _, _, _, _, _, _, _, _, rfl⟩, ?_, ?_, ?_⟩
  · rw [← HCT.out, clean_mk]
    have hfin := kd_finW (w := w) (WF := finW (w6.setCell ⟨w2.heap.size, 5, none⟩ (.slice ka 2 kc)) rb w.heap.size deep (.int .i64 3) (.int .i64 0) (.bool hd) (.string { data := #[] }) (.slice none 0 0) (.slice ka 2 kc)) 3 hd HROW.out (fin_size.trans (by simp [World.setCell])) (by omega) (fun k hk => (fin_block (by omega) (by omega)).trans (Below.heap_setCell _ _ _ _ (by simp only; omega)))
    rw [List.length_map, HKN.out] at hfin
    exact hfin
  · exact fin_rd (HR6.out.setNew (p := ⟨w2.heap.size, 5, none⟩) (by simp only; omega) _) hlR
  · exact fin_kept (HK6.out.setNew (p := ⟨w2.heap.size, 5, none⟩) (by simp only; omega) _) (Nat.le_refl _)

set_option maxRecDepth 100000 in
set_option maxHeartbeats 8000000 in
theorem rdterm4 (N rb : Nat) (n : Int) (hd : Bool) (nm : ByteArray) (ls : List LvT) (ks : List Tm) (hf : formedB (.mk 4 n hd nm ls ks) = true) (_hls : ls.length ≤ 1000000) (ih : ∀ k ∈ ks, RdT N rb k) : RdT N rb (.mk 4 n hd nm ls ks) := by
  intro rest deep w hR hd0 hdh
  obtain ⟨hkn0, p1, p2, p10, -⟩ := formed_part hf
  have h3 : kidsR 4 = 2 := by decide
  have hkn : ks.length = 2 := by omega
  have HKN := Hid.mk hkn
  have HIH := Hid.mk ih
  have HHI : Hid (∀ k ∈ ks, deep + 1 + heightT k ≤ 500) := fun k hk => by
    rw [heightT_mk] at hdh
    have := high_kid hk
    omega
  clear h3 hkn0 hf hkn
  have HP1 := Hid.mk p1
  have HP2 := Hid.mk p2
  have HP10 := Hid.mk p10
  clear p1 p2 p10
  have hlR := hR.2.1
  have hrbN := hR.1
  have h500 : ¬ (500 : Int) < deep + 1 := by
    have : 1 ≤ heightT (.mk 4 n hd nm ls ks) := by rw [heightT_mk]; omega
    omega
  rw [encT_mk, List.append_assoc, show Int.toNat 4 = 4 from rfl] at hR
  obtain ⟨CT, hCT⟩ : ∃ CT, cleanT (.mk 4 n hd nm ls ks) = CT := ⟨_, rfl⟩
  rw [hCT]
  have HCT := Hid.mk hCT
  clear hCT
  obtain ⟨W0, hW0⟩ : ∃ W0, w.alloc (.cells #[.int .i64 0, .int .i64 0, .bool false, .string { data := #[] }, .slice none 0 0, .slice none 0 0] 38) = W0 := ⟨_, rfl⟩
  have hb : RowKit.Below w.heap.size w W0 := by rw [← hW0]; exact (Below.refl _ _).alloc (Nat.le_refl _) _
  have hX0 : W0.heap[w.heap.size]? = some (.cells #[.int .i64 0, .int .i64 0, .bool false, .string { data := #[] }, .slice none 0 0, .slice none 0 0] 38 (0, 0)) := by rw [← hW0]; exact alloc_new _ _
  have hR0 := hR.on hb
  obtain ⟨z1, zf⟩ := hR0.deepAt
  obtain ⟨W1, hW1⟩ : ∃ W1, W0.setCell ⟨rb, 1, none⟩ (.int .i64 (deep + 1)) = W1 := ⟨_, rfl⟩
  have hR1 := hR0.setDeep (deep + 1)
  rw [hW1] at hR1
  have hk01 : Kept (fun k => k = rb) W0 W1 := by rw [← hW1]; exact (Kept.refl (fun k => k = rb) W0).setCell (p := ⟨rb, 1, none⟩) rfl _
  have HK1 : Hid (Kept (fun k => k = rb) w W1) := (Kept.of_below hb).trans hk01
  have HX1 : Hid (W1.heap[w.heap.size]? = some (.cells #[.int .i64 0, .int .i64 0, .bool false, .string { data := #[] }, .slice none 0 0, .slice none 0 0] 38 (0, 0))) := box6 hX0 hk01 (by omega)
  obtain ⟨d1, df⟩ := hR1.deepAt
  have HC := rdnum_any N rb 4 _ (deep + 1) W1 hR1 (by decide)
  have HW0 := Hid.mk hW0
  have HW1 := Hid.mk hW1
  have hlt0 : rb < W0.heap.size := hR0.lt
  have hlt1 : rb < W1.heap.size := hR1.lt
  clear hR hb hX0 hR0 hR1 hk01 hW0 hW1 hdh
  go_enter Tryz.func104, Tryz.ntmps104
  go_wp2_with (first | rw [HW0.out] | rw [HW1.out] | fail)
  (try rw [HW0.out])
  (try rw [HW1.out])
  refine HC.mono ?_
  rintro e w2 ⟨rfl, hR2, hk2⟩
  have HK2 : Hid (Kept (fun k => k = rb) w w2) := HK1.out.trans hk2
  have hX2 := box6 HX1.out hk2 (by omega)
  obtain ⟨W3, hW3⟩ : ∃ W3, w2.alloc (.cells #[.int .i64 4, .int .i64 0, .bool false, .string { data := #[] }, .slice none 0 0, .slice none 0 0] 38) = W3 := ⟨_, rfl⟩
  have hb3 : RowKit.Below w2.heap.size w2 W3 := by rw [← hW3]; exact (Below.refl _ _).alloc (Nat.le_refl _) _
  have HT3 : Hid (W3.heap[w2.heap.size]? = some (.cells #[.int .i64 4, .int .i64 0, .bool false, .string { data := #[] }, .slice none 0 0, .slice none 0 0] 38 (0, 0))) := by unfold Hid; rw [← hW3]; exact alloc_new _ _
  have HX3 : Hid (W3.heap[w.heap.size]? = some (.cells #[.int .i64 0, .int .i64 0, .bool false, .string { data := #[] }, .slice none 0 0, .slice none 0 0] 38 (0, 0))) := (hb3.block _ (heap_lt hX2)).trans hX2
  have HR3 := Hid.mk (hR2.on hb3)
  have HK3 : Hid (Kept (fun k => k = rb) w W3) := HK2.out.trans (Kept.of_below hb3)
  have HW3 := Hid.mk hW3
  have hwR : w.heap.size < w2.heap.size := heap_lt hX2
  have hTrb : w2.heap.size ≠ rb := by omega
  have hRrb : w.heap.size ≠ rb := by omega
  have hTR : w2.heap.size ≠ w.heap.size := by omega
  have hTrb' := hTrb.symm
  have hRrb' := hRrb.symm
  have hTR' := hTR.symm
  clear hR2 hk2 hX2 hb3 hW3 HC z1 zf d1 df HX1 HK1
  have hR3 := HR3.out
  rw [show fieldB 4 n hd nm ls = [if hd then 1 else 0] by unfold fieldB; simp, List.append_assoc] at hR3
  have HC3 := rdflag_any N rb hd _ (deep + 1) W3 hR3
  obtain ⟨t0, t1, t2, t3, t4, t5, t6⟩ := cells6 HT3.out
  clear hR3
  go_wp2_with fail
  (try rw [HW3.out])
  refine HC3.mono ?_
  rintro e w4 ⟨rfl, hR4, hk4⟩
  clear t0 t1 t2 t3 t4 t5 HC3
  have HR4 := Hid.mk hR4
  have HK4 : Hid (Kept (fun k => k = rb) w w4) := HK3.out.trans hk4
  have HT4 := Hid.mk (box6 HT3.out hk4 hTrb)
  have HX4 := Hid.mk (box6 HX3.out hk4 hRrb)
  obtain ⟨t0, t1, t2, t3, t4, t5, t6⟩ := cells6 HT4.out
  have tf := frz6 HT4.out
  obtain ⟨y0, y1, y2, y3, y4, y5, y6⟩ := cells6 HX4.out
  have yf := frz6 HX4.out
  obtain ⟨d1, df⟩ := HR4.out.deepAt
  have dl : rb < w4.heap.size := HR4.out.lt
  clear hR4 hk4
  obtain ⟨W5, hW5⟩ : ∃ W5, w4.setCell ⟨w2.heap.size, 2, none⟩ (.bool hd) = W5 := ⟨_, rfl⟩
  have hR5 := HR4.out.setNew (p := ⟨w2.heap.size, 2, none⟩) (by simp only; omega) (.bool hd)
  have hK5 := HK4.out.setNew (p := ⟨w2.heap.size, 2, none⟩) (by simp only; omega) (.bool hd)
  rw [hW5] at hR5 hK5
  have HT5 : Hid (W5.heap[w2.heap.size]? = some (.cells #[.int .i64 4, .int .i64 0, .bool hd, .string { data := #[] }, .slice none 0 0, .slice none 0 0] 38 (0, 0))) := by
    unfold Hid; rw [← hW5, setCell_eq]; show (w4.heap.modify w2.heap.size _)[w2.heap.size]? = _
    rw [Array.getElem?_modify, if_pos rfl, HT4.out]; rfl
  have HX5 : Hid (W5.heap[w.heap.size]? = some (.cells #[.int .i64 0, .int .i64 0, .bool false, .string { data := #[] }, .slice none 0 0, .slice none 0 0] 38 (0, 0))) := by unfold Hid; rw [← hW5]; exact (Below.heap_setCell _ _ _ _ hTR').trans HX4.out
  have HR5 := Hid.mk hR5
  have HK5 := Hid.mk hK5
  have HW5 := Hid.mk hW5
  have HC5 := severalT_any N rb ks rest (deep + 1) W5 hR5 (by have := HKN.out; omega) (by omega) HHI.out HIH.out
  rw [HKN.out] at HC5
  have hT5 : w2.heap.size < W5.heap.size := heap_lt HT5.out
  clear hW5 hR5 hK5
  go_wp2_with fail
  (try rw [HW5.out])
  refine HC5.mono ?_
  rintro e w6 ⟨ka, kc, rfl, hrow, hR6, hk6⟩
  have HROW := Hid.mk hrow
  have hs6 := hk6.size
  clear t0 t1 t2 t3 t4 t5 t6 tf y0 y1 y2 y3 y4 y5 y6 yf d1 df dl HC5 hrow
  have HR6 := Hid.mk hR6
  have HK6 : Hid (Kept (fun k => k = rb) w w6) := HK5.out.trans hk6
  have HT6 := Hid.mk (box6 HT5.out hk6 hTrb)
  have HX6 := Hid.mk (box6 HX5.out hk6 hRrb)
  obtain ⟨t0, t1, t2, t3, t4, t5, t6⟩ := cells6 HT6.out
  have tf := frz6 HT6.out
  obtain ⟨y0, y1, y2, y3, y4, y5, y6⟩ := cells6 HX6.out
  have yf := frz6 HX6.out
  obtain ⟨d1, df⟩ := HR6.out.deepAt
  have dl : rb < w6.heap.size := HR6.out.lt
  clear hR6 hk6
  go_wp2
  refine bodyPost_ret (v := .agg #[.int .i64 4, .int .i64 0, .bool hd, .string { data := #[] }, .slice none 0 0, .slice ka 2 kc]) (by simp [results, Tryz.results104, go_sem, y0, y1, y2, y3, y4, y5]) rfl ⟨_, rfl, ⟨_, _, _, _, _, _, _, _, _, _, rfl⟩, ?_, ?_, ?_⟩
  · rw [← HCT.out, clean_mk]
    have hfin := kd_finW (w := w) (WF := finW (w6.setCell ⟨w2.heap.size, 5, none⟩ (.slice ka 2 kc)) rb w.heap.size deep (.int .i64 4) (.int .i64 0) (.bool hd) (.string { data := #[] }) (.slice none 0 0) (.slice ka 2 kc)) 4 hd HROW.out (fin_size.trans (by simp [World.setCell])) (by omega) (fun k hk => (fin_block (by omega) (by omega)).trans (Below.heap_setCell _ _ _ _ (by simp only; omega)))
    rw [List.length_map, HKN.out] at hfin
    exact hfin
  · exact fin_rd (HR6.out.setNew (p := ⟨w2.heap.size, 5, none⟩) (by simp only; omega) _) hlR
  · exact fin_kept (HK6.out.setNew (p := ⟨w2.heap.size, 5, none⟩) (by simp only; omega) _) (Nat.le_refl _)

set_option maxRecDepth 100000 in
set_option maxHeartbeats 8000000 in
theorem rdterm5 (N rb : Nat) (n : Int) (hd : Bool) (nm : ByteArray) (ls : List LvT) (ks : List Tm) (hf : formedB (.mk 5 n hd nm ls ks) = true) (_hls : ls.length ≤ 1000000) (ih : ∀ k ∈ ks, RdT N rb k) : RdT N rb (.mk 5 n hd nm ls ks) := by
  intro rest deep w hR hd0 hdh
  obtain ⟨hkn0, p1, p2, p10, -⟩ := formed_part hf
  have h3 : kidsR 5 = 2 := by decide
  have hkn : ks.length = 2 := by omega
  have HKN := Hid.mk hkn
  have HIH := Hid.mk ih
  have HHI : Hid (∀ k ∈ ks, deep + 1 + heightT k ≤ 500) := fun k hk => by
    rw [heightT_mk] at hdh
    have := high_kid hk
    omega
  clear h3 hkn0 hf hkn
  have HP1 := Hid.mk p1
  have HP2 := Hid.mk p2
  have HP10 := Hid.mk p10
  clear p1 p2 p10
  have hlR := hR.2.1
  have hrbN := hR.1
  have h500 : ¬ (500 : Int) < deep + 1 := by
    have : 1 ≤ heightT (.mk 5 n hd nm ls ks) := by rw [heightT_mk]; omega
    omega
  rw [encT_mk, List.append_assoc, show Int.toNat 5 = 5 from rfl] at hR
  obtain ⟨CT, hCT⟩ : ∃ CT, cleanT (.mk 5 n hd nm ls ks) = CT := ⟨_, rfl⟩
  rw [hCT]
  have HCT := Hid.mk hCT
  clear hCT
  obtain ⟨W0, hW0⟩ : ∃ W0, w.alloc (.cells #[.int .i64 0, .int .i64 0, .bool false, .string { data := #[] }, .slice none 0 0, .slice none 0 0] 38) = W0 := ⟨_, rfl⟩
  have hb : RowKit.Below w.heap.size w W0 := by rw [← hW0]; exact (Below.refl _ _).alloc (Nat.le_refl _) _
  have hX0 : W0.heap[w.heap.size]? = some (.cells #[.int .i64 0, .int .i64 0, .bool false, .string { data := #[] }, .slice none 0 0, .slice none 0 0] 38 (0, 0)) := by rw [← hW0]; exact alloc_new _ _
  have hR0 := hR.on hb
  obtain ⟨z1, zf⟩ := hR0.deepAt
  obtain ⟨W1, hW1⟩ : ∃ W1, W0.setCell ⟨rb, 1, none⟩ (.int .i64 (deep + 1)) = W1 := ⟨_, rfl⟩
  have hR1 := hR0.setDeep (deep + 1)
  rw [hW1] at hR1
  have hk01 : Kept (fun k => k = rb) W0 W1 := by rw [← hW1]; exact (Kept.refl (fun k => k = rb) W0).setCell (p := ⟨rb, 1, none⟩) rfl _
  have HK1 : Hid (Kept (fun k => k = rb) w W1) := (Kept.of_below hb).trans hk01
  have HX1 : Hid (W1.heap[w.heap.size]? = some (.cells #[.int .i64 0, .int .i64 0, .bool false, .string { data := #[] }, .slice none 0 0, .slice none 0 0] 38 (0, 0))) := box6 hX0 hk01 (by omega)
  obtain ⟨d1, df⟩ := hR1.deepAt
  have HC := rdnum_any N rb 5 _ (deep + 1) W1 hR1 (by decide)
  have HW0 := Hid.mk hW0
  have HW1 := Hid.mk hW1
  have hlt0 : rb < W0.heap.size := hR0.lt
  have hlt1 : rb < W1.heap.size := hR1.lt
  clear hR hb hX0 hR0 hR1 hk01 hW0 hW1 hdh
  go_enter Tryz.func104, Tryz.ntmps104
  go_wp2_with (first | rw [HW0.out] | rw [HW1.out] | fail)
  (try rw [HW0.out])
  (try rw [HW1.out])
  refine HC.mono ?_
  rintro e w2 ⟨rfl, hR2, hk2⟩
  have HK2 : Hid (Kept (fun k => k = rb) w w2) := HK1.out.trans hk2
  have hX2 := box6 HX1.out hk2 (by omega)
  obtain ⟨W3, hW3⟩ : ∃ W3, w2.alloc (.cells #[.int .i64 5, .int .i64 0, .bool false, .string { data := #[] }, .slice none 0 0, .slice none 0 0] 38) = W3 := ⟨_, rfl⟩
  have hb3 : RowKit.Below w2.heap.size w2 W3 := by rw [← hW3]; exact (Below.refl _ _).alloc (Nat.le_refl _) _
  have HT3 : Hid (W3.heap[w2.heap.size]? = some (.cells #[.int .i64 5, .int .i64 0, .bool false, .string { data := #[] }, .slice none 0 0, .slice none 0 0] 38 (0, 0))) := by unfold Hid; rw [← hW3]; exact alloc_new _ _
  have HX3 : Hid (W3.heap[w.heap.size]? = some (.cells #[.int .i64 0, .int .i64 0, .bool false, .string { data := #[] }, .slice none 0 0, .slice none 0 0] 38 (0, 0))) := (hb3.block _ (heap_lt hX2)).trans hX2
  have HR3 := Hid.mk (hR2.on hb3)
  have HK3 : Hid (Kept (fun k => k = rb) w W3) := HK2.out.trans (Kept.of_below hb3)
  have HW3 := Hid.mk hW3
  have hwR : w.heap.size < w2.heap.size := heap_lt hX2
  have hTrb : w2.heap.size ≠ rb := by omega
  have hRrb : w.heap.size ≠ rb := by omega
  have hTR : w2.heap.size ≠ w.heap.size := by omega
  have hTrb' := hTrb.symm
  have hRrb' := hRrb.symm
  have hTR' := hTR.symm
  clear hR2 hk2 hX2 hb3 hW3 HC z1 zf d1 df HX1 HK1
  have hR3 := HR3.out
  rw [show fieldB 5 n hd nm ls = [if hd then 1 else 0] by unfold fieldB; simp, List.append_assoc] at hR3
  have HC3 := rdflag_any N rb hd _ (deep + 1) W3 hR3
  obtain ⟨t0, t1, t2, t3, t4, t5, t6⟩ := cells6 HT3.out
  clear hR3
  go_wp2_with fail
  (try rw [HW3.out])
  refine HC3.mono ?_
  rintro e w4 ⟨rfl, hR4, hk4⟩
  clear t0 t1 t2 t3 t4 t5 HC3
  have HR4 := Hid.mk hR4
  have HK4 : Hid (Kept (fun k => k = rb) w w4) := HK3.out.trans hk4
  have HT4 := Hid.mk (box6 HT3.out hk4 hTrb)
  have HX4 := Hid.mk (box6 HX3.out hk4 hRrb)
  obtain ⟨t0, t1, t2, t3, t4, t5, t6⟩ := cells6 HT4.out
  have tf := frz6 HT4.out
  obtain ⟨y0, y1, y2, y3, y4, y5, y6⟩ := cells6 HX4.out
  have yf := frz6 HX4.out
  obtain ⟨d1, df⟩ := HR4.out.deepAt
  have dl : rb < w4.heap.size := HR4.out.lt
  clear hR4 hk4
  obtain ⟨W5, hW5⟩ : ∃ W5, w4.setCell ⟨w2.heap.size, 2, none⟩ (.bool hd) = W5 := ⟨_, rfl⟩
  have hR5 := HR4.out.setNew (p := ⟨w2.heap.size, 2, none⟩) (by simp only; omega) (.bool hd)
  have hK5 := HK4.out.setNew (p := ⟨w2.heap.size, 2, none⟩) (by simp only; omega) (.bool hd)
  rw [hW5] at hR5 hK5
  have HT5 : Hid (W5.heap[w2.heap.size]? = some (.cells #[.int .i64 5, .int .i64 0, .bool hd, .string { data := #[] }, .slice none 0 0, .slice none 0 0] 38 (0, 0))) := by
    unfold Hid; rw [← hW5, setCell_eq]; show (w4.heap.modify w2.heap.size _)[w2.heap.size]? = _
    rw [Array.getElem?_modify, if_pos rfl, HT4.out]; rfl
  have HX5 : Hid (W5.heap[w.heap.size]? = some (.cells #[.int .i64 0, .int .i64 0, .bool false, .string { data := #[] }, .slice none 0 0, .slice none 0 0] 38 (0, 0))) := by unfold Hid; rw [← hW5]; exact (Below.heap_setCell _ _ _ _ hTR').trans HX4.out
  have HR5 := Hid.mk hR5
  have HK5 := Hid.mk hK5
  have HW5 := Hid.mk hW5
  have HC5 := severalT_any N rb ks rest (deep + 1) W5 hR5 (by have := HKN.out; omega) (by omega) HHI.out HIH.out
  rw [HKN.out] at HC5
  have hT5 : w2.heap.size < W5.heap.size := heap_lt HT5.out
  clear hW5 hR5 hK5
  go_wp2_with fail
  (try rw [HW5.out])
  refine HC5.mono ?_
  rintro e w6 ⟨ka, kc, rfl, hrow, hR6, hk6⟩
  have HROW := Hid.mk hrow
  have hs6 := hk6.size
  clear t0 t1 t2 t3 t4 t5 t6 tf y0 y1 y2 y3 y4 y5 y6 yf d1 df dl HC5 hrow
  have HR6 := Hid.mk hR6
  have HK6 : Hid (Kept (fun k => k = rb) w w6) := HK5.out.trans hk6
  have HT6 := Hid.mk (box6 HT5.out hk6 hTrb)
  have HX6 := Hid.mk (box6 HX5.out hk6 hRrb)
  obtain ⟨t0, t1, t2, t3, t4, t5, t6⟩ := cells6 HT6.out
  have tf := frz6 HT6.out
  obtain ⟨y0, y1, y2, y3, y4, y5, y6⟩ := cells6 HX6.out
  have yf := frz6 HX6.out
  obtain ⟨d1, df⟩ := HR6.out.deepAt
  have dl : rb < w6.heap.size := HR6.out.lt
  clear hR6 hk6
  go_wp2
  refine bodyPost_ret (v := .agg #[.int .i64 5, .int .i64 0, .bool hd, .string { data := #[] }, .slice none 0 0, .slice ka 2 kc]) (by simp [results, Tryz.results104, go_sem, y0, y1, y2, y3, y4, y5]) rfl ⟨_, rfl, ⟨_, _, _, _, _, _, _, _, _, _, rfl⟩, ?_, ?_, ?_⟩
  · rw [← HCT.out, clean_mk]
    have hfin := kd_finW (w := w) (WF := finW (w6.setCell ⟨w2.heap.size, 5, none⟩ (.slice ka 2 kc)) rb w.heap.size deep (.int .i64 5) (.int .i64 0) (.bool hd) (.string { data := #[] }) (.slice none 0 0) (.slice ka 2 kc)) 5 hd HROW.out (fin_size.trans (by simp [World.setCell])) (by omega) (fun k hk => (fin_block (by omega) (by omega)).trans (Below.heap_setCell _ _ _ _ (by simp only; omega)))
    rw [List.length_map, HKN.out] at hfin
    exact hfin
  · exact fin_rd (HR6.out.setNew (p := ⟨w2.heap.size, 5, none⟩) (by simp only; omega) _) hlR
  · exact fin_kept (HK6.out.setNew (p := ⟨w2.heap.size, 5, none⟩) (by simp only; omega) _) (Nat.le_refl _)

set_option maxRecDepth 100000 in
set_option maxHeartbeats 8000000 in
theorem rdterm6 (N rb : Nat) (n : Int) (hd : Bool) (nm : ByteArray) (ls : List LvT) (ks : List Tm) (hf : formedB (.mk 6 n hd nm ls ks) = true) (_hls : ls.length ≤ 1000000) (ih : ∀ k ∈ ks, RdT N rb k) : RdT N rb (.mk 6 n hd nm ls ks) := by
  intro rest deep w hR hd0 hdh
  obtain ⟨hkn0, p1, p2, p10, -⟩ := formed_part hf
  have h3 : kidsR 6 = 2 := by decide
  have hkn : ks.length = 2 := by omega
  have HKN := Hid.mk hkn
  have HIH := Hid.mk ih
  have HHI : Hid (∀ k ∈ ks, deep + 1 + heightT k ≤ 500) := fun k hk => by
    rw [heightT_mk] at hdh
    have := high_kid hk
    omega
  clear h3 hkn0 hf hkn
  have HP1 := Hid.mk p1
  have HP2 := Hid.mk p2
  have HP10 := Hid.mk p10
  clear p1 p2 p10
  have hlR := hR.2.1
  have hrbN := hR.1
  have h500 : ¬ (500 : Int) < deep + 1 := by
    have : 1 ≤ heightT (.mk 6 n hd nm ls ks) := by rw [heightT_mk]; omega
    omega
  rw [encT_mk, List.append_assoc, show Int.toNat 6 = 6 from rfl] at hR
  obtain ⟨CT, hCT⟩ : ∃ CT, cleanT (.mk 6 n hd nm ls ks) = CT := ⟨_, rfl⟩
  rw [hCT]
  have HCT := Hid.mk hCT
  clear hCT
  obtain ⟨W0, hW0⟩ : ∃ W0, w.alloc (.cells #[.int .i64 0, .int .i64 0, .bool false, .string { data := #[] }, .slice none 0 0, .slice none 0 0] 38) = W0 := ⟨_, rfl⟩
  have hb : RowKit.Below w.heap.size w W0 := by rw [← hW0]; exact (Below.refl _ _).alloc (Nat.le_refl _) _
  have hX0 : W0.heap[w.heap.size]? = some (.cells #[.int .i64 0, .int .i64 0, .bool false, .string { data := #[] }, .slice none 0 0, .slice none 0 0] 38 (0, 0)) := by rw [← hW0]; exact alloc_new _ _
  have hR0 := hR.on hb
  obtain ⟨z1, zf⟩ := hR0.deepAt
  obtain ⟨W1, hW1⟩ : ∃ W1, W0.setCell ⟨rb, 1, none⟩ (.int .i64 (deep + 1)) = W1 := ⟨_, rfl⟩
  have hR1 := hR0.setDeep (deep + 1)
  rw [hW1] at hR1
  have hk01 : Kept (fun k => k = rb) W0 W1 := by rw [← hW1]; exact (Kept.refl (fun k => k = rb) W0).setCell (p := ⟨rb, 1, none⟩) rfl _
  have HK1 : Hid (Kept (fun k => k = rb) w W1) := (Kept.of_below hb).trans hk01
  have HX1 : Hid (W1.heap[w.heap.size]? = some (.cells #[.int .i64 0, .int .i64 0, .bool false, .string { data := #[] }, .slice none 0 0, .slice none 0 0] 38 (0, 0))) := box6 hX0 hk01 (by omega)
  obtain ⟨d1, df⟩ := hR1.deepAt
  have HC := rdnum_any N rb 6 _ (deep + 1) W1 hR1 (by decide)
  have HW0 := Hid.mk hW0
  have HW1 := Hid.mk hW1
  have hlt0 : rb < W0.heap.size := hR0.lt
  have hlt1 : rb < W1.heap.size := hR1.lt
  clear hR hb hX0 hR0 hR1 hk01 hW0 hW1 hdh
  go_enter Tryz.func104, Tryz.ntmps104
  go_wp2_with (first | rw [HW0.out] | rw [HW1.out] | fail)
  (try rw [HW0.out])
  (try rw [HW1.out])
  refine HC.mono ?_
  rintro e w2 ⟨rfl, hR2, hk2⟩
  have HK2 : Hid (Kept (fun k => k = rb) w w2) := HK1.out.trans hk2
  have hX2 := box6 HX1.out hk2 (by omega)
  obtain ⟨W3, hW3⟩ : ∃ W3, w2.alloc (.cells #[.int .i64 6, .int .i64 0, .bool false, .string { data := #[] }, .slice none 0 0, .slice none 0 0] 38) = W3 := ⟨_, rfl⟩
  have hb3 : RowKit.Below w2.heap.size w2 W3 := by rw [← hW3]; exact (Below.refl _ _).alloc (Nat.le_refl _) _
  have HT3 : Hid (W3.heap[w2.heap.size]? = some (.cells #[.int .i64 6, .int .i64 0, .bool false, .string { data := #[] }, .slice none 0 0, .slice none 0 0] 38 (0, 0))) := by unfold Hid; rw [← hW3]; exact alloc_new _ _
  have HX3 : Hid (W3.heap[w.heap.size]? = some (.cells #[.int .i64 0, .int .i64 0, .bool false, .string { data := #[] }, .slice none 0 0, .slice none 0 0] 38 (0, 0))) := (hb3.block _ (heap_lt hX2)).trans hX2
  have HR3 := Hid.mk (hR2.on hb3)
  have HK3 : Hid (Kept (fun k => k = rb) w W3) := HK2.out.trans (Kept.of_below hb3)
  have HW3 := Hid.mk hW3
  have hwR : w.heap.size < w2.heap.size := heap_lt hX2
  have hTrb : w2.heap.size ≠ rb := by omega
  have hRrb : w.heap.size ≠ rb := by omega
  have hTR : w2.heap.size ≠ w.heap.size := by omega
  have hTrb' := hTrb.symm
  have hRrb' := hRrb.symm
  have hTR' := hTR.symm
  clear hR2 hk2 hX2 hb3 hW3 HC z1 zf d1 df HX1 HK1
  have hR3 := HR3.out
  rw [show fieldB 6 n hd nm ls = [] by unfold fieldB; simp, List.nil_append] at hR3
  have HC3 := severalT_any N rb ks rest (deep + 1) W3 hR3 (by have := HKN.out; omega) (by omega) HHI.out HIH.out
  rw [HKN.out] at HC3
  obtain ⟨t0, t1, t2, t3, t4, t5, t6⟩ := cells6 HT3.out
  clear hR3
  go_wp2_with fail
  (try rw [HW3.out])
  refine HC3.mono ?_
  rintro e w4 ⟨ka, kc, rfl, hrow, hR4, hk4⟩
  have HROW := Hid.mk hrow
  have hs4 := hk4.size
  clear t0 t1 t2 t3 t4 t5 HC3 hrow
  have HR4 := Hid.mk hR4
  have HK4 : Hid (Kept (fun k => k = rb) w w4) := HK3.out.trans hk4
  have HT4 := Hid.mk (box6 HT3.out hk4 hTrb)
  have HX4 := Hid.mk (box6 HX3.out hk4 hRrb)
  obtain ⟨t0, t1, t2, t3, t4, t5, t6⟩ := cells6 HT4.out
  have tf := frz6 HT4.out
  obtain ⟨y0, y1, y2, y3, y4, y5, y6⟩ := cells6 HX4.out
  have yf := frz6 HX4.out
  obtain ⟨d1, df⟩ := HR4.out.deepAt
  have dl : rb < w4.heap.size := HR4.out.lt
  clear hR4 hk4
  go_wp2
  refine bodyPost_ret (v := .agg #[.int .i64 6, .int .i64 0, .bool false, .string { data := #[] }, .slice none 0 0, .slice ka 2 kc]) (by simp [results, Tryz.results104, go_sem, y0, y1, y2, y3, y4, y5]) rfl ⟨_, rfl, ⟨_, _, _, _, _, _, _, _, _, _, rfl⟩, ?_, ?_, ?_⟩
  · rw [← HCT.out, clean_mk]
    have hfin := kd_finW (w := w) (WF := finW (w4.setCell ⟨w2.heap.size, 5, none⟩ (.slice ka 2 kc)) rb w.heap.size deep (.int .i64 6) (.int .i64 0) (.bool false) (.string { data := #[] }) (.slice none 0 0) (.slice ka 2 kc)) 6 false HROW.out (fin_size.trans (by simp [World.setCell])) (by omega) (fun k hk => (fin_block (by omega) (by omega)).trans (Below.heap_setCell _ _ _ _ (by simp only; omega)))
    rw [List.length_map, HKN.out] at hfin
    exact hfin
  · exact fin_rd (HR4.out.setNew (p := ⟨w2.heap.size, 5, none⟩) (by simp only; omega) _) hlR
  · exact fin_kept (HK4.out.setNew (p := ⟨w2.heap.size, 5, none⟩) (by simp only; omega) _) (Nat.le_refl _)

set_option maxRecDepth 100000 in
set_option maxHeartbeats 8000000 in
theorem rdterm7 (N rb : Nat) (n : Int) (hd : Bool) (nm : ByteArray) (ls : List LvT) (ks : List Tm) (hf : formedB (.mk 7 n hd nm ls ks) = true) (_hls : ls.length ≤ 1000000) (ih : ∀ k ∈ ks, RdT N rb k) : RdT N rb (.mk 7 n hd nm ls ks) := by
  intro rest deep w hR hd0 hdh
  obtain ⟨hkn0, p1, p2, p10, -⟩ := formed_part hf
  have h3 : kidsR 7 = 3 := by decide
  have hkn : ks.length = 3 := by omega
  have HKN := Hid.mk hkn
  have HIH := Hid.mk ih
  have HHI : Hid (∀ k ∈ ks, deep + 1 + heightT k ≤ 500) := fun k hk => by
    rw [heightT_mk] at hdh
    have := high_kid hk
    omega
  clear h3 hkn0 hf hkn
  have HP1 := Hid.mk p1
  have HP2 := Hid.mk p2
  have HP10 := Hid.mk p10
  clear p1 p2 p10
  have hlR := hR.2.1
  have hrbN := hR.1
  have h500 : ¬ (500 : Int) < deep + 1 := by
    have : 1 ≤ heightT (.mk 7 n hd nm ls ks) := by rw [heightT_mk]; omega
    omega
  rw [encT_mk, List.append_assoc, show Int.toNat 7 = 7 from rfl] at hR
  obtain ⟨CT, hCT⟩ : ∃ CT, cleanT (.mk 7 n hd nm ls ks) = CT := ⟨_, rfl⟩
  rw [hCT]
  have HCT := Hid.mk hCT
  clear hCT
  obtain ⟨W0, hW0⟩ : ∃ W0, w.alloc (.cells #[.int .i64 0, .int .i64 0, .bool false, .string { data := #[] }, .slice none 0 0, .slice none 0 0] 38) = W0 := ⟨_, rfl⟩
  have hb : RowKit.Below w.heap.size w W0 := by rw [← hW0]; exact (Below.refl _ _).alloc (Nat.le_refl _) _
  have hX0 : W0.heap[w.heap.size]? = some (.cells #[.int .i64 0, .int .i64 0, .bool false, .string { data := #[] }, .slice none 0 0, .slice none 0 0] 38 (0, 0)) := by rw [← hW0]; exact alloc_new _ _
  have hR0 := hR.on hb
  obtain ⟨z1, zf⟩ := hR0.deepAt
  obtain ⟨W1, hW1⟩ : ∃ W1, W0.setCell ⟨rb, 1, none⟩ (.int .i64 (deep + 1)) = W1 := ⟨_, rfl⟩
  have hR1 := hR0.setDeep (deep + 1)
  rw [hW1] at hR1
  have hk01 : Kept (fun k => k = rb) W0 W1 := by rw [← hW1]; exact (Kept.refl (fun k => k = rb) W0).setCell (p := ⟨rb, 1, none⟩) rfl _
  have HK1 : Hid (Kept (fun k => k = rb) w W1) := (Kept.of_below hb).trans hk01
  have HX1 : Hid (W1.heap[w.heap.size]? = some (.cells #[.int .i64 0, .int .i64 0, .bool false, .string { data := #[] }, .slice none 0 0, .slice none 0 0] 38 (0, 0))) := box6 hX0 hk01 (by omega)
  obtain ⟨d1, df⟩ := hR1.deepAt
  have HC := rdnum_any N rb 7 _ (deep + 1) W1 hR1 (by decide)
  have HW0 := Hid.mk hW0
  have HW1 := Hid.mk hW1
  have hlt0 : rb < W0.heap.size := hR0.lt
  have hlt1 : rb < W1.heap.size := hR1.lt
  clear hR hb hX0 hR0 hR1 hk01 hW0 hW1 hdh
  go_enter Tryz.func104, Tryz.ntmps104
  go_wp2_with (first | rw [HW0.out] | rw [HW1.out] | fail)
  (try rw [HW0.out])
  (try rw [HW1.out])
  refine HC.mono ?_
  rintro e w2 ⟨rfl, hR2, hk2⟩
  have HK2 : Hid (Kept (fun k => k = rb) w w2) := HK1.out.trans hk2
  have hX2 := box6 HX1.out hk2 (by omega)
  obtain ⟨W3, hW3⟩ : ∃ W3, w2.alloc (.cells #[.int .i64 7, .int .i64 0, .bool false, .string { data := #[] }, .slice none 0 0, .slice none 0 0] 38) = W3 := ⟨_, rfl⟩
  have hb3 : RowKit.Below w2.heap.size w2 W3 := by rw [← hW3]; exact (Below.refl _ _).alloc (Nat.le_refl _) _
  have HT3 : Hid (W3.heap[w2.heap.size]? = some (.cells #[.int .i64 7, .int .i64 0, .bool false, .string { data := #[] }, .slice none 0 0, .slice none 0 0] 38 (0, 0))) := by unfold Hid; rw [← hW3]; exact alloc_new _ _
  have HX3 : Hid (W3.heap[w.heap.size]? = some (.cells #[.int .i64 0, .int .i64 0, .bool false, .string { data := #[] }, .slice none 0 0, .slice none 0 0] 38 (0, 0))) := (hb3.block _ (heap_lt hX2)).trans hX2
  have HR3 := Hid.mk (hR2.on hb3)
  have HK3 : Hid (Kept (fun k => k = rb) w W3) := HK2.out.trans (Kept.of_below hb3)
  have HW3 := Hid.mk hW3
  have hwR : w.heap.size < w2.heap.size := heap_lt hX2
  have hTrb : w2.heap.size ≠ rb := by omega
  have hRrb : w.heap.size ≠ rb := by omega
  have hTR : w2.heap.size ≠ w.heap.size := by omega
  have hTrb' := hTrb.symm
  have hRrb' := hRrb.symm
  have hTR' := hTR.symm
  clear hR2 hk2 hX2 hb3 hW3 HC z1 zf d1 df HX1 HK1
  have hR3 := HR3.out
  rw [show fieldB 7 n hd nm ls = [] by unfold fieldB; simp, List.nil_append] at hR3
  have HC3 := severalT_any N rb ks rest (deep + 1) W3 hR3 (by have := HKN.out; omega) (by omega) HHI.out HIH.out
  rw [HKN.out] at HC3
  obtain ⟨t0, t1, t2, t3, t4, t5, t6⟩ := cells6 HT3.out
  clear hR3
  go_wp2_with fail
  (try rw [HW3.out])
  refine HC3.mono ?_
  rintro e w4 ⟨ka, kc, rfl, hrow, hR4, hk4⟩
  have HROW := Hid.mk hrow
  have hs4 := hk4.size
  clear t0 t1 t2 t3 t4 t5 HC3 hrow
  have HR4 := Hid.mk hR4
  have HK4 : Hid (Kept (fun k => k = rb) w w4) := HK3.out.trans hk4
  have HT4 := Hid.mk (box6 HT3.out hk4 hTrb)
  have HX4 := Hid.mk (box6 HX3.out hk4 hRrb)
  obtain ⟨t0, t1, t2, t3, t4, t5, t6⟩ := cells6 HT4.out
  have tf := frz6 HT4.out
  obtain ⟨y0, y1, y2, y3, y4, y5, y6⟩ := cells6 HX4.out
  have yf := frz6 HX4.out
  obtain ⟨d1, df⟩ := HR4.out.deepAt
  have dl : rb < w4.heap.size := HR4.out.lt
  clear hR4 hk4
  go_wp2
  refine bodyPost_ret (v := .agg #[.int .i64 7, .int .i64 0, .bool false, .string { data := #[] }, .slice none 0 0, .slice ka 3 kc]) (by simp [results, Tryz.results104, go_sem, y0, y1, y2, y3, y4, y5]) rfl ⟨_, rfl, ⟨_, _, _, _, _, _, _, _, _, _, rfl⟩, ?_, ?_, ?_⟩
  · rw [← HCT.out, clean_mk]
    have hfin := kd_finW (w := w) (WF := finW (w4.setCell ⟨w2.heap.size, 5, none⟩ (.slice ka 3 kc)) rb w.heap.size deep (.int .i64 7) (.int .i64 0) (.bool false) (.string { data := #[] }) (.slice none 0 0) (.slice ka 3 kc)) 7 false HROW.out (fin_size.trans (by simp [World.setCell])) (by omega) (fun k hk => (fin_block (by omega) (by omega)).trans (Below.heap_setCell _ _ _ _ (by simp only; omega)))
    rw [List.length_map, HKN.out] at hfin
    exact hfin
  · exact fin_rd (HR4.out.setNew (p := ⟨w2.heap.size, 5, none⟩) (by simp only; omega) _) hlR
  · exact fin_kept (HK4.out.setNew (p := ⟨w2.heap.size, 5, none⟩) (by simp only; omega) _) (Nat.le_refl _)

set_option maxRecDepth 100000 in
set_option maxHeartbeats 8000000 in
theorem rdterm8 (N rb : Nat) (n : Int) (hd : Bool) (nm : ByteArray) (ls : List LvT) (ks : List Tm) (hf : formedB (.mk 8 n hd nm ls ks) = true) (_hls : ls.length ≤ 1000000) (ih : ∀ k ∈ ks, RdT N rb k) : RdT N rb (.mk 8 n hd nm ls ks) := by
  intro rest deep w hR hd0 hdh
  obtain ⟨hkn0, p1, p2, p10, -⟩ := formed_part hf
  have h3 : kidsR 8 = 1 := by decide
  have hkn : ks.length = 1 := by omega
  have HKN := Hid.mk hkn
  have HIH := Hid.mk ih
  have HHI : Hid (∀ k ∈ ks, deep + 1 + heightT k ≤ 500) := fun k hk => by
    rw [heightT_mk] at hdh
    have := high_kid hk
    omega
  clear h3 hkn0 hf hkn
  have HP1 := Hid.mk p1
  have HP2 := Hid.mk p2
  have HP10 := Hid.mk p10
  clear p1 p2 p10
  have hlR := hR.2.1
  have hrbN := hR.1
  have h500 : ¬ (500 : Int) < deep + 1 := by
    have : 1 ≤ heightT (.mk 8 n hd nm ls ks) := by rw [heightT_mk]; omega
    omega
  rw [encT_mk, List.append_assoc, show Int.toNat 8 = 8 from rfl] at hR
  obtain ⟨CT, hCT⟩ : ∃ CT, cleanT (.mk 8 n hd nm ls ks) = CT := ⟨_, rfl⟩
  rw [hCT]
  have HCT := Hid.mk hCT
  clear hCT
  obtain ⟨W0, hW0⟩ : ∃ W0, w.alloc (.cells #[.int .i64 0, .int .i64 0, .bool false, .string { data := #[] }, .slice none 0 0, .slice none 0 0] 38) = W0 := ⟨_, rfl⟩
  have hb : RowKit.Below w.heap.size w W0 := by rw [← hW0]; exact (Below.refl _ _).alloc (Nat.le_refl _) _
  have hX0 : W0.heap[w.heap.size]? = some (.cells #[.int .i64 0, .int .i64 0, .bool false, .string { data := #[] }, .slice none 0 0, .slice none 0 0] 38 (0, 0)) := by rw [← hW0]; exact alloc_new _ _
  have hR0 := hR.on hb
  obtain ⟨z1, zf⟩ := hR0.deepAt
  obtain ⟨W1, hW1⟩ : ∃ W1, W0.setCell ⟨rb, 1, none⟩ (.int .i64 (deep + 1)) = W1 := ⟨_, rfl⟩
  have hR1 := hR0.setDeep (deep + 1)
  rw [hW1] at hR1
  have hk01 : Kept (fun k => k = rb) W0 W1 := by rw [← hW1]; exact (Kept.refl (fun k => k = rb) W0).setCell (p := ⟨rb, 1, none⟩) rfl _
  have HK1 : Hid (Kept (fun k => k = rb) w W1) := (Kept.of_below hb).trans hk01
  have HX1 : Hid (W1.heap[w.heap.size]? = some (.cells #[.int .i64 0, .int .i64 0, .bool false, .string { data := #[] }, .slice none 0 0, .slice none 0 0] 38 (0, 0))) := box6 hX0 hk01 (by omega)
  obtain ⟨d1, df⟩ := hR1.deepAt
  have HC := rdnum_any N rb 8 _ (deep + 1) W1 hR1 (by decide)
  have HW0 := Hid.mk hW0
  have HW1 := Hid.mk hW1
  have hlt0 : rb < W0.heap.size := hR0.lt
  have hlt1 : rb < W1.heap.size := hR1.lt
  clear hR hb hX0 hR0 hR1 hk01 hW0 hW1 hdh
  go_enter Tryz.func104, Tryz.ntmps104
  go_wp2_with (first | rw [HW0.out] | rw [HW1.out] | fail)
  (try rw [HW0.out])
  (try rw [HW1.out])
  refine HC.mono ?_
  rintro e w2 ⟨rfl, hR2, hk2⟩
  have HK2 : Hid (Kept (fun k => k = rb) w w2) := HK1.out.trans hk2
  have hX2 := box6 HX1.out hk2 (by omega)
  obtain ⟨W3, hW3⟩ : ∃ W3, w2.alloc (.cells #[.int .i64 8, .int .i64 0, .bool false, .string { data := #[] }, .slice none 0 0, .slice none 0 0] 38) = W3 := ⟨_, rfl⟩
  have hb3 : RowKit.Below w2.heap.size w2 W3 := by rw [← hW3]; exact (Below.refl _ _).alloc (Nat.le_refl _) _
  have HT3 : Hid (W3.heap[w2.heap.size]? = some (.cells #[.int .i64 8, .int .i64 0, .bool false, .string { data := #[] }, .slice none 0 0, .slice none 0 0] 38 (0, 0))) := by unfold Hid; rw [← hW3]; exact alloc_new _ _
  have HX3 : Hid (W3.heap[w.heap.size]? = some (.cells #[.int .i64 0, .int .i64 0, .bool false, .string { data := #[] }, .slice none 0 0, .slice none 0 0] 38 (0, 0))) := (hb3.block _ (heap_lt hX2)).trans hX2
  have HR3 := Hid.mk (hR2.on hb3)
  have HK3 : Hid (Kept (fun k => k = rb) w W3) := HK2.out.trans (Kept.of_below hb3)
  have HW3 := Hid.mk hW3
  have hwR : w.heap.size < w2.heap.size := heap_lt hX2
  have hTrb : w2.heap.size ≠ rb := by omega
  have hRrb : w.heap.size ≠ rb := by omega
  have hTR : w2.heap.size ≠ w.heap.size := by omega
  have hTrb' := hTrb.symm
  have hRrb' := hRrb.symm
  have hTR' := hTR.symm
  clear hR2 hk2 hX2 hb3 hW3 HC z1 zf d1 df HX1 HK1
  have hR3 := HR3.out
  rw [show fieldB 8 n hd nm ls = [] by unfold fieldB; simp, List.nil_append] at hR3
  have HC3 := severalT_any N rb ks rest (deep + 1) W3 hR3 (by have := HKN.out; omega) (by omega) HHI.out HIH.out
  rw [HKN.out] at HC3
  obtain ⟨t0, t1, t2, t3, t4, t5, t6⟩ := cells6 HT3.out
  clear hR3
  go_wp2_with fail
  (try rw [HW3.out])
  refine HC3.mono ?_
  rintro e w4 ⟨ka, kc, rfl, hrow, hR4, hk4⟩
  have HROW := Hid.mk hrow
  have hs4 := hk4.size
  clear t0 t1 t2 t3 t4 t5 HC3 hrow
  have HR4 := Hid.mk hR4
  have HK4 : Hid (Kept (fun k => k = rb) w w4) := HK3.out.trans hk4
  have HT4 := Hid.mk (box6 HT3.out hk4 hTrb)
  have HX4 := Hid.mk (box6 HX3.out hk4 hRrb)
  obtain ⟨t0, t1, t2, t3, t4, t5, t6⟩ := cells6 HT4.out
  have tf := frz6 HT4.out
  obtain ⟨y0, y1, y2, y3, y4, y5, y6⟩ := cells6 HX4.out
  have yf := frz6 HX4.out
  obtain ⟨d1, df⟩ := HR4.out.deepAt
  have dl : rb < w4.heap.size := HR4.out.lt
  clear hR4 hk4
  go_wp2
  refine bodyPost_ret (v := .agg #[.int .i64 8, .int .i64 0, .bool false, .string { data := #[] }, .slice none 0 0, .slice ka 1 kc]) (by simp [results, Tryz.results104, go_sem, y0, y1, y2, y3, y4, y5]) rfl ⟨_, rfl, ⟨_, _, _, _, _, _, _, _, _, _, rfl⟩, ?_, ?_, ?_⟩
  · rw [← HCT.out, clean_mk]
    have hfin := kd_finW (w := w) (WF := finW (w4.setCell ⟨w2.heap.size, 5, none⟩ (.slice ka 1 kc)) rb w.heap.size deep (.int .i64 8) (.int .i64 0) (.bool false) (.string { data := #[] }) (.slice none 0 0) (.slice ka 1 kc)) 8 false HROW.out (fin_size.trans (by simp [World.setCell])) (by omega) (fun k hk => (fin_block (by omega) (by omega)).trans (Below.heap_setCell _ _ _ _ (by simp only; omega)))
    rw [List.length_map, HKN.out] at hfin
    exact hfin
  · exact fin_rd (HR4.out.setNew (p := ⟨w2.heap.size, 5, none⟩) (by simp only; omega) _) hlR
  · exact fin_kept (HK4.out.setNew (p := ⟨w2.heap.size, 5, none⟩) (by simp only; omega) _) (Nat.le_refl _)

set_option maxRecDepth 100000 in
set_option maxHeartbeats 8000000 in
theorem rdterm9 (N rb : Nat) (n : Int) (hd : Bool) (nm : ByteArray) (ls : List LvT) (ks : List Tm) (hf : formedB (.mk 9 n hd nm ls ks) = true) (_hls : ls.length ≤ 1000000) (ih : ∀ k ∈ ks, RdT N rb k) : RdT N rb (.mk 9 n hd nm ls ks) := by
  intro rest deep w hR hd0 hdh
  obtain ⟨hkn0, p1, p2, p10, -⟩ := formed_part hf
  have h3 : kidsR 9 = 1 := by decide
  have hkn : ks.length = 1 := by omega
  have HKN := Hid.mk hkn
  have HIH := Hid.mk ih
  have HHI : Hid (∀ k ∈ ks, deep + 1 + heightT k ≤ 500) := fun k hk => by
    rw [heightT_mk] at hdh
    have := high_kid hk
    omega
  clear h3 hkn0 hf hkn
  have HP1 := Hid.mk p1
  have HP2 := Hid.mk p2
  have HP10 := Hid.mk p10
  clear p1 p2 p10
  have hlR := hR.2.1
  have hrbN := hR.1
  have h500 : ¬ (500 : Int) < deep + 1 := by
    have : 1 ≤ heightT (.mk 9 n hd nm ls ks) := by rw [heightT_mk]; omega
    omega
  rw [encT_mk, List.append_assoc, show Int.toNat 9 = 9 from rfl] at hR
  obtain ⟨CT, hCT⟩ : ∃ CT, cleanT (.mk 9 n hd nm ls ks) = CT := ⟨_, rfl⟩
  rw [hCT]
  have HCT := Hid.mk hCT
  clear hCT
  obtain ⟨W0, hW0⟩ : ∃ W0, w.alloc (.cells #[.int .i64 0, .int .i64 0, .bool false, .string { data := #[] }, .slice none 0 0, .slice none 0 0] 38) = W0 := ⟨_, rfl⟩
  have hb : RowKit.Below w.heap.size w W0 := by rw [← hW0]; exact (Below.refl _ _).alloc (Nat.le_refl _) _
  have hX0 : W0.heap[w.heap.size]? = some (.cells #[.int .i64 0, .int .i64 0, .bool false, .string { data := #[] }, .slice none 0 0, .slice none 0 0] 38 (0, 0)) := by rw [← hW0]; exact alloc_new _ _
  have hR0 := hR.on hb
  obtain ⟨z1, zf⟩ := hR0.deepAt
  obtain ⟨W1, hW1⟩ : ∃ W1, W0.setCell ⟨rb, 1, none⟩ (.int .i64 (deep + 1)) = W1 := ⟨_, rfl⟩
  have hR1 := hR0.setDeep (deep + 1)
  rw [hW1] at hR1
  have hk01 : Kept (fun k => k = rb) W0 W1 := by rw [← hW1]; exact (Kept.refl (fun k => k = rb) W0).setCell (p := ⟨rb, 1, none⟩) rfl _
  have HK1 : Hid (Kept (fun k => k = rb) w W1) := (Kept.of_below hb).trans hk01
  have HX1 : Hid (W1.heap[w.heap.size]? = some (.cells #[.int .i64 0, .int .i64 0, .bool false, .string { data := #[] }, .slice none 0 0, .slice none 0 0] 38 (0, 0))) := box6 hX0 hk01 (by omega)
  obtain ⟨d1, df⟩ := hR1.deepAt
  have HC := rdnum_any N rb 9 _ (deep + 1) W1 hR1 (by decide)
  have HW0 := Hid.mk hW0
  have HW1 := Hid.mk hW1
  have hlt0 : rb < W0.heap.size := hR0.lt
  have hlt1 : rb < W1.heap.size := hR1.lt
  clear hR hb hX0 hR0 hR1 hk01 hW0 hW1 hdh
  go_enter Tryz.func104, Tryz.ntmps104
  go_wp2_with (first | rw [HW0.out] | rw [HW1.out] | fail)
  (try rw [HW0.out])
  (try rw [HW1.out])
  refine HC.mono ?_
  rintro e w2 ⟨rfl, hR2, hk2⟩
  have HK2 : Hid (Kept (fun k => k = rb) w w2) := HK1.out.trans hk2
  have hX2 := box6 HX1.out hk2 (by omega)
  obtain ⟨W3, hW3⟩ : ∃ W3, w2.alloc (.cells #[.int .i64 9, .int .i64 0, .bool false, .string { data := #[] }, .slice none 0 0, .slice none 0 0] 38) = W3 := ⟨_, rfl⟩
  have hb3 : RowKit.Below w2.heap.size w2 W3 := by rw [← hW3]; exact (Below.refl _ _).alloc (Nat.le_refl _) _
  have HT3 : Hid (W3.heap[w2.heap.size]? = some (.cells #[.int .i64 9, .int .i64 0, .bool false, .string { data := #[] }, .slice none 0 0, .slice none 0 0] 38 (0, 0))) := by unfold Hid; rw [← hW3]; exact alloc_new _ _
  have HX3 : Hid (W3.heap[w.heap.size]? = some (.cells #[.int .i64 0, .int .i64 0, .bool false, .string { data := #[] }, .slice none 0 0, .slice none 0 0] 38 (0, 0))) := (hb3.block _ (heap_lt hX2)).trans hX2
  have HR3 := Hid.mk (hR2.on hb3)
  have HK3 : Hid (Kept (fun k => k = rb) w W3) := HK2.out.trans (Kept.of_below hb3)
  have HW3 := Hid.mk hW3
  have hwR : w.heap.size < w2.heap.size := heap_lt hX2
  have hTrb : w2.heap.size ≠ rb := by omega
  have hRrb : w.heap.size ≠ rb := by omega
  have hTR : w2.heap.size ≠ w.heap.size := by omega
  have hTrb' := hTrb.symm
  have hRrb' := hRrb.symm
  have hTR' := hTR.symm
  clear hR2 hk2 hX2 hb3 hW3 HC z1 zf d1 df HX1 HK1
  have hR3 := HR3.out
  rw [show fieldB 9 n hd nm ls = [] by unfold fieldB; simp, List.nil_append] at hR3
  have HC3 := severalT_any N rb ks rest (deep + 1) W3 hR3 (by have := HKN.out; omega) (by omega) HHI.out HIH.out
  rw [HKN.out] at HC3
  obtain ⟨t0, t1, t2, t3, t4, t5, t6⟩ := cells6 HT3.out
  clear hR3
  go_wp2_with fail
  (try rw [HW3.out])
  refine HC3.mono ?_
  rintro e w4 ⟨ka, kc, rfl, hrow, hR4, hk4⟩
  have HROW := Hid.mk hrow
  have hs4 := hk4.size
  clear t0 t1 t2 t3 t4 t5 HC3 hrow
  have HR4 := Hid.mk hR4
  have HK4 : Hid (Kept (fun k => k = rb) w w4) := HK3.out.trans hk4
  have HT4 := Hid.mk (box6 HT3.out hk4 hTrb)
  have HX4 := Hid.mk (box6 HX3.out hk4 hRrb)
  obtain ⟨t0, t1, t2, t3, t4, t5, t6⟩ := cells6 HT4.out
  have tf := frz6 HT4.out
  obtain ⟨y0, y1, y2, y3, y4, y5, y6⟩ := cells6 HX4.out
  have yf := frz6 HX4.out
  obtain ⟨d1, df⟩ := HR4.out.deepAt
  have dl : rb < w4.heap.size := HR4.out.lt
  clear hR4 hk4
  go_wp2
  refine bodyPost_ret (v := .agg #[.int .i64 9, .int .i64 0, .bool false, .string { data := #[] }, .slice none 0 0, .slice ka 1 kc]) (by simp [results, Tryz.results104, go_sem, y0, y1, y2, y3, y4, y5]) rfl ⟨_, rfl, ⟨_, _, _, _, _, _, _, _, _, _, rfl⟩, ?_, ?_, ?_⟩
  · rw [← HCT.out, clean_mk]
    have hfin := kd_finW (w := w) (WF := finW (w4.setCell ⟨w2.heap.size, 5, none⟩ (.slice ka 1 kc)) rb w.heap.size deep (.int .i64 9) (.int .i64 0) (.bool false) (.string { data := #[] }) (.slice none 0 0) (.slice ka 1 kc)) 9 false HROW.out (fin_size.trans (by simp [World.setCell])) (by omega) (fun k hk => (fin_block (by omega) (by omega)).trans (Below.heap_setCell _ _ _ _ (by simp only; omega)))
    rw [List.length_map, HKN.out] at hfin
    exact hfin
  · exact fin_rd (HR4.out.setNew (p := ⟨w2.heap.size, 5, none⟩) (by simp only; omega) _) hlR
  · exact fin_kept (HK4.out.setNew (p := ⟨w2.heap.size, 5, none⟩) (by simp only; omega) _) (Nat.le_refl _)

set_option maxRecDepth 100000 in
set_option maxHeartbeats 8000000 in
theorem rdterm10 (N rb : Nat) (n : Int) (hd : Bool) (nm : ByteArray) (ls : List LvT) (ks : List Tm) (hf : formedB (.mk 10 n hd nm ls ks) = true) (hls : ls.length ≤ 1000000) (_ih : ∀ k ∈ ks, RdT N rb k) : RdT N rb (.mk 10 n hd nm ls ks) := by
  intro rest deep w hR hd0 hdh
  obtain ⟨hkn0, p1, p2, p10, -⟩ := formed_part hf
  have h3 : kidsR 10 = 0 := by decide
  have hkn : ks.length = 0 := by omega
  obtain rfl : ks = [] := List.length_eq_zero_iff.1 hkn
  clear h3 hkn0 hf 
  have HP1 := Hid.mk p1
  have HP2 := Hid.mk p2
  have HP10 := Hid.mk p10
  clear p1 p2 p10
  have hlR := hR.2.1
  have hrbN := hR.1
  have h500 : ¬ (500 : Int) < deep + 1 := by
    have : 1 ≤ heightT (.mk 10 n hd nm ls []) := by rw [heightT_mk]; omega
    omega
  rw [encT_mk, List.append_assoc, show Int.toNat 10 = 10 from rfl] at hR
  obtain ⟨CT, hCT⟩ : ∃ CT, cleanT (.mk 10 n hd nm ls []) = CT := ⟨_, rfl⟩
  rw [hCT]
  have HCT := Hid.mk hCT
  clear hCT
  obtain ⟨W0, hW0⟩ : ∃ W0, w.alloc (.cells #[.int .i64 0, .int .i64 0, .bool false, .string { data := #[] }, .slice none 0 0, .slice none 0 0] 38) = W0 := ⟨_, rfl⟩
  have hb : RowKit.Below w.heap.size w W0 := by rw [← hW0]; exact (Below.refl _ _).alloc (Nat.le_refl _) _
  have hX0 : W0.heap[w.heap.size]? = some (.cells #[.int .i64 0, .int .i64 0, .bool false, .string { data := #[] }, .slice none 0 0, .slice none 0 0] 38 (0, 0)) := by rw [← hW0]; exact alloc_new _ _
  have hR0 := hR.on hb
  obtain ⟨z1, zf⟩ := hR0.deepAt
  obtain ⟨W1, hW1⟩ : ∃ W1, W0.setCell ⟨rb, 1, none⟩ (.int .i64 (deep + 1)) = W1 := ⟨_, rfl⟩
  have hR1 := hR0.setDeep (deep + 1)
  rw [hW1] at hR1
  have hk01 : Kept (fun k => k = rb) W0 W1 := by rw [← hW1]; exact (Kept.refl (fun k => k = rb) W0).setCell (p := ⟨rb, 1, none⟩) rfl _
  have HK1 : Hid (Kept (fun k => k = rb) w W1) := (Kept.of_below hb).trans hk01
  have HX1 : Hid (W1.heap[w.heap.size]? = some (.cells #[.int .i64 0, .int .i64 0, .bool false, .string { data := #[] }, .slice none 0 0, .slice none 0 0] 38 (0, 0))) := box6 hX0 hk01 (by omega)
  obtain ⟨d1, df⟩ := hR1.deepAt
  have HC := rdnum_any N rb 10 _ (deep + 1) W1 hR1 (by decide)
  have HW0 := Hid.mk hW0
  have HW1 := Hid.mk hW1
  have hlt0 : rb < W0.heap.size := hR0.lt
  have hlt1 : rb < W1.heap.size := hR1.lt
  clear hR hb hX0 hR0 hR1 hk01 hW0 hW1 hdh
  go_enter Tryz.func104, Tryz.ntmps104
  go_wp2_with (first | rw [HW0.out] | rw [HW1.out] | fail)
  (try rw [HW0.out])
  (try rw [HW1.out])
  refine HC.mono ?_
  rintro e w2 ⟨rfl, hR2, hk2⟩
  have HK2 : Hid (Kept (fun k => k = rb) w w2) := HK1.out.trans hk2
  have hX2 := box6 HX1.out hk2 (by omega)
  obtain ⟨W3, hW3⟩ : ∃ W3, w2.alloc (.cells #[.int .i64 10, .int .i64 0, .bool false, .string { data := #[] }, .slice none 0 0, .slice none 0 0] 38) = W3 := ⟨_, rfl⟩
  have hb3 : RowKit.Below w2.heap.size w2 W3 := by rw [← hW3]; exact (Below.refl _ _).alloc (Nat.le_refl _) _
  have HT3 : Hid (W3.heap[w2.heap.size]? = some (.cells #[.int .i64 10, .int .i64 0, .bool false, .string { data := #[] }, .slice none 0 0, .slice none 0 0] 38 (0, 0))) := by unfold Hid; rw [← hW3]; exact alloc_new _ _
  have HX3 : Hid (W3.heap[w.heap.size]? = some (.cells #[.int .i64 0, .int .i64 0, .bool false, .string { data := #[] }, .slice none 0 0, .slice none 0 0] 38 (0, 0))) := (hb3.block _ (heap_lt hX2)).trans hX2
  have HR3 := Hid.mk (hR2.on hb3)
  have HK3 : Hid (Kept (fun k => k = rb) w W3) := HK2.out.trans (Kept.of_below hb3)
  have HW3 := Hid.mk hW3
  have hwR : w.heap.size < w2.heap.size := heap_lt hX2
  have hTrb : w2.heap.size ≠ rb := by omega
  have hRrb : w.heap.size ≠ rb := by omega
  have hTR : w2.heap.size ≠ w.heap.size := by omega
  have hTrb' := hTrb.symm
  have hRrb' := hRrb.symm
  have hTR' := hTR.symm
  clear hR2 hk2 hX2 hb3 hW3 HC z1 zf d1 df HX1 HK1
  obtain ⟨hm0, hm1, hcl⟩ := HP10.out (by trivial)
  have HCL : Hid (∀ l ∈ ls, rightL l) := fun l hl => canon_rightL (hcl l hl)
  clear hcl
  have hR3 := HR3.out
  rw [show fieldB 10 n hd nm ls = nameB nm ++ (numB ls.length ++ ls.flatMap levB) by unfold fieldB; simp, List.flatMap_nil, List.append_nil, List.append_assoc, List.append_assoc] at hR3
  have HC3 := rdname_any N rb nm _ (deep + 1) W3 hR3 hm0 (by omega)
  obtain ⟨t0, t1, t2, t3, t4, t5, t6⟩ := cells6 HT3.out
  clear hR3
  go_wp2_with fail
  (try rw [HW3.out])
  refine HC3.mono ?_
  rintro e w4 ⟨rfl, hR4, hk4⟩
  clear t0 t1 t2 t3 t4 t5 HC3
  have HR4 := Hid.mk hR4
  have HK4 : Hid (Kept (fun k => k = rb) w w4) := HK3.out.trans hk4
  have HT4 := Hid.mk (box6 HT3.out hk4 hTrb)
  have HX4 := Hid.mk (box6 HX3.out hk4 hRrb)
  obtain ⟨t0, t1, t2, t3, t4, t5, t6⟩ := cells6 HT4.out
  have tf := frz6 HT4.out
  obtain ⟨y0, y1, y2, y3, y4, y5, y6⟩ := cells6 HX4.out
  have yf := frz6 HX4.out
  obtain ⟨d1, df⟩ := HR4.out.deepAt
  have dl : rb < w4.heap.size := HR4.out.lt
  clear hR4 hk4
  obtain ⟨W5, hW5⟩ : ∃ W5, w4.setCell ⟨w2.heap.size, 3, none⟩ (.string nm) = W5 := ⟨_, rfl⟩
  have hR5 := HR4.out.setNew (p := ⟨w2.heap.size, 3, none⟩) (by simp only; omega) (.string nm)
  have hK5 := HK4.out.setNew (p := ⟨w2.heap.size, 3, none⟩) (by simp only; omega) (.string nm)
  rw [hW5] at hR5 hK5
  have HT5 : Hid (W5.heap[w2.heap.size]? = some (.cells #[.int .i64 10, .int .i64 0, .bool false, .string nm, .slice none 0 0, .slice none 0 0] 38 (0, 0))) := by
    unfold Hid; rw [← hW5, setCell_eq]; show (w4.heap.modify w2.heap.size _)[w2.heap.size]? = _
    rw [Array.getElem?_modify, if_pos rfl, HT4.out]; rfl
  have HX5 : Hid (W5.heap[w.heap.size]? = some (.cells #[.int .i64 0, .int .i64 0, .bool false, .string { data := #[] }, .slice none 0 0, .slice none 0 0] 38 (0, 0))) := by unfold Hid; rw [← hW5]; exact (Below.heap_setCell _ _ _ _ hTR').trans HX4.out
  have HR5 := Hid.mk hR5
  have HK5 := Hid.mk hK5
  have HW5 := Hid.mk hW5
  have HC5 := rdnum_any N rb ls.length _ (deep + 1) W5 hR5 (by omega)
  clear hW5 hR5 hK5
  go_wp2_with fail
  (try rw [HW5.out])
  refine HC5.mono ?_
  rintro e w6 ⟨rfl, hR6, hk6⟩
  clear t0 t1 t2 t3 t4 t5 t6 tf y0 y1 y2 y3 y4 y5 y6 yf d1 df dl HC5
  have HR6 := Hid.mk hR6
  have HK6 : Hid (Kept (fun k => k = rb) w w6) := HK5.out.trans hk6
  have HT6 := Hid.mk (box6 HT5.out hk6 hTrb)
  have HX6 := Hid.mk (box6 HX5.out hk6 hRrb)
  obtain ⟨t0, t1, t2, t3, t4, t5, t6⟩ := cells6 HT6.out
  have tf := frz6 HT6.out
  obtain ⟨y0, y1, y2, y3, y4, y5, y6⟩ := cells6 HX6.out
  have yf := frz6 HX6.out
  obtain ⟨d1, df⟩ := HR6.out.deepAt
  have dl : rb < w6.heap.size := HR6.out.lt
  clear hR6 hk6
  have HC6 := severalL_any N rb ls rest (deep + 1) w6 HR6.out hls HCL.out
  go_wp2_with fail
  refine HC6.mono ?_
  rintro e w7 ⟨la, lc, rfl, hrow, hR7, hk7⟩
  have HROW := Hid.mk hrow
  have hs7 := hk7.size
  have hT6 : w2.heap.size < w6.heap.size := heap_lt HT6.out
  clear t0 t1 t2 t3 t4 t5 t6 tf y0 y1 y2 y3 y4 y5 y6 yf d1 df dl HC6 hrow
  have HR7 := Hid.mk hR7
  have HK7 : Hid (Kept (fun k => k = rb) w w7) := HK6.out.trans hk7
  have HT7 := Hid.mk (box6 HT6.out hk7 hTrb)
  have HX7 := Hid.mk (box6 HX6.out hk7 hRrb)
  obtain ⟨t0, t1, t2, t3, t4, t5, t6⟩ := cells6 HT7.out
  have tf := frz6 HT7.out
  obtain ⟨y0, y1, y2, y3, y4, y5, y6⟩ := cells6 HX7.out
  have yf := frz6 HX7.out
  obtain ⟨d1, df⟩ := HR7.out.deepAt
  have dl : rb < w7.heap.size := HR7.out.lt
  clear hR7 hk7
  go_wp2
  refine bodyPost_ret (v := .agg #[.int .i64 10, .int .i64 0, .bool false, .string nm, .slice la ls.length lc, .slice none 0 0]) (by simp [results, Tryz.results104, go_sem, y0, y1, y2, y3, y4, y5]) rfl ⟨_, rfl, ⟨_, _, _, _, _, _, _, _, _, _, rfl⟩, ?_, ?_, ?_⟩
  · rw [← HCT.out, clean_mk]
    exact lv_finW (w3 := w6) (w4 := w7) 10 nm HROW.out (fin_size.trans (by simp [World.setCell])) (by omega) (fun k hk => (fin_block (by omega) (by omega)).trans (Below.heap_setCell _ _ _ _ (by simp only; omega)))
  · exact fin_rd (HR7.out.setNew (p := ⟨w2.heap.size, 4, none⟩) (by simp only; omega) _) hlR
  · exact fin_kept (HK7.out.setNew (p := ⟨w2.heap.size, 4, none⟩) (by simp only; omega) _) (Nat.le_refl _)

set_option maxRecDepth 100000 in
set_option maxHeartbeats 8000000 in
theorem rdterm11 (N rb : Nat) (n : Int) (hd : Bool) (nm : ByteArray) (ls : List LvT) (ks : List Tm) (hf : formedB (.mk 11 n hd nm ls ks) = true) (_hls : ls.length ≤ 1000000) (_ih : ∀ k ∈ ks, RdT N rb k) : RdT N rb (.mk 11 n hd nm ls ks) := by
  intro rest deep w hR hd0 hdh
  obtain ⟨hkn0, p1, p2, p10, -⟩ := formed_part hf
  have h3 : kidsR 11 = 0 := by decide
  have hkn : ks.length = 0 := by omega
  obtain rfl : ks = [] := List.length_eq_zero_iff.1 hkn
  clear h3 hkn0 hf 
  have HP1 := Hid.mk p1
  have HP2 := Hid.mk p2
  have HP10 := Hid.mk p10
  clear p1 p2 p10
  have hlR := hR.2.1
  have hrbN := hR.1
  have h500 : ¬ (500 : Int) < deep + 1 := by
    have : 1 ≤ heightT (.mk 11 n hd nm ls []) := by rw [heightT_mk]; omega
    omega
  rw [encT_mk, List.append_assoc, show Int.toNat 11 = 11 from rfl] at hR
  obtain ⟨CT, hCT⟩ : ∃ CT, cleanT (.mk 11 n hd nm ls []) = CT := ⟨_, rfl⟩
  rw [hCT]
  have HCT := Hid.mk hCT
  clear hCT
  obtain ⟨W0, hW0⟩ : ∃ W0, w.alloc (.cells #[.int .i64 0, .int .i64 0, .bool false, .string { data := #[] }, .slice none 0 0, .slice none 0 0] 38) = W0 := ⟨_, rfl⟩
  have hb : RowKit.Below w.heap.size w W0 := by rw [← hW0]; exact (Below.refl _ _).alloc (Nat.le_refl _) _
  have hX0 : W0.heap[w.heap.size]? = some (.cells #[.int .i64 0, .int .i64 0, .bool false, .string { data := #[] }, .slice none 0 0, .slice none 0 0] 38 (0, 0)) := by rw [← hW0]; exact alloc_new _ _
  have hR0 := hR.on hb
  obtain ⟨z1, zf⟩ := hR0.deepAt
  obtain ⟨W1, hW1⟩ : ∃ W1, W0.setCell ⟨rb, 1, none⟩ (.int .i64 (deep + 1)) = W1 := ⟨_, rfl⟩
  have hR1 := hR0.setDeep (deep + 1)
  rw [hW1] at hR1
  have hk01 : Kept (fun k => k = rb) W0 W1 := by rw [← hW1]; exact (Kept.refl (fun k => k = rb) W0).setCell (p := ⟨rb, 1, none⟩) rfl _
  have HK1 : Hid (Kept (fun k => k = rb) w W1) := (Kept.of_below hb).trans hk01
  have HX1 : Hid (W1.heap[w.heap.size]? = some (.cells #[.int .i64 0, .int .i64 0, .bool false, .string { data := #[] }, .slice none 0 0, .slice none 0 0] 38 (0, 0))) := box6 hX0 hk01 (by omega)
  obtain ⟨d1, df⟩ := hR1.deepAt
  have HC := rdnum_any N rb 11 _ (deep + 1) W1 hR1 (by decide)
  have HW0 := Hid.mk hW0
  have HW1 := Hid.mk hW1
  have hlt0 : rb < W0.heap.size := hR0.lt
  have hlt1 : rb < W1.heap.size := hR1.lt
  clear hR hb hX0 hR0 hR1 hk01 hW0 hW1 hdh
  go_enter Tryz.func104, Tryz.ntmps104
  go_wp2_with (first | rw [HW0.out] | rw [HW1.out] | fail)
  (try rw [HW0.out])
  (try rw [HW1.out])
  refine HC.mono ?_
  rintro e w2 ⟨rfl, hR2, hk2⟩
  have HK2 : Hid (Kept (fun k => k = rb) w w2) := HK1.out.trans hk2
  have hX2 := box6 HX1.out hk2 (by omega)
  obtain ⟨W3, hW3⟩ : ∃ W3, w2.alloc (.cells #[.int .i64 11, .int .i64 0, .bool false, .string { data := #[] }, .slice none 0 0, .slice none 0 0] 38) = W3 := ⟨_, rfl⟩
  have hb3 : RowKit.Below w2.heap.size w2 W3 := by rw [← hW3]; exact (Below.refl _ _).alloc (Nat.le_refl _) _
  have HT3 : Hid (W3.heap[w2.heap.size]? = some (.cells #[.int .i64 11, .int .i64 0, .bool false, .string { data := #[] }, .slice none 0 0, .slice none 0 0] 38 (0, 0))) := by unfold Hid; rw [← hW3]; exact alloc_new _ _
  have HX3 : Hid (W3.heap[w.heap.size]? = some (.cells #[.int .i64 0, .int .i64 0, .bool false, .string { data := #[] }, .slice none 0 0, .slice none 0 0] 38 (0, 0))) := (hb3.block _ (heap_lt hX2)).trans hX2
  have HR3 := Hid.mk (hR2.on hb3)
  have HK3 : Hid (Kept (fun k => k = rb) w W3) := HK2.out.trans (Kept.of_below hb3)
  have HW3 := Hid.mk hW3
  have hwR : w.heap.size < w2.heap.size := heap_lt hX2
  have hTrb : w2.heap.size ≠ rb := by omega
  have hRrb : w.heap.size ≠ rb := by omega
  have hTR : w2.heap.size ≠ w.heap.size := by omega
  have hTrb' := hTrb.symm
  have hRrb' := hRrb.symm
  have hTR' := hTR.symm
  clear hR2 hk2 hX2 hb3 hW3 HC z1 zf d1 df HX1 HK1
  obtain ⟨hn0, hn1⟩ := HP1.out (by decide)
  have hR3 := HR3.out
  rw [show fieldB 11 n hd nm ls = numB n.toNat by unfold fieldB; simp, List.flatMap_nil, List.append_nil] at hR3
  have HC3 := rdnum_any N rb n.toNat rest (deep + 1) W3 hR3 (by omega)
  rw [show ((n.toNat : Nat) : Int) = n by omega] at HC3
  obtain ⟨t0, t1, t2, t3, t4, t5, t6⟩ := cells6 HT3.out
  clear hR3
  go_wp2_with fail
  (try rw [HW3.out])
  refine HC3.mono ?_
  rintro e w4 ⟨rfl, hR4, hk4⟩
  clear t0 t1 t2 t3 t4 t5 t6 HC3
  have HR4 := Hid.mk hR4
  have HK4 : Hid (Kept (fun k => k = rb) w w4) := HK3.out.trans hk4
  have HT4 := Hid.mk (box6 HT3.out hk4 hTrb)
  have HX4 := Hid.mk (box6 HX3.out hk4 hRrb)
  obtain ⟨t0, t1, t2, t3, t4, t5, t6⟩ := cells6 HT4.out
  have tf := frz6 HT4.out
  obtain ⟨y0, y1, y2, y3, y4, y5, y6⟩ := cells6 HX4.out
  have yf := frz6 HX4.out
  obtain ⟨d1, df⟩ := HR4.out.deepAt
  have dl : rb < w4.heap.size := HR4.out.lt
  clear hR4 hk4
  go_wp2
  refine bodyPost_ret (v := .agg #[.int .i64 11, .int .i64 n, .bool false, .string { data := #[] }, .slice none 0 0, .slice none 0 0]) (by simp [results, Tryz.results104, go_sem, y0, y1, y2, y3, y4, y5]) rfl ⟨_, rfl, ⟨_, _, _, _, _, _, _, _, _, _, rfl⟩, ?_, ?_, ?_⟩
  · rw [← HCT.out, clean_mk]
    exact TFW.leaf 11 n false { data := #[] }
  · exact fin_rd (HR4.out.setNew (p := ⟨w2.heap.size, 1, none⟩) (by simp only; omega) _) hlR
  · exact fin_kept (HK4.out.setNew (p := ⟨w2.heap.size, 1, none⟩) (by simp only; omega) _) (Nat.le_refl _)

theorem rdterm_any (N rb : Nat) (t : Tm) : smT 1000000 t → formedB t = true → RdT N rb t := by
  refine Tm.ind (P := fun t => smT 1000000 t → formedB t = true → RdT N rb t) ?_ t
  intro f n hd nm ls ks ih hsm hf
  obtain ⟨h1, h2, h3, h4, h5⟩ := (smT_mk _ _ _ _ _ _ _).1 hsm
  have hp := formed_part hf
  have hih : ∀ k ∈ ks, RdT N rb k := fun k hk => ih k hk (h5 k hk) (hp.2.2.2.2 k hk)
  rcases formed_form hf with rfl | rfl | rfl | rfl | rfl | rfl | rfl | rfl | rfl | rfl | rfl
  · exact rdterm1 N rb n hd nm ls ks hf h2 hih
  · exact rdterm2 N rb n hd nm ls ks hf h2 hih
  · exact rdterm3 N rb n hd nm ls ks hf h2 hih
  · exact rdterm4 N rb n hd nm ls ks hf h2 hih
  · exact rdterm5 N rb n hd nm ls ks hf h2 hih
  · exact rdterm6 N rb n hd nm ls ks hf h2 hih
  · exact rdterm7 N rb n hd nm ls ks hf h2 hih
  · exact rdterm8 N rb n hd nm ls ks hf h2 hih
  · exact rdterm9 N rb n hd nm ls ks hf h2 hih
  · exact rdterm10 N rb n hd nm ls ks hf h2 hih
  · exact rdterm11 N rb n hd nm ls ks hf h2 hih
end Go.Proofs.YtndjdeiccmhelaaGreat
