/- tele.told (no Hids told), tele.answered, tele.fault. -/
import Derived.Test.YthdcpodheimhaaaHI
import Derived.Laws.EntriesVeiled
namespace Go.Proofs.Ythdcpodheimhaaa
open Go.RowKit Go.Sort

theorem told_nil (w : World) : Calls Try.prog 35 #[.slice none 0 0] w fun e w' => e = .returned (.func (.func 48) #[] #[.pointer (some ⟨w.heap.size, 0, none⟩)]) ∧ w' = w.alloc (.cells #[.slice none 0 0] 28) := by
  go_enter Try.func35, Try.ntmps35
  go_wp2
  go_ret
  exact ⟨rfl, rfl⟩

theorem told1_nil (b : Nat) (i : Int) (w : World) (hb : w.heap[b]? = some (.cells #[.slice none 0 0] 28 (0, 0))) (hi : 0 ≤ i) : Calls Try.prog 48 #[.int .i64 i, .pointer (some ⟨b, 0, none⟩)] w fun e w' => e = .returned (.bool false) ∧ w' = w := by
  obtain ⟨c0, c1, c2⟩ := cells1 hb
  have h0 : ¬ i < 0 := by omega
  clear hb
  go_enter Try.func48, Try.ntmps48
  go_wp2
  go_ret
  exact ⟨rfl, rfl⟩

set_option maxRecDepth 100000 in
set_option maxHeartbeats 2000000 in
theorem tanswered_ok (t : Tm) (v : Value) (w : World) (hv : TV w v t) (hsm : smT 1000000 t) (hc : checkT t = 0) : Calls Try.prog 33 #[v] w fun e w' => (∃ v', e = .returned (.tuple #[v', .int .i64 0]) ∧ ShapeT v' ∧ TO w' w.heap.size w'.heap.size v' (cleanT t)) ∧ RowKit.Below w.heap.size w w' := by
  obtain ⟨hs, hh, hf⟩ := check_ok hc
  have HCH := fun (W : World) (h : RowKit.Below w.heap.size w W) => Check_any t v W (hv.on h) hsm
  rw [hc] at HCH
  have HCP := fun (W : World) (h : RowKit.Below w.heap.size w W) => Copy_any t v W (hv.on h) ⟨hsm, hf⟩ (by omega) (by omega)
  obtain ⟨la, lc, ka, kc, rfl⟩ := hv.shape
  clear hv hc hs hh hf
  generalize cleanT t = r at *
  generalize t.form = f at *
  generalize t.n = n at *
  generalize t.hid = hd at *
  generalize t.name = nm at *
  generalize t.levels.length = l1 at *
  generalize t.kids.length = k1 at *
  obtain ⟨W0, hW0⟩ : ∃ W0, (w.alloc (.cells #[.int .i64 f, .int .i64 n, .bool hd, .string nm, .slice la l1 lc, .slice ka k1 kc] 25)).alloc (.cells #[.int .i64 0, .int .i64 0, .bool false, .string { data := #[] }, .slice none 0 0, .slice none 0 0] 25) = W0 := ⟨_, rfl⟩
  have hb0 : RowKit.Below w.heap.size w W0 := by rw [← hW0]; exact ((Below.refl _ _).alloc (Nat.le_refl _) _).alloc (by simp) _
  have HX0 : Hid (W0.heap[w.heap.size]? = some (.cells #[.int .i64 f, .int .i64 n, .bool hd, .string nm, .slice la l1 lc, .slice ka k1 kc] 25 (0, 0))) := by unfold Hid; rw [← hW0]; exact box_at
  have HR0 : Hid (W0.heap[w.heap.size + 1]? = some (.cells #[.int .i64 0, .int .i64 0, .bool false, .string { data := #[] }, .slice none 0 0, .slice none 0 0] 25 (0, 0))) := by unfold Hid; rw [← hW0]; exact box_at1
  have HC0 := HCH W0 hb0
  have HB0 := Hid.mk hb0
  have HW0 := Hid.mk hW0
  obtain ⟨x0, x1, x2, x3, x4, x5, x6⟩ := cells6 HX0.out
  clear hW0 hb0 HCH
  go_enter Try.func33, Try.ntmps33
  go_wp2_with fail
  rw [HW0.out]
  refine HC0.mono ?_
  rintro e w1 ⟨rfl, hb1⟩
  have HB1 : Hid (RowKit.Below w.heap.size w w1) := HB0.out.trans (hb1.mono HB0.out.size)
  have HX1 := Hid.mk ((hb1.block _ (heap_lt HX0.out)).trans HX0.out)
  have HR1 := Hid.mk ((hb1.block _ (heap_lt HR0.out)).trans HR0.out)
  have HC1 := HCP w1 HB1.out
  clear HC0 hb1 HCP x0 x1 x2 x3 x4 x5 x6
  obtain ⟨x0, x1, x2, x3, x4, x5, x6⟩ := cells6 HX1.out
  go_wp2_with fail
  refine HC1.mono ?_
  rintro e w2 ⟨v2, rfl, hto2, hb2⟩
  obtain ⟨u0, u1, u2, u3, u4, u5, u6, u7, u8, u9, rfl⟩ := hto2.shapeE
  have HR2 := Hid.mk ((hb2.block _ (heap_lt HR1.out)).trans HR1.out)
  have HB2 : Hid (RowKit.Below w.heap.size w w2) := HB1.out.trans (hb2.mono HB1.out.size)
  have HTO2 := Hid.mk hto2
  have hs1 : w.heap.size + 1 < w1.heap.size := heap_lt HR1.out
  obtain ⟨y0, y1, y2, y3, y4, y5, y6⟩ := cells6 HR2.out
  have yf := frz HR2.out
  clear hto2 hb2 HC1 x0 x1 x2 x3 x4 x5 x6
  go_wp2
  refine bodyPost_ret (v := .tuple #[.agg #[.int .i64 u0, .int .i64 u1, .bool u2, .string u3, .slice u4 u5 u6, .slice u7 u8 u9], .int .i64 0]) (by simp [results, Try.results33, go_sem, y0, y1, y2, y3, y4, y5]) rfl ⟨⟨_, rfl, ⟨_, _, _, _, _, _, _, _, _, _, rfl⟩, ?_⟩, ?_⟩
  · exact (HTO2.out.on (fun k h1 h2 => (keep6 (P := fun k => k = w.heap.size + 1) rfl).block k h2 (by omega))).mono HB1.out.size (by rw [size6]; exact Nat.le_refl _)
  · exact HB2.out.trans ((keep6 (P := fun k => k = w.heap.size + 1) rfl).below HB2.out.size (fun k hk => by omega))

set_option maxRecDepth 100000 in
set_option maxHeartbeats 2000000 in
theorem fault_ok (ts : List Tm) (a : Option Addr) (cap : Nat) (t : Tm) (v : Value) (w : World) (hL : TL w a ts) (hv : TV w v t) (hn : ts.length ≤ 60) (hts : ∀ x ∈ ts, smT 1000000 x ∧ checkT x = 0) (hsm : smT 1000000 t) (hc : checkT t = 0) : Calls Try.prog 32 #[.slice a ts.length cap, v] w fun e w' => e = .returned (.int .i64 0) ∧ RowKit.Below w.heap.size w w' := by
  have HCT := fun (W : World) (h : RowKit.Below w.heap.size w W) => Check_any t v W (hv.on h) hsm
  rw [hc] at HCT
  obtain ⟨la, lc, ka, kc, rfl⟩ := hv.shape
  clear hv hc
  generalize t.form = f at *
  generalize t.n = n at *
  generalize t.hid = hd at *
  generalize t.name = nm at *
  generalize t.levels.length = l1 at *
  generalize t.kids.length = k1 at *
  have HTS := Hid.mk hts
  have HL := Hid.mk hL
  have h60 : ¬ (60 : Int) < (ts.length : Int) := by omega
  obtain ⟨W0, hW0⟩ : ∃ W0, w.alloc (.cells #[.int .i64 f, .int .i64 n, .bool hd, .string nm, .slice la l1 lc, .slice ka k1 kc] 25) = W0 := ⟨_, rfl⟩
  have hb0 : RowKit.Below w.heap.size w W0 := by rw [← hW0]; exact (Below.refl _ _).alloc (Nat.le_refl _) _
  have HX0 : Hid (W0.heap[w.heap.size]? = some (.cells #[.int .i64 f, .int .i64 n, .bool hd, .string nm, .slice la l1 lc, .slice ka k1 kc] 25 (0, 0))) := by unfold Hid; rw [← hW0]; exact alloc_new _ _
  have HB0 := Hid.mk hb0
  have HW0 := Hid.mk hW0
  clear hW0 hb0 hts hL
  go_enter Try.func32, Try.ntmps32
  go_wp2
  rw [HW0.out]
  go_loopw [13] (fun i wr => ∃ k : Nat, k ≤ ts.length ∧ i = .int .i64 k ∧ RowKit.Below W0.heap.size W0 wr) (fun i _ => ts.length - (intOf i).toNat)
  case atStart => exact ⟨0, Nat.zero_le _, rfl, Below.refl _ _⟩
  case round =>
    obtain ⟨k, hk, rfl, hb⟩ := hrel
    have HBR := Hid.mk hb
    have HBW : Hid (RowKit.Below w.heap.size w wr) := HB0.out.trans (hb.mono HB0.out.size)
    clear hb
    by_cases hlt : k < ts.length
    · have hbk : ts[k]? = some ts[k] := List.getElem?_eq_getElem hlt
      have hGk := HTS.out ts[k] (List.getElem_mem hlt)
      obtain ⟨ba, rfl, hla, hta⟩ := (HL.out.on HBW.out).resolve_left (by intro e; subst e; simp at hlt)
      obtain ⟨a0, a1, a2, a3, a4, a5, a6, a7, a8, a9, i0, i1, i2, i3, i4, i5, hva⟩ := (hta k ts[k] hbk).valE
      obtain ⟨W1, hW1⟩ : ∃ W1, wr.alloc (.cells #[.int .i64 a0, .int .i64 a1, .bool a2, .string a3, .slice a4 a5 a6, .slice a7 a8 a9] 25) = W1 := ⟨_, rfl⟩
      have hb1 : RowKit.Below wr.heap.size wr W1 := by rw [← hW1]; exact (Below.refl _ _).alloc (Nat.le_refl _) _
      have HX1 : Hid (W1.heap[wr.heap.size]? = some (.cells #[.int .i64 a0, .int .i64 a1, .bool a2, .string a3, .slice a4 a5 a6, .slice a7 a8 a9] 25 (0, 0))) := by unfold Hid; rw [← hW1]; exact alloc_new _ _
      have HC := Check_any ts[k] _ W1 (hva.on hb1) hGk.1
      rw [hGk.2] at HC
      have HB1 : Hid (RowKit.Below W0.heap.size W0 W1) := HBR.out.trans (hb1.mono HBR.out.size)
      have HW1 := Hid.mk hW1
      have zk : (k : Int) < (ts.length : Int) := by omega
      obtain ⟨x0, x1, x2, x3, x4, x5, x6⟩ := cells6 HX1.out
      clear hva hta hbk hGk hb1 hW1
      go_wp2_with (rw [HW1.out])
      refine HC.mono ?_
      rintro e w2 ⟨rfl, hb2⟩
      have HB2 : Hid (RowKit.Below W0.heap.size W0 w2) := HB1.out.trans (hb2.mono HB1.out.size)
      clear hb2 HC
      go_wp2
      exact ⟨⟨k + 1, hlt, by go_num, HB2.out⟩, by simp [intOf]; omega⟩
    · have HC := HCT wr HBW.out
      have HX2 := Hid.mk ((HBR.out.block _ (heap_lt HX0.out)).trans HX0.out)
      obtain ⟨x0, x1, x2, x3, x4, x5, x6⟩ := cells6 HX2.out
      go_wp2_with fail
      refine HC.mono ?_
      rintro e w2 ⟨rfl, hb2⟩
      have HB2 : Hid (RowKit.Below w.heap.size w w2) := HBW.out.trans (hb2.mono HBW.out.size)
      clear hb2 HC
      go_wp2
      go_ret
      exact ⟨rfl, HB2.out⟩
end Go.Proofs.Ythdcpodheimhaaa
