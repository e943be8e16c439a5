/- The contract of term's lifting.part. -/
import Derived.Test.YtbgkeomlfdmkeaaOG
namespace Go.Proofs.Ytbgkeomlfdmkeaa
open Go.RowKit Go.Sort

theorem RO.leafOn {w w' : World} {B B' N E N' E' M g k : Nat} {v : Value} {r : Tm} (h : RO w B N E g k v r) (hr : r.kids = []) (hg : g < M) (hag : Agree B M w w') (hB : B' ≤ B) (hN : g < N') (hE : N' < E') : RO w' B' N' E' g k v r := by
  obtain ⟨f, n, hh, nm, ls, ks, lv, m, bd, kvs, rfl, rfl, hl, hBm, hmg, hgN, hNb, hbd, hE0, hrow, hkc, hkm, cells, kids⟩ := h
  have hk : ks = [] := hr
  subst hk
  exact ⟨f, n, hh, nm, ls, [], lv, m, fun _ => N' + 1, kvs, rfl, rfl, (hl.on (hag.mono (Nat.le_refl _) (by omega))).mono hB (Nat.le_refl _), by omega, hmg, hN, Nat.lt_succ_self N', fun _ => Nat.le_refl _, hE, hrow.on hag (by omega) (by omega), hkc, hkm, fun i hi => by simp at hi, fun i t hi => by simp at hi⟩

theorem Fresh.on {w w' : World} {B B' k : Nat} {v : Value} {r : Tm} (h : Fresh w B k v r) (hr : 0 < k → r.kids = []) (hs : w.heap.size ≤ w'.heap.size) (hag : Agree B w.heap.size w w') (hB : B' ≤ B) : Fresh w' B' k v r := by
  rcases h with ⟨h1, h⟩ | ⟨h1, g, hBg, hg, h⟩
  · exact Or.inl ⟨h1, (h.on hag).mono hB hs⟩
  · exact Or.inr ⟨h1, g, by omega, by omega, fun N E h2 h3 => (h (g + 1) (g + 2) (by omega) (by omega)).leafOn (hr h1) hg hag hB h2 h3⟩

theorem TO.shapeF {w : World} {B E : Nat} {v : Value} {t : Tm} (h : TO w B E v t) : ∃ (l1 : Option Addr) (l2 l3 : Nat) (k1 : Option Addr) (k2 k3 : Nat), v = .agg #[.int .i64 t.form, .int .i64 t.n, .bool t.hid, .string t.name, .slice l1 l2 l3, .slice k1 k2 k3] := by
  cases h with
  | leaf hl => obtain ⟨la, lc, rfl, -⟩ := hl.ln; exact ⟨_, _, _, _, _, _, rfl⟩
  | row hl => obtain ⟨la, lc, rfl, -⟩ := hl.ln; exact ⟨_, _, _, _, _, _, rfl⟩

theorem Fresh.shapeF {w : World} {B k : Nat} {v : Value} {t : Tm} (h : Fresh w B k v t) : ∃ (l1 : Option Addr) (l2 l3 : Nat) (k1 : Option Addr) (k2 k3 : Nat), v = .agg #[.int .i64 t.form, .int .i64 t.n, .bool t.hid, .string t.name, .slice l1 l2 l3, .slice k1 k2 k3] := by
  rcases h with ⟨-, h⟩ | ⟨-, g, -, -, h⟩
  · exact h.shapeF
  · exact (h (g + 1) (g + 2) (by omega) (by omega)).to.shapeF

theorem Fresh.fin {w1 : World} {B1 B k rb : Nat} {v : Value} {r : Tm} (h : Fresh w1 B1 k v r) (hr : 0 < k → r.kids = []) (hrb : rb < B1) (hB : B ≤ B1) {a0 a1 a2 a3 a4 a5 : Value} {o : Obj} : Fresh (((((((w1.setCell ⟨rb, 0, none⟩ a0).setCell ⟨rb, 1, none⟩ a1).setCell ⟨rb, 2, none⟩ a2).setCell ⟨rb, 3, none⟩ a3).setCell ⟨rb, 4, none⟩ a4).setCell ⟨rb, 5, none⟩ a5).alloc o) B k v r :=
  h.on hr (by rw [World.size_alloc, size6]; omega) (fun i h1 h2 => (Below.heap_alloc _ _ _ (by rw [size6]; omega)).trans ((keep6 (P := fun k => k = rb) rfl).block i h2 (by omega))) hB

/-- the same term with another number -/
def Tm.setN : Tm → Int → Tm
  | .mk f _ h nm ls ks, n => .mk f n h nm ls ks

theorem TO.setN {w : World} {B E : Nat} {f n : Int} {h : Bool} {nm : ByteArray} {lv kv : Value} {t : Tm} (hT : TO w B E (.agg #[.int .i64 f, .int .i64 n, .bool h, .string nm, lv, kv]) t) (n' : Int) : TO w B E (.agg #[.int .i64 f, .int .i64 n', .bool h, .string nm, lv, kv]) (t.setN n') := by
  cases hT with
  | leaf hl hBm hmE => exact TO.leaf hl hBm hmE
  | row hl hBm hmg hgE hbd hE hrow hkc hkm cells kids => exact TO.row hl hBm hmg hgE hbd hE hrow hkc hkm cells kids

/-- a right part: its fields and its kids' number -/
def GT (t : Tm) : Prop := smT 1000000 t ∧ formedB t = true

theorem GT_kid (f n : Int) (hd : Bool) (nm : ByteArray) (ls : List LvT) (ks : List Tm) (h : GT (.mk f n hd nm ls ks)) : ∀ k ∈ ks, GT k := fun k hk => by
  refine ⟨smT_kid _ _ _ _ _ _ _ h.1 k hk, ?_⟩
  have := h.2
  rw [formedB_mk, Bool.and_eq_true, List.all_eq_true] at this
  exact this.2 k hk

theorem GT_jud {t : Tm} (h : GT t) : (t.kids.length : Int) = kidsR t.form ∧ fieldsB t = true := by
  have h2 := h.2
  cases t
  rw [formedB_mk, Bool.and_eq_true] at h2
  have h3 := h2.1
  unfold judB at h3
  rw [Bool.and_eq_true] at h3
  exact ⟨of_decide_eq_true h3.1, h3.2⟩

theorem GT_leaf {t : Tm} (h : GT t) (hf : t.form = 1 ∨ t.form = 2 ∨ t.form = 10 ∨ t.form = 11) : t.kids = [] := by
  have h1 := (GT_jud h).1
  have h2 : kidsR t.form = 0 := by unfold kidsR; rw [if_pos (by omega)]
  rw [h2] at h1
  exact List.length_eq_zero_iff.1 (by omega)

theorem GT_var {t : Tm} (h : GT t) (hf : t.form = 1) : 0 ≤ t.n ∧ t.n ≤ 1073741824 := by
  have h2 := (GT_jud h).2
  cases t
  simp only [Tm.form] at hf
  subst hf
  simpa [fieldsB, Tm.n] using h2

theorem bareT_form (t : Tm) : (bareT t).form = t.form := by cases t; rfl
theorem bareT_kids (t : Tm) : (bareT t).kids = [] := by cases t; rfl

/-- a part with its free index lifted -/
def lifV (fr by_ : Int) (_ : Unit) (t : Tm) (b _ : Int) : Except Int (Unit × Tm) := .ok ((), if t.form = 1 ∧ fr ≤ t.n - b then (bareT t).setN (t.n + by_) else bareT t)

theorem cf_lifting (xs : Array Value) (w : World) : Sem.run Try.prog (callFunc 50 xs) w = .ok (.enter 50 xs) w := by simp [callFunc, go_sem, Try.func50]; rfl

set_option maxRecDepth 100000 in
set_option maxHeartbeats 2000000 in
theorem lifting_visits (fr by_ : Int) (h0 : 0 ≤ fr) (h1 : fr ≤ 1048576) (h2 : 0 ≤ by_) (h3 : by_ ≤ 1048576) (w0 : World) : VisitsT GT (fun _ => False) (fun _ _ => True) w0 50 #[.agg #[.int .i64 fr, .int .i64 by_]] (lifV fr by_) := by
  intro s t v b p w hG _ hv0 hB0 hb0 hbp hp
  have hv := hv0.on hB0
  clear hv0 hB0
  have HBA := fun (W : World) (hb : RowKit.Below w.heap.size w W) => bare_any t v W (hv.on hb) hG.1 (fun h => GT_leaf hG (by omega))
  have HVAR := fun (h : t.form = 1) => GT_var hG h
  have HLF := fun (h : t.form = 1) => GT_leaf hG (Or.inl h)
  obtain ⟨la, lc, ka, kc, rfl⟩ := hv.shape
  have HE : Hid (lifV fr by_ s t b p = .ok ((), if t.form = 1 ∧ fr ≤ t.n - b then (bareT t).setN (t.n + by_) else bareT t)) := rfl
  have HBF := Hid.mk (bareT_form t)
  have HBK := Hid.mk (bareT_kids t)
  have HBN : Hid (t.form = 1 → (bareT t).n = t.n) := fun h => by cases t; simp only [Tm.form] at h; simp [bareT, Tm.n, h]
  generalize lifV fr by_ s t b p = R at HE ⊢
  generalize bareT t = r at *
  clear hv hG
  generalize t.form = f at *
  generalize t.n = n at *
  generalize t.hid = hd at *
  generalize t.name = nm at *
  generalize t.levels.length = l1 at *
  generalize hkk : t.kids = ks at *
  clear hkk
  have HLF : Hid (f = 1 → ks.length = 0) := fun h => by rw [HLF h]; rfl
  generalize ks.length = k1 at *
  show Calls Try.prog 50 #[.agg #[.int .i64 fr, .int .i64 by_], .agg #[.int .i64 f, .int .i64 n, .bool hd, .string nm, .slice la l1 lc, .slice ka k1 kc], .agg #[.int .i64 b, .int .i64 p]] w _
  obtain ⟨W0, hW0⟩ : ∃ W0, (((w.alloc (.cells #[.int .i64 fr, .int .i64 by_] 70)).alloc (.cells #[.int .i64 f, .int .i64 n, .bool hd, .string nm, .slice la l1 lc, .slice ka k1 kc] 25)).alloc (.cells #[.int .i64 b, .int .i64 p] 58)).alloc (.cells #[.int .i64 0, .int .i64 0, .bool false, .string { data := #[] }, .slice none 0 0, .slice none 0 0] 25) = W0 := ⟨_, rfl⟩
  have HG0 : Hid (Grew w W0) := by unfold Hid; rw [← hW0]; exact ((((Grew.refl w).alloc _).alloc _).alloc _).alloc _
  have HA0 : Hid (W0.heap[w.heap.size]? = some (.cells #[.int .i64 fr, .int .i64 by_] 70 (0, 0))) := by unfold Hid; rw [← hW0]; exact alloc_old (alloc_old box_at _) _
  have HX0 : Hid (W0.heap[w.heap.size + 1]? = some (.cells #[.int .i64 f, .int .i64 n, .bool hd, .string nm, .slice la l1 lc, .slice ka k1 kc] 25 (0, 0))) := by unfold Hid; rw [← hW0]; exact alloc_old on1 _
  have HY0 : Hid (W0.heap[w.heap.size + 1 + 1]? = some (.cells #[.int .i64 b, .int .i64 p] 58 (0, 0))) := by unfold Hid; rw [← hW0]; exact at2
  have HZ0 : Hid (W0.heap[w.heap.size + 1 + 1 + 1]? = some (.cells #[.int .i64 0, .int .i64 0, .bool false, .string { data := #[] }, .slice none 0 0, .slice none 0 0] 25 (0, 0))) := by unfold Hid; rw [← hW0]; exact new3
  have HSZ : Hid (W0.heap.size = w.heap.size + 1 + 1 + 1 + 1) := by unfold Hid; rw [← hW0]; simp
  have HW0 := Hid.mk hW0
  clear hW0
  have HB0 := HBA W0 HG0.out.below
  clear HBA
  by_cases hf : f = 1
  · subst hf
    obtain ⟨hn0, hn1⟩ := HVAR rfl
    obtain rfl : k1 = 0 := HLF.out rfl
    have HRN := Hid.mk (HBN.out rfl)
    clear HVAR HLF HBN
    by_cases hc : fr ≤ n - b
    · go_enter Try.func50, Try.ntmps50
      go_wp2_with fail
      rw [HW0.out]
      refine HB0.mono ?_
      rintro e w1 ⟨v1, rfl, hfr, hb1⟩
      have hz1 : w.heap.size + 1 + 1 + 1 < w1.heap.size := by have := hb1.size; have := HSZ.out; omega
      have hz1a : w.heap.size < w1.heap.size := by omega
      have hz1b : w.heap.size + 1 < w1.heap.size := by omega
      have hz1c : w.heap.size + 1 + 1 < w1.heap.size := by omega
      obtain ⟨q1, q2, q3, p1, p2, p3, rfl⟩ := hfr.shapeF
      have hrf := HBF.out
      have hrn := HRN.out
      rw [hrf, hrn] at hfr ⊢
      have HFR := Hid.mk hfr
      generalize r.hid = rh at *
      generalize r.name = rn at *
      have hz2 := HSZ.out
      obtain ⟨a0, a1, -, -, -⟩ := cells2 ((hb1.block w.heap.size (by omega)).trans HA0.out)
      obtain ⟨x0, x1, x2, x3, x4, x5, x6⟩ := cells6 ((hb1.block (w.heap.size + 1) (by omega)).trans HX0.out)
      obtain ⟨b0, b1, -, -, -⟩ := cells2 ((hb1.block (w.heap.size + 1 + 1) (by omega)).trans HY0.out)
      have hr := (hb1.block (w.heap.size + 1 + 1 + 1) (by omega)).trans HZ0.out
      obtain ⟨y0, y1, y2, y3, y4, y5, y6⟩ := cells6 hr
      have fr' := frz hr
      have HB1 := Hid.mk hb1
      clear hr hb1 hfr hz2 hrf hrn
      go_wp2
      refine bodyPost_ret (v := .tuple #[.agg #[.int .i64 1, .int .i64 (n + by_), .bool rh, .string rn, .slice q1 q2 q3, .slice p1 p2 p3], .int .i64 0]) (by simp [results, Try.results50, go_sem, y0, y1, y2, y3, y4, y5, hz1]) rfl ⟨?_, ?_⟩
      · exact ((((Kept.of_grew HG0.out).trans (Kept.of_below HB1.out)).old (Q := fun k => k = w.heap.size + 1 + 1 + 1) (keep6 rfl) (fun i h1 h2 => by omega))).alloc _
      · have hR : R = .ok ((), r.setN (n + by_)) := by rw [HE.out, if_pos ⟨by trivial, hc⟩]
        rw [hR]
        have hT : Fresh w1 W0.heap.size 0 (.agg #[.int .i64 1, .int .i64 (n + by_), .bool rh, .string rn, .slice q1 q2 q3, .slice p1 p2 p3]) (r.setN (n + by_)) := by
          rcases HFR.out with ⟨-, h⟩ | ⟨h, -⟩
          · exact Or.inl ⟨rfl, h.setN _⟩
          · omega
        exact ⟨⟨_, rfl, hT.fin (fun h => by omega) (by have := HSZ.out; omega) (by have := HSZ.out; omega), fun h => by omega⟩, trivial⟩
    · go_enter Try.func50, Try.ntmps50
      go_wp2_with fail
      rw [HW0.out]
      refine HB0.mono ?_
      rintro e w1 ⟨v1, rfl, hfr, hb1⟩
      have hz1 : w.heap.size + 1 + 1 + 1 < w1.heap.size := by have := hb1.size; have := HSZ.out; omega
      have hz1a : w.heap.size < w1.heap.size := by omega
      have hz1b : w.heap.size + 1 < w1.heap.size := by omega
      have hz1c : w.heap.size + 1 + 1 < w1.heap.size := by omega
      obtain ⟨q1, q2, q3, p1, p2, p3, rfl⟩ := hfr.shapeF
      have hrf := HBF.out
      have hrn := HRN.out
      rw [hrf, hrn] at hfr ⊢
      have HFR := Hid.mk hfr
      generalize r.hid = rh at *
      generalize r.name = rn at *
      have hz2 := HSZ.out
      obtain ⟨a0, a1, -, -, -⟩ := cells2 ((hb1.block w.heap.size (by omega)).trans HA0.out)
      obtain ⟨x0, x1, x2, x3, x4, x5, x6⟩ := cells6 ((hb1.block (w.heap.size + 1) (by omega)).trans HX0.out)
      obtain ⟨b0, b1, -, -, -⟩ := cells2 ((hb1.block (w.heap.size + 1 + 1) (by omega)).trans HY0.out)
      have hr := (hb1.block (w.heap.size + 1 + 1 + 1) (by omega)).trans HZ0.out
      obtain ⟨y0, y1, y2, y3, y4, y5, y6⟩ := cells6 hr
      have fr' := frz hr
      have HB1 := Hid.mk hb1
      clear hr hb1 hfr hz2 hrf hrn
      go_wp2
      refine bodyPost_ret (v := .tuple #[.agg #[.int .i64 1, .int .i64 n, .bool rh, .string rn, .slice q1 q2 q3, .slice p1 p2 p3], .int .i64 0]) (by simp [results, Try.results50, go_sem, y0, y1, y2, y3, y4, y5, hz1]) rfl ⟨?_, ?_⟩
      · exact ((((Kept.of_grew HG0.out).trans (Kept.of_below HB1.out)).old (Q := fun k => k = w.heap.size + 1 + 1 + 1) (keep6 rfl) (fun i h1 h2 => by omega))).alloc _
      · have hR : R = .ok ((), r) := by rw [HE.out, if_neg (fun h => by have := h.2; omega)]
        rw [hR]
        exact ⟨⟨_, rfl, HFR.out.fin (fun h => by omega) (by have := HSZ.out; omega) (by have := HSZ.out; omega), fun h => by omega⟩, trivial⟩
  · have hfb : (f == 1) = false := by simpa using hf
    have HNF := Hid.mk hf
    clear hf HVAR HLF HBN
    go_enter Try.func50, Try.ntmps50
    go_wp2_with fail
    rw [HW0.out]
    refine HB0.mono ?_
    rintro e w1 ⟨v1, rfl, hfr, hb1⟩
    have hz1 : w.heap.size + 1 + 1 + 1 < w1.heap.size := by have := hb1.size; have := HSZ.out; omega
    have hz1a : w.heap.size < w1.heap.size := by omega
    have hz1b : w.heap.size + 1 < w1.heap.size := by omega
    have hz1c : w.heap.size + 1 + 1 < w1.heap.size := by omega
    obtain ⟨q1, q2, q3, p1, p2, p3, rfl⟩ := hfr.shapeF
    have hrf := HBF.out
    rw [hrf] at hfr ⊢
    have HFR := Hid.mk hfr
    generalize r.hid = rh at *
    generalize r.n = rnn at *
    generalize r.name = rn at *
    have hz2 := HSZ.out
    obtain ⟨a0, a1, -, -, -⟩ := cells2 ((hb1.block w.heap.size (by omega)).trans HA0.out)
    obtain ⟨x0, x1, x2, x3, x4, x5, x6⟩ := cells6 ((hb1.block (w.heap.size + 1) (by omega)).trans HX0.out)
    obtain ⟨b0, b1, -, -, -⟩ := cells2 ((hb1.block (w.heap.size + 1 + 1) (by omega)).trans HY0.out)
    have hr := (hb1.block (w.heap.size + 1 + 1 + 1) (by omega)).trans HZ0.out
    obtain ⟨y0, y1, y2, y3, y4, y5, y6⟩ := cells6 hr
    have fr' := frz hr
    have HB1 := Hid.mk hb1
    clear hr hb1 hfr hz2 hrf
    go_wp2
    refine bodyPost_ret (v := .tuple #[.agg #[.int .i64 f, .int .i64 rnn, .bool rh, .string rn, .slice q1 q2 q3, .slice p1 p2 p3], .int .i64 0]) (by simp [results, Try.results50, go_sem, y0, y1, y2, y3, y4, y5, hz1]) rfl ⟨?_, ?_⟩
    · exact ((((Kept.of_grew HG0.out).trans (Kept.of_below HB1.out)).old (Q := fun k => k = w.heap.size + 1 + 1 + 1) (keep6 rfl) (fun i h1 h2 => by omega))).alloc _
    · have hR : R = .ok ((), r) := by rw [HE.out, if_neg (fun h => HNF.out h.1)]
      rw [hR]
      exact ⟨⟨_, rfl, HFR.out.fin (fun _ => HBK.out) (by have := HSZ.out; omega) (by have := HSZ.out; omega), fun _ => HBK.out⟩, trivial⟩
end Go.Proofs.Ytbgkeomlfdmkeaa
