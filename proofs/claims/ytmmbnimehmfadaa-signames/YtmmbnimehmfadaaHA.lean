/- The contracts of term.answered and term.Lift. -/
import Derived.Test.YtmmbnimehmfadaaCA
import Derived.Deep.AppendLies
import Derived.Test.YtmmbnimehmfadaaFA
namespace Go.Proofs.Ytmmbnimehmfadaa
open Go.RowKit Go.Sort

def Tm.addAll : Tm → List Tm → Tm
  | .mk f n h nm ls ks, l => .mk f n h nm ls (ks ++ l)

theorem addAll_nil (t : Tm) : t.addAll [] = t := by cases t; simp [Tm.addAll]
theorem add_addAll (t k : Tm) (l : List Tm) : (t.add k).addAll l = t.addAll (k :: l) := by cases t; simp [Tm.addAll, Tm.add]

end Go.Proofs.Ytmmbnimehmfadaa

/- The contracts of the small terms of the laws: Var, Set, Const, Lam, App. -/
namespace Go.Proofs.Ytmmbnimehmfadaa
open Go.RowKit Go.Sort

theorem TV.leaf {w : World} (f n : Int) (h : Bool) (nm : ByteArray) : TV w (.agg #[.int .i64 f, .int .i64 n, .bool h, .string nm, .slice none 0 0, .slice none 0 0]) (.mk f n h nm [] []) :=
  TV.mk (kb := 0) (ko := 0) (ls := []) (ks := []) (Or.inl rfl) (fun _ => rfl) (Nat.le_refl _) (by omega) (fun _ => rfl) (Nat.le_refl _) (by omega) (fun h => absurd rfl h) (fun i t hi => by simp at hi)

theorem TV.two {w : World} {b : Nat} {f : Int} {va vb : Value} {x y : Tm} {a0 a1 a2 a3 a4 a5 b0 b1 b2 b3 b4 b5 : Value} (hva : va = .agg #[a0, a1, a2, a3, a4, a5]) (hvb : vb = .agg #[b0, b1, b2, b3, b4, b5]) (hx : TV w va x) (hy : TV w vb y) (hb : w.heap[b]? = some (.cells #[a0, a1, a2, a3, a4, a5, b0, b1, b2, b3, b4, b5] 26 (0, 0))) : TV w (.agg #[.int .i64 f, .int .i64 0, .bool false, .string { data := #[] }, .slice none 0 0, .slice (some ⟨b, 0, none⟩) 2 2]) (.mk f 0 false { data := #[] } [] [x, y]) := by
  subst hva hvb
  refine TV.mk (kb := b) (ko := 0) (ls := []) (ks := [x, y]) (Or.inl rfl) (fun _ => rfl) (Nat.le_refl _) (by omega) (fun e => by cases e) (Nat.le_refl _) (by omega) (fun _ => ⟨rfl, heap_lt hb⟩) (fun i t hi => ?_)
  have hc : ∀ o v, #[a0, a1, a2, a3, a4, a5, b0, b1, b2, b3, b4, b5][o]? = some v → w.cell? ⟨b, o, none⟩ = some v := fun o v h => by rw [cell_of_row _ b o _ _ _ hb]; exact h
  match i with
  | 0 =>
    simp at hi
    subst hi
    cases hx with
    | mk hl hln hlc hlm hkn hkc hkm hk kids => exact TC.mk (hc 0 _ rfl) (hc 1 _ rfl) (hc 2 _ rfl) (hc 3 _ rfl) (hc 4 _ rfl) (hc 5 _ rfl) hl hln hlc hlm hkn hkc hkm hk kids
  | 1 =>
    simp at hi
    subst hi
    cases hy with
    | mk hl hln hlc hlm hkn hkc hkm hk kids => exact TC.mk (hc 6 _ rfl) (hc 7 _ rfl) (hc 8 _ rfl) (hc 9 _ rfl) (hc 10 _ rfl) (hc 11 _ rfl) hl hln hlc hlm hkn hkc hkm hk kids
  | i + 2 => simp at hi

theorem TV.shapeT {w : World} {v : Value} {t : Tm} (h : TV w v t) : ShapeT v := by
  cases h with
  | mk => exact ⟨_, _, _, _, _, _, _, _, _, _, rfl⟩

set_option maxRecDepth 100000 in
set_option maxHeartbeats 1000000 in
theorem Const_any (nm : ByteArray) (w : World) : Calls Try.prog 7 #[.string nm, .slice none 0 0] w fun e w' => ∃ v, e = .returned v ∧ TV w' v (.mk 10 0 false nm [] []) ∧ RowKit.Below w.heap.size w w' := by
  go_enter Try.func7, Try.ntmps7
  go_wp2
  exact bodyPost_ret (v := .agg #[.int .i64 10, .int .i64 0, .bool false, .string nm, .slice none 0 0, .slice none 0 0]) (by simp [results, Try.results7, go_sem]) rfl ⟨_, rfl, TV.leaf _ _ _ _, (Below.refl _ _).alloc (Nat.le_refl _) _⟩

end Go.Proofs.Ytmmbnimehmfadaa

/- The reference's lift and Clean as plain data: what they make is what the code makes. -/
namespace Go.Proofs.Ytmmbnimehmfadaa
open Go.RowKit Go.Sort

mutual
/-- a term with zero in each field that its form does not have -/
def cleanT : Tm → Tm
  | .mk f n h nm ls ks => .mk f (if f = 1 ∨ f = 11 then n else 0) (if f = 3 ∨ f = 4 ∨ f = 5 then h else false) (if f = 10 then nm else ByteArray.empty) (if f = 2 ∨ f = 10 then ls else []) (cleanTs ks)
def cleanTs : List Tm → List Tm
  | [] => []
  | k :: ks => cleanT k :: cleanTs ks
end
theorem cleanTs_map : ∀ ks : List Tm, cleanTs ks = ks.map cleanT
  | [] => by rw [cleanTs]; rfl
  | k :: ks => by rw [cleanTs, cleanTs_map ks]; rfl

theorem clean_mk (f n : Int) (h : Bool) (nm : ByteArray) (ls : List LvT) (ks : List Tm) : cleanT (.mk f n h nm ls ks) = .mk f (if f = 1 ∨ f = 11 then n else 0) (if f = 3 ∨ f = 4 ∨ f = 5 then h else false) (if f = 10 then nm else ByteArray.empty) (if f = 2 ∨ f = 10 then ls else []) (ks.map cleanT) := by rw [cleanT, cleanTs_map]

theorem clean_form (t : Tm) : (cleanT t).form = t.form := by cases t; rw [clean_mk]; rfl

theorem clean_size (t : Tm) : sizeT (cleanT t) = sizeT t := by
  refine Tm.ind (P := fun t => sizeT (cleanT t) = sizeT t) ?_ t
  intro f n hd nm ls ks ih
  rw [clean_mk, sizeT_mk, sizeT_mk, List.map_map]
  congr 2
  exact List.map_congr_left fun k hk => ih k hk

theorem clean_high (t : Tm) : heightT (cleanT t) = heightT t := by
  refine Tm.ind (P := fun t => heightT (cleanT t) = heightT t) ?_ t
  intro f n hd nm ls ks ih
  rw [clean_mk, heightT_mk, heightT_mk, List.map_map]
  congr 2
  exact List.map_congr_left fun k hk => ih k hk

theorem clean_fields (t : Tm) : fieldsB (cleanT t) = fieldsB t := by
  cases t with
  | mk f n h nm ls ks =>
    rw [clean_mk]
    unfold fieldsB
    by_cases h1 : f = 1 ∨ f = 11
    · simp only [h1, if_true]
    · by_cases h7 : f = 7
      · subst h7
        simp only [h1, if_false, if_true]
        cases ks with
        | nil => rfl
        | cons k ks => simp only [List.map_cons]; rw [clean_form]
      · by_cases h2 : f = 2
        · subst h2; simp
        · by_cases h10 : f = 10
          · subst h10; simp
          · simp only [h1, h7, h2, h10, if_false, or_self]

theorem clean_formed (t : Tm) : formedB (cleanT t) = formedB t := by
  refine Tm.ind (P := fun t => formedB (cleanT t) = formedB t) ?_ t
  intro f n hd nm ls ks ih
  have hf := clean_fields (.mk f n hd nm ls ks)
  rw [clean_mk] at hf ⊢
  rw [formedB_mk, formedB_mk]
  unfold judB
  rw [hf]
  congr 1
  · simp only [Tm.kids, Tm.form, List.length_map]
    first | rfl | congr
  · rw [List.all_map]
    clear hf
    induction ks with
    | nil => rfl
    | cons k ks ihk => simp only [List.all_cons, Function.comp]; rw [ih k (by simp), ihk (fun k' hk' => ih k' (by simp [hk']))]

theorem clean_check (t : Tm) : checkT (cleanT t) = checkT t := by
  unfold checkT; rw [clean_size, clean_high, clean_formed]

theorem smT_clean (m : Nat) (t : Tm) : smT m t → smT m (cleanT t) := by
  refine Tm.ind (P := fun t => smT m t → smT m (cleanT t)) ?_ t
  intro f n hd nm ls ks ih h
  obtain ⟨h1, h2, h3, h4, h5⟩ := (smT_mk _ _ _ _ _ _ _).1 h
  rw [clean_mk, smT_mk]
  refine ⟨?_, ?_, ?_, by simpa using h4, fun k hk => ?_⟩
  · split
    · exact h1
    · exact Nat.zero_le _
  · split
    · exact h2
    · exact Nat.zero_le _
  · intro l hl
    split at hl
    · exact h3 l hl
    · simp at hl
  · obtain ⟨k', hk', rfl⟩ := List.mem_map.1 hk
    exact ih k' hk' (h5 k' hk')

end Go.Proofs.Ytmmbnimehmfadaa

/- The contract of term.Copy at right terms. -/
namespace Go.Proofs.Ytmmbnimehmfadaa
open Go.RowKit Go.Sort

/-- a term in memory of its own does not look into what is no part of it -/
theorem TO.tf {w : World} {B E : Nat} {v : Value} {t : Tm} (h : TO w B E v t) (P : Nat → Bool) (hP : ∀ k, B ≤ k → k < E → P k = false) : TF w P v t :=
  (h.on (w' := maskB P w) fun k h1 h2 => maskB_no w (hP k h1 h2)).tv

def takV (_ : Unit) (t : Tm) (_ _ : Int) : Except Int (Unit × Tm) := .ok ((), bareT t)

theorem cf_taken (xs : Array Value) (w : World) : Sem.run Try.prog (callFunc 42 xs) w = .ok (.enter 42 xs) w := by simp [callFunc, go_sem, Try.func42]; rfl

theorem clean_bare (f n : Int) (h : Bool) (nm : ByteArray) (ls : List LvT) (ks : List Tm) : cleanT (.mk f n h nm ls ks) = (bareT (.mk f n h nm ls ks)).addAll (ks.map cleanT) := by
  rw [clean_mk]; simp [bareT, Tm.addAll]

theorem tak_list (f : Int) : ∀ (ks : List Tm) (i : Nat) (r : Tm) (b p : Int), (∀ k ∈ ks, ∀ (b p : Int), walkF takV Tm.add k () b p = .ok ((), cleanT k)) → walkL takV Tm.add f ks i () r b p = .ok ((), r.addAll (ks.map cleanT))
  | [], i, r, b, p, _ => by rw [walkL, List.map_nil, addAll_nil]
  | k :: ks, i, r, b, p, ih => by
    rw [walkL, ih k (by simp), List.map_cons]
    simp only []
    rw [tak_list f ks (i + 1) _ b p (fun k' hk' => ih k' (by simp [hk'])), add_addAll]

theorem tak_walk (t : Tm) : ∀ (b p : Int), walkF takV Tm.add t () b p = .ok ((), cleanT t) := by
  refine Tm.ind (P := fun t => ∀ (b p : Int), walkF takV Tm.add t () b p = .ok ((), cleanT t)) ?_ t
  intro f n hd nm ls ks ih b p
  have hV : takV () (.mk f n hd nm ls ks) b p = .ok ((), bareT (.mk f n hd nm ls ks)) := rfl
  rw [walkF_mk, hV, clean_bare]
  exact tak_list f ks 0 _ b p ih

set_option maxRecDepth 100000 in
set_option maxHeartbeats 2000000 in
theorem taken_visits (w0 : World) : VisitsT GT (fun _ => False) (fun _ _ => True) w0 42 #[] takV := by
  intro s t v b p w hG _ hv0 hB0 hb0 hbp hp
  have hv := hv0.on hB0
  clear hv0 hB0
  have HBA := fun (W : World) (hb : RowKit.Below w.heap.size w W) => bare_any t v W (hv.on hb) hG.1 (fun h => GT_leaf hG (by omega))
  obtain ⟨la, lc, ka, kc, rfl⟩ := hv.shape
  have HE : Hid (takV s t b p = .ok ((), bareT t)) := rfl
  have HBK := Hid.mk (bareT_kids t)
  generalize takV s t b p = R at HE ⊢
  generalize bareT t = r at *
  clear hv hG
  generalize t.form = f at *
  generalize t.n = n at *
  generalize t.hid = hd at *
  generalize t.name = nm at *
  generalize t.levels.length = l1 at *
  generalize t.kids.length = k1 at *
  show Calls Try.prog 42 #[.agg #[.int .i64 f, .int .i64 n, .bool hd, .string nm, .slice la l1 lc, .slice ka k1 kc], .agg #[.int .i64 b, .int .i64 p]] w _
  obtain ⟨W0, hW0⟩ : ∃ W0, ((w.alloc (.cells #[.int .i64 f, .int .i64 n, .bool hd, .string nm, .slice la l1 lc, .slice ka k1 kc] 26)).alloc (.cells #[.int .i64 b, .int .i64 p] 95)).alloc (.cells #[.int .i64 0, .int .i64 0, .bool false, .string { data := #[] }, .slice none 0 0, .slice none 0 0] 26) = W0 := ⟨_, rfl⟩
  have HG0 : Hid (Grew w W0) := by unfold Hid; rw [← hW0]; exact (((Grew.refl w).alloc _).alloc _).alloc _
  have HX0 : Hid (W0.heap[w.heap.size]? = some (.cells #[.int .i64 f, .int .i64 n, .bool hd, .string nm, .slice la l1 lc, .slice ka k1 kc] 26 (0, 0))) := by unfold Hid; rw [← hW0]; exact alloc_old box_at _
  have HZ0 : Hid (W0.heap[w.heap.size + 1 + 1]? = some (.cells #[.int .i64 0, .int .i64 0, .bool false, .string { data := #[] }, .slice none 0 0, .slice none 0 0] 26 (0, 0))) := by unfold Hid; rw [← hW0]; exact on2
  have HSZ : Hid (W0.heap.size = w.heap.size + 1 + 1 + 1) := by unfold Hid; rw [← hW0]; simp
  have HW0 := Hid.mk hW0
  clear hW0
  have HB0 := HBA W0 HG0.out.below
  clear HBA
  go_enter Try.func42, Try.ntmps42
  go_wp2_with fail
  rw [HW0.out]
  refine HB0.mono ?_
  rintro e w1 ⟨v1, rfl, hfr, hb1⟩
  obtain ⟨q1, q2, q3, p1, p2, p3, rfl⟩ := hfr.shapeF
  have HFR := Hid.mk hfr
  have hz2 := HSZ.out
  have hz3 := hb1.size
  have hz1 : w.heap.size + 1 + 1 < w1.heap.size := by omega
  have hr := (hb1.block (w.heap.size + 1 + 1) (by omega)).trans HZ0.out
  obtain ⟨y0, y1, y2, y3, y4, y5, y6⟩ := cells6 hr
  have fr' := frz hr
  have HB1 := Hid.mk hb1
  clear hr hb1 hfr hz2 hz3
  generalize r.form = rf at *
  generalize r.n = rn at *
  generalize r.hid = rh at *
  generalize r.name = rm at *
  go_wp2
  refine bodyPost_ret (v := .tuple #[.agg #[.int .i64 rf, .int .i64 rn, .bool rh, .string rm, .slice q1 q2 q3, .slice p1 p2 p3], .int .i64 0]) (by simp [results, Try.results42, go_sem, y0, y1, y2, y3, y4, y5]) rfl ⟨?_, ?_⟩
  · exact (((Kept.of_grew HG0.out).trans (Kept.of_below HB1.out)).old (Q := fun k => k = w.heap.size + 1 + 1) (keep6 rfl) (fun i h1 h2 => by omega))
  · rw [HE.out]
    refine ⟨⟨_, rfl, ?_, fun _ => HBK.out⟩, trivial⟩
    refine HFR.out.on (fun _ => HBK.out) (by rw [size6]; exact Nat.le_refl _) (fun k h1 h2 => ?_) (by have := HSZ.out; omega)
    exact (keep6 (P := fun k => k = w.heap.size + 1 + 1) rfl).block k h2 (by have := HSZ.out; omega)

set_option maxRecDepth 100000 in
set_option maxHeartbeats 2000000 in
theorem Copy_any (t : Tm) (v : Value) (w : World) (hv : TV w v t) (hG : GT t) (hs : (sizeT t : Int) ≤ 16777216) (hh : (heightT t : Int) ≤ 65536) : Calls Try.prog 31 #[v] w fun e w' => ∃ v', e = .returned v' ∧ TO w' w.heap.size w'.heap.size v' (cleanT t) ∧ RowKit.Below w.heap.size w w' := by
  have HC := fun (W : World) (h : RowKit.Below w.heap.size w W) => count_any 16777216 65536 (by omega) (by omega) (by omega) t v W (hv.on h)
  have HW := fun (W : World) (hB : RowKit.Below w.heap.size w W) => walkT_any (w0 := w) (bs := #[]) GT_kid (fun k hk => hk.elim) (fun s w' k hI hk => hk.elim) (fun s a b M _ _ _ _ => trivial) cf_taken (taken_visits w) t () v 0 0 W hG trivial hv hB (by omega) (by omega) (by omega) (Or.inr (by omega))
  rw [tak_walk t 0 0] at HW
  have HOK : Hid ((sizeT t : Int) ≤ 16777216 ∧ (heightT t : Int) ≤ 65536) := ⟨hs, hh⟩
  generalize cleanT t = r at *
  obtain ⟨la, lc, ka, kc, rfl⟩ := hv.shape
  clear hv hG hs hh
  generalize t.form = f at *
  generalize t.n = n at *
  generalize t.hid = hd at *
  generalize t.name = nm at *
  generalize t.levels.length = l1 at *
  generalize t.kids.length = k1 at *
  obtain ⟨W0, hW0⟩ : ∃ W0, (w.alloc (.cells #[.int .i64 f, .int .i64 n, .bool hd, .string nm, .slice la l1 lc, .slice ka k1 kc] 26)).alloc (.cells #[.int .i64 0, .int .i64 0, .bool false, .string { data := #[] }, .slice none 0 0, .slice none 0 0] 26) = W0 := ⟨_, rfl⟩
  have hb0 : RowKit.Below w.heap.size w W0 := by rw [← hW0]; exact ((Below.refl _ _).alloc (Nat.le_refl _) _).alloc (by simp) _
  have HX0 : Hid (W0.heap[w.heap.size]? = some (.cells #[.int .i64 f, .int .i64 n, .bool hd, .string nm, .slice la l1 lc, .slice ka k1 kc] 26 (0, 0))) := by unfold Hid; rw [← hW0]; exact box_at
  have HR0 : Hid (W0.heap[w.heap.size + 1]? = some (.cells #[.int .i64 0, .int .i64 0, .bool false, .string { data := #[] }, .slice none 0 0, .slice none 0 0] 26 (0, 0))) := by unfold Hid; rw [← hW0]; exact box_at1
  have HC0 := HC W0 hb0
  have HB0 := Hid.mk hb0
  have HW0 := Hid.mk hW0
  obtain ⟨x0, x1, x2, x3, x4, x5, x6⟩ := cells6 HX0.out
  clear hW0 hb0 HC
  go_enter Try.func31, Try.ntmps31
  go_wp2_with fail
  rw [HW0.out]
  refine HC0.mono ?_
  rintro e w1 ⟨⟨cr, cc, rfl, hok, -⟩, hb1⟩
  obtain ⟨-, rfl⟩ := hok HOK.out
  have HB1 : Hid (RowKit.Below w.heap.size w w1) := HB0.out.trans (hb1.mono HB0.out.size)
  have HX1 := Hid.mk ((hb1.block _ (heap_lt HX0.out)).trans HX0.out)
  have HR1 := Hid.mk ((hb1.block _ (heap_lt HR0.out)).trans HR0.out)
  have HW1 := HW w1 HB1.out
  clear HC0 hb1 HW x0 x1 x2 x3 x4 x5 x6 hok
  obtain ⟨x0, x1, x2, x3, x4, x5, x6⟩ := cells6 HX1.out
  go_wp2_with fail
  refine HW1.mono ?_
  rintro e w2 ⟨hk2, ⟨v2, rfl, hto2⟩, -⟩
  have hb2 : RowKit.Below w1.heap.size w1 w2 := hk2.below (Nat.le_refl _) (fun k h => h.elim)
  obtain ⟨u0, u1, u2, u3, u4, u5, u6, u7, u8, u9, rfl⟩ := hto2.shapeE
  have hr2 := (hb2.block _ (heap_lt HR1.out)).trans HR1.out
  obtain ⟨W3, hW3⟩ : ∃ W3, w2.alloc (.cells #[.int .i64 u0, .int .i64 u1, .bool u2, .string u3, .slice u4 u5 u6, .slice u7 u8 u9] 26) = W3 := ⟨_, rfl⟩
  have hb3 : RowKit.Below w2.heap.size w2 W3 := by rw [← hW3]; exact (Below.refl _ _).alloc (Nat.le_refl _) _
  have HZ3 : Hid (W3.heap[w2.heap.size]? = some (.cells #[.int .i64 u0, .int .i64 u1, .bool u2, .string u3, .slice u4 u5 u6, .slice u7 u8 u9] 26 (0, 0))) := by unfold Hid; rw [← hW3]; exact alloc_new _ _
  have HR3 := Hid.mk ((hb3.block _ (heap_lt hr2)).trans hr2)
  have HB3 : Hid (RowKit.Below w.heap.size w W3) := HB1.out.trans ((hb2.trans (hb3.mono hb2.size)).mono HB1.out.size)
  have HTO3 : Hid (TO W3 w1.heap.size w2.heap.size (.agg #[.int .i64 u0, .int .i64 u1, .bool u2, .string u3, .slice u4 u5 u6, .slice u7 u8 u9]) r) := hto2.on fun k h1 h2 => hb3.block k h2
  have hs01 : w.heap.size + 1 < w1.heap.size := heap_lt HR1.out
  have hs12 := hb2.size
  have hs23 := hb3.size
  have HW3 := Hid.mk hW3
  obtain ⟨y0, y1, y2, y3, y4, y5, y6⟩ := cells6 HR3.out
  obtain ⟨z0, z1, z2, z3, z4, z5, z6⟩ := cells6 HZ3.out
  have fr' := frz HR3.out
  clear hk2 hto2 hb2 hb3 hr2 hW3 HW1 x0 x1 x2 x3 x4 x5 x6
  go_wp2_with (rw [HW3.out])
  refine bodyPost_ret (v := .agg #[.int .i64 u0, .int .i64 u1, .bool u2, .string u3, .slice u4 u5 u6, .slice u7 u8 u9]) (by simp [results, Try.results31, go_sem, y0, y1, y2, y3, y4, y5]) rfl ⟨_, rfl, ?_, ?_⟩
  · refine ((HTO3.out.on (fun k h1 h2 => ?_)).mono (by omega) ?_)
    · exact (keep6 (P := fun k => k = w.heap.size + 1) rfl).block k (by omega) (by omega)
    · rw [size6]; omega
  · exact HB3.out.trans ((keep6 (P := fun k => k = w.heap.size + 1) rfl).below HB3.out.size (fun k hk => by omega))
end Go.Proofs.Ytmmbnimehmfadaa
