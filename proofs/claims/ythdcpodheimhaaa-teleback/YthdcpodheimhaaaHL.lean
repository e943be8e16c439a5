/- tele.Pis, with no Hids told, where all is right. -/
import Derived.Test.YthdcpodheimhaaaHK
import Derived.Test.YthdcpodheimhaaaON
namespace Go.Proofs.Ythdcpodheimhaaa
open Go.RowKit Go.Sort Go.Shelf Go.Lib

def piT (d c : Tm) : Tm := .mk 3 0 false { data := #[] } [] [d, c]

/-- a term and its value that does not look into block tb -/
theorem TF.two {w : World} {P : Nat → Bool} {b : Nat} {f : Int} {x y : Tm} {a0 a1 a2 a3 a4 a5 b0 b1 b2 b3 b4 b5 : Value} (hx : TF w P (.agg #[a0, a1, a2, a3, a4, a5]) x) (hy : TF w P (.agg #[b0, b1, b2, b3, b4, b5]) y) (hb : w.heap[b]? = some (.cells #[a0, a1, a2, a3, a4, a5, b0, b1, b2, b3, b4, b5] 25 (0, 0))) (hP : P b = false) : TF w P (.agg #[.int .i64 f, .int .i64 0, .bool false, .string { data := #[] }, .slice none 0 0, .slice (some ⟨b, 0, none⟩) 2 2]) (.mk f 0 false { data := #[] } [] [x, y]) :=
  TV.two rfl rfl hx hy ((maskB_no w hP).trans hb)

theorem backL_len (kv : Nat → Value) : ∀ n, (backL kv n).length = n
  | 0 => rfl
  | n + 1 => by rw [backL, List.length_cons, backL_len kv n]

theorem backL_at (kv : Nat → Value) : ∀ (n : Nat) (pre rest : List (Int × Value)) (x : Int × Value), pre ++ x :: rest = backL kv n → ∃ i : Nat, i < n ∧ x = ((i : Int), kv i) ∧ pre.length + i + 1 = n
  | 0, pre, rest, x, h => by simp [backL] at h
  | n + 1, [], rest, x, h => by
    simp only [backL, List.nil_append, List.cons.injEq] at h
    exact ⟨n, by omega, h.1, by simp⟩
  | n + 1, p :: pre, rest, x, h => by
    simp only [backL, List.cons_append, List.cons.injEq] at h
    obtain ⟨i, h1, h2, h3⟩ := backL_at kv n pre rest x h.2
    exact ⟨i, by omega, h2, by simp only [List.length_cons]; omega⟩

/-- the blocks that the term in the making keeps off -/
def offB (tb B k : Nat) : Bool := decide (k = tb) || (decide (B ≤ k) && decide (k < B + 2))

theorem offB_lt {tb B k : Nat} (h1 : k < tb) (h2 : k < B) : offB tb B k = false := by
  unfold offB
  rw [Bool.or_eq_false_iff, Bool.and_eq_false_iff, decide_eq_false_iff_not, decide_eq_false_iff_not]
  exact ⟨by omega, Or.inl (by omega)⟩

theorem offB_ge {tb B k : Nat} (h1 : tb < k) (h2 : B + 2 ≤ k) : offB tb B k = false := by
  unfold offB
  rw [Bool.or_eq_false_iff, Bool.and_eq_false_iff, decide_eq_false_iff_not, decide_eq_false_iff_not, decide_eq_false_iff_not]
  exact ⟨by omega, Or.inr (by omega)⟩

theorem offB_no {tb B k : Nat} (h : offB tb B k = false) : k ≠ tb ∧ ¬ (B ≤ k ∧ k < B + 2) := by
  unfold offB at h
  rw [Bool.or_eq_false_iff, Bool.and_eq_false_iff, decide_eq_false_iff_not, decide_eq_false_iff_not, decide_eq_false_iff_not] at h
  omega

theorem TL.kv {w : World} {b : Nat} {ts : List Tm} (h : TL w (some ⟨b, 0, none⟩) ts) : ∃ kv : Nat → Value, ∀ i, i < ts.length → CellsAt w b (i * 6) (kv i) ∧ ∀ x, ts[i]? = some x → TV w (kv i) x := by
  rcases h with rfl | ⟨g, ha, hlt, h⟩
  · exact ⟨fun _ => undef, fun i hi => absurd hi (by simp)⟩
  · simp only [Option.some.injEq, Addr.mk.injEq, and_true] at ha
    subst ha
    have hex : ∀ i, ∃ v, i < ts.length → CellsAt w b (i * 6) v ∧ ∀ x, ts[i]? = some x → TV w v x := fun i => by
      by_cases hi : i < ts.length
      · have hc := h i ts[i] (List.getElem?_eq_getElem hi)
        obtain ⟨v0, v1, v2, v3, l1, l2, l3, k1, k2, k3, c0, c1, c2, c3, c4, c5, hv⟩ := hc.valE
        refine ⟨_, fun _ => ⟨⟨v0, v1, v2, v3, l1, l2, l3, k1, k2, k3, rfl, c0, c1, c2, c3, c4, c5⟩, fun x hx => ?_⟩⟩
        rw [List.getElem?_eq_getElem hi, Option.some.injEq] at hx
        rw [← hx]; exact hv
      · exact ⟨undef, fun h => absurd h hi⟩
    exact ⟨fun i => Classical.choose (hex i), fun i hi => Classical.choose_spec (hex i) hi⟩

/-- what holds between two rounds of tele.bound -/
structure BI (w : World) (ts : List Tm) (t : Tm) (s1 s2 B : Nat) (pre : List (Int × Value)) (W : World) : Prop where
  below : RowKit.Below w.heap.size w W
  form : W.heap[w.heap.size]? = some (.cells #[.int .i64 3] 3 (0, 0))
  res : W.heap[w.heap.size + 1 + 1]? = some (.cells #[.int .i64 0, .int .i64 0, .bool false, .string { data := #[] }, .slice none 0 0, .slice none 0 0] 25 (0, 0))
  bools : W.heap[s1]? = some (.cells #[.slice none 0 0] 28 (0, 0))
  fn : W.heap[s2]? = some (.cells #[.func (.func 48) #[] #[.pointer (some ⟨s1, 0, none⟩)]] 65 (0, 0))
  term : ∃ (q0 q1 : Int) (q2 : Bool) (q3 : ByteArray) (q4 : Option Addr) (q5 q6 : Nat) (q7 : Option Addr) (q8 q9 : Nat), W.heap[w.heap.size + 1]? = some (.cells #[.int .i64 q0, .int .i64 q1, .bool q2, .string q3, .slice q4 q5 q6, .slice q7 q8 q9] 25 (0, 0)) ∧ TF W (offB (w.heap.size + 1) B) (.agg #[.int .i64 q0, .int .i64 q1, .bool q2, .string q3, .slice q4 q5 q6, .slice q7 q8 q9]) ((ts.drop (ts.length - pre.length)).foldr piT t)

theorem BI.on {w : World} {ts : List Tm} {t : Tm} {s1 s2 B : Nat} {pre : List (Int × Value)} {A A' : World} (h : BI w ts t s1 s2 B pre A) (hl : w.heap.size + 1 + 1 < s1 ∧ s1 < s2 ∧ s2 + 1 < B) (hs : A.heap.size ≤ A'.heap.size) (hk : ∀ k, k < A.heap.size → ¬ (B ≤ k ∧ k < B + 2) → A'.heap[k]? = A.heap[k]?) (ho : A'.os = A.os) (ht : A'.tape = A.tape) (hu : A'.output = A.output) : BI w ts t s1 s2 B pre A' := by
  obtain ⟨q0, q1, q2, q3, q4, q5, q6, q7, q8, q9, hQ, hT⟩ := h.term
  have hsz := h.below.size
  exact ⟨⟨ho.trans h.below.os, ht.trans h.below.tape, hu.trans h.below.output, Nat.le_trans hsz hs, fun k hk2 => (hk k (by omega) (by omega)).trans (h.below.block k hk2)⟩,
    (hk _ (heap_lt h.form) (by omega)).trans h.form, (hk _ (heap_lt h.res) (by omega)).trans h.res, (hk _ (heap_lt h.bools) (by omega)).trans h.bools, (hk _ (heap_lt h.fn) (by omega)).trans h.fn,
    q0, q1, q2, q3, q4, q5, q6, q7, q8, q9, (hk _ (heap_lt hQ) (by omega)).trans hQ, hT.move hs fun k h1 h2 => ⟨h2, hk k h1 (offB_no h2).2⟩⟩

theorem BI.step {w : World} {ts : List Tm} {t : Tm} {s1 s2 B : Nat} {pre : List (Int × Value)} {W : World} (h : BI w ts t s1 s2 B pre W) (hl : w.heap.size + 1 + 1 < s1 ∧ s1 < s2 ∧ s2 + 1 < B) (hBW : B + 2 ≤ W.heap.size) {i : Nat} (hi : i < ts.length) (hlen : pre.length + i + 1 = ts.length) {x : Int × Value} {d0 d1 d2 d3 d4 d5 q0 q1 q2 q3 q4 q5 : Value} (hd : TV w (.agg #[d0, d1, d2, d3, d4, d5]) ts[i]) (hQ : W.heap[w.heap.size + 1]? = some (.cells #[q0, q1, q2, q3, q4, q5] 25 (0, 0))) (hT : TF W (offB (w.heap.size + 1) B) (.agg #[q0, q1, q2, q3, q4, q5]) ((ts.drop (ts.length - pre.length)).foldr piT t)) :
    BI w ts t s1 s2 B (pre ++ [x]) (set6W (W.drew.alloc (.cells #[d0, d1, d2, d3, d4, d5, q0, q1, q2, q3, q4, q5] 25)) (w.heap.size + 1) (.int .i64 3) (.int .i64 0) (.bool false) (.string { data := #[] }) (.slice none 0 0) (.slice (some ⟨W.heap.size, 0, none⟩) 2 2)) := by
  obtain ⟨W6, hW6⟩ : ∃ W6, W.drew.alloc (.cells #[d0, d1, d2, d3, d4, d5, q0, q1, q2, q3, q4, q5] 25) = W6 := ⟨_, rfl⟩
  have hb6 : RowKit.Below W.heap.size W W6 := by rw [← hW6]; exact (Below.refl _ W).drew.alloc (Nat.le_refl _) _
  have hn6 : W6.heap[W.heap.size]? = some (.cells #[d0, d1, d2, d3, d4, d5, q0, q1, q2, q3, q4, q5] 25 (0, 0)) := by rw [← hW6]; exact alloc_new W.drew _
  have hbw : RowKit.Below w.heap.size w W6 := h.below.trans (hb6.mono h.below.size)
  rw [hW6]
  have hK : Kept (fun k => k = w.heap.size + 1) W6 (set6W W6 (w.heap.size + 1) (.int .i64 3) (.int .i64 0) (.bool false) (.string { data := #[] }) (.slice none 0 0) (.slice (some ⟨W.heap.size, 0, none⟩) 2 2)) := keep6 rfl
  have hq6 := (hb6.block _ (heap_lt hQ)).trans hQ
  have hget : ∀ {k : Nat} {o : Obj}, W.heap[k]? = some o → k ≠ w.heap.size + 1 → (set6W W6 (w.heap.size + 1) (.int .i64 3) (.int .i64 0) (.bool false) (.string { data := #[] }) (.slice none 0 0) (.slice (some ⟨W.heap.size, 0, none⟩) 2 2)).heap[k]? = some o := fun {k o} ho hne => (hK.block k (Nat.lt_of_lt_of_le (heap_lt ho) hb6.size) hne).trans ((hb6.block k (heap_lt ho)).trans ho)
  refine ⟨hbw.trans (hK.below hbw.size (fun k hk => by omega)), hget h.form (by omega), hget h.res (by omega), hget h.bools (by omega), hget h.fn (by omega), 3, 0, false, { data := #[] }, none, 0, 0, some ⟨W.heap.size, 0, none⟩, 2, 2, set6 hq6, ?_⟩
  have hlw := heap_lt hQ
  have hT6 : TF W6 (offB (w.heap.size + 1) B) (.agg #[.int .i64 3, .int .i64 0, .bool false, .string { data := #[] }, .slice none 0 0, .slice (some ⟨W.heap.size, 0, none⟩) 2 2]) (piT ts[i] ((ts.drop (ts.length - pre.length)).foldr piT t)) :=
    TF.two (TF.on (hd.tf (fun k hk => offB_lt (by omega) (by omega))) hbw) (hT.on hb6) hn6 (offB_ge hlw hBW)
  rw [List.length_append, List.length_singleton, show ts.length - (pre.length + 1) = i by omega, List.drop_eq_getElem_cons hi, List.foldr_cons, show i + 1 = ts.length - pre.length by omega]
  exact hT6.move hK.size fun k h1 h2 => ⟨h2, hK.block k h1 (offB_no h2).1⟩

attribute [local go_sem] Oper.semAt_some

set_option maxRecDepth 100000 in
set_option maxHeartbeats 8000000 in
theorem bound_walk (ts : List Tm) (b cap : Nat) (t : Tm) (v : Value) (w : World) (hL : TL w (some ⟨b, 0, none⟩) ts) (hbw : b < w.heap.size) (hv : TV w v t) (hn : ts.length ≤ 60) (hts : ∀ x ∈ ts, smT 1000000 x ∧ checkT x = 0) (hsm : smT 1000000 t) (hc : checkT t = 0) (hsr : smT 1000000 (ts.foldr piT t)) (hcr : checkT (ts.foldr piT t) = 0) : Calls Try.prog 31 #[.int .i64 3, .slice (some ⟨b, 0, none⟩) ts.length cap, .slice none 0 0, v] w fun e w' => (∃ v', e = .returned (.tuple #[v', .int .i64 0]) ∧ ShapeT v' ∧ TO w' w.heap.size w'.heap.size v' (cleanT (ts.foldr piT t))) ∧ RowKit.Below w.heap.size w w' := by
  have HFA := fun (W : World) (h : RowKit.Below w.heap.size w W) => (callsIn_wide (n := 5)).2 (fault_ok ts (some ⟨b, 0, none⟩) cap t v W (hL.on h) (hv.on h) hn hts hsm hc)
  have HAN := fun (W : World) (u : Value) (h : TV W u (ts.foldr piT t)) => (callsIn_wide (n := 5)).2 (tanswered_ok (ts.foldr piT t) u W h hsr hcr)
  have HV := Hid.mk hv
  have HL := Hid.mk hL
  obtain ⟨la, lc, ka, kc, rfl⟩ := hv.shape
  clear hv hts hsm hc hsr hcr hL
  generalize t.form = f at *
  generalize t.n = n at *
  generalize t.hid = hd at *
  generalize t.name = nm at *
  generalize t.levels.length = l1 at *
  generalize t.kids.length = k1 at *
  obtain ⟨W0, hW0⟩ : ∃ W0, ((w.alloc (.cells #[.int .i64 3] 3)).alloc (.cells #[.int .i64 f, .int .i64 n, .bool hd, .string nm, .slice la l1 lc, .slice ka k1 kc] 25)).alloc (.cells #[.int .i64 0, .int .i64 0, .bool false, .string { data := #[] }, .slice none 0 0, .slice none 0 0] 25) = W0 := ⟨_, rfl⟩
  have hb0 : RowKit.Below w.heap.size w W0 := by rw [← hW0]; exact (((Below.refl _ _).alloc (Nat.le_refl _) _).alloc (by simp) _).alloc (by simp; omega) _
  have HF0 : Hid (W0.heap[w.heap.size]? = some (.cells #[.int .i64 3] 3 (0, 0))) := by unfold Hid; rw [← hW0]; exact alloc_old box_at _
  have HX0 : Hid (W0.heap[w.heap.size + 1]? = some (.cells #[.int .i64 f, .int .i64 n, .bool hd, .string nm, .slice la l1 lc, .slice ka k1 kc] 25 (0, 0))) := by unfold Hid; rw [← hW0]; exact on1
  have HR0 : Hid (W0.heap[w.heap.size + 1 + 1]? = some (.cells #[.int .i64 0, .int .i64 0, .bool false, .string { data := #[] }, .slice none 0 0, .slice none 0 0] 25 (0, 0))) := by unfold Hid; rw [← hW0]; exact on2
  have HC0 := HFA W0 hb0
  have HB0 := Hid.mk hb0
  have HW0 := Hid.mk hW0
  obtain ⟨x0, x1, x2, x3, x4, x5, x6⟩ := cells6 HX0.out
  clear hW0 hb0 HFA
  refine (callsIn_wide (n := 6)).1 ?_
  refine callsIn_of_wp_marks Try.func31 rfl trivial ?_ rfl
  simp only [Try.ntmps31, List.size_toArray, List.length_cons, List.length_nil, Nat.reduceAdd, Nat.reduceSub, Array.replicate_succ, Array.replicate_zero, List.push_toArray, List.append_toArray, List.nil_append, List.cons_append]
  gi_wp2_with fail
  refine ⟨trivial, ?_⟩
  rw [HW0.out]
  refine HC0.mono ?_
  rintro e w1 ⟨rfl, hb1⟩
  have HF1 := Hid.mk ((hb1.block _ (heap_lt HF0.out)).trans HF0.out)
  have HX1 := Hid.mk ((hb1.block _ (heap_lt HX0.out)).trans HX0.out)
  have HR1 := Hid.mk ((hb1.block _ (heap_lt HR0.out)).trans HR0.out)
  have HB1 : Hid (RowKit.Below w.heap.size w w1) := HB0.out.trans (hb1.mono HB0.out.size)
  clear HC0 hb1 x0 x1 x2 x3 x4 x5 x6
  gi_wp2_with fail
  refine ⟨trivial, ?_⟩
  refine ((callsIn_wide (n := 5)).2 (told_nil _)).mono ?_
  rintro e w2 ⟨rfl, hw2⟩
  have HW2 := Hid.mk hw2
  have HS2 : Hid (w2.heap.size = w1.heap.size + 1) := by unfold Hid; rw [hw2]; simp
  clear hw2
  gi_wp2_with fail
  refine ⟨trivial, ?_⟩
  refine ((callsIn_wide (n := 5)).2 (Backward_any _ _ _ _)).mono ?_
  rintro e w3 ⟨rfl, hw3⟩
  have HW3 := Hid.mk hw3
  clear hw3
  gi_wp2_with fail
  have hs3 : w3.heap.size = w2.heap.size + 2 := by rw [HW3.out]; simp
  have hs1 := HB1.out.size
  have hR := heap_lt HR1.out
  have hs2 := HS2.out
  have HLT : Hid (w.heap.size + 1 + 1 < w1.heap.size ∧ w1.heap.size < w2.heap.size ∧ w2.heap.size + 1 < w3.heap.size) := ⟨hR, by omega, by omega⟩
  have hb2 : RowKit.Below w1.heap.size w1 w3 := by rw [HW3.out, HW2.out]; exact (((Below.refl _ _).alloc (Nat.le_refl _) _).alloc (by simp) _).alloc (by simp; omega) _
  have hb3 : RowKit.Below w.heap.size w w3 := HB1.out.trans (hb2.mono HB1.out.size)
  have HI0 : Hid (BI w ts t w1.heap.size w2.heap.size w3.heap.size [] w3) := by
    refine ⟨hb3, (hb2.block _ (heap_lt HF1.out)).trans HF1.out, (hb2.block _ (heap_lt HR1.out)).trans HR1.out, ?_, ?_, _, _, _, _, _, _, _, _, _, _, (hb2.block _ (heap_lt HX1.out)).trans HX1.out, ?_⟩
    · rw [HW3.out]; refine alloc_old (alloc_old ?_ _) _; rw [HW2.out]; exact alloc_new _ _
    · rw [HW3.out]; exact box_at
    · rw [List.length_nil, Nat.sub_zero, List.drop_length]
      exact TF.on (HV.out.tf (fun k hk => offB_lt (by omega) (by omega))) hb3
  obtain ⟨kv, hkv⟩ : ∃ kv : Nat → Value, ∀ i, i < ts.length → CellsAt w b (i * 6) (kv i) ∧ ∀ x, ts[i]? = some x → TV w (kv i) x := TL.kv HL.out
  have HKV : Hid (∀ i, i < ts.length → CellsAt w b (i * 6) (kv i)) := fun i hi => (hkv i hi).1
  have HKT : Hid (∀ i (hi : i < ts.length), TV w (kv i) ts[i]) := fun i hi => (hkv i hi).2 _ (List.getElem?_eq_getElem hi)
  have HSEQ : Hid (SeqY 5 Try.prog 55 #[.pointer (some ⟨w2.heap.size + 1, 0, none⟩)] encB (fun k => k = b ∨ k = w2.heap.size + 1) (backL kv ts.length) w3) := backward1_seq 5 (w2.heap.size + 1) b ts.length cap kv w3 (by omega) (by omega) (by rw [HW3.out]; exact box_at1) (by omega) (fun i hi => (hkv i hi).1.same (hb3.block _ hbw))
  clear hs3 hs1 hR hs2 hb2 hb3 hkv HW3 HW2 HF1 HX1 HR1 HF0 HX0 HR0 HB0 HB1 HW0 HL HV
  -- LOOP
  refine rangeY (gf := 55) (lb := #[.pointer (some ⟨w2.heap.size + 1, 0, none⟩)]) rfl (enters_of Try.func55 (by kernel_rfl) rfl) HSEQ.out (Below.refl _ _) (fun _ => rfl)
    (BI w ts t w1.heap.size w2.heap.size w3.heap.size) (fun s A A' h1 h2 h3 h4 h5 h6 => BI.on h1 HLT.out h2 h3 h4 h5 h6) HI0.out
    (fun x a' W => ∃ (pb : Nat) (d0 d1 : Int) (d2 : Bool) (d3 : ByteArray) (d4 : Option Addr) (d5 d6 : Nat) (d7 : Option Addr) (d8 d9 : Nat), x.2 = .agg #[.int .i64 d0, .int .i64 d1, .bool d2, .string d3, .slice d4 d5 d6, .slice d7 d8 d9] ∧ a' = { tmps := #[.int .i64 3, .slice (some ⟨b, 0, none⟩) ts.length cap, .slice none 0 0, .agg #[.int .i64 f, .int .i64 n, .bool hd, .string nm, .slice la l1 lc, .slice ka k1 kc], .pointer (some ⟨w.heap.size, 0, none⟩), undef, undef, .pointer (some ⟨w.heap.size + 1, 0, none⟩), .pointer (some ⟨w.heap.size + 1 + 1, 0, none⟩), .int .i64 0, .int .i64 0, .pointer (some ⟨w2.heap.size, 0, none⟩), .int .i64 x.1, .pointer (some ⟨pb, 0, none⟩), .slice (some ⟨b, 0, none⟩) ts.length cap, .agg #[.int .i64 f, .int .i64 n, .bool hd, .string nm, .slice la l1 lc, .slice ka k1 kc], .int .i64 0, .int .i64 0, .bool false, undef, undef, .slice none 0 0, .func (.func 48) #[] #[.pointer (some ⟨w1.heap.size, 0, none⟩)], .slice (some ⟨b, 0, none⟩) ts.length cap, .func (.func 55) #[] #[.pointer (some ⟨w2.heap.size + 1, 0, none⟩)], .int .i64 x.1, .agg #[.int .i64 d0, .int .i64 d1, .bool d2, .string d3, .slice d4 d5 d6, .slice d7 d8 d9], undef, undef, undef, undef, undef, undef, undef, undef, undef, undef, undef, undef], defers := [] } ∧ w3.heap.size + 2 ≤ pb ∧ W.heap[pb]? = some (.cells #[.int .i64 d0, .int .i64 d1, .bool d2, .string d3, .slice d4 d5 d6, .slice d7 d8 d9] 25 (0, 0))) ?ax ?assign ?body ?done
  case ax =>
    rintro x a' A A' ⟨pb, d0, d1, d2, d3, d4, d5, d6, d7, d8, d9, h1, h2, h3, h4⟩ hs hk _ _ _
    exact ⟨pb, d0, d1, d2, d3, d4, d5, d6, d7, d8, d9, h1, h2, h3, (hk pb (heap_lt h4) (by omega)).trans h4⟩
  case assign =>
    intro l pre x rest W K hpre hszW hI hK
    have HK := Hid.mk hK
    have HI := Hid.mk hI
    obtain ⟨i, hi, rfl, hlen⟩ := backL_at kv _ _ _ _ hpre
    obtain ⟨d0, d1, d2, d3, d4, d5, d6, d7, d8, d9, hve, -⟩ := HKV.out i hi
    have HVE := Hid.mk hve
    dsimp only [encB]
    rw [hve]
    clear hK hI hve hpre
    gi_wp2
    refine HK.out _ _ ⟨by simp, fun k hk _ => Below.heap_alloc _ _ k hk⟩ (BI.on HI.out HLT.out (by simp) (fun k hk _ => Below.heap_alloc _ _ k hk) rfl rfl rfl) ⟨W.heap.size, d0, d1, d2, d3, d4, d5, d6, d7, d8, d9, HVE.out, rfl, by omega, alloc_new _ _⟩
  case body =>
    intro l pre x rest a' W hpre hszW hI hAx
    obtain ⟨pb, d0, d1, d2, d3, d4, d5, d6, d7, d8, d9, hx2, rfl, hpb, hPB⟩ := hAx
    obtain ⟨i, hi, rfl, hlen⟩ := backL_at kv _ _ _ _ hpre
    obtain ⟨q0, q1, q2, q3, q4, q5, q6, q7, q8, q9, hQ, hTQ⟩ := hI.term
    dsimp only at hx2 ⊢
    obtain ⟨W6, hW6⟩ : ∃ W6, ((W.alloc (.cells #[.int .i64 d0, .int .i64 d1, .bool d2, .string d3, .slice d4 d5 d6, .slice d7 d8 d9, .int .i64 q0, .int .i64 q1, .bool q2, .string q3, .slice q4 q5 q6, .slice q7 q8 q9] 25)).drew) = W6 := ⟨_, rfl⟩
    have hW6' : (W.drew.alloc (.cells #[.int .i64 d0, .int .i64 d1, .bool d2, .string d3, .slice d4 d5 d6, .slice d7 d8 d9, .int .i64 q0, .int .i64 q1, .bool q2, .string q3, .slice q4 q5 q6, .slice q7 q8 q9] 25)) = W6 := hW6
    have HW6 := Hid.mk hW6
    have hb6 : RowKit.Below W.heap.size W W6 := by rw [← hW6']; exact (Below.refl _ W).drew.alloc (Nat.le_refl _) _
    have HB6 := Hid.mk hb6
    have HST : Hid (BI w ts t w1.heap.size w2.heap.size w3.heap.size (pre ++ [((i : Int), kv i)]) (set6W W6 (w.heap.size + 1) (.int .i64 3) (.int .i64 0) (.bool false) (.string { data := #[] }) (.slice none 0 0) (.slice (some ⟨W.heap.size, 0, none⟩) 2 2))) := by unfold Hid; rw [← hW6']; exact hI.step HLT.out hszW hi hlen (by rw [← hx2]; exact HKT.out i hi) hQ hTQ
    have HRK : Hid (RK2 (fun k => k = b ∨ k = w2.heap.size + 1) w3.heap.size W (set6W W6 (w.heap.size + 1) (.int .i64 3) (.int .i64 0) (.bool false) (.string { data := #[] }) (.slice none 0 0) (.slice (some ⟨W.heap.size, 0, none⟩) 2 2))) := ⟨Nat.le_trans hb6.size (keep6 (P := fun k => k = w.heap.size + 1) rfl).size, fun k hk hp => ((keep6 (P := fun k => k = w.heap.size + 1) rfl).block k (Nat.lt_of_lt_of_le hk hb6.size) (by have := HLT.out; omega)).trans (hb6.block k hk)⟩
    have HCEL : Hid (∀ Wx : World, (∀ j, j < W.heap.size → Wx.heap[j]? = W.heap[j]?) → (fun w' => w'.cell? ⟨w.heap.size, 0, none⟩ = some (.int .i64 3) ∧ w'.cell? ⟨w2.heap.size, 0, none⟩ = some (.func (.func 48) #[] #[.pointer (some ⟨w1.heap.size, 0, none⟩)]) ∧ w'.cell? ⟨pb, 0, none⟩ = some (.int .i64 d0) ∧ w'.cell? ⟨pb, 1, none⟩ = some (.int .i64 d1) ∧ w'.cell? ⟨pb, 2, none⟩ = some (.bool d2) ∧ w'.cell? ⟨pb, 3, none⟩ = some (.string d3) ∧ w'.cell? ⟨pb, 4, none⟩ = some (.slice d4 d5 d6) ∧ w'.cell? ⟨pb, 5, none⟩ = some (.slice d7 d8 d9) ∧ w'.cell? ⟨w.heap.size + 1, 0, none⟩ = some (.int .i64 q0) ∧ w'.cell? ⟨w.heap.size + 1, 1, none⟩ = some (.int .i64 q1) ∧ w'.cell? ⟨w.heap.size + 1, 2, none⟩ = some (.bool q2) ∧ w'.cell? ⟨w.heap.size + 1, 3, none⟩ = some (.string q3) ∧ w'.cell? ⟨w.heap.size + 1, 4, none⟩ = some (.slice q4 q5 q6) ∧ w'.cell? ⟨w.heap.size + 1, 5, none⟩ = some (.slice q7 q8 q9)) Wx) := fun Wx h => by
      obtain ⟨a0, -⟩ := cells1 ((h _ (heap_lt hI.form)).trans hI.form)
      obtain ⟨b0, -⟩ := cells1 ((h _ (heap_lt hI.fn)).trans hI.fn)
      obtain ⟨c0, c1, c2, c3, c4, c5, -⟩ := cells6 ((h _ (heap_lt hPB)).trans hPB)
      obtain ⟨e0, e1, e2, e3, e4, e5, -⟩ := cells6 ((h _ (heap_lt hQ)).trans hQ)
      exact ⟨a0, b0, c0, c1, c2, c3, c4, c5, e0, e1, e2, e3, e4, e5⟩
    have HBOOL : Hid (W.drew.heap[w1.heap.size]? = some (.cells #[.slice none 0 0] 28 (0, 0))) := hI.bools
    have HBOOL2 : Hid (W6.heap[w1.heap.size]? = some (.cells #[.slice none 0 0] 28 (0, 0))) := (hb6.block _ (heap_lt HBOOL.out)).trans HBOOL.out
    obtain ⟨m0, m1, m2, m3, m4, m5, m6⟩ := cells6 ((hb6.block _ (heap_lt hQ)).trans hQ)
    have mf := frz ((hb6.block _ (heap_lt hQ)).trans hQ)
    have mx := mixed
    have HX2 := Hid.mk hx2
    rw [hx2]
    clear hTQ hI hQ hPB hpre hx2 hW6 hW6' hb6
    gi_wp2_with fail
    refine wpIn_mono (Q := (fun e a' W' => e = .normal ∧ RK2 (fun k => k = b ∨ k = w2.heap.size + 1) w3.heap.size W W' ∧ BI w ts t w1.heap.size w2.heap.size w3.heap.size (pre ++ [((i : Int), kv i)]) W')) ?_ ?_
    · refine wpIn_region_late (S := fun w' => w'.cell? ⟨w.heap.size, 0, none⟩ = some (.int .i64 3) ∧ w'.cell? ⟨w2.heap.size, 0, none⟩ = some (.func (.func 48) #[] #[.pointer (some ⟨w1.heap.size, 0, none⟩)]) ∧ w'.cell? ⟨pb, 0, none⟩ = some (.int .i64 d0) ∧ w'.cell? ⟨pb, 1, none⟩ = some (.int .i64 d1) ∧ w'.cell? ⟨pb, 2, none⟩ = some (.bool d2) ∧ w'.cell? ⟨pb, 3, none⟩ = some (.string d3) ∧ w'.cell? ⟨pb, 4, none⟩ = some (.slice d4 d5 d6) ∧ w'.cell? ⟨pb, 5, none⟩ = some (.slice d7 d8 d9) ∧ w'.cell? ⟨w.heap.size + 1, 0, none⟩ = some (.int .i64 q0) ∧ w'.cell? ⟨w.heap.size + 1, 1, none⟩ = some (.int .i64 q1) ∧ w'.cell? ⟨w.heap.size + 1, 2, none⟩ = some (.bool q2) ∧ w'.cell? ⟨w.heap.size + 1, 3, none⟩ = some (.string q3) ∧ w'.cell? ⟨w.heap.size + 1, 4, none⟩ = some (.slice q4 q5 q6) ∧ w'.cell? ⟨w.heap.size + 1, 5, none⟩ = some (.slice q7 q8 q9)) (fun i => decide (8 ≤ i)) mx (noDefer_spec (by kernel_rfl)) (fun h => by obtain ⟨_, _, h, -⟩ := h; cases h) ?_ (fun hHeld => ?_)
      · (try dsimp only)
        exact HCEL.out _ (fun j _ => rfl)
      refine wpAnyM_take (i := 0) (v := ?_) rfl (by kernel_rfl) (by kernel_rfl) (by kernel_rfl) (by kernel_rfl) (fun _ _ _ h => by cases h.1) (Or.inl ⟨by rfl, ?_⟩) (by assumption) ?_
      rotate_left
      · (intro w hSw; (try dsimp only at hSw); go_simp; (try with_reducible rfl))
      refine wpAnyM_take (i := 1) (v := ?_) rfl (by kernel_rfl) (by kernel_rfl) (by kernel_rfl) (by kernel_rfl) (fun _ _ _ h => by cases h.1) (Or.inl ⟨by rfl, ?_⟩) (by assumption) ?_
      rotate_left
      · (intro w hSw; (try dsimp only at hSw); go_simp; (try with_reducible rfl))
      refine wpAnyM_take (i := 2) (v := ?_) rfl (by kernel_rfl) (by kernel_rfl) (by kernel_rfl) (by kernel_rfl) (fun _ _ _ h => by cases h.1) (Or.inl ⟨by rfl, ?_⟩) (by assumption) ?_
      rotate_left
      · (intro w hSw; (try dsimp only at hSw); go_simp; (try with_reducible rfl))
      refine wpAnyM_take (i := 4) (v := ?_) rfl (by kernel_rfl) (by kernel_rfl) (by kernel_rfl) (by kernel_rfl) (fun _ _ _ h => by cases h.1) (Or.inl ⟨by rfl, ?_⟩) (by assumption) ?_
      rotate_left
      · (intro w hSw; (try dsimp only at hSw); go_simp; (try with_reducible rfl))
      refine wpAnyM_take (i := 5) (v := ?_) rfl (by kernel_rfl) (by kernel_rfl) (by kernel_rfl) (by kernel_rfl) (fun _ _ _ h => by cases h.1) (Or.inl ⟨by rfl, ?_⟩) (by assumption) ?_
      rotate_left
      · (intro w hSw; (try dsimp only at hSw); go_simp; (try with_reducible rfl))
      refine wpAnyM_two (i := 3) (k := 6) (by kernel_rfl) ?_ ?_
      · (skip)
        refine ⟨_, rfl, fun K hK => ?_⟩
        go_simp
        go_at_call 48
        refine (told1_nil w1.heap.size _ W.drew HBOOL.out (by omega)).mono ?_
        rintro e _ ⟨rfl, rfl⟩
        refine hK.out _ _ (fun _ => ?_) (fun hHeld => ?_)
        · (try dsimp only)
          exact HCEL.out _ (fun j _ => rfl)
        replace hHeld := hHeld rfl
        clear hK K
        refine wpAnyM_one (i := 6) (by kernel_rfl) ?_
        refine ⟨_, rfl, fun K hK => ?_⟩
        go_simp
        rw [HW6.out]
        refine hK.out _ _ (fun _ => ?_) (fun hHeld => ?_)
        · (try dsimp only)
          exact HCEL.out _ (fun j hj => HB6.out.block j hj)
        replace hHeld := hHeld rfl
        clear hK K
        refine wpAnyM_one (i := 7) (by kernel_rfl) ?_
        refine ⟨_, rfl, fun K hK => ?_⟩
        go_simp
        refine hK.out _ _ (fun _ => ?_) (fun hHeld => ?_)
        · (try dsimp only)
          exact hHeld
        replace hHeld := hHeld rfl
        clear hK K
        refine wpAnyM_one (i := 8) (by kernel_rfl) ?_
        refine ⟨_, rfl, fun K hK => ?_⟩
        go_simp
        refine hK.out _ _ (fun h => by cases h) (fun _ => ?_)
        clear hK K
        refine wpAnyM_done (by kernel_rfl) ?_ _
        exact ⟨rfl, HRK.out, HST.out⟩
      · (skip)
        refine ⟨_, rfl, fun K hK => ?_⟩
        go_simp
        rw [HW6.out]
        refine hK.out _ _ (fun _ => ?_) (fun hHeld => ?_)
        · (try dsimp only)
          exact HCEL.out _ (fun j hj => HB6.out.block j hj)
        replace hHeld := hHeld rfl
        clear hK K
        refine wpAnyM_one (i := 3) (by kernel_rfl) ?_
        refine ⟨_, rfl, fun K hK => ?_⟩
        go_simp
        go_at_call 48
        refine (told1_nil w1.heap.size _ W6 HBOOL2.out (by omega)).mono ?_
        rintro e _ ⟨rfl, rfl⟩
        refine hK.out _ _ (fun _ => ?_) (fun hHeld => ?_)
        · (try dsimp only)
          exact hHeld
        replace hHeld := hHeld rfl
        clear hK K
        refine wpAnyM_one (i := 7) (by kernel_rfl) ?_
        refine ⟨_, rfl, fun K hK => ?_⟩
        go_simp
        refine hK.out _ _ (fun _ => ?_) (fun hHeld => ?_)
        · (try dsimp only)
          exact hHeld
        replace hHeld := hHeld rfl
        clear hK K
        refine wpAnyM_one (i := 8) (by kernel_rfl) ?_
        refine ⟨_, rfl, fun K hK => ?_⟩
        go_simp
        refine hK.out _ _ (fun h => by cases h) (fun _ => ?_)
        clear hK K
        refine wpAnyM_done (by kernel_rfl) ?_ _
        exact ⟨rfl, HRK.out, HST.out⟩
    · rintro e a' W' ⟨rfl, h1, h2⟩
      refine ⟨rfl, h1, ?_⟩
      rw [← HX2.out]
      exact h2
  case done =>
    rintro D W rfl hI hK
    obtain ⟨q0, q1, q2, q3, q4, q5, q6, q7, q8, q9, hQ, hTQ⟩ := hI.term
    rw [backL_len, Nat.sub_self, List.drop_zero] at hTQ
    have HKD := Hid.mk hK
    have HTV := Hid.mk hTQ.tv
    have HRES := Hid.mk hI.res
    have HBX := Hid.mk hI.below
    have HAN' := HAN W _ hTQ.tv
    obtain ⟨o0, o1, o2, o3, o4, o5, o6⟩ := cells6 hQ
    clear hK hTQ hI HAN
    gi_wp2_with fail
    refine ⟨trivial, ?_⟩
    refine HAN'.mono ?_
    rintro e W2 ⟨⟨v2, rfl, ⟨u0, u1, u2, u3, u4, u5, u6, u7, u8, u9, rfl⟩, hto2⟩, hb2⟩
    have HTO2 := Hid.mk hto2
    have HB2 := Hid.mk hb2
    have HR2 := Hid.mk ((hb2.block _ (heap_lt HRES.out)).trans HRES.out)
    obtain ⟨y0, y1, y2, y3, y4, y5, y6⟩ := cells6 HR2.out
    have yf := frz HR2.out
    clear hto2 hb2 HAN' o0 o1 o2 o3 o4 o5 o6 hQ
    gi_wp2
    have hlr := heap_lt HRES.out
    have hlt := HLT.out
    have hK2 : W2.heap[w3.heap.size]? = some (.deferred (some [])) := (HB2.out.block _ (heap_lt HKD.out)).trans HKD.out
    have hKp : Kept (fun k => k = w.heap.size + 1 + 1) W2 (set6W W2 (w.heap.size + 1 + 1) (.int .i64 u0) (.int .i64 u1) (.bool u2) (.string u3) (.slice u4 u5 u6) (.slice u7 u8 u9)) := keep6 rfl
    have hK' : (set6W W2 (w.heap.size + 1 + 1) (.int .i64 u0) (.int .i64 u1) (.bool u2) (.string u3) (.slice u4 u5 u6) (.slice u7 u8 u9)).heap[w3.heap.size]? = some (.deferred (some [])) := (hKp.block _ (heap_lt hK2) (by omega)).trans hK2
    refine ⟨by simp, .inl ⟨_, _, rfl, run_takeDeferred hK', ?_⟩⟩
    have hb2' : RowKit.Below w.heap.size w W2 := HBX.out.trans (HB2.out.mono HBX.out.size)
    have hbp : RowKit.Below w.heap.size w ((set6W W2 (w.heap.size + 1 + 1) (.int .i64 u0) (.int .i64 u1) (.bool u2) (.string u3) (.slice u4 u5 u6) (.slice u7 u8 u9)).putObj w3.heap.size (.deferred none)) := (hb2'.trans (hKp.below hb2'.size (fun k hk => by omega))).trans (belowK_b (w := w) (Nat.le_refl _) _ _ _ _ (by omega) hK' rfl rfl)
    have hZ' := (World.putObj_heap_other (w := set6W W2 (w.heap.size + 1 + 1) (.int .i64 u0) (.int .i64 u1) (.bool u2) (.string u3) (.slice u4 u5 u6) (.slice u7 u8 u9)) (r := w3.heap.size) (k := w.heap.size + 1 + 1) (o := .deferred none) (by omega)).trans (set6 HR2.out)
    obtain ⟨m0, m1, m2, m3, m4, m5, m6⟩ := cells6 hZ'
    have hps : ((set6W W2 (w.heap.size + 1 + 1) (.int .i64 u0) (.int .i64 u1) (.bool u2) (.string u3) (.slice u4 u5 u6) (.slice u7 u8 u9)).putObj w3.heap.size (.deferred none)).heap.size = W2.heap.size := by rw [show ∀ (X : World) (o : Obj), (X.putObj w3.heap.size o).heap.size = X.heap.size from fun X o => by simp [World.putObj]]; exact size6
    have hto : TO ((set6W W2 (w.heap.size + 1 + 1) (.int .i64 u0) (.int .i64 u1) (.bool u2) (.string u3) (.slice u4 u5 u6) (.slice u7 u8 u9)).putObj w3.heap.size (.deferred none)) w.heap.size ((set6W W2 (w.heap.size + 1 + 1) (.int .i64 u0) (.int .i64 u1) (.bool u2) (.string u3) (.slice u4 u5 u6) (.slice u7 u8 u9)).putObj w3.heap.size (.deferred none)).heap.size (.agg #[.int .i64 u0, .int .i64 u1, .bool u2, .string u3, .slice u4 u5 u6, .slice u7 u8 u9]) (cleanT (ts.foldr piT t)) := (HTO2.out.on (fun k h1 h2 => (World.putObj_heap_other (by have := heap_lt HKD.out; omega)).trans (hKp.block k h2 (by omega)))).mono HBX.out.size (by rw [hps]; exact Nat.le_refl _)
    unfold set6W at m0 m1 m2 m3 m4 m5
    exact ⟨.tuple #[.agg #[.int .i64 u0, .int .i64 u1, .bool u2, .string u3, .slice u4 u5 u6, .slice u7 u8 u9], .int .i64 0], by simp [results, Try.f31, go_sem, m0, m1, m2, m3, m4, m5], ⟨_, rfl, ⟨_, _, _, _, _, _, _, _, _, _, rfl⟩, hto⟩, hbp⟩
end Go.Proofs.Ythdcpodheimhaaa
