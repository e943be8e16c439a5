/- tele.Split, whatever is handed in: as a plain function. -/
import Derived.Test.YthdcpodheimhaaaHE
namespace Go.Proofs.Ythdcpodheimhaaa
open Go.RowKit Go.Sort

/-- the outermost n TPis split off -/
def splitT : Nat → Tm → Option (List (Tm × Bool) × Tm)
  | 0, t => some ([], t)
  | n + 1, .mk 3 _ h _ _ [d, c] => match splitT n c with
    | some (l, r) => some ((d, h) :: l, r)
    | none => none
  | _ + 1, _ => none

theorem splitT_pi (n : Nat) (m : Int) (h : Bool) (nm : ByteArray) (ls : List LvT) (d c : Tm) : splitT (n + 1) (.mk 3 m h nm ls [d, c]) = (match splitT n c with
    | some (l, r) => some ((d, h) :: l, r)
    | none => none) := by rw [splitT]

theorem splitT_no (n : Nat) (t : Tm) (h : t.form ≠ 3) : splitT (n + 1) t = none := by
  cases t with
  | mk f m hd nm ls ks =>
    simp only [Tm.form] at h
    unfold splitT
    split
    · rename_i e; cases e
    · rename_i e1 e2
      simp only [Tm.mk.injEq] at e2
      exact absurd e2.1 h
    · rfl

/-- a right term's outermost TPis, in memory -/
theorem pi_row {w : World} : ∀ (m : Nat) (t : Tm) (v : Value), TV w v t → GT t → ∃ (xs : List (Value × Tm)) (v' : Value) (t' : Tm), PiRow w xs v t v' t' ∧ (xs.length = m ∨ (xs.length < m ∧ t'.form ≠ 3)) ∧ splitT m t = (if xs.length = m then some (xs.map (fun x => (domT x.2, x.2.hid)), t') else none) := by
  intro m
  induction m with
  | zero =>
    intro t v hv _
    exact ⟨[], v, t, PiRow.nil hv, Or.inl rfl, by simp [splitT]⟩
  | succ m ih =>
    intro t v hv hf
    by_cases h3 : t.form = 3
    · cases hv with
      | @mk f n h nm ls ks la lc ka kc kb ko hl hln hlc hlm hkn hkc hkm hk kids =>
        simp only [Tm.form] at h3
        subst h3
        obtain ⟨hkn0, -⟩ := GT_jud hf
        simp only [Tm.kids, Tm.form] at hkn0
        have h2 : kidsR 3 = 2 := by decide
        have hlen : ks.length = 2 := by omega
        match ks, hlen with
        | [d, c], _ =>
          have hfc : GT c := GT_kid _ _ _ _ _ _ hf c (by simp)
          obtain ⟨rfl, hkb⟩ := hk (by simp)
          obtain ⟨d0, d1, d2, d3, d4, d5, d6, d7, d8, d9, c0, c1, c2, c3, c4, c5, htc⟩ := (kids 1 c rfl).valE
          obtain ⟨xs, v', t', hr, hl', hs⟩ := ih c _ htc hfc
          refine ⟨_ :: xs, v', t', PiRow.cons (la := la) (lc := lc) (kb := kb) (ko := ko) (kc := kc) (v1 := .agg #[.int .i64 d0, .int .i64 d1, .bool d2, .string d3, .slice d4 d5 d6, .slice d7 d8 d9]) (TV.mk (kb := kb) (ko := ko) hl hln hlc hlm (fun e => by cases e) hkc hkm (fun _ => ⟨rfl, hkb⟩) kids) hkb hkc ⟨d0, d1, d2, d3, d4, d5, d6, d7, d8, d9, rfl, c0, c1, c2, c3, c4, c5⟩ hr, ?_, ?_⟩
          · simp only [List.length_cons]; omega
          · rw [splitT_pi, hs]
            simp only [List.length_cons, Nat.add_right_cancel_iff]
            by_cases e : xs.length = m
            · rw [if_pos e, if_pos e]; rfl
            · rw [if_neg e, if_neg e]
    · exact ⟨[], v, t, PiRow.nil hv, Or.inr ⟨by simp, h3⟩, by rw [splitT_no _ _ h3]; simp⟩

theorem PiRow.facts {w : World} {xs : List (Value × Tm)} {v v' : Value} {t t' : Tm} (h : PiRow w xs v t v' t') : GT t → (∀ x ∈ xs, GT (domT x.2) ∧ sizeT (domT x.2) ≤ sizeT t ∧ heightT (domT x.2) ≤ heightT t) ∧ GT t' ∧ sizeT t' ≤ sizeT t ∧ heightT t' ≤ heightT t ∧ xs.length ≤ heightT t := by
  induction h with
  | nil hv => exact fun hG => ⟨fun x hx => (by cases hx), hG, Nat.le_refl _, Nat.le_refl _, Nat.zero_le _⟩
  | @cons n h nm ls d t1 t' la lc kb ko kc v1 v' xs hv hkb hkc hc hr ih =>
    intro hG
    obtain ⟨h1, h2, h3, h4, h5⟩ := ih (GT_kid _ _ _ _ _ _ hG t1 (by simp))
    have hz : sizeT (.mk 3 n h nm ls [d, t1]) = 1 + (sizeT d + (sizeT t1 + 0)) := by rw [sizeT_mk]; simp
    have e1 : heightT d ≤ ([d, t1].map heightT).foldl max 0 := high_kid (by simp)
    have e2 : heightT t1 ≤ ([d, t1].map heightT).foldl max 0 := high_kid (by simp)
    have hh : heightT (.mk 3 n h nm ls [d, t1]) = 1 + ([d, t1].map heightT).foldl max 0 := heightT_mk _ _ _ _ _ _
    refine ⟨fun x hx => ?_, h2, by omega, by omega, by simp only [List.length_cons]; omega⟩
    rcases List.mem_cons.1 hx with rfl | hx
    · exact ⟨GT_kid _ _ _ _ _ _ hG d (by simp), by simp only [domT]; omega, by simp only [domT]; omega⟩
    · obtain ⟨a1, a2, a3⟩ := h1 x hx
      exact ⟨a1, by omega, by omega⟩

/-- what Split answers, by the plain function -/
def SpRes (w' : World) (e : Ending) : Option (List (Tm × Bool) × Tm) → Prop
  | some (l, r) => ∃ (B : Nat) (P : Nat → Bool) (a : Option Addr) (cap : Nat) (hv rv : Value), e = .returned (.tuple #[.slice a l.length cap, hv, rv, .bool true]) ∧ RowF w' B P a cap (l.map fun x => cleanT x.1) ∧ OB1 B w' hv (l.map fun x => x.2) ∧ ShapeT rv ∧ TV w' rv (cleanT r)
  | none => e = .returned (.tuple #[.slice none 0 0, .slice none 0 0, zeroV, .bool false])

attribute [local go_sem] Oper.semAt_some

set_option maxRecDepth 100000 in
set_option maxHeartbeats 4000000 in
theorem Split_no (N : Int) (t : Tm) (v : Value) (w : World) (hv : TV w v t) (hsm : smT 1000000 t) (hbad : N < 0 ∨ checkT t ≠ 0) : Calls Try.prog 8 #[v, .int .i64 N] w fun e w' => RowKit.Below w.heap.size w w' ∧ e = .returned (.tuple #[.slice none 0 0, .slice none 0 0, zeroV, .bool false]) := by
  have HCH := fun (W : World) (h : RowKit.Below w.heap.size w W) => (callsIn_wide (n := 5)).2 (Check_any t v W (hv.on h) hsm)
  obtain ⟨la, lc, ka, kc, rfl⟩ := hv.shape
  clear hv
  generalize checkT t = C at *
  generalize t.form = f at *
  generalize t.n = n at *
  generalize t.hid = hd at *
  generalize t.name = nm at *
  generalize t.levels.length = l1 at *
  generalize t.kids.length = k1 at *
  obtain ⟨W0, hW0⟩ : ∃ W0, (w.alloc (.cells #[.int .i64 f, .int .i64 n, .bool hd, .string nm, .slice la l1 lc, .slice ka k1 kc] 25)).alloc (.cells #[.int .i64 0, .int .i64 0, .bool false, .string { data := #[] }, .slice none 0 0, .slice none 0 0] 25) = W0 := ⟨_, rfl⟩
  have hb0 : RowKit.Below w.heap.size w W0 := by rw [← hW0]; exact ((Below.refl _ _).alloc (Nat.le_refl _) _).alloc (by simp) _
  have HX0 : Hid (W0.heap[w.heap.size]? = some (.cells #[.int .i64 f, .int .i64 n, .bool hd, .string nm, .slice la l1 lc, .slice ka k1 kc] 25 (0, 0))) := by unfold Hid; rw [← hW0]; exact box_at
  have HR0 : Hid (W0.heap[w.heap.size + 1]? = some (.cells #[.int .i64 0, .int .i64 0, .bool false, .string { data := #[] }, .slice none 0 0, .slice none 0 0] 25 (0, 0))) := by unfold Hid; rw [← hW0]; exact box_at1
  have HC0 := HCH W0 hb0
  have HB0 := Hid.mk hb0
  have HW0 := Hid.mk hW0
  obtain ⟨x0, x1, x2, x3, x4, x5, x6⟩ := cells6 HX0.out
  obtain ⟨y0, y1, y2, y3, y4, y5, y6⟩ := cells6 HR0.out
  have yf := frz HR0.out
  clear hW0 hb0 HCH
  have fin : ∀ W : World, RowKit.Below w.heap.size w W → W.heap[w.heap.size + 1]? = some (.cells #[.int .i64 0, .int .i64 0, .bool false, .string { data := #[] }, .slice none 0 0, .slice none 0 0] 25 (0, 0)) → RowKit.Below w.heap.size w (set6W W (w.heap.size + 1) (.int .i64 0) (.int .i64 0) (.bool false) (.string { data := #[] }) (.slice none 0 0) (.slice none 0 0)) ∧ (set6W W (w.heap.size + 1) (.int .i64 0) (.int .i64 0) (.bool false) (.string { data := #[] }) (.slice none 0 0) (.slice none 0 0)).heap[w.heap.size + 1]? = some (.cells #[.int .i64 0, .int .i64 0, .bool false, .string { data := #[] }, .slice none 0 0, .slice none 0 0] 25 (0, 0)) := fun W h1 h2 => ⟨h1.trans ((keep6 (P := fun k => k = w.heap.size + 1) rfl).below h1.size (fun k hk => by omega)), set6 h2⟩
  have HFIN := Hid.mk fin
  clear fin
  refine (callsIn_wide (n := 6)).1 ?_
  refine callsIn_of_wp_marks Try.func8 rfl trivial ?_ rfl
  simp only [Try.ntmps8, List.size_toArray, List.length_cons, List.length_nil, Nat.reduceAdd, Nat.reduceSub, Array.replicate_succ, Array.replicate_zero, List.push_toArray, List.append_toArray, List.nil_append, List.cons_append]
  by_cases hn : N < 0
  · gi_wp2_with (first | rw [HW0.out] | (with_reducible refine And.intro (fun _ h => (by cases h)) ?_))
    refine ⟨trivial, ?_⟩
    gi_wp2
    obtain ⟨hbF, hzF⟩ := HFIN.out W0 HB0.out HR0.out
    obtain ⟨m0, m1, m2, m3, m4, m5, m6⟩ := cells6 hzF
    unfold set6W at m0 m1 m2 m3 m4 m5 hbF
    refine ⟨.tuple #[.slice none 0 0, .slice none 0 0, zeroV, .bool false], ?_, hbF, rfl⟩
    simp [results, Try.f8, go_sem, zeroV, m0, m1, m2, m3, m4, m5]
  · have hc : (C != 0) = true := by simpa using hbad.resolve_left hn
    gi_wp2_with fail
    refine ⟨trivial, ?_⟩
    rw [HW0.out]
    refine HC0.mono ?_
    rintro e w1 ⟨rfl, hb1⟩
    have HR1 := Hid.mk ((hb1.block _ (heap_lt HR0.out)).trans HR0.out)
    have HB1 : Hid (RowKit.Below w.heap.size w w1) := HB0.out.trans (hb1.mono HB0.out.size)
    clear y0 y1 y2 y3 y4 y5 y6 yf hb1
    obtain ⟨y0, y1, y2, y3, y4, y5, y6⟩ := cells6 HR1.out
    have yf := frz HR1.out
    gi_wp2
    obtain ⟨hbF, hzF⟩ := HFIN.out w1 HB1.out HR1.out
    obtain ⟨m0, m1, m2, m3, m4, m5, m6⟩ := cells6 hzF
    unfold set6W at m0 m1 m2 m3 m4 m5 hbF
    refine ⟨.tuple #[.slice none 0 0, .slice none 0 0, zeroV, .bool false], ?_, hbF, rfl⟩
    simp [results, Try.f8, go_sem, zeroV, m0, m1, m2, m3, m4, m5]

/-- tele.Split, whatever is handed in -/
theorem Split_any (N : Int) (t : Tm) (v : Value) (w : World) (hv : TV w v t) (hsm : smT 1000000 t) (hN : N ≤ 9223372036854775807) : Calls Try.prog 8 #[v, .int .i64 N] w fun e w' => RowKit.Below w.heap.size w w' ∧ SpRes w' e (if N < 0 ∨ checkT t ≠ 0 then none else splitT N.toNat t) := by
  by_cases hbad : N < 0 ∨ checkT t ≠ 0
  · rw [if_pos hbad]
    exact Split_no N t v w hv hsm hbad
  · rw [if_neg hbad]
    have hc : checkT t = 0 := by
      by_cases h : checkT t = 0
      · exact h
      · exact absurd (Or.inr h) hbad
    have hN0 : 0 ≤ N := by omega
    obtain ⟨hs, hh, hf⟩ := check_ok hc
    have hG : GT t := ⟨hsm, hf⟩
    obtain ⟨xs, v', t', hrow, hend, hsp⟩ := pi_row N.toNat t v hv hG
    obtain ⟨h1, h2, h3, h4, h5⟩ := hrow.facts hG
    refine (Split_walk N t t' v v' xs w hv hsm hN0 hN hc hrow (by omega) (by omega) (fun x hx => ⟨(h1 x hx).1, by have := (h1 x hx).2.1; omega, by have := (h1 x hx).2.2; omega⟩) ⟨h2, by omega, by omega⟩).mono ?_
    rintro e w' ⟨hb, h⟩
    refine ⟨hb, ?_⟩
    rw [hsp]
    rcases h with ⟨hl, B, P, a, cap, hv', rv, he, hr, ho, hsh, ht⟩ | ⟨hl, he⟩
    · rw [if_pos (by omega)]
      exact ⟨B, P, a, cap, hv', rv, by rw [List.length_map]; exact he, by rw [List.map_map]; exact hr, by rw [List.map_map]; exact ho, hsh, ht⟩
    · rw [if_neg (by omega)]
      exact he
end Go.Proofs.Ythdcpodheimhaaa
