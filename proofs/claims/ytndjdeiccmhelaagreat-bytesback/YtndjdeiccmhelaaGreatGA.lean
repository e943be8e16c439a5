/- The reference's reader of bytes: its term. -/
import Derived.Test.YtndjdeiccmhelaaGreatEZ
namespace Go.Proofs.YtndjdeiccmhelaaGreat
open Go.RowKit Go.Sort Go.Lib

theorem ptext_small {bs r : List UInt8} {nm : ByteArray} (h : ptext bs = some (nm, r)) : nm.size ≤ 60 ∧ r.length ≤ bs.length := by
  unfold ptext at h
  cases hp : pnum 6 bs with
  | none => rw [hp] at h; cases h
  | some x =>
    rw [hp] at h
    have hl := pnum_less (m := x.1) (r := x.2) hp
    simp only at h
    split at h
    · cases h
    · rename_i hn
      simp only [Option.some.injEq, Prod.mk.injEq] at h
      obtain ⟨rfl, rfl⟩ := h
      constructor
      · show (x.2.take x.1).toArray.size ≤ 60
        rw [List.size_toArray, List.length_take]; omega
      · rw [List.length_drop]; omega

theorem pvars_less : ∀ {c : Nat} {bs r : List UInt8} {xs : List (Int × Int)}, pvars c bs = some (xs, r) → r.length ≤ bs.length
  | 0, bs, r, xs, h => by
    simp only [pvars, Option.some.injEq, Prod.mk.injEq] at h
    rw [h.2]; exact Nat.le_refl _
  | c + 1, bs, r, xs, h => by
    rw [pvars] at h
    cases h1 : pnum 6 bs with
    | none => rw [h1] at h; cases h
    | some x =>
      rw [h1] at h
      have l1 := pnum_less (m := x.1) (r := x.2) h1
      simp only at h
      cases h2 : pnum 6 x.2 with
      | none => rw [h2] at h; cases h
      | some y =>
        rw [h2] at h
        have l2 := pnum_less (m := y.1) (r := y.2) h2
        simp only at h
        cases h3 : pvars c y.2 with
        | none => rw [h3] at h; cases h
        | some z =>
          rw [h3] at h
          have l3 := pvars_less (xs := z.1) (r := z.2) h3
          simp only [Option.map_some, Option.some.injEq, Prod.mk.injEq] at h
          rw [← h.2]; omega

theorem plevel_less {bs r : List UInt8} {l : LvT} (h : plevel bs = some (l, r)) : r.length < bs.length := by
  unfold plevel at h
  cases h1 : pnum 6 bs with
  | none => rw [h1] at h; cases h
  | some x =>
    rw [h1] at h
    have l1 := pnum_less (m := x.1) (r := x.2) h1
    simp only at h
    cases h2 : pnum 6 x.2 with
    | none => rw [h2] at h; cases h
    | some y =>
      rw [h2] at h
      have l2 := pnum_less (m := y.1) (r := y.2) h2
      simp only at h
      cases h3 : pvars y.1 y.2 with
      | none => rw [h3] at h; cases h
      | some z =>
        rw [h3] at h
        have l3 := pvars_less (xs := z.1) (r := z.2) h3
        simp only [Option.map_some, Option.some.injEq, Prod.mk.injEq] at h
        rw [← h.2]; omega

theorem RrTxt.out {w : World} {N rb : Nat} {a : Option Addr} {cap : Nat} {all : List UInt8} {n : Nat} {e : Ending} {w' : World} {P : Option (ByteArray × List UInt8)} (h : RrTxt w N rb a cap all n e w' P) : ∃ (nm : ByteArray) (r : List UInt8) (bad' : Bool), e = .returned (.string nm) ∧ RR w' N rb a cap all r bad' n ∧ Kept (fun k => k = rb) w w' ∧ ((bad' = false ∧ P = some (nm, r)) ∨ (bad' = true ∧ P = none)) := by
  cases P with
  | none => obtain ⟨r, h1, h2, h3⟩ := h; exact ⟨_, r, true, h1, h2, h3, Or.inr ⟨rfl, rfl⟩⟩
  | some x => obtain ⟨h1, h2, h3⟩ := h; exact ⟨x.1, x.2, false, h1, h2, h3, Or.inl ⟨rfl, rfl⟩⟩

/-- how far the levels of a constant are read -/
def LvfAt (Q : Option ((Int × Bool × ByteArray × List LvT) × List UInt8)) (nm : ByteArray) (c : Nat) (ls : List LvT) (r : List UInt8) (bad : Bool) : Prop :=
  (bad = false ∧ ls.length ≤ c ∧ Q = (plevels (c - ls.length) r).map (fun z => ((0, false, nm, ls ++ z.1), z.2)) ∧ nm.size ≤ 60 ∧ ls.length + r.length ≤ 1000000 ∧ ∀ l ∈ ls, l.2.length ≤ 1000000) ∨ (bad = true ∧ Q = none)

theorem lvf_start {r1 r4 r6 : List UInt8} {nm : ByteArray} {c : Nat} {bad4 bad6 : Bool} (hl : r1.length ≤ 1000000) (h4 : (bad4 = false ∧ ptext r1 = some (nm, r4)) ∨ (bad4 = true ∧ ptext r1 = none)) (h6 : (bad6 = bad4 ∧ pnum 6 r4 = some (c, r6)) ∨ (bad6 = true ∧ pnum 6 r4 = none)) : LvfAt (pfields 10 r1) nm c [] r6 bad6 := by
  have hp : pfields 10 r1 = (match ptext r1 with
    | none => none
    | some (nm, r) => match pnum 6 r with
      | none => none
      | some (c, r2) => (plevels c r2).map fun z => ((0, false, nm, z.1), z.2)) := by
    unfold pfields; rw [if_neg (by decide), if_neg (by decide), if_neg (by decide), if_pos rfl]; rfl
  rw [hp]
  unfold LvfAt
  rcases h4 with ⟨e4, q4⟩ | ⟨e4, q4⟩
  · rw [q4]
    obtain ⟨s1, s2⟩ := ptext_small q4
    rcases h6 with ⟨e6, q6⟩ | ⟨e6, q6⟩
    · simp only [q6]
      have := pnum_less q6
      exact Or.inl ⟨e6.trans e4, by simp, by simp, s1, by simp; omega, by simp⟩
    · simp only [q6]
      exact Or.inr ⟨e6, trivial⟩
  · rw [q4]
    rcases h6 with ⟨e6, q6⟩ | ⟨e6, q6⟩
    · exact Or.inr ⟨e6.trans e4, rfl⟩
    · exact Or.inr ⟨e6, rfl⟩

theorem lvf_step {Q : Option ((Int × Bool × ByteArray × List LvT) × List UInt8)} {nm : ByteArray} {c : Nat} {ls : List LvT} {r r2 : List UInt8} {bad : Bool} {l : LvT} (h : LvfAt Q nm c ls r false) (hlt : ls.length < c) (h1 : (bad = false ∧ plevel r = some (l, r2) ∧ l.2.length ≤ 1000000) ∨ (bad = true ∧ plevel r = none)) : LvfAt Q nm c (ls ++ [l]) r2 bad := by
  rcases h with ⟨-, -, hQ, hs, hb, hm⟩ | ⟨h, -⟩
  rotate_left
  · cases h
  obtain ⟨d, hd⟩ : ∃ d, c - ls.length = d + 1 := ⟨c - ls.length - 1, by omega⟩
  rw [hd, plevels] at hQ
  unfold LvfAt
  rcases h1 with ⟨e1, q1, s1⟩ | ⟨e1, q1⟩
  · simp only [q1] at hQ
    have l1 := plevel_less q1
    refine Or.inl ⟨e1, by rw [List.length_append]; simp; omega, ?_, hs, by rw [List.length_append]; simp; omega, fun x hx => ?_⟩
    · rw [hQ, List.length_append, show c - (ls.length + [l].length) = d by simp; omega, Option.map_map]
      congr 1
      funext z
      simp
    · rcases List.mem_append.1 hx with h | h
      · exact hm x h
      · simp at h; rw [h]; exact s1
  · simp only [q1] at hQ
    exact Or.inr ⟨e1, by rw [hQ]; rfl⟩

theorem lvf_end {Q : Option ((Int × Bool × ByteArray × List LvT) × List UInt8)} {nm : ByteArray} {c : Nat} {ls : List LvT} {r : List UInt8} {bad : Bool} (h : LvfAt Q nm c ls r bad) (hd : bad = true ∨ ¬ ls.length < c) : (bad = false ∧ Q = some ((0, false, nm, ls), r) ∧ nm.size ≤ 60 ∧ ls.length ≤ 1000000 ∧ ∀ l ∈ ls, l.2.length ≤ 1000000) ∨ (bad = true ∧ Q = none) := by
  rcases h with ⟨h1, h2, h3, h4, h5, h6⟩ | h
  · have hc : c - ls.length = 0 := by
      rcases hd with h | h
      · rw [h] at h1; cases h1
      · omega
    rw [hc] at h3
    exact Or.inl ⟨h1, by rw [h3]; simp [plevels], h4, by omega, h6⟩
  · exact Or.inr h

theorem ln_one {w : World} {P : Nat → Bool} {g : Nat} {m : Int} {xs : List (Int × Int)} {a' : Option Addr} {cap' : Nat} (hg : w.heap[g]? = some (.cells #[.int .i64 m, .slice a' xs.length cap'] 105 (0, 0))) (hP : P g = false) (hS : SL (maskB P w) a' xs) (hn : a' = none → cap' = 0) : LN (maskB P w) (some ⟨g, 0, none⟩) [(m, xs)] := by
  refine Or.inr ⟨g, 0, rfl, by rw [maskB_size]; exact heap_lt hg, fun i n vs hi => ?_⟩
  obtain rfl : i = 0 := by
    have := (List.getElem?_eq_some_iff.1 hi).1
    simp at this; exact this
  simp only [List.getElem?_cons_zero, Option.some.injEq, Prod.mk.injEq] at hi
  obtain ⟨rfl, rfl⟩ := hi
  obtain ⟨c0, c1, -, -, -⟩ := cells2 hg
  have hcell : ∀ o, (maskB P w).cell? ⟨g, o, none⟩ = w.cell? ⟨g, o, none⟩ := fun o => World.cell?_of_block (maskB_no w hP)
  exact ⟨by rw [hcell]; exact c0, a', cap', by rw [hcell]; exact c1, hS, hn⟩

theorem geB {B k : Nat} (h : decide (k < B) = false) : B ≤ k := Nat.le_of_not_lt (of_decide_eq_false h)

theorem pt_kids {m n d : Nat} {bs r1 : List UInt8} {P : Option (Tm × List UInt8 × Nat)} (hP : pterm (d + 1) bs n = P) (q : pnum 6 bs = some (m, r1)) (hn : ¬ 20000 < n + 1) (hk : ¬ kidsR (m : Int) < 0) : P = match pfields m r1 with
    | none => none
    | some (x, r2) => (pkids (pterm d) (kidsR (m : Int)).toNat r2 (n + 1)).map fun z => (.mk (m : Int) x.1 x.2.1 x.2.2.1 x.2.2.2 z.1, z.2) := by
  rw [← hP, pterm, q]
  simp only
  rw [if_neg (by omega)]
  cases pfields m r1 with
  | none => rfl
  | some x => rfl

theorem pt_leaf {m n d : Nat} {bs r1 : List UInt8} {P : Option (Tm × List UInt8 × Nat)} (hP : pterm (d + 1) bs n = P) (q : pnum 6 bs = some (m, r1)) (hn : ¬ 20000 < n + 1) (hk : kidsR (m : Int) = 0) : P = (pfields m r1).map fun z => (.mk (m : Int) z.1.1 z.1.2.1 z.1.2.2.1 z.1.2.2.2 [], z.2, n + 1) := by
  rw [pt_kids hP q hn (by omega), hk]
  cases pfields m r1 with
  | none => rfl
  | some x => rfl

theorem kid_start {m n d k : Nat} {bs r1 r2 : List UInt8} {h : Bool} {P : Option (Tm × List UInt8 × Nat)} (hP : pterm (d + 1) bs n = P) (q : pnum 6 bs = some (m, r1)) (hn : ¬ 20000 < n + 1) (hk : kidsR (m : Int) = (k : Int)) {bad : Bool} (hf : (bad = false ∧ pfields m r1 = some ((0, h, ⟨#[]⟩, []), r2)) ∨ (bad = true ∧ pfields m r1 = none)) : KidAt P (pterm d) (m : Int) h k [] r2 bad (n + 1) := by
  have h0 := pt_kids hP q hn (by omega)
  rcases hf with ⟨h1, h2⟩ | ⟨h1, h2⟩
  · rw [h2] at h0
    simp only at h0
    rw [hk] at h0
    exact Or.inl ⟨h1, by simp, by rw [h0]; simp, by omega, by simp⟩
  · rw [h2] at h0
    exact Or.inr ⟨h1, h0⟩

set_option maxRecDepth 100000 in
set_option maxHeartbeats 40000000 in
theorem rrterm_step (N rb : Nat) (a : Option Addr) (cap : Nat) (all : List UInt8) (d : Nat) (IH : ∀ d', d = d' + 1 → RrT N rb a cap all d') (hd5 : d ≤ 500) : RrT N rb a cap all d := by
  intro bs n high w hR hn hhi
  have hrN := hR.1
  have hNw := hR.2.1
  have mx := mixed
  obtain ⟨i0, hi, iz0, iz1, iz2⟩ := info_parts infoTerm
  obtain ⟨P, hP⟩ : ∃ P, pterm d bs n = P := ⟨_, rfl⟩
  rw [hP]
  have HPE := Hid.mk hP
  obtain ⟨W0, hW0⟩ : ∃ W0, w.alloc (.cells #[.int .i64 0, .int .i64 0, .bool false, .string { data := #[] }, .slice none 0 0, .slice none 0 0] 38) = W0 := ⟨_, rfl⟩
  have hb : RowKit.Below w.heap.size w W0 := by rw [← hW0]; exact (Below.refl _ _).alloc (Nat.le_refl _) _
  have HX0 : Hid (W0.heap[w.heap.size]? = some (.cells #[.int .i64 0, .int .i64 0, .bool false, .string { data := #[] }, .slice none 0 0, .slice none 0 0] 38 (0, 0))) := by unfold Hid; rw [← hW0]; exact alloc_new _ _
  have HC := rrnum_any N rb a cap all bs false n W0 (hR.on hb)
  have HK0 : Hid (Kept (fun k => k = rb) w W0) := Kept.of_below hb
  have HW0 := Hid.mk hW0
  have hbl : bs.length ≤ 1000000 := by
    have hall := hR.2.2.2.2.2.1
    obtain ⟨p, hp, -⟩ := hR.2.2.2.2.2.2.2
    have := congrArg List.length hp
    rw [List.length_append] at this
    omega
  clear hR hb hW0 hP
  go_enter Tryz.func43, Tryz.ntmps43
  go_wp2_with fail
  rw [HW0.out]
  refine HC.mono ?_
  intro e w1 h1
  obtain ⟨m, r1, bad1, rfl, hR1, hk1, hq1⟩ := h1.out
  obtain ⟨W1, hW1⟩ : ∃ W1, w1.alloc (.cells #[.int .i64 (m : Int), .int .i64 0, .bool false, .string { data := #[] }, .slice none 0 0, .slice none 0 0] 38) = W1 := ⟨_, rfl⟩
  have hb1 : RowKit.Below w1.heap.size w1 W1 := by rw [← hW1]; exact (Below.refl _ _).alloc (Nat.le_refl _) _
  have hT1 : W1.heap[w1.heap.size]? = some (.cells #[.int .i64 (m : Int), .int .i64 0, .bool false, .string { data := #[] }, .slice none 0 0, .slice none 0 0] 38 (0, 0)) := by rw [← hW1]; exact alloc_new _ _
  have hx0 : w.heap.size < W0.heap.size := heap_lt HX0.out
  have hs1 := hk1.size
  have hX1 : W1.heap[w.heap.size]? = some (.cells #[.int .i64 0, .int .i64 0, .bool false, .string { data := #[] }, .slice none 0 0, .slice none 0 0] 38 (0, 0)) := (hb1.block _ (by omega)).trans ((hk1.block _ (by omega) (by omega)).trans HX0.out)
  have hK1 : Kept (fun k => k = rb) w W1 := (HK0.out.trans hk1).trans (Kept.of_below hb1)
  have hm := (hR1.on hb1).more
  obtain ⟨p1, -, hh1⟩ := (hR1.on hb1).2.2.2.2.2.2.2
  obtain ⟨c0, c1, c2, c3, cl, cf⟩ := cellsR hh1
  obtain ⟨W2, hW2⟩ : ∃ W2, W1.setCell ⟨rb, 3, none⟩ (.int .i64 ((n : Int) + 1)) = W2 := ⟨_, rfl⟩
  have HR2 : Hid (RR W2 N rb a cap all r1 bad1 (n + 1)) := by unfold Hid; rw [← hW2]; exact hm.1
  have hk2 : Kept (fun k => k = rb) W1 W2 := by rw [← hW2]; exact hm.2
  have HK2 : Hid (Kept (fun k => k = rb) w W2) := hK1.trans hk2
  have hs2 := hk2.size
  have HT2 := Hid.mk (box6 hT1 hk2 (by omega))
  have HX2 := Hid.mk (box6 hX1 hk2 (by omega))
  have HW1 := Hid.mk hW1
  have HW2 := Hid.mk hW2
  have HQ1 := Hid.mk hq1
  obtain ⟨Tb, hTb⟩ : ∃ Tb, w1.heap.size = Tb := ⟨_, rfl⟩
  have hXT : w.heap.size < Tb := by omega
  have hT2s : Tb < W2.heap.size := by rw [← hTb]; exact heap_lt HT2.out
  rw [hTb] at HT2
  have HKA := kids_any (m : Int) W2
  clear hR1 hk1 h1 HC hb1 hW1 hq1 hT1 hX1 hK1 hm hh1 hk2 hW2 HX0 HK0 HW0
  obtain ⟨t0, t1, t2, t3, t4, t5, t6⟩ := cells6 HT2.out
  have tf := frz6 HT2.out
  obtain ⟨y0, y1, y2, y3, y4, y5, y6⟩ := cells6 HX2.out
  have yf := frz6 HX2.out
  have hTr : Tb ≠ rb := by omega
  have hXr : w.heap.size ≠ rb := by omega
  have hTX : Tb ≠ w.heap.size := by omega
  have hTr' := hTr.symm
  have hXr' := hXr.symm
  have hTX' := hTX.symm
  go_wp2_with (first | rw [HW1.out] | rw [HW2.out] | fail)
  refine HKA.mono ?_
  rintro e W2 ⟨rfl, rfl⟩
  clear HKA c0 c1 c2 c3 cl cf
  obtain ⟨p2, -, hh2⟩ := HR2.out.2.2.2.2.2.2.2
  obtain ⟨c0, c1, c2, c3, cl, cf⟩ := cellsR hh2
  have hn1 : ((n + 1 : Nat) : Int) = (n : Int) + 1 := by omega
  rw [hn1] at c3
  clear hh2 hn1 HW1 HW2
  obtain ⟨k, hk⟩ : ∃ k, kidsR (m : Int) = k := ⟨_, rfl⟩
  rw [hk]
  rcases HQ1.out with ⟨rfl, q1⟩ | ⟨rfl, q1⟩
  rotate_left
  · have hPn : P = none := by rw [← HPE.out]; cases d with | zero => rfl | succ d => rw [pterm, q1]
    clear HPE HQ1
    go_wp2
    refine bodyPost_ret (v := .agg #[.int .i64 (m : Int), .int .i64 0, .bool false, .string { data := #[] }, .slice none 0 0, .slice none 0 0]) (by simp [results, Tryz.results43, go_sem, y0, y1, y2, y3, y4, y5]) rfl ⟨_, _, r1, true, n + 1, rfl, ⟨_, _, _, _, _, _, _, _, _, _, rfl⟩, TF.leaf _ _ _ _, ?_, ?_, Or.inr ⟨rfl, hPn⟩⟩
    · repeat (refine RR.setNew ?_ (by simp only; omega) _)
      exact (HR2.out.bad true).1
    · repeat (refine Kept.setNew ?_ (by simp only; omega) _)
      exact HK2.out.trans (HR2.out.bad true).2
  have HQN := Hid.mk q1
  clear q1 HQ1
  by_cases hk0 : k < 0
  · have hPn : P = none := by rw [← HPE.out]; cases d with | zero => rfl | succ d => rw [pterm, HQN.out]; simp only; rw [if_pos (Or.inr (by omega))]
    clear HPE HQN
    go_wp2
    refine bodyPost_ret (v := .agg #[.int .i64 (m : Int), .int .i64 0, .bool false, .string { data := #[] }, .slice none 0 0, .slice none 0 0]) (by simp [results, Tryz.results43, go_sem, y0, y1, y2, y3, y4, y5]) rfl ⟨_, _, r1, true, n + 1, rfl, ⟨_, _, _, _, _, _, _, _, _, _, rfl⟩, TF.leaf _ _ _ _, ?_, ?_, Or.inr ⟨rfl, hPn⟩⟩
    · repeat (refine RR.setNew ?_ (by simp only; omega) _)
      exact (HR2.out.bad true).1
    · repeat (refine Kept.setNew ?_ (by simp only; omega) _)
      exact HK2.out.trans (HR2.out.bad true).2
  by_cases hh0 : 500 < high
  · have hPn : P = none := by rw [← HPE.out]; cases d with | zero => rfl | succ d => omega
    clear HPE HQN
    go_wp2
    refine bodyPost_ret (v := .agg #[.int .i64 (m : Int), .int .i64 0, .bool false, .string { data := #[] }, .slice none 0 0, .slice none 0 0]) (by simp [results, Tryz.results43, go_sem, y0, y1, y2, y3, y4, y5]) rfl ⟨_, _, r1, true, n + 1, rfl, ⟨_, _, _, _, _, _, _, _, _, _, rfl⟩, TF.leaf _ _ _ _, ?_, ?_, Or.inr ⟨rfl, hPn⟩⟩
    · repeat (refine RR.setNew ?_ (by simp only; omega) _)
      exact (HR2.out.bad true).1
    · repeat (refine Kept.setNew ?_ (by simp only; omega) _)
      exact HK2.out.trans (HR2.out.bad true).2
  by_cases hn0 : 20000 < n + 1
  · have hPn : P = none := by rw [← HPE.out]; cases d with | zero => rfl | succ d => rw [pterm, HQN.out]; simp only; rw [if_pos (Or.inl hn0)]
    have hn0' : (20000 : Int) < (n : Int) + 1 := by omega
    clear HPE HQN
    go_wp2
    refine bodyPost_ret (v := .agg #[.int .i64 (m : Int), .int .i64 0, .bool false, .string { data := #[] }, .slice none 0 0, .slice none 0 0]) (by simp [results, Tryz.results43, go_sem, y0, y1, y2, y3, y4, y5]) rfl ⟨_, _, r1, true, n + 1, rfl, ⟨_, _, _, _, _, _, _, _, _, _, rfl⟩, TF.leaf _ _ _ _, ?_, ?_, Or.inr ⟨rfl, hPn⟩⟩
    · repeat (refine RR.setNew ?_ (by simp only; omega) _)
      exact (HR2.out.bad true).1
    · repeat (refine Kept.setNew ?_ (by simp only; omega) _)
      exact HK2.out.trans (HR2.out.bad true).2
  obtain ⟨d', rfl⟩ : ∃ d', d = d' + 1 := ⟨d - 1, by omega⟩
  have HREC := IH d' rfl
  have hn0' : ¬ (20000 : Int) < (n : Int) + 1 := by omega
  obtain ⟨f, hf⟩ : ∃ f : Int, (m : Int) = f := ⟨_, rfl⟩
  have HF := Hid.mk hf
  have hm11 : f = 1 ∨ f = 2 ∨ f = 3 ∨ f = 4 ∨ f = 5 ∨ f = 6 ∨ f = 7 ∨ f = 8 ∨ f = 9 ∨ f = 10 ∨ f = 11 := by
    rw [← hk] at hk0
    unfold kidsR at hk0
    repeat' split at hk0
    all_goals omega
  rw [hf] at hk t0 HT2 ⊢
  have HHI := Hid.mk hhi
  have hlo : 1 ≤ high := by omega
  have hhu : high ≤ 500 := by omega
  clear IH hf hhi
  rcases hm11 with rfl | rfl | rfl | rfl | rfl | rfl | rfl | rfl | rfl | rfl | rfl
  · obtain rfl : k = 0 := by rw [← hk]; decide
    have HM : Hid (m = 1) := by have := HF.out; unfold Hid; omega
    clear hk hk0
    have HC4 := rrnum_any N rb a cap all r1 false (n + 1) W2 HR2.out
    go_wp2_with fail
    refine HC4.mono ?_
    intro e w4 h4
    obtain ⟨x4, r4, bad4, rfl, hR4, hk4, hq4⟩ := h4.out
    have HR4 := Hid.mk hR4
    have HK4 : Hid (Kept (fun k => k = rb) w w4) := HK2.out.trans hk4
    have HT4 := Hid.mk (box6 HT2.out hk4 hTr)
    have HX4 := Hid.mk (box6 HX2.out hk4 hXr)
    have hs4 := hk4.size
    have hT4s : Tb < w4.heap.size := heap_lt HT4.out
    clear t0 t1 t2 t3 t4 t5 t6 tf y0 y1 y2 y3 y4 y5 y6 yf c0 c1 c2 c3 cl cf hR4 hk4 h4 HC4
    obtain ⟨t0, t1, t2, t3, t4, t5, t6⟩ := cells6 HT4.out
    have tf := frz6 HT4.out
    obtain ⟨y0, y1, y2, y3, y4, y5, y6⟩ := cells6 HX4.out
    have yf := frz6 HX4.out
    obtain ⟨p4, -, hh4⟩ := HR4.out.2.2.2.2.2.2.2
    obtain ⟨c0, c1, c2, c3, cl, cf⟩ := cellsR hh4
    clear hh4
    have HE : Hid ((bad4 = false ∧ P = some (.mk 1 (x4 : Int) false ⟨#[]⟩ [] [], r4, n + 1) ∧ smT 1000000 (.mk 1 (x4 : Int) false ⟨#[]⟩ [] []) ∧ n + 1 ≤ 20000) ∨ (bad4 = true ∧ P = none)) := by
      have h := pt_leaf HPE.out HQN.out hn0 (by rw [HF.out]; decide)
      rw [HF.out, HM.out] at h
      have hp : pfields 1 r1 = (pnum 6 r1).map (fun z => (((z.1 : Int), false, ⟨#[]⟩, []), z.2)) := by unfold pfields; rw [if_pos (by simp)]
      rw [hp] at h
      rcases hq4 with ⟨e4, q4⟩ | ⟨e4, q4⟩
      · rw [q4] at h
        exact Or.inl ⟨e4, by rw [h]; rfl, (smT_mk _ _ _ _ _ _ _).2 ⟨by decide, by simp, by simp, by simp, by simp⟩, by omega⟩
      · rw [q4] at h
        exact Or.inr ⟨e4, by rw [h]; rfl⟩
    clear HPE HQN hq4
    go_wp2
    refine wp_loop_rounds 1 ?_
    rw [rounds_succ]
    go_wp2
    refine bodyPost_ret (v := .agg #[.int .i64 1, .int .i64 (x4 : Int), .bool false, .string { data := #[] }, .slice none 0 0, .slice none 0 0]) (by simp [results, Tryz.results43, go_sem, y0, y1, y2, y3, y4, y5]) rfl ⟨_, .mk 1 (x4 : Int) false ⟨#[]⟩ [] [], r4, bad4, n + 1, rfl, ⟨_, _, _, _, _, _, _, _, _, _, rfl⟩, TF.leaf _ _ _ _, ?_, ?_, HE.out⟩
    · repeat (refine RR.setNew ?_ (by simp only; omega) _)
      exact HR4.out
    · repeat (refine Kept.setNew ?_ (by simp only; omega) _)
      exact HK4.out
  · obtain rfl : k = 0 := by rw [← hk]; decide
    have HM : Hid (m = 2) := by have := HF.out; unfold Hid; omega
    clear hk hk0
    have HC4 := rrlevel_any N rb a cap all r1 (n + 1) W2 HR2.out
    go_wp2_with fail
    refine HC4.mono ?_
    rintro e w4 ⟨lm, lx, la, lc, r4, bad4, rfl, hS4, hn4, hR4, hk4, hq4⟩
    have HR4 := Hid.mk hR4
    have HK4 : Hid (Kept (fun k => k = rb) w w4) := HK2.out.trans hk4
    have HT4 := Hid.mk (box6 HT2.out hk4 hTr)
    have HX4 := Hid.mk (box6 HX2.out hk4 hXr)
    have hs4 := hk4.size
    have hT4s : Tb < w4.heap.size := heap_lt HT4.out
    have hX4s : w.heap.size < w4.heap.size := heap_lt HX4.out
    have HS4 := Hid.mk hS4
    have HN4 := Hid.mk hn4
    clear t0 t1 t2 t3 t4 t5 t6 tf y0 y1 y2 y3 y4 y5 y6 yf c0 c1 c2 c3 cl cf hR4 hk4 HC4 hS4 hn4
    obtain ⟨W5, hW5⟩ : ∃ W5, w4.alloc (.cells #[.int .i64 lm, .slice la lx.length lc] 105) = W5 := ⟨_, rfl⟩
    have hb5 : RowKit.Below w4.heap.size w4 W5 := by rw [← hW5]; exact (Below.refl _ _).alloc (Nat.le_refl _) _
    have HL5 : Hid (W5.heap[w4.heap.size]? = some (.cells #[.int .i64 lm, .slice la lx.length lc] 105 (0, 0))) := by unfold Hid; rw [← hW5]; exact alloc_new _ _
    have HR5 := Hid.mk (HR4.out.on hb5)
    have HK5 : Hid (Kept (fun k => k = rb) w W5) := HK4.out.trans (Kept.of_below hb5)
    have HT5 := Hid.mk ((hb5.block _ hT4s).trans HT4.out)
    have HX5 := Hid.mk ((hb5.block _ hX4s).trans HX4.out)
    have HB5 := Hid.mk hb5
    have hL5s : w4.heap.size < W5.heap.size := heap_lt HL5.out
    have HW5 := Hid.mk hW5
    obtain ⟨t0, t1, t2, t3, t4, t5, t6⟩ := cells6 HT5.out
    have tf := frz6 HT5.out
    obtain ⟨y0, y1, y2, y3, y4, y5, y6⟩ := cells6 HX5.out
    have yf := frz6 HX5.out
    obtain ⟨p4, -, hh4⟩ := HR5.out.2.2.2.2.2.2.2
    obtain ⟨c0, c1, c2, c3, cl, cf⟩ := cellsR hh4
    have HE : Hid ((bad4 = false ∧ P = some (.mk 2 0 false ⟨#[]⟩ [(lm, lx)] [], r4, n + 1) ∧ smT 1000000 (.mk 2 0 false ⟨#[]⟩ [(lm, lx)] []) ∧ n + 1 ≤ 20000) ∨ (bad4 = true ∧ P = none)) := by
      have h := pt_leaf HPE.out HQN.out hn0 (by rw [HF.out]; decide)
      rw [HF.out, HM.out] at h
      have hp : pfields 2 r1 = (plevel r1).map (fun z => ((0, false, ⟨#[]⟩, [z.1]), z.2)) := by unfold pfields; rw [if_neg (by decide), if_pos rfl]
      rw [hp] at h
      rcases hq4 with ⟨e4, q4, l4⟩ | ⟨e4, q4⟩
      · rw [q4] at h
        exact Or.inl ⟨e4, by rw [h]; rfl, (smT_mk _ _ _ _ _ _ _).2 ⟨by decide, by simp, by simpa using l4, by simp, by simp⟩, by omega⟩
      · rw [q4] at h
        exact Or.inr ⟨e4, by rw [h]; rfl⟩
    clear HPE HQN hq4 hb5 hW5 hh4
    go_wp2_with (first | rw [HW5.out] | fail)
    refine wp_loop_rounds 1 ?_
    rw [rounds_succ]
    go_wp2
    refine bodyPost_ret (v := .agg #[.int .i64 2, .int .i64 0, .bool false, .string { data := #[] }, .slice (some ⟨w4.heap.size, 0, none⟩) 1 1, .slice none 0 0]) (by simp [results, Tryz.results43, go_sem, y0, y1, y2, y3, y4, y5]) rfl ⟨_, .mk 2 0 false ⟨#[]⟩ [(lm, lx)] [], r4, bad4, n + 1, rfl, ⟨_, _, _, _, _, _, _, _, _, _, rfl⟩, ?_, ?_, ?_, HE.out⟩
    · refine (RowF.nil _ w.heap.size (oldB w)).done (fun k hk => oldB_new hk) (ls := [(lm, lx)]) (ln_one ?_ (oldB_new (by omega)) ?_ HN4.out) (by simp) (by simp) (by omega)
      · repeat (refine (Below.heap_setCell _ _ _ _ (by simp only; omega)).trans ?_)
        exact HL5.out
      · refine HS4.out.subF (by rw [maskB_size, maskB_size]; simp [World.setCell]; omega) (maskB_keeps fun k h1 h2 => ⟨oldB_new (by have := oldB_no h2; omega), ?_⟩)
        have := oldB_no h2
        repeat (refine (Below.heap_setCell _ _ _ _ (by simp only; omega)).trans ?_)
        exact HB5.out.block k h1
    · repeat (refine RR.setNew ?_ (by simp only; omega) _)
      exact HR5.out
    · repeat (refine Kept.setNew ?_ (by simp only; omega) _)
      exact HK5.out
  · obtain rfl : k = 2 := by rw [← hk]; decide
    have HM : Hid (m = 3) := by have := HF.out; unfold Hid; omega
    clear hk hk0
    have HC4 := rrnum_any N rb a cap all r1 false (n + 1) W2 HR2.out
    go_wp2_with fail
    refine HC4.mono ?_
    intro e w4 h4
    obtain ⟨x4, r4, bad4, rfl, hR4, hk4, hq4⟩ := h4.out
    have HR4 := Hid.mk hR4
    have HK4 : Hid (Kept (fun k => k = rb) w w4) := HK2.out.trans hk4
    have HT4 := Hid.mk (box6 HT2.out hk4 hTr)
    have HX4 := Hid.mk (box6 HX2.out hk4 hXr)
    have hs4 := hk4.size
    have hT4s : Tb < w4.heap.size := heap_lt HT4.out
    clear t0 t1 t2 t3 t4 t5 t6 tf y0 y1 y2 y3 y4 y5 y6 yf c0 c1 c2 c3 cl cf hR4 hk4 h4 HC4
    obtain ⟨t0, t1, t2, t3, t4, t5, t6⟩ := cells6 HT4.out
    have tf := frz6 HT4.out
    obtain ⟨y0, y1, y2, y3, y4, y5, y6⟩ := cells6 HX4.out
    have yf := frz6 HX4.out
    obtain ⟨p4, -, hh4⟩ := HR4.out.2.2.2.2.2.2.2
    obtain ⟨c0, c1, c2, c3, cl, cf⟩ := cellsR hh4
    clear hh4
    obtain ⟨hd, hhd⟩ : ∃ hd, ((x4 : Int) == 1) = hd := ⟨_, rfl⟩
    have hp : pfields 3 r1 = (match pnum 6 r1 with
        | none => none
        | some (h, r) => if 1 < h then none else some ((0, decide (h = 1), ⟨#[]⟩, []), r)) := by unfold pfields; rw [if_neg (by decide), if_neg (by decide), if_pos (by decide)]; rfl
    by_cases hgood : bad4 = false ∧ ¬ 1 < x4
    · obtain ⟨rfl, hx4⟩ := hgood
      have HKI : Hid (KidAt P (pterm d') 3 hd 2 [] r4 false (n + 1)) := by
        have hpf : pfields m r1 = some ((0, hd, ⟨#[]⟩, []), r4) := by
          rw [HM.out, hp]
          rcases hq4 with ⟨-, q4⟩ | ⟨e4, -⟩
          · rw [q4]
            simp only
            rw [if_neg hx4, ← hhd]
            have : decide (x4 = 1) = ((x4 : Int) == 1) := by by_cases h : x4 = 1 <;> simp [h] <;> omega
            rw [this]
          · cases e4
        have h := kid_start HPE.out HQN.out hn0 (k := 2) (h := hd) (r2 := r4) (bad := false) (by rw [HF.out]; decide) (Or.inl ⟨rfl, hpf⟩)
        rw [HF.out] at h
        exact h
      obtain ⟨W5, hW5⟩ : ∃ W5, (w4.setCell ⟨Tb, 2, none⟩ (.bool hd)).setCell ⟨rb, 2, none⟩ (.bool false) = W5 := ⟨_, rfl⟩
      have hR5 := (HR4.out.setNew (p := ⟨Tb, 2, none⟩) (by simp only; omega) (.bool hd)).bad false
      rw [hW5] at hR5
      have HRS := Hid.mk hR5.1
      have HKS : Hid (Kept (fun k => k = rb) w W5) := (HK4.out.setNew (p := ⟨Tb, 2, none⟩) (by simp only; omega) _).trans hR5.2
      have HTS : Hid (W5.heap[Tb]? = some (.cells #[.int .i64 3, .int .i64 0, .bool hd, .string { data := #[] }, .slice none 0 0, .slice none 0 0] 38 (0, 0))) := by
        unfold Hid; rw [← hW5]
        refine (Below.heap_setCell _ _ _ _ hTr).trans ?_
        rw [setCell_eq]; show (w4.heap.modify Tb _)[Tb]? = _
        rw [Array.getElem?_modify, if_pos rfl, HT4.out]; rfl
      have HXS : Hid (W5.heap[w.heap.size]? = some (.cells #[.int .i64 0, .int .i64 0, .bool false, .string { data := #[] }, .slice none 0 0, .slice none 0 0] 38 (0, 0))) := by
        unfold Hid; rw [← hW5]
        exact (Below.heap_setCell _ _ _ _ hXr).trans ((Below.heap_setCell _ _ _ _ hTX').trans HX4.out)
      have HW5 := Hid.mk hW5
      have hx4' : ¬ (1 : Int) < (x4 : Int) := by omega
      clear HPE HQN hq4 hp hW5 hR5 HT2 HX2 HR2 HK2
      go_wp2
      have hx5 : decide ((1 : Int) < (x4 : Int)) = false := by simp; omega
      rw [hx5, HW5.out]
      clear hx5
      clear t0 t1 t2 t3 t4 t5 t6 tf y0 y1 y2 y3 y4 y5 y6 yf c0 c1 c2 c3 cl cf HT4 HX4 HR4 HK4 HW5 hhd
      obtain ⟨B, hB⟩ : ∃ B, W5.heap.size = B := ⟨_, rfl⟩
      have hTB : Tb < B := by rw [← hB]; exact heap_lt HTS.out
      go_loopw [10] (fun i wr => ∃ (ts : List Tm) (r : List UInt8) (bad : Bool) (n2 : Nat) (a' : Option Addr) (cap' : Nat), i = .int .i64 (ts.length : Int) ∧ RowF wr B (fun k => decide (k < B)) a' cap' ts ∧ wr.heap[Tb]? = some (.cells #[.int .i64 3, .int .i64 0, .bool hd, .string { data := #[] }, .slice none 0 0, .slice a' ts.length cap'] 38 (0, 0)) ∧ wr.heap[w.heap.size]? = some (.cells #[.int .i64 0, .int .i64 0, .bool false, .string { data := #[] }, .slice none 0 0, .slice none 0 0] 38 (0, 0)) ∧ RR wr N rb a cap all r bad n2 ∧ Kept (fun k => k = rb) w wr ∧ B ≤ wr.heap.size ∧ KidAt P (pterm d') 3 hd 2 ts r bad n2) (fun i _ => 2 - (intOf i).toNat)
      case atStart => exact ⟨[], r4, false, n + 1, none, 0, rfl, RowF.nil _ _ _, HTS.out, HXS.out, HRS.out, HKS.out, by omega, HKI.out⟩
      case round =>
        obtain ⟨ts, r, bad, n2, a', cap', rfl, hrow, hTr1, hXr1, hRr, hkr, hBr, hka⟩ := hrel
        have HROW := Hid.mk hrow
        have HTR := Hid.mk hTr1
        have HXR := Hid.mk hXr1
        have HRR := Hid.mk hRr
        have HKR := Hid.mk hkr
        have HKAT := Hid.mk hka
        have hszr := hkr.size
        obtain ⟨t0, t1, t2, t3, t4, t5, t6⟩ := cells6 HTR.out
        obtain ⟨y0, y1, y2, y3, y4, y5, y6⟩ := cells6 HXR.out
        have yf := frz6 HXR.out
        obtain ⟨p9, -, hh9⟩ := HRR.out.2.2.2.2.2.2.2
        obtain ⟨c0, c1, c2, c3, cl, cf⟩ := cellsR hh9
        clear hrow hTr1 hXr1 hRr hkr hka hh9
        by_cases hgo : bad = false ∧ ts.length < 2
        · obtain ⟨rfl, hlt⟩ := hgo
          have hn2 : n2 ≤ 20000 := by
            rcases HKAT.out with ⟨-, -, -, h, -⟩ | ⟨h, -⟩
            · exact h
            · cases h
          have zlt : (ts.length : Int) < 2 := by omega
          have HCALL := HREC r n2 (high + 1) wr.drew (HRR.out.on (Below.refl _ _).drew) hn2 (by have := HHI.out; omega)
          have hwr : IntKind.i64.wrap (high + 1) = high + 1 := by rw [IntKind.wrap_i64]; omega
          rw [← hwr] at HCALL
          clear hwr
          go_wp2_with fail
          refine wp_region_last (S := fun w' => w'.cell? ⟨Tb, 5, none⟩ = some (.slice a' ts.length cap')) 9 mx ?_ (fun hHeld => ?_)
          · (try dsimp only)
            exact t5
          refine wpAnyL_take (i := 0) (v := ?_) rfl (by kernel_rfl) (by kernel_rfl) (by kernel_rfl) (by kernel_rfl) (fun _ _ _ h => h) (Or.inl ⟨by rfl, ?_⟩) (by assumption) ?_
          rotate_left
          · (intro w hSw; (try dsimp only at hSw); go_simp; (try with_reducible rfl))
          refine wpAnyL_take (i := 1) (v := ?_) rfl (by kernel_rfl) (by kernel_rfl) (by kernel_rfl) (by kernel_rfl) (fun _ _ _ h => h) (Or.inl ⟨by rfl, ?_⟩) (by assumption) ?_
          rotate_left
          · (intro w hSw; (try dsimp only at hSw); go_simp; (try with_reducible rfl))
          refine wpAnyL_take (i := 2) (v := ?_) rfl (by kernel_rfl) (by kernel_rfl) (by kernel_rfl) (by kernel_rfl) (fun _ _ _ h => h) (Or.inl ⟨by rfl, ?_⟩) (by assumption) ?_
          rotate_left
          · (intro w hSw; (try dsimp only at hSw); go_simp; (try with_reducible rfl))
          refine wpAnyL_take (i := 3) (v := ?_) rfl (by kernel_rfl) (by kernel_rfl) (by kernel_rfl) (by kernel_rfl) (fun _ _ _ h => h) (Or.inl ⟨by rfl, ?_⟩) (by assumption) ?_
          rotate_left
          · (intro w hSw; (try dsimp only at hSw); go_simp; (try with_reducible rfl))
          refine wpAnyL_take (i := 4) (v := ?_) rfl (by kernel_rfl) (by kernel_rfl) (by kernel_rfl) (by kernel_rfl) (fun _ _ _ h => h) (Or.inl ⟨by rfl, ?_⟩) (by assumption) ?_
          rotate_left
          · (intro w hSw; (try dsimp only at hSw); go_simp; (try with_reducible rfl))
          refine wpAnyL_one (i := 5) (by kernel_rfl) rfl (fun K hK => ?_)
          go_simp
          go_at_call 43
          refine HCALL.mono ?_
          rintro e w5 ⟨v5, p, r5, bad5, n5, rfl, ⟨u0, u1, u2, u3, q1, q2, q3, s1', s2', s3', rfl⟩, htf5, hR5, hk5, hq5⟩
          have hk5' : Kept (fun k => k = rb) wr w5 := (Kept.of_below (Below.refl _ wr).drew).trans hk5
          have HK5 := Hid.mk hk5'
          have HR5 := Hid.mk hR5
          have HQ5 := Hid.mk hq5
          have hsz5 := hk5'.size
          have HROW5 : Hid (RowF (w5.alloc (.cells #[.int .i64 u0, .int .i64 u1, .bool u2, .string u3, .slice q1 q2 q3, .slice s1' s2' s3'] 38)) B (fun k => decide (k < B)) a' cap' ts) := (HROW.out.move (fun k hk => by simp; omega) hk5'.size fun k h1 h2 => hk5'.block k h1 (by have := geB h2; omega)).move (fun k hk => by simp; omega) (by simp) fun k h1 _ => Below.heap_alloc _ _ _ h1
          obtain ⟨xs, kvs, hown, hkv⟩ := HROW5.out.go
          have hRB : ∀ j, ownB a' j = true → B ≤ j ∧ j < wr.heap.size := fun j hj => by
            obtain ⟨ys, kvs0, hown0, -⟩ := HROW.out.go
            exact row_block hown0 hj
          have HNEW : Hid (TF (w5.alloc (.cells #[.int .i64 u0, .int .i64 u1, .bool u2, .string u3, .slice q1 q2 q3, .slice s1' s2' s3'] 38)) (fun k => decide (k < B) || ownB a' k) (.agg #[.int .i64 u0, .int .i64 u1, .bool u2, .string u3, .slice q1 q2 q3, .slice s1' s2' s3']) p) := htf5.move (by simp) fun j h1 h2 => ⟨by
            have h3 : wr.heap.size ≤ j := oldB_no h2
            have h4 : decide (j < B) = false := by simp; omega
            rw [h4, Bool.false_or]
            cases ho : ownB a' j
            · rfl
            · have := (hRB j ho).2; omega, Below.heap_alloc _ _ _ h1⟩
          have HOWN := Hid.mk hown
          have HKV := Hid.mk hkv
          have HXL : Hid (xs.length = ts.length * 6) := by unfold Hid; rw [hown.1]
          have HNEWS := Hid.mk (World.news_of_block (cs := #[.int .i64 u0, .int .i64 u1, .bool u2, .string u3, .slice q1 q2 q3, .slice s1' s2' s3']) (t := 38) (fr := (0, 0)) (alloc_new w5 (.cells #[.int .i64 u0, .int .i64 u1, .bool u2, .string u3, .slice q1 q2 q3, .slice s1' s2' s3'] 38)))
          have HT5 := Hid.mk (box6 HTR.out hk5' hTr)
          have HX5 := Hid.mk (box6 HXR.out hk5' hXr)
          have k55 := (cells6 HT5.out).2.2.2.2.2.1
          have hT5s : Tb < w5.heap.size := heap_lt HT5.out
          have k56 : (w5.alloc (.cells #[.int .i64 u0, .int .i64 u1, .bool u2, .string u3, .slice q1 q2 q3, .slice s1' s2' s3'] 38)).cell? ⟨Tb, 5, none⟩ = some (.slice a' ts.length cap') := (World.cell?_of_block (a := ⟨Tb, 5, none⟩) (Below.heap_alloc _ _ _ hT5s)).trans k55
          clear hR5 hk5 hk5' hq5 htf5 hown hkv hRB HCALL
          dsimp only
          refine hK.out _ _ ?_ (fun hHeld => ?_)
          · (try dsimp only)
            exact k55
          clear hK K
          refine wpAnyL_one (i := 6) (by kernel_rfl) rfl (fun K hK => ?_)
          go_simp
          refine hK.out _ _ ?_ (fun hHeld => ?_)
          · (try dsimp only)
            exact k56
          clear hK K
          refine wpAnyL_one (i := 7) (by kernel_rfl) rfl (fun K hK => ?_)
          refine step_append_lies _ (by rfl) _ _ _ (by rfl) B 38 i0 _ 6 88 Tryz.underlying36 hi iz0 iz1 iz2 rfl (by decide) (.slice a' ts.length cap') ts.length xs (by rfl) HOWN.out ⟨w5.heap.size, 0, none⟩ 1 1 [.int .i64 u0, .int .i64 u1, .bool u2, .string u3, .slice q1 q2 q3, .slice s1' s2' s3'] (by rfl) (by rfl) HNEWS.out (by simp [Value.oneCell']) (by omega) (by simp [maxLen]; omega) (by omega) (by simp; omega) (w5.heap.size + 1) (by simp) ?_
          intro g7 c7 W7 hown7 hgr7 hat7 hlt7
          have HOWN7 := Hid.mk hown7
          have HGR7 := Hid.mk hgr7
          have HAT7 := Hid.mk hat7
          have HAG : Hid (∀ k, k < B → W7.heap[k]? = w5.heap[k]?) := fun k hk => (hgr7.block k (by simp; omega) (fun e => by have := (World.ownsRow.lt HOWN.out k e.symm).1; omega)).trans (Below.heap_alloc _ _ _ (by omega))
          have hs7 : w5.heap.size ≤ W7.heap.size := by have := hgr7.size; simp at this; omega
          have HT7 := Hid.mk ((HAG.out Tb hTB).trans HT5.out)
          have z75 := (cells6 HT7.out).2.2.2.2.2.1
          have fz7 := frz6 HT7.out
          have hT7s : Tb < W7.heap.size := heap_lt HT7.out
          clear hown7 hgr7 hat7
          refine hK.out _ _ ?_ (fun hHeld => ?_)
          · (try dsimp only)
            exact z75
          clear hK K
          refine wpAnyL_take (i := 8) (v := ?_) rfl (by kernel_rfl) (by kernel_rfl) (by kernel_rfl) (by kernel_rfl) (fun _ _ _ h => h) (Or.inl ⟨by rfl, ?_⟩) (by assumption) ?_
          rotate_left
          · (intro w hSw; (try dsimp only at hSw); go_simp; (try with_reducible rfl))
          refine wpAnyL_last (by kernel_rfl) rfl (by kernel_rfl) (fun K hK => ?_)
          go_simp
          refine hK.out _ _ ?_
          clear hK K
          go_wp2
          have hlen : (ts ++ [p]).length = ts.length + 1 := by simp
          have KZ : Kept (fun k => k = Tb) W7 (W7.setCell ⟨Tb, 5, none⟩ (.slice (some ⟨g7, 0, none⟩) (ts.length + 1) c7)) := (Kept.refl (fun k => k = Tb) W7).setCell (p := ⟨Tb, 5, none⟩) rfl _
          refine ⟨⟨ts ++ [p], r5, bad5, n5, some ⟨g7, 0, none⟩, c7, by rw [hlen]; go_num, ?_, ?_, ?_, ?_, ?_, ?_, kid_step HKAT.out hlt HQ5.out⟩, by simp [intOf]; omega⟩
          · refine RowF.move (w := W7) ?_ (fun k hk => by simp; omega) KZ.size (fun k h1 h2 => KZ.block k h1 (fun e => by have := geB h2; omega))
            exact RowF.snoc (cap := cap') HKV.out HXL.out HOWN7.out HGR7.out (by simpa using HAT7.out) HNEW.out
          · rw [hlen]
            exact set5_heap HT7.out
          · exact (KZ.block _ (by omega) (by omega)).trans ((HAG.out _ (by omega)).trans HX5.out)
          · exact HR5.out.move (Nat.le_trans hs7 KZ.size) fun k hk => (KZ.block _ (by omega) (by omega)).trans (HAG.out _ (by omega))
          · exact ⟨HGR7.out.os.trans (HK5.out.os.trans HKR.out.os), HGR7.out.tape.trans (HK5.out.tape.trans HKR.out.tape), HGR7.out.output.trans (HK5.out.output.trans HKR.out.output), by have := KZ.size; omega, fun k h1 h2 => (KZ.block _ (by omega) (by omega)).trans ((HAG.out _ (by omega)).trans ((HK5.out.block _ (by omega) h2).trans (HKR.out.block _ h1 h2)))⟩
          · have := KZ.size; omega
        · have HE := Hid.mk (kid_end HKAT.out (by omega) (by cases bad with | true => exact Or.inl rfl | false => exact Or.inr fun h => hgo ⟨rfl, h⟩))
          cases bad with
          | true =>
            clear hgo
            by_cases hlt : ts.length < 2
            · have zlt : (ts.length : Int) < 2 := by omega
              go_wp2
              refine bodyPost_ret (v := .agg #[.int .i64 3, .int .i64 0, .bool hd, .string { data := #[] }, .slice none 0 0, .slice a' ts.length cap']) (by simp [results, Tryz.results43, go_sem, y0, y1, y2, y3, y4, y5]) rfl ⟨_, .mk 3 0 hd { data := #[] } [] ts, r, true, n2, rfl, ⟨_, _, _, _, _, _, _, _, _, _, rfl⟩, ?_, ?_, ?_, by simpa using HE.out⟩
              · have KF := keep6 (P := fun k => k = w.heap.size) (w := wr) (b := w.heap.size) (a0 := .int .i64 3) (a1 := .int .i64 0) (a2 := .bool hd) (a3 := .string { data := #[] }) (a4 := .slice none 0 0) (a5 := .slice a' ts.length cap') rfl
                have hrow := HROW.out.move (fun k hk => by simp; omega) KF.size (fun k h1 h2 => KF.block k h1 (fun e => by have := geB h2; omega))
                have hd2 := hrow.done (fun k hk => by simp; omega) (f := 3) (n := 0) (hd := hd) (nm := { data := #[] }) (la := none) (lc := 0) (ls := []) (Or.inl rfl) (fun _ => rfl) (Nat.le_refl _) (by omega)
                exact hd2.sub (fun k hk => oldB_new (by have := geB hk; omega))
              · repeat (refine RR.setNew ?_ (by simp only; omega) _)
                exact HRR.out
              · repeat (refine Kept.setNew ?_ (by simp only; omega) _)
                exact HKR.out
            · have zlt : ¬ (ts.length : Int) < 2 := by omega
              go_wp2
              refine bodyPost_ret (v := .agg #[.int .i64 3, .int .i64 0, .bool hd, .string { data := #[] }, .slice none 0 0, .slice a' ts.length cap']) (by simp [results, Tryz.results43, go_sem, y0, y1, y2, y3, y4, y5]) rfl ⟨_, .mk 3 0 hd { data := #[] } [] ts, r, true, n2, rfl, ⟨_, _, _, _, _, _, _, _, _, _, rfl⟩, ?_, ?_, ?_, by simpa using HE.out⟩
              · have KF := keep6 (P := fun k => k = w.heap.size) (w := wr) (b := w.heap.size) (a0 := .int .i64 3) (a1 := .int .i64 0) (a2 := .bool hd) (a3 := .string { data := #[] }) (a4 := .slice none 0 0) (a5 := .slice a' ts.length cap') rfl
                have hrow := HROW.out.move (fun k hk => by simp; omega) KF.size (fun k h1 h2 => KF.block k h1 (fun e => by have := geB h2; omega))
                have hd2 := hrow.done (fun k hk => by simp; omega) (f := 3) (n := 0) (hd := hd) (nm := { data := #[] }) (la := none) (lc := 0) (ls := []) (Or.inl rfl) (fun _ => rfl) (Nat.le_refl _) (by omega)
                exact hd2.sub (fun k hk => oldB_new (by have := geB hk; omega))
              · repeat (refine RR.setNew ?_ (by simp only; omega) _)
                exact HRR.out
              · repeat (refine Kept.setNew ?_ (by simp only; omega) _)
                exact HKR.out
          | false =>
            have zlt : ¬ (ts.length : Int) < 2 := by
              intro h
              exact hgo ⟨rfl, by omega⟩
            clear hgo
            go_wp2
            refine bodyPost_ret (v := .agg #[.int .i64 3, .int .i64 0, .bool hd, .string { data := #[] }, .slice none 0 0, .slice a' ts.length cap']) (by simp [results, Tryz.results43, go_sem, y0, y1, y2, y3, y4, y5]) rfl ⟨_, .mk 3 0 hd { data := #[] } [] ts, r, false, n2, rfl, ⟨_, _, _, _, _, _, _, _, _, _, rfl⟩, ?_, ?_, ?_, by simpa using HE.out⟩
            · have KF := keep6 (P := fun k => k = w.heap.size) (w := wr) (b := w.heap.size) (a0 := .int .i64 3) (a1 := .int .i64 0) (a2 := .bool hd) (a3 := .string { data := #[] }) (a4 := .slice none 0 0) (a5 := .slice a' ts.length cap') rfl
              have hrow := HROW.out.move (fun k hk => by simp; omega) KF.size (fun k h1 h2 => KF.block k h1 (fun e => by have := geB h2; omega))
              have hd2 := hrow.done (fun k hk => by simp; omega) (f := 3) (n := 0) (hd := hd) (nm := { data := #[] }) (la := none) (lc := 0) (ls := []) (Or.inl rfl) (fun _ => rfl) (Nat.le_refl _) (by omega)
              exact hd2.sub (fun k hk => oldB_new (by have := geB hk; omega))
            · repeat (refine RR.setNew ?_ (by simp only; omega) _)
              exact HRR.out
            · repeat (refine Kept.setNew ?_ (by simp only; omega) _)
              exact HKR.out
    · have HPN : Hid (P = none) := by
        have h := pt_kids HPE.out HQN.out hn0 (by rw [HF.out]; decide)
        unfold Hid
        rw [h, HM.out, hp]
        rcases hq4 with ⟨e4, q4⟩ | ⟨e4, q4⟩
        · rw [q4]
          simp only
          rw [if_pos (by
            by_cases hx : 1 < x4
            · exact hx
            · exact absurd ⟨e4, hx⟩ hgood)]
        · rw [q4]
      clear HPE HQN hp HT2 HX2 HR2 HK2 hq4
      cases bad4 with
      | true =>
        clear hgood
        go_wp2
        refine wp_loop_rounds 1 ?_
        rw [rounds_succ]
        go_wp2
        refine bodyPost_ret (v := .agg #[.int .i64 3, .int .i64 0, .bool hd, .string { data := #[] }, .slice none 0 0, .slice none 0 0]) (by simp [results, Tryz.results43, go_sem, y0, y1, y2, y3, y4, y5]) rfl ⟨_, _, r4, true, n + 1, rfl, ⟨_, _, _, _, _, _, _, _, _, _, rfl⟩, TF.leaf _ _ _ _, ?_, ?_, Or.inr ⟨rfl, HPN.out⟩⟩
        · repeat (refine RR.setNew ?_ (by simp only; omega) _)
          exact ((HR4.out.setNew (p := ⟨Tb, 2, none⟩) (by simp only; omega) (.bool hd)).bad true).1
        · repeat (refine Kept.setNew ?_ (by simp only; omega) _)
          exact (HK4.out.setNew (p := ⟨Tb, 2, none⟩) (by simp only; omega) _).trans ((HR4.out.setNew (p := ⟨Tb, 2, none⟩) (by simp only; omega) (.bool hd)).bad true).2
      | false =>
        have hx4 : (1 : Int) < (x4 : Int) := by
          by_cases hx : 1 < x4
          · omega
          · exact absurd ⟨rfl, hx⟩ hgood
        clear hgood
        go_wp2
        refine wp_loop_rounds 1 ?_
        rw [rounds_succ]
        go_wp2
        refine bodyPost_ret (v := .agg #[.int .i64 3, .int .i64 0, .bool hd, .string { data := #[] }, .slice none 0 0, .slice none 0 0]) (by simp [results, Tryz.results43, go_sem, y0, y1, y2, y3, y4, y5]) rfl ⟨_, _, r4, true, n + 1, rfl, ⟨_, _, _, _, _, _, _, _, _, _, rfl⟩, TF.leaf _ _ _ _, ?_, ?_, Or.inr ⟨rfl, HPN.out⟩⟩
        · repeat (refine RR.setNew ?_ (by simp only; omega) _)
          exact ((HR4.out.setNew (p := ⟨Tb, 2, none⟩) (by simp only; omega) (.bool hd)).bad true).1
        · repeat (refine Kept.setNew ?_ (by simp only; omega) _)
          exact (HK4.out.setNew (p := ⟨Tb, 2, none⟩) (by simp only; omega) _).trans ((HR4.out.setNew (p := ⟨Tb, 2, none⟩) (by simp only; omega) (.bool hd)).bad true).2
  · obtain rfl : k = 2 := by rw [← hk]; decide
    have HM : Hid (m = 4) := by have := HF.out; unfold Hid; omega
    clear hk hk0
    have HC4 := rrnum_any N rb a cap all r1 false (n + 1) W2 HR2.out
    go_wp2_with fail
    refine HC4.mono ?_
    intro e w4 h4
    obtain ⟨x4, r4, bad4, rfl, hR4, hk4, hq4⟩ := h4.out
    have HR4 := Hid.mk hR4
    have HK4 : Hid (Kept (fun k => k = rb) w w4) := HK2.out.trans hk4
    have HT4 := Hid.mk (box6 HT2.out hk4 hTr)
    have HX4 := Hid.mk (box6 HX2.out hk4 hXr)
    have hs4 := hk4.size
    have hT4s : Tb < w4.heap.size := heap_lt HT4.out
    clear t0 t1 t2 t3 t4 t5 t6 tf y0 y1 y2 y3 y4 y5 y6 yf c0 c1 c2 c3 cl cf hR4 hk4 h4 HC4
    obtain ⟨t0, t1, t2, t3, t4, t5, t6⟩ := cells6 HT4.out
    have tf := frz6 HT4.out
    obtain ⟨y0, y1, y2, y3, y4, y5, y6⟩ := cells6 HX4.out
    have yf := frz6 HX4.out
    obtain ⟨p4, -, hh4⟩ := HR4.out.2.2.2.2.2.2.2
    obtain ⟨c0, c1, c2, c3, cl, cf⟩ := cellsR hh4
    clear hh4
    obtain ⟨hd, hhd⟩ : ∃ hd, ((x4 : Int) == 1) = hd := ⟨_, rfl⟩
    have hp : pfields 4 r1 = (match pnum 6 r1 with
        | none => none
        | some (h, r) => if 1 < h then none else some ((0, decide (h = 1), ⟨#[]⟩, []), r)) := by unfold pfields; rw [if_neg (by decide), if_neg (by decide), if_pos (by decide)]; rfl
    by_cases hgood : bad4 = false ∧ ¬ 1 < x4
    · obtain ⟨rfl, hx4⟩ := hgood
      have HKI : Hid (KidAt P (pterm d') 4 hd 2 [] r4 false (n + 1)) := by
        have hpf : pfields m r1 = some ((0, hd, ⟨#[]⟩, []), r4) := by
          rw [HM.out, hp]
          rcases hq4 with ⟨-, q4⟩ | ⟨e4, -⟩
          · rw [q4]
            simp only
            rw [if_neg hx4, ← hhd]
            have : decide (x4 = 1) = ((x4 : Int) == 1) := by by_cases h : x4 = 1 <;> simp [h] <;> omega
            rw [this]
          · cases e4
        have h := kid_start HPE.out HQN.out hn0 (k := 2) (h := hd) (r2 := r4) (bad := false) (by rw [HF.out]; decide) (Or.inl ⟨rfl, hpf⟩)
        rw [HF.out] at h
        exact h
      obtain ⟨W5, hW5⟩ : ∃ W5, (w4.setCell ⟨Tb, 2, none⟩ (.bool hd)).setCell ⟨rb, 2, none⟩ (.bool false) = W5 := ⟨_, rfl⟩
      have hR5 := (HR4.out.setNew (p := ⟨Tb, 2, none⟩) (by simp only; omega) (.bool hd)).bad false
      rw [hW5] at hR5
      have HRS := Hid.mk hR5.1
      have HKS : Hid (Kept (fun k => k = rb) w W5) := (HK4.out.setNew (p := ⟨Tb, 2, none⟩) (by simp only; omega) _).trans hR5.2
      have HTS : Hid (W5.heap[Tb]? = some (.cells #[.int .i64 4, .int .i64 0, .bool hd, .string { data := #[] }, .slice none 0 0, .slice none 0 0] 38 (0, 0))) := by
        unfold Hid; rw [← hW5]
        refine (Below.heap_setCell _ _ _ _ hTr).trans ?_
        rw [setCell_eq]; show (w4.heap.modify Tb _)[Tb]? = _
        rw [Array.getElem?_modify, if_pos rfl, HT4.out]; rfl
      have HXS : Hid (W5.heap[w.heap.size]? = some (.cells #[.int .i64 0, .int .i64 0, .bool false, .string { data := #[] }, .slice none 0 0, .slice none 0 0] 38 (0, 0))) := by
        unfold Hid; rw [← hW5]
        exact (Below.heap_setCell _ _ _ _ hXr).trans ((Below.heap_setCell _ _ _ _ hTX').trans HX4.out)
      have HW5 := Hid.mk hW5
      have hx4' : ¬ (1 : Int) < (x4 : Int) := by omega
      clear HPE HQN hq4 hp hW5 hR5 HT2 HX2 HR2 HK2
      go_wp2
      have hx5 : decide ((1 : Int) < (x4 : Int)) = false := by simp; omega
      rw [hx5, HW5.out]
      clear hx5
      clear t0 t1 t2 t3 t4 t5 t6 tf y0 y1 y2 y3 y4 y5 y6 yf c0 c1 c2 c3 cl cf HT4 HX4 HR4 HK4 HW5 hhd
      obtain ⟨B, hB⟩ : ∃ B, W5.heap.size = B := ⟨_, rfl⟩
      have hTB : Tb < B := by rw [← hB]; exact heap_lt HTS.out
      go_loopw [10] (fun i wr => ∃ (ts : List Tm) (r : List UInt8) (bad : Bool) (n2 : Nat) (a' : Option Addr) (cap' : Nat), i = .int .i64 (ts.length : Int) ∧ RowF wr B (fun k => decide (k < B)) a' cap' ts ∧ wr.heap[Tb]? = some (.cells #[.int .i64 4, .int .i64 0, .bool hd, .string { data := #[] }, .slice none 0 0, .slice a' ts.length cap'] 38 (0, 0)) ∧ wr.heap[w.heap.size]? = some (.cells #[.int .i64 0, .int .i64 0, .bool false, .string { data := #[] }, .slice none 0 0, .slice none 0 0] 38 (0, 0)) ∧ RR wr N rb a cap all r bad n2 ∧ Kept (fun k => k = rb) w wr ∧ B ≤ wr.heap.size ∧ KidAt P (pterm d') 4 hd 2 ts r bad n2) (fun i _ => 2 - (intOf i).toNat)
      case atStart => exact ⟨[], r4, false, n + 1, none, 0, rfl, RowF.nil _ _ _, HTS.out, HXS.out, HRS.out, HKS.out, by omega, HKI.out⟩
      case round =>
        obtain ⟨ts, r, bad, n2, a', cap', rfl, hrow, hTr1, hXr1, hRr, hkr, hBr, hka⟩ := hrel
        have HROW := Hid.mk hrow
        have HTR := Hid.mk hTr1
        have HXR := Hid.mk hXr1
        have HRR := Hid.mk hRr
        have HKR := Hid.mk hkr
        have HKAT := Hid.mk hka
        have hszr := hkr.size
        obtain ⟨t0, t1, t2, t3, t4, t5, t6⟩ := cells6 HTR.out
        obtain ⟨y0, y1, y2, y3, y4, y5, y6⟩ := cells6 HXR.out
        have yf := frz6 HXR.out
        obtain ⟨p9, -, hh9⟩ := HRR.out.2.2.2.2.2.2.2
        obtain ⟨c0, c1, c2, c3, cl, cf⟩ := cellsR hh9
        clear hrow hTr1 hXr1 hRr hkr hka hh9
        by_cases hgo : bad = false ∧ ts.length < 2
        · obtain ⟨rfl, hlt⟩ := hgo
          have hn2 : n2 ≤ 20000 := by
            rcases HKAT.out with ⟨-, -, -, h, -⟩ | ⟨h, -⟩
            · exact h
            · cases h
          have zlt : (ts.length : Int) < 2 := by omega
          have HCALL := HREC r n2 (high + 1) wr.drew (HRR.out.on (Below.refl _ _).drew) hn2 (by have := HHI.out; omega)
          have hwr : IntKind.i64.wrap (high + 1) = high + 1 := by rw [IntKind.wrap_i64]; omega
          rw [← hwr] at HCALL
          clear hwr
          go_wp2_with fail
          refine wp_region_last (S := fun w' => w'.cell? ⟨Tb, 5, none⟩ = some (.slice a' ts.length cap')) 9 mx ?_ (fun hHeld => ?_)
          · (try dsimp only)
            exact t5
          refine wpAnyL_take (i := 0) (v := ?_) rfl (by kernel_rfl) (by kernel_rfl) (by kernel_rfl) (by kernel_rfl) (fun _ _ _ h => h) (Or.inl ⟨by rfl, ?_⟩) (by assumption) ?_
          rotate_left
          · (intro w hSw; (try dsimp only at hSw); go_simp; (try with_reducible rfl))
          refine wpAnyL_take (i := 1) (v := ?_) rfl (by kernel_rfl) (by kernel_rfl) (by kernel_rfl) (by kernel_rfl) (fun _ _ _ h => h) (Or.inl ⟨by rfl, ?_⟩) (by assumption) ?_
          rotate_left
          · (intro w hSw; (try dsimp only at hSw); go_simp; (try with_reducible rfl))
          refine wpAnyL_take (i := 2) (v := ?_) rfl (by kernel_rfl) (by kernel_rfl) (by kernel_rfl) (by kernel_rfl) (fun _ _ _ h => h) (Or.inl ⟨by rfl, ?_⟩) (by assumption) ?_
          rotate_left
          · (intro w hSw; (try dsimp only at hSw); go_simp; (try with_reducible rfl))
          refine wpAnyL_take (i := 3) (v := ?_) rfl (by kernel_rfl) (by kernel_rfl) (by kernel_rfl) (by kernel_rfl) (fun _ _ _ h => h) (Or.inl ⟨by rfl, ?_⟩) (by assumption) ?_
          rotate_left
          · (intro w hSw; (try dsimp only at hSw); go_simp; (try with_reducible rfl))
          refine wpAnyL_take (i := 4) (v := ?_) rfl (by kernel_rfl) (by kernel_rfl) (by kernel_rfl) (by kernel_rfl) (fun _ _ _ h => h) (Or.inl ⟨by rfl, ?_⟩) (by assumption) ?_
          rotate_left
          · (intro w hSw; (try dsimp only at hSw); go_simp; (try with_reducible rfl))
          refine wpAnyL_one (i := 5) (by kernel_rfl) rfl (fun K hK => ?_)
          go_simp
          go_at_call 43
          refine HCALL.mono ?_
          rintro e w5 ⟨v5, p, r5, bad5, n5, rfl, ⟨u0, u1, u2, u3, q1, q2, q3, s1', s2', s3', rfl⟩, htf5, hR5, hk5, hq5⟩
          have hk5' : Kept (fun k => k = rb) wr w5 := (Kept.of_below (Below.refl _ wr).drew).trans hk5
          have HK5 := Hid.mk hk5'
          have HR5 := Hid.mk hR5
          have HQ5 := Hid.mk hq5
          have hsz5 := hk5'.size
          have HROW5 : Hid (RowF (w5.alloc (.cells #[.int .i64 u0, .int .i64 u1, .bool u2, .string u3, .slice q1 q2 q3, .slice s1' s2' s3'] 38)) B (fun k => decide (k < B)) a' cap' ts) := (HROW.out.move (fun k hk => by simp; omega) hk5'.size fun k h1 h2 => hk5'.block k h1 (by have := geB h2; omega)).move (fun k hk => by simp; omega) (by simp) fun k h1 _ => Below.heap_alloc _ _ _ h1
          obtain ⟨xs, kvs, hown, hkv⟩ := HROW5.out.go
          have hRB : ∀ j, ownB a' j = true → B ≤ j ∧ j < wr.heap.size := fun j hj => by
            obtain ⟨ys, kvs0, hown0, -⟩ := HROW.out.go
            exact row_block hown0 hj
          have HNEW : Hid (TF (w5.alloc (.cells #[.int .i64 u0, .int .i64 u1, .bool u2, .string u3, .slice q1 q2 q3, .slice s1' s2' s3'] 38)) (fun k => decide (k < B) || ownB a' k) (.agg #[.int .i64 u0, .int .i64 u1, .bool u2, .string u3, .slice q1 q2 q3, .slice s1' s2' s3']) p) := htf5.move (by simp) fun j h1 h2 => ⟨by
            have h3 : wr.heap.size ≤ j := oldB_no h2
            have h4 : decide (j < B) = false := by simp; omega
            rw [h4, Bool.false_or]
            cases ho : ownB a' j
            · rfl
            · have := (hRB j ho).2; omega, Below.heap_alloc _ _ _ h1⟩
          have HOWN := Hid.mk hown
          have HKV := Hid.mk hkv
          have HXL : Hid (xs.length = ts.length * 6) := by unfold Hid; rw [hown.1]
          have HNEWS := Hid.mk (World.news_of_block (cs := #[.int .i64 u0, .int .i64 u1, .bool u2, .string u3, .slice q1 q2 q3, .slice s1' s2' s3']) (t := 38) (fr := (0, 0)) (alloc_new w5 (.cells #[.int .i64 u0, .int .i64 u1, .bool u2, .string u3, .slice q1 q2 q3, .slice s1' s2' s3'] 38)))
          have HT5 := Hid.mk (box6 HTR.out hk5' hTr)
          have HX5 := Hid.mk (box6 HXR.out hk5' hXr)
          have k55 := (cells6 HT5.out).2.2.2.2.2.1
          have hT5s : Tb < w5.heap.size := heap_lt HT5.out
          have k56 : (w5.alloc (.cells #[.int .i64 u0, .int .i64 u1, .bool u2, .string u3, .slice q1 q2 q3, .slice s1' s2' s3'] 38)).cell? ⟨Tb, 5, none⟩ = some (.slice a' ts.length cap') := (World.cell?_of_block (a := ⟨Tb, 5, none⟩) (Below.heap_alloc _ _ _ hT5s)).trans k55
          clear hR5 hk5 hk5' hq5 htf5 hown hkv hRB HCALL
          dsimp only
          refine hK.out _ _ ?_ (fun hHeld => ?_)
          · (try dsimp only)
            exact k55
          clear hK K
          refine wpAnyL_one (i := 6) (by kernel_rfl) rfl (fun K hK => ?_)
          go_simp
          refine hK.out _ _ ?_ (fun hHeld => ?_)
          · (try dsimp only)
            exact k56
          clear hK K
          refine wpAnyL_one (i := 7) (by kernel_rfl) rfl (fun K hK => ?_)
          refine step_append_lies _ (by rfl) _ _ _ (by rfl) B 38 i0 _ 6 88 Tryz.underlying36 hi iz0 iz1 iz2 rfl (by decide) (.slice a' ts.length cap') ts.length xs (by rfl) HOWN.out ⟨w5.heap.size, 0, none⟩ 1 1 [.int .i64 u0, .int .i64 u1, .bool u2, .string u3, .slice q1 q2 q3, .slice s1' s2' s3'] (by rfl) (by rfl) HNEWS.out (by simp [Value.oneCell']) (by omega) (by simp [maxLen]; omega) (by omega) (by simp; omega) (w5.heap.size + 1) (by simp) ?_
          intro g7 c7 W7 hown7 hgr7 hat7 hlt7
          have HOWN7 := Hid.mk hown7
          have HGR7 := Hid.mk hgr7
          have HAT7 := Hid.mk hat7
          have HAG : Hid (∀ k, k < B → W7.heap[k]? = w5.heap[k]?) := fun k hk => (hgr7.block k (by simp; omega) (fun e => by have := (World.ownsRow.lt HOWN.out k e.symm).1; omega)).trans (Below.heap_alloc _ _ _ (by omega))
          have hs7 : w5.heap.size ≤ W7.heap.size := by have := hgr7.size; simp at this; omega
          have HT7 := Hid.mk ((HAG.out Tb hTB).trans HT5.out)
          have z75 := (cells6 HT7.out).2.2.2.2.2.1
          have fz7 := frz6 HT7.out
          have hT7s : Tb < W7.heap.size := heap_lt HT7.out
          clear hown7 hgr7 hat7
          refine hK.out _ _ ?_ (fun hHeld => ?_)
          · (try dsimp only)
            exact z75
          clear hK K
          refine wpAnyL_take (i := 8) (v := ?_) rfl (by kernel_rfl) (by kernel_rfl) (by kernel_rfl) (by kernel_rfl) (fun _ _ _ h => h) (Or.inl ⟨by rfl, ?_⟩) (by assumption) ?_
          rotate_left
          · (intro w hSw; (try dsimp only at hSw); go_simp; (try with_reducible rfl))
          refine wpAnyL_last (by kernel_rfl) rfl (by kernel_rfl) (fun K hK => ?_)
          go_simp
          refine hK.out _ _ ?_
          clear hK K
          go_wp2
          have hlen : (ts ++ [p]).length = ts.length + 1 := by simp
          have KZ : Kept (fun k => k = Tb) W7 (W7.setCell ⟨Tb, 5, none⟩ (.slice (some ⟨g7, 0, none⟩) (ts.length + 1) c7)) := (Kept.refl (fun k => k = Tb) W7).setCell (p := ⟨Tb, 5, none⟩) rfl _
          refine ⟨⟨ts ++ [p], r5, bad5, n5, some ⟨g7, 0, none⟩, c7, by rw [hlen]; go_num, ?_, ?_, ?_, ?_, ?_, ?_, kid_step HKAT.out hlt HQ5.out⟩, by simp [intOf]; omega⟩
          · refine RowF.move (w := W7) ?_ (fun k hk => by simp; omega) KZ.size (fun k h1 h2 => KZ.block k h1 (fun e => by have := geB h2; omega))
            exact RowF.snoc (cap := cap') HKV.out HXL.out HOWN7.out HGR7.out (by simpa using HAT7.out) HNEW.out
          · rw [hlen]
            exact set5_heap HT7.out
          · exact (KZ.block _ (by omega) (by omega)).trans ((HAG.out _ (by omega)).trans HX5.out)
          · exact HR5.out.move (Nat.le_trans hs7 KZ.size) fun k hk => (KZ.block _ (by omega) (by omega)).trans (HAG.out _ (by omega))
          · exact ⟨HGR7.out.os.trans (HK5.out.os.trans HKR.out.os), HGR7.out.tape.trans (HK5.out.tape.trans HKR.out.tape), HGR7.out.output.trans (HK5.out.output.trans HKR.out.output), by have := KZ.size; omega, fun k h1 h2 => (KZ.block _ (by omega) (by omega)).trans ((HAG.out _ (by omega)).trans ((HK5.out.block _ (by omega) h2).trans (HKR.out.block _ h1 h2)))⟩
          · have := KZ.size; omega
        · have HE := Hid.mk (kid_end HKAT.out (by omega) (by cases bad with | true => exact Or.inl rfl | false => exact Or.inr fun h => hgo ⟨rfl, h⟩))
          cases bad with
          | true =>
            clear hgo
            by_cases hlt : ts.length < 2
            · have zlt : (ts.length : Int) < 2 := by omega
              go_wp2
              refine bodyPost_ret (v := .agg #[.int .i64 4, .int .i64 0, .bool hd, .string { data := #[] }, .slice none 0 0, .slice a' ts.length cap']) (by simp [results, Tryz.results43, go_sem, y0, y1, y2, y3, y4, y5]) rfl ⟨_, .mk 4 0 hd { data := #[] } [] ts, r, true, n2, rfl, ⟨_, _, _, _, _, _, _, _, _, _, rfl⟩, ?_, ?_, ?_, by simpa using HE.out⟩
              · have KF := keep6 (P := fun k => k = w.heap.size) (w := wr) (b := w.heap.size) (a0 := .int .i64 4) (a1 := .int .i64 0) (a2 := .bool hd) (a3 := .string { data := #[] }) (a4 := .slice none 0 0) (a5 := .slice a' ts.length cap') rfl
                have hrow := HROW.out.move (fun k hk => by simp; omega) KF.size (fun k h1 h2 => KF.block k h1 (fun e => by have := geB h2; omega))
                have hd2 := hrow.done (fun k hk => by simp; omega) (f := 4) (n := 0) (hd := hd) (nm := { data := #[] }) (la := none) (lc := 0) (ls := []) (Or.inl rfl) (fun _ => rfl) (Nat.le_refl _) (by omega)
                exact hd2.sub (fun k hk => oldB_new (by have := geB hk; omega))
              · repeat (refine RR.setNew ?_ (by simp only; omega) _)
                exact HRR.out
              · repeat (refine Kept.setNew ?_ (by simp only; omega) _)
                exact HKR.out
            · have zlt : ¬ (ts.length : Int) < 2 := by omega
              go_wp2
              refine bodyPost_ret (v := .agg #[.int .i64 4, .int .i64 0, .bool hd, .string { data := #[] }, .slice none 0 0, .slice a' ts.length cap']) (by simp [results, Tryz.results43, go_sem, y0, y1, y2, y3, y4, y5]) rfl ⟨_, .mk 4 0 hd { data := #[] } [] ts, r, true, n2, rfl, ⟨_, _, _, _, _, _, _, _, _, _, rfl⟩, ?_, ?_, ?_, by simpa using HE.out⟩
              · have KF := keep6 (P := fun k => k = w.heap.size) (w := wr) (b := w.heap.size) (a0 := .int .i64 4) (a1 := .int .i64 0) (a2 := .bool hd) (a3 := .string { data := #[] }) (a4 := .slice none 0 0) (a5 := .slice a' ts.length cap') rfl
                have hrow := HROW.out.move (fun k hk => by simp; omega) KF.size (fun k h1 h2 => KF.block k h1 (fun e => by have := geB h2; omega))
                have hd2 := hrow.done (fun k hk => by simp; omega) (f := 4) (n := 0) (hd := hd) (nm := { data := #[] }) (la := none) (lc := 0) (ls := []) (Or.inl rfl) (fun _ => rfl) (Nat.le_refl _) (by omega)
                exact hd2.sub (fun k hk => oldB_new (by have := geB hk; omega))
              · repeat (refine RR.setNew ?_ (by simp only; omega) _)
                exact HRR.out
              · repeat (refine Kept.setNew ?_ (by simp only; omega) _)
                exact HKR.out
          | false =>
            have zlt : ¬ (ts.length : Int) < 2 := by
              intro h
              exact hgo ⟨rfl, by omega⟩
            clear hgo
            go_wp2
            refine bodyPost_ret (v := .agg #[.int .i64 4, .int .i64 0, .bool hd, .string { data := #[] }, .slice none 0 0, .slice a' ts.length cap']) (by simp [results, Tryz.results43, go_sem, y0, y1, y2, y3, y4, y5]) rfl ⟨_, .mk 4 0 hd { data := #[] } [] ts, r, false, n2, rfl, ⟨_, _, _, _, _, _, _, _, _, _, rfl⟩, ?_, ?_, ?_, by simpa using HE.out⟩
            · have KF := keep6 (P := fun k => k = w.heap.size) (w := wr) (b := w.heap.size) (a0 := .int .i64 4) (a1 := .int .i64 0) (a2 := .bool hd) (a3 := .string { data := #[] }) (a4 := .slice none 0 0) (a5 := .slice a' ts.length cap') rfl
              have hrow := HROW.out.move (fun k hk => by simp; omega) KF.size (fun k h1 h2 => KF.block k h1 (fun e => by have := geB h2; omega))
              have hd2 := hrow.done (fun k hk => by simp; omega) (f := 4) (n := 0) (hd := hd) (nm := { data := #[] }) (la := none) (lc := 0) (ls := []) (Or.inl rfl) (fun _ => rfl) (Nat.le_refl _) (by omega)
              exact hd2.sub (fun k hk => oldB_new (by have := geB hk; omega))
            · repeat (refine RR.setNew ?_ (by simp only; omega) _)
              exact HRR.out
            · repeat (refine Kept.setNew ?_ (by simp only; omega) _)
              exact HKR.out
    · have HPN : Hid (P = none) := by
        have h := pt_kids HPE.out HQN.out hn0 (by rw [HF.out]; decide)
        unfold Hid
        rw [h, HM.out, hp]
        rcases hq4 with ⟨e4, q4⟩ | ⟨e4, q4⟩
        · rw [q4]
          simp only
          rw [if_pos (by
            by_cases hx : 1 < x4
            · exact hx
            · exact absurd ⟨e4, hx⟩ hgood)]
        · rw [q4]
      clear HPE HQN hp HT2 HX2 HR2 HK2 hq4
      cases bad4 with
      | true =>
        clear hgood
        go_wp2
        refine wp_loop_rounds 1 ?_
        rw [rounds_succ]
        go_wp2
        refine bodyPost_ret (v := .agg #[.int .i64 4, .int .i64 0, .bool hd, .string { data := #[] }, .slice none 0 0, .slice none 0 0]) (by simp [results, Tryz.results43, go_sem, y0, y1, y2, y3, y4, y5]) rfl ⟨_, _, r4, true, n + 1, rfl, ⟨_, _, _, _, _, _, _, _, _, _, rfl⟩, TF.leaf _ _ _ _, ?_, ?_, Or.inr ⟨rfl, HPN.out⟩⟩
        · repeat (refine RR.setNew ?_ (by simp only; omega) _)
          exact ((HR4.out.setNew (p := ⟨Tb, 2, none⟩) (by simp only; omega) (.bool hd)).bad true).1
        · repeat (refine Kept.setNew ?_ (by simp only; omega) _)
          exact (HK4.out.setNew (p := ⟨Tb, 2, none⟩) (by simp only; omega) _).trans ((HR4.out.setNew (p := ⟨Tb, 2, none⟩) (by simp only; omega) (.bool hd)).bad true).2
      | false =>
        have hx4 : (1 : Int) < (x4 : Int) := by
          by_cases hx : 1 < x4
          · omega
          · exact absurd ⟨rfl, hx⟩ hgood
        clear hgood
        go_wp2
        refine wp_loop_rounds 1 ?_
        rw [rounds_succ]
        go_wp2
        refine bodyPost_ret (v := .agg #[.int .i64 4, .int .i64 0, .bool hd, .string { data := #[] }, .slice none 0 0, .slice none 0 0]) (by simp [results, Tryz.results43, go_sem, y0, y1, y2, y3, y4, y5]) rfl ⟨_, _, r4, true, n + 1, rfl, ⟨_, _, _, _, _, _, _, _, _, _, rfl⟩, TF.leaf _ _ _ _, ?_, ?_, Or.inr ⟨rfl, HPN.out⟩⟩
        · repeat (refine RR.setNew ?_ (by simp only; omega) _)
          exact ((HR4.out.setNew (p := ⟨Tb, 2, none⟩) (by simp only; omega) (.bool hd)).bad true).1
        · repeat (refine Kept.setNew ?_ (by simp only; omega) _)
          exact (HK4.out.setNew (p := ⟨Tb, 2, none⟩) (by simp only; omega) _).trans ((HR4.out.setNew (p := ⟨Tb, 2, none⟩) (by simp only; omega) (.bool hd)).bad true).2
  · obtain rfl : k = 2 := by rw [← hk]; decide
    have HM : Hid (m = 5) := by have := HF.out; unfold Hid; omega
    clear hk hk0
    have HC4 := rrnum_any N rb a cap all r1 false (n + 1) W2 HR2.out
    go_wp2_with fail
    refine HC4.mono ?_
    intro e w4 h4
    obtain ⟨x4, r4, bad4, rfl, hR4, hk4, hq4⟩ := h4.out
    have HR4 := Hid.mk hR4
    have HK4 : Hid (Kept (fun k => k = rb) w w4) := HK2.out.trans hk4
    have HT4 := Hid.mk (box6 HT2.out hk4 hTr)
    have HX4 := Hid.mk (box6 HX2.out hk4 hXr)
    have hs4 := hk4.size
    have hT4s : Tb < w4.heap.size := heap_lt HT4.out
    clear t0 t1 t2 t3 t4 t5 t6 tf y0 y1 y2 y3 y4 y5 y6 yf c0 c1 c2 c3 cl cf hR4 hk4 h4 HC4
    obtain ⟨t0, t1, t2, t3, t4, t5, t6⟩ := cells6 HT4.out
    have tf := frz6 HT4.out
    obtain ⟨y0, y1, y2, y3, y4, y5, y6⟩ := cells6 HX4.out
    have yf := frz6 HX4.out
    obtain ⟨p4, -, hh4⟩ := HR4.out.2.2.2.2.2.2.2
    obtain ⟨c0, c1, c2, c3, cl, cf⟩ := cellsR hh4
    clear hh4
    obtain ⟨hd, hhd⟩ : ∃ hd, ((x4 : Int) == 1) = hd := ⟨_, rfl⟩
    have hp : pfields 5 r1 = (match pnum 6 r1 with
        | none => none
        | some (h, r) => if 1 < h then none else some ((0, decide (h = 1), ⟨#[]⟩, []), r)) := by unfold pfields; rw [if_neg (by decide), if_neg (by decide), if_pos (by decide)]; rfl
    by_cases hgood : bad4 = false ∧ ¬ 1 < x4
    · obtain ⟨rfl, hx4⟩ := hgood
      have HKI : Hid (KidAt P (pterm d') 5 hd 2 [] r4 false (n + 1)) := by
        have hpf : pfields m r1 = some ((0, hd, ⟨#[]⟩, []), r4) := by
          rw [HM.out, hp]
          rcases hq4 with ⟨-, q4⟩ | ⟨e4, -⟩
          · rw [q4]
            simp only
            rw [if_neg hx4, ← hhd]
            have : decide (x4 = 1) = ((x4 : Int) == 1) := by by_cases h : x4 = 1 <;> simp [h] <;> omega
            rw [this]
          · cases e4
        have h := kid_start HPE.out HQN.out hn0 (k := 2) (h := hd) (r2 := r4) (bad := false) (by rw [HF.out]; decide) (Or.inl ⟨rfl, hpf⟩)
        rw [HF.out] at h
        exact h
      obtain ⟨W5, hW5⟩ : ∃ W5, (w4.setCell ⟨Tb, 2, none⟩ (.bool hd)).setCell ⟨rb, 2, none⟩ (.bool false) = W5 := ⟨_, rfl⟩
      have hR5 := (HR4.out.setNew (p := ⟨Tb, 2, none⟩) (by simp only; omega) (.bool hd)).bad false
      rw [hW5] at hR5
      have HRS := Hid.mk hR5.1
      have HKS : Hid (Kept (fun k => k = rb) w W5) := (HK4.out.setNew (p := ⟨Tb, 2, none⟩) (by simp only; omega) _).trans hR5.2
      have HTS : Hid (W5.heap[Tb]? = some (.cells #[.int .i64 5, .int .i64 0, .bool hd, .string { data := #[] }, .slice none 0 0, .slice none 0 0] 38 (0, 0))) := by
        unfold Hid; rw [← hW5]
        refine (Below.heap_setCell _ _ _ _ hTr).trans ?_
        rw [setCell_eq]; show (w4.heap.modify Tb _)[Tb]? = _
        rw [Array.getElem?_modify, if_pos rfl, HT4.out]; rfl
      have HXS : Hid (W5.heap[w.heap.size]? = some (.cells #[.int .i64 0, .int .i64 0, .bool false, .string { data := #[] }, .slice none 0 0, .slice none 0 0] 38 (0, 0))) := by
        unfold Hid; rw [← hW5]
        exact (Below.heap_setCell _ _ _ _ hXr).trans ((Below.heap_setCell _ _ _ _ hTX').trans HX4.out)
      have HW5 := Hid.mk hW5
      have hx4' : ¬ (1 : Int) < (x4 : Int) := by omega
      clear HPE HQN hq4 hp hW5 hR5 HT2 HX2 HR2 HK2
      go_wp2
      have hx5 : decide ((1 : Int) < (x4 : Int)) = false := by simp; omega
      rw [hx5, HW5.out]
      clear hx5
      clear t0 t1 t2 t3 t4 t5 t6 tf y0 y1 y2 y3 y4 y5 y6 yf c0 c1 c2 c3 cl cf HT4 HX4 HR4 HK4 HW5 hhd
      obtain ⟨B, hB⟩ : ∃ B, W5.heap.size = B := ⟨_, rfl⟩
      have hTB : Tb < B := by rw [← hB]; exact heap_lt HTS.out
      go_loopw [10] (fun i wr => ∃ (ts : List Tm) (r : List UInt8) (bad : Bool) (n2 : Nat) (a' : Option Addr) (cap' : Nat), i = .int .i64 (ts.length : Int) ∧ RowF wr B (fun k => decide (k < B)) a' cap' ts ∧ wr.heap[Tb]? = some (.cells #[.int .i64 5, .int .i64 0, .bool hd, .string { data := #[] }, .slice none 0 0, .slice a' ts.length cap'] 38 (0, 0)) ∧ wr.heap[w.heap.size]? = some (.cells #[.int .i64 0, .int .i64 0, .bool false, .string { data := #[] }, .slice none 0 0, .slice none 0 0] 38 (0, 0)) ∧ RR wr N rb a cap all r bad n2 ∧ Kept (fun k => k = rb) w wr ∧ B ≤ wr.heap.size ∧ KidAt P (pterm d') 5 hd 2 ts r bad n2) (fun i _ => 2 - (intOf i).toNat)
      case atStart => exact ⟨[], r4, false, n + 1, none, 0, rfl, RowF.nil _ _ _, HTS.out, HXS.out, HRS.out, HKS.out, by omega, HKI.out⟩
      case round =>
        obtain ⟨ts, r, bad, n2, a', cap', rfl, hrow, hTr1, hXr1, hRr, hkr, hBr, hka⟩ := hrel
        have HROW := Hid.mk hrow
        have HTR := Hid.mk hTr1
        have HXR := Hid.mk hXr1
        have HRR := Hid.mk hRr
        have HKR := Hid.mk hkr
        have HKAT := Hid.mk hka
        have hszr := hkr.size
        obtain ⟨t0, t1, t2, t3, t4, t5, t6⟩ := cells6 HTR.out
        obtain ⟨y0, y1, y2, y3, y4, y5, y6⟩ := cells6 HXR.out
        have yf := frz6 HXR.out
        obtain ⟨p9, -, hh9⟩ := HRR.out.2.2.2.2.2.2.2
        obtain ⟨c0, c1, c2, c3, cl, cf⟩ := cellsR hh9
        clear hrow hTr1 hXr1 hRr hkr hka hh9
        by_cases hgo : bad = false ∧ ts.length < 2
        · obtain ⟨rfl, hlt⟩ := hgo
          have hn2 : n2 ≤ 20000 := by
            rcases HKAT.out with ⟨-, -, -, h, -⟩ | ⟨h, -⟩
            · exact h
            · cases h
          have zlt : (ts.length : Int) < 2 := by omega
          have HCALL := HREC r n2 (high + 1) wr.drew (HRR.out.on (Below.refl _ _).drew) hn2 (by have := HHI.out; omega)
          have hwr : IntKind.i64.wrap (high + 1) = high + 1 := by rw [IntKind.wrap_i64]; omega
          rw [← hwr] at HCALL
          clear hwr
          go_wp2_with fail
          refine wp_region_last (S := fun w' => w'.cell? ⟨Tb, 5, none⟩ = some (.slice a' ts.length cap')) 9 mx ?_ (fun hHeld => ?_)
          · (try dsimp only)
            exact t5
          refine wpAnyL_take (i := 0) (v := ?_) rfl (by kernel_rfl) (by kernel_rfl) (by kernel_rfl) (by kernel_rfl) (fun _ _ _ h => h) (Or.inl ⟨by rfl, ?_⟩) (by assumption) ?_
          rotate_left
          · (intro w hSw; (try dsimp only at hSw); go_simp; (try with_reducible rfl))
          refine wpAnyL_take (i := 1) (v := ?_) rfl (by kernel_rfl) (by kernel_rfl) (by kernel_rfl) (by kernel_rfl) (fun _ _ _ h => h) (Or.inl ⟨by rfl, ?_⟩) (by assumption) ?_
          rotate_left
          · (intro w hSw; (try dsimp only at hSw); go_simp; (try with_reducible rfl))
          refine wpAnyL_take (i := 2) (v := ?_) rfl (by kernel_rfl) (by kernel_rfl) (by kernel_rfl) (by kernel_rfl) (fun _ _ _ h => h) (Or.inl ⟨by rfl, ?_⟩) (by assumption) ?_
          rotate_left
          · (intro w hSw; (try dsimp only at hSw); go_simp; (try with_reducible rfl))
          refine wpAnyL_take (i := 3) (v := ?_) rfl (by kernel_rfl) (by kernel_rfl) (by kernel_rfl) (by kernel_rfl) (fun _ _ _ h => h) (Or.inl ⟨by rfl, ?_⟩) (by assumption) ?_
          rotate_left
          · (intro w hSw; (try dsimp only at hSw); go_simp; (try with_reducible rfl))
          refine wpAnyL_take (i := 4) (v := ?_) rfl (by kernel_rfl) (by kernel_rfl) (by kernel_rfl) (by kernel_rfl) (fun _ _ _ h => h) (Or.inl ⟨by rfl, ?_⟩) (by assumption) ?_
          rotate_left
          · (intro w hSw; (try dsimp only at hSw); go_simp; (try with_reducible rfl))
          refine wpAnyL_one (i := 5) (by kernel_rfl) rfl (fun K hK => ?_)
          go_simp
          go_at_call 43
          refine HCALL.mono ?_
          rintro e w5 ⟨v5, p, r5, bad5, n5, rfl, ⟨u0, u1, u2, u3, q1, q2, q3, s1', s2', s3', rfl⟩, htf5, hR5, hk5, hq5⟩
          have hk5' : Kept (fun k => k = rb) wr w5 := (Kept.of_below (Below.refl _ wr).drew).trans hk5
          have HK5 := Hid.mk hk5'
          have HR5 := Hid.mk hR5
          have HQ5 := Hid.mk hq5
          have hsz5 := hk5'.size
          have HROW5 : Hid (RowF (w5.alloc (.cells #[.int .i64 u0, .int .i64 u1, .bool u2, .string u3, .slice q1 q2 q3, .slice s1' s2' s3'] 38)) B (fun k => decide (k < B)) a' cap' ts) := (HROW.out.move (fun k hk => by simp; omega) hk5'.size fun k h1 h2 => hk5'.block k h1 (by have := geB h2; omega)).move (fun k hk => by simp; omega) (by simp) fun k h1 _ => Below.heap_alloc _ _ _ h1
          obtain ⟨xs, kvs, hown, hkv⟩ := HROW5.out.go
          have hRB : ∀ j, ownB a' j = true → B ≤ j ∧ j < wr.heap.size := fun j hj => by
            obtain ⟨ys, kvs0, hown0, -⟩ := HROW.out.go
            exact row_block hown0 hj
          have HNEW : Hid (TF (w5.alloc (.cells #[.int .i64 u0, .int .i64 u1, .bool u2, .string u3, .slice q1 q2 q3, .slice s1' s2' s3'] 38)) (fun k => decide (k < B) || ownB a' k) (.agg #[.int .i64 u0, .int .i64 u1, .bool u2, .string u3, .slice q1 q2 q3, .slice s1' s2' s3']) p) := htf5.move (by simp) fun j h1 h2 => ⟨by
            have h3 : wr.heap.size ≤ j := oldB_no h2
            have h4 : decide (j < B) = false := by simp; omega
            rw [h4, Bool.false_or]
            cases ho : ownB a' j
            · rfl
            · have := (hRB j ho).2; omega, Below.heap_alloc _ _ _ h1⟩
          have HOWN := Hid.mk hown
          have HKV := Hid.mk hkv
          have HXL : Hid (xs.length = ts.length * 6) := by unfold Hid; rw [hown.1]
          have HNEWS := Hid.mk (World.news_of_block (cs := #[.int .i64 u0, .int .i64 u1, .bool u2, .string u3, .slice q1 q2 q3, .slice s1' s2' s3']) (t := 38) (fr := (0, 0)) (alloc_new w5 (.cells #[.int .i64 u0, .int .i64 u1, .bool u2, .string u3, .slice q1 q2 q3, .slice s1' s2' s3'] 38)))
          have HT5 := Hid.mk (box6 HTR.out hk5' hTr)
          have HX5 := Hid.mk (box6 HXR.out hk5' hXr)
          have k55 := (cells6 HT5.out).2.2.2.2.2.1
          have hT5s : Tb < w5.heap.size := heap_lt HT5.out
          have k56 : (w5.alloc (.cells #[.int .i64 u0, .int .i64 u1, .bool u2, .string u3, .slice q1 q2 q3, .slice s1' s2' s3'] 38)).cell? ⟨Tb, 5, none⟩ = some (.slice a' ts.length cap') := (World.cell?_of_block (a := ⟨Tb, 5, none⟩) (Below.heap_alloc _ _ _ hT5s)).trans k55
          clear hR5 hk5 hk5' hq5 htf5 hown hkv hRB HCALL
          dsimp only
          refine hK.out _ _ ?_ (fun hHeld => ?_)
          · (try dsimp only)
            exact k55
          clear hK K
          refine wpAnyL_one (i := 6) (by kernel_rfl) rfl (fun K hK => ?_)
          go_simp
          refine hK.out _ _ ?_ (fun hHeld => ?_)
          · (try dsimp only)
            exact k56
          clear hK K
          refine wpAnyL_one (i := 7) (by kernel_rfl) rfl (fun K hK => ?_)
          refine step_append_lies _ (by rfl) _ _ _ (by rfl) B 38 i0 _ 6 88 Tryz.underlying36 hi iz0 iz1 iz2 rfl (by decide) (.slice a' ts.length cap') ts.length xs (by rfl) HOWN.out ⟨w5.heap.size, 0, none⟩ 1 1 [.int .i64 u0, .int .i64 u1, .bool u2, .string u3, .slice q1 q2 q3, .slice s1' s2' s3'] (by rfl) (by rfl) HNEWS.out (by simp [Value.oneCell']) (by omega) (by simp [maxLen]; omega) (by omega) (by simp; omega) (w5.heap.size + 1) (by simp) ?_
          intro g7 c7 W7 hown7 hgr7 hat7 hlt7
          have HOWN7 := Hid.mk hown7
          have HGR7 := Hid.mk hgr7
          have HAT7 := Hid.mk hat7
          have HAG : Hid (∀ k, k < B → W7.heap[k]? = w5.heap[k]?) := fun k hk => (hgr7.block k (by simp; omega) (fun e => by have := (World.ownsRow.lt HOWN.out k e.symm).1; omega)).trans (Below.heap_alloc _ _ _ (by omega))
          have hs7 : w5.heap.size ≤ W7.heap.size := by have := hgr7.size; simp at this; omega
          have HT7 := Hid.mk ((HAG.out Tb hTB).trans HT5.out)
          have z75 := (cells6 HT7.out).2.2.2.2.2.1
          have fz7 := frz6 HT7.out
          have hT7s : Tb < W7.heap.size := heap_lt HT7.out
          clear hown7 hgr7 hat7
          refine hK.out _ _ ?_ (fun hHeld => ?_)
          · (try dsimp only)
            exact z75
          clear hK K
          refine wpAnyL_take (i := 8) (v := ?_) rfl (by kernel_rfl) (by kernel_rfl) (by kernel_rfl) (by kernel_rfl) (fun _ _ _ h => h) (Or.inl ⟨by rfl, ?_⟩) (by assumption) ?_
          rotate_left
          · (intro w hSw; (try dsimp only at hSw); go_simp; (try with_reducible rfl))
          refine wpAnyL_last (by kernel_rfl) rfl (by kernel_rfl) (fun K hK => ?_)
          go_simp
          refine hK.out _ _ ?_
          clear hK K
          go_wp2
          have hlen : (ts ++ [p]).length = ts.length + 1 := by simp
          have KZ : Kept (fun k => k = Tb) W7 (W7.setCell ⟨Tb, 5, none⟩ (.slice (some ⟨g7, 0, none⟩) (ts.length + 1) c7)) := (Kept.refl (fun k => k = Tb) W7).setCell (p := ⟨Tb, 5, none⟩) rfl _
          refine ⟨⟨ts ++ [p], r5, bad5, n5, some ⟨g7, 0, none⟩, c7, by rw [hlen]; go_num, ?_, ?_, ?_, ?_, ?_, ?_, kid_step HKAT.out hlt HQ5.out⟩, by simp [intOf]; omega⟩
          · refine RowF.move (w := W7) ?_ (fun k hk => by simp; omega) KZ.size (fun k h1 h2 => KZ.block k h1 (fun e => by have := geB h2; omega))
            exact RowF.snoc (cap := cap') HKV.out HXL.out HOWN7.out HGR7.out (by simpa using HAT7.out) HNEW.out
          · rw [hlen]
            exact set5_heap HT7.out
          · exact (KZ.block _ (by omega) (by omega)).trans ((HAG.out _ (by omega)).trans HX5.out)
          · exact HR5.out.move (Nat.le_trans hs7 KZ.size) fun k hk => (KZ.block _ (by omega) (by omega)).trans (HAG.out _ (by omega))
          · exact ⟨HGR7.out.os.trans (HK5.out.os.trans HKR.out.os), HGR7.out.tape.trans (HK5.out.tape.trans HKR.out.tape), HGR7.out.output.trans (HK5.out.output.trans HKR.out.output), by have := KZ.size; omega, fun k h1 h2 => (KZ.block _ (by omega) (by omega)).trans ((HAG.out _ (by omega)).trans ((HK5.out.block _ (by omega) h2).trans (HKR.out.block _ h1 h2)))⟩
          · have := KZ.size; omega
        · have HE := Hid.mk (kid_end HKAT.out (by omega) (by cases bad with | true => exact Or.inl rfl | false => exact Or.inr fun h => hgo ⟨rfl, h⟩))
          cases bad with
          | true =>
            clear hgo
            by_cases hlt : ts.length < 2
            · have zlt : (ts.length : Int) < 2 := by omega
              go_wp2
              refine bodyPost_ret (v := .agg #[.int .i64 5, .int .i64 0, .bool hd, .string { data := #[] }, .slice none 0 0, .slice a' ts.length cap']) (by simp [results, Tryz.results43, go_sem, y0, y1, y2, y3, y4, y5]) rfl ⟨_, .mk 5 0 hd { data := #[] } [] ts, r, true, n2, rfl, ⟨_, _, _, _, _, _, _, _, _, _, rfl⟩, ?_, ?_, ?_, by simpa using HE.out⟩
              · have KF := keep6 (P := fun k => k = w.heap.size) (w := wr) (b := w.heap.size) (a0 := .int .i64 5) (a1 := .int .i64 0) (a2 := .bool hd) (a3 := .string { data := #[] }) (a4 := .slice none 0 0) (a5 := .slice a' ts.length cap') rfl
                have hrow := HROW.out.move (fun k hk => by simp; omega) KF.size (fun k h1 h2 => KF.block k h1 (fun e => by have := geB h2; omega))
                have hd2 := hrow.done (fun k hk => by simp; omega) (f := 5) (n := 0) (hd := hd) (nm := { data := #[] }) (la := none) (lc := 0) (ls := []) (Or.inl rfl) (fun _ => rfl) (Nat.le_refl _) (by omega)
                exact hd2.sub (fun k hk => oldB_new (by have := geB hk; omega))
              · repeat (refine RR.setNew ?_ (by simp only; omega) _)
                exact HRR.out
              · repeat (refine Kept.setNew ?_ (by simp only; omega) _)
                exact HKR.out
            · have zlt : ¬ (ts.length : Int) < 2 := by omega
              go_wp2
              refine bodyPost_ret (v := .agg #[.int .i64 5, .int .i64 0, .bool hd, .string { data := #[] }, .slice none 0 0, .slice a' ts.length cap']) (by simp [results, Tryz.results43, go_sem, y0, y1, y2, y3, y4, y5]) rfl ⟨_, .mk 5 0 hd { data := #[] } [] ts, r, true, n2, rfl, ⟨_, _, _, _, _, _, _, _, _, _, rfl⟩, ?_, ?_, ?_, by simpa using HE.out⟩
              · have KF := keep6 (P := fun k => k = w.heap.size) (w := wr) (b := w.heap.size) (a0 := .int .i64 5) (a1 := .int .i64 0) (a2 := .bool hd) (a3 := .string { data := #[] }) (a4 := .slice none 0 0) (a5 := .slice a' ts.length cap') rfl
                have hrow := HROW.out.move (fun k hk => by simp; omega) KF.size (fun k h1 h2 => KF.block k h1 (fun e => by have := geB h2; omega))
                have hd2 := hrow.done (fun k hk => by simp; omega) (f := 5) (n := 0) (hd := hd) (nm := { data := #[] }) (la := none) (lc := 0) (ls := []) (Or.inl rfl) (fun _ => rfl) (Nat.le_refl _) (by omega)
                exact hd2.sub (fun k hk => oldB_new (by have := geB hk; omega))
              · repeat (refine RR.setNew ?_ (by simp only; omega) _)
                exact HRR.out
              · repeat (refine Kept.setNew ?_ (by simp only; omega) _)
                exact HKR.out
          | false =>
            have zlt : ¬ (ts.length : Int) < 2 := by
              intro h
              exact hgo ⟨rfl, by omega⟩
            clear hgo
            go_wp2
            refine bodyPost_ret (v := .agg #[.int .i64 5, .int .i64 0, .bool hd, .string { data := #[] }, .slice none 0 0, .slice a' ts.length cap']) (by simp [results, Tryz.results43, go_sem, y0, y1, y2, y3, y4, y5]) rfl ⟨_, .mk 5 0 hd { data := #[] } [] ts, r, false, n2, rfl, ⟨_, _, _, _, _, _, _, _, _, _, rfl⟩, ?_, ?_, ?_, by simpa using HE.out⟩
            · have KF := keep6 (P := fun k => k = w.heap.size) (w := wr) (b := w.heap.size) (a0 := .int .i64 5) (a1 := .int .i64 0) (a2 := .bool hd) (a3 := .string { data := #[] }) (a4 := .slice none 0 0) (a5 := .slice a' ts.length cap') rfl
              have hrow := HROW.out.move (fun k hk => by simp; omega) KF.size (fun k h1 h2 => KF.block k h1 (fun e => by have := geB h2; omega))
              have hd2 := hrow.done (fun k hk => by simp; omega) (f := 5) (n := 0) (hd := hd) (nm := { data := #[] }) (la := none) (lc := 0) (ls := []) (Or.inl rfl) (fun _ => rfl) (Nat.le_refl _) (by omega)
              exact hd2.sub (fun k hk => oldB_new (by have := geB hk; omega))
            · repeat (refine RR.setNew ?_ (by simp only; omega) _)
              exact HRR.out
            · repeat (refine Kept.setNew ?_ (by simp only; omega) _)
              exact HKR.out
    · have HPN : Hid (P = none) := by
        have h := pt_kids HPE.out HQN.out hn0 (by rw [HF.out]; decide)
        unfold Hid
        rw [h, HM.out, hp]
        rcases hq4 with ⟨e4, q4⟩ | ⟨e4, q4⟩
        · rw [q4]
          simp only
          rw [if_pos (by
            by_cases hx : 1 < x4
            · exact hx
            · exact absurd ⟨e4, hx⟩ hgood)]
        · rw [q4]
      clear HPE HQN hp HT2 HX2 HR2 HK2 hq4
      cases bad4 with
      | true =>
        clear hgood
        go_wp2
        refine wp_loop_rounds 1 ?_
        rw [rounds_succ]
        go_wp2
        refine bodyPost_ret (v := .agg #[.int .i64 5, .int .i64 0, .bool hd, .string { data := #[] }, .slice none 0 0, .slice none 0 0]) (by simp [results, Tryz.results43, go_sem, y0, y1, y2, y3, y4, y5]) rfl ⟨_, _, r4, true, n + 1, rfl, ⟨_, _, _, _, _, _, _, _, _, _, rfl⟩, TF.leaf _ _ _ _, ?_, ?_, Or.inr ⟨rfl, HPN.out⟩⟩
        · repeat (refine RR.setNew ?_ (by simp only; omega) _)
          exact ((HR4.out.setNew (p := ⟨Tb, 2, none⟩) (by simp only; omega) (.bool hd)).bad true).1
        · repeat (refine Kept.setNew ?_ (by simp only; omega) _)
          exact (HK4.out.setNew (p := ⟨Tb, 2, none⟩) (by simp only; omega) _).trans ((HR4.out.setNew (p := ⟨Tb, 2, none⟩) (by simp only; omega) (.bool hd)).bad true).2
      | false =>
        have hx4 : (1 : Int) < (x4 : Int) := by
          by_cases hx : 1 < x4
          · omega
          · exact absurd ⟨rfl, hx⟩ hgood
        clear hgood
        go_wp2
        refine wp_loop_rounds 1 ?_
        rw [rounds_succ]
        go_wp2
        refine bodyPost_ret (v := .agg #[.int .i64 5, .int .i64 0, .bool hd, .string { data := #[] }, .slice none 0 0, .slice none 0 0]) (by simp [results, Tryz.results43, go_sem, y0, y1, y2, y3, y4, y5]) rfl ⟨_, _, r4, true, n + 1, rfl, ⟨_, _, _, _, _, _, _, _, _, _, rfl⟩, TF.leaf _ _ _ _, ?_, ?_, Or.inr ⟨rfl, HPN.out⟩⟩
        · repeat (refine RR.setNew ?_ (by simp only; omega) _)
          exact ((HR4.out.setNew (p := ⟨Tb, 2, none⟩) (by simp only; omega) (.bool hd)).bad true).1
        · repeat (refine Kept.setNew ?_ (by simp only; omega) _)
          exact (HK4.out.setNew (p := ⟨Tb, 2, none⟩) (by simp only; omega) _).trans ((HR4.out.setNew (p := ⟨Tb, 2, none⟩) (by simp only; omega) (.bool hd)).bad true).2
  · obtain rfl : k = 2 := by rw [← hk]; decide
    have HM : Hid (m = 6) := by have := HF.out; unfold Hid; omega
    clear hk hk0
    have HTS := HT2
    have HXS := HX2
    have HRS := HR2
    have HKS := HK2
    have HKI : Hid (KidAt P (pterm d') 6 false 2 [] r1 false (n + 1)) := by
      have h := kid_start HPE.out HQN.out hn0 (k := 2) (h := false) (r2 := r1) (bad := false) (by rw [HF.out]; decide) (Or.inl ⟨rfl, by rw [HM.out]; rfl⟩)
      rw [HF.out] at h
      exact h
    clear HPE HQN HT2 HX2 HR2 HK2
    go_wp2
    obtain ⟨B, hB⟩ : ∃ B, W2.heap.size = B := ⟨_, rfl⟩
    have hTB : Tb < B := by rw [← hB]; exact heap_lt HTS.out
    go_loopw [10] (fun i wr => ∃ (ts : List Tm) (r : List UInt8) (bad : Bool) (n2 : Nat) (a' : Option Addr) (cap' : Nat), i = .int .i64 (ts.length : Int) ∧ RowF wr B (fun k => decide (k < B)) a' cap' ts ∧ wr.heap[Tb]? = some (.cells #[.int .i64 6, .int .i64 0, .bool false, .string { data := #[] }, .slice none 0 0, .slice a' ts.length cap'] 38 (0, 0)) ∧ wr.heap[w.heap.size]? = some (.cells #[.int .i64 0, .int .i64 0, .bool false, .string { data := #[] }, .slice none 0 0, .slice none 0 0] 38 (0, 0)) ∧ RR wr N rb a cap all r bad n2 ∧ Kept (fun k => k = rb) w wr ∧ B ≤ wr.heap.size ∧ KidAt P (pterm d') 6 false 2 ts r bad n2) (fun i _ => 2 - (intOf i).toNat)
    case atStart => exact ⟨[], r1, false, n + 1, none, 0, rfl, RowF.nil _ _ _, HTS.out, HXS.out, HRS.out, HKS.out, by omega, HKI.out⟩
    case round =>
      obtain ⟨ts, r, bad, n2, a', cap', rfl, hrow, hTr1, hXr1, hRr, hkr, hBr, hka⟩ := hrel
      have HROW := Hid.mk hrow
      have HTR := Hid.mk hTr1
      have HXR := Hid.mk hXr1
      have HRR := Hid.mk hRr
      have HKR := Hid.mk hkr
      have HKAT := Hid.mk hka
      have hszr := hkr.size
      obtain ⟨t0, t1, t2, t3, t4, t5, t6⟩ := cells6 HTR.out
      obtain ⟨y0, y1, y2, y3, y4, y5, y6⟩ := cells6 HXR.out
      have yf := frz6 HXR.out
      obtain ⟨p9, -, hh9⟩ := HRR.out.2.2.2.2.2.2.2
      obtain ⟨c0, c1, c2, c3, cl, cf⟩ := cellsR hh9
      clear hrow hTr1 hXr1 hRr hkr hka hh9
      by_cases hgo : bad = false ∧ ts.length < 2
      · obtain ⟨rfl, hlt⟩ := hgo
        have hn2 : n2 ≤ 20000 := by
          rcases HKAT.out with ⟨-, -, -, h, -⟩ | ⟨h, -⟩
          · exact h
          · cases h
        have zlt : (ts.length : Int) < 2 := by omega
        have HCALL := HREC r n2 (high + 1) wr.drew (HRR.out.on (Below.refl _ _).drew) hn2 (by have := HHI.out; omega)
        have hwr : IntKind.i64.wrap (high + 1) = high + 1 := by rw [IntKind.wrap_i64]; omega
        rw [← hwr] at HCALL
        clear hwr
        go_wp2_with fail
        refine wp_region_last (S := fun w' => w'.cell? ⟨Tb, 5, none⟩ = some (.slice a' ts.length cap')) 9 mx ?_ (fun hHeld => ?_)
        · (try dsimp only)
          exact t5
        refine wpAnyL_take (i := 0) (v := ?_) rfl (by kernel_rfl) (by kernel_rfl) (by kernel_rfl) (by kernel_rfl) (fun _ _ _ h => h) (Or.inl ⟨by rfl, ?_⟩) (by assumption) ?_
        rotate_left
        · (intro w hSw; (try dsimp only at hSw); go_simp; (try with_reducible rfl))
        refine wpAnyL_take (i := 1) (v := ?_) rfl (by kernel_rfl) (by kernel_rfl) (by kernel_rfl) (by kernel_rfl) (fun _ _ _ h => h) (Or.inl ⟨by rfl, ?_⟩) (by assumption) ?_
        rotate_left
        · (intro w hSw; (try dsimp only at hSw); go_simp; (try with_reducible rfl))
        refine wpAnyL_take (i := 2) (v := ?_) rfl (by kernel_rfl) (by kernel_rfl) (by kernel_rfl) (by kernel_rfl) (fun _ _ _ h => h) (Or.inl ⟨by rfl, ?_⟩) (by assumption) ?_
        rotate_left
        · (intro w hSw; (try dsimp only at hSw); go_simp; (try with_reducible rfl))
        refine wpAnyL_take (i := 3) (v := ?_) rfl (by kernel_rfl) (by kernel_rfl) (by kernel_rfl) (by kernel_rfl) (fun _ _ _ h => h) (Or.inl ⟨by rfl, ?_⟩) (by assumption) ?_
        rotate_left
        · (intro w hSw; (try dsimp only at hSw); go_simp; (try with_reducible rfl))
        refine wpAnyL_take (i := 4) (v := ?_) rfl (by kernel_rfl) (by kernel_rfl) (by kernel_rfl) (by kernel_rfl) (fun _ _ _ h => h) (Or.inl ⟨by rfl, ?_⟩) (by assumption) ?_
        rotate_left
        · (intro w hSw; (try dsimp only at hSw); go_simp; (try with_reducible rfl))
        refine wpAnyL_one (i := 5) (by kernel_rfl) rfl (fun K hK => ?_)
        go_simp
        go_at_call 43
        refine HCALL.mono ?_
        rintro e w5 ⟨v5, p, r5, bad5, n5, rfl, ⟨u0, u1, u2, u3, q1, q2, q3, s1', s2', s3', rfl⟩, htf5, hR5, hk5, hq5⟩
        have hk5' : Kept (fun k => k = rb) wr w5 := (Kept.of_below (Below.refl _ wr).drew).trans hk5
        have HK5 := Hid.mk hk5'
        have HR5 := Hid.mk hR5
        have HQ5 := Hid.mk hq5
        have hsz5 := hk5'.size
        have HROW5 : Hid (RowF (w5.alloc (.cells #[.int .i64 u0, .int .i64 u1, .bool u2, .string u3, .slice q1 q2 q3, .slice s1' s2' s3'] 38)) B (fun k => decide (k < B)) a' cap' ts) := (HROW.out.move (fun k hk => by simp; omega) hk5'.size fun k h1 h2 => hk5'.block k h1 (by have := geB h2; omega)).move (fun k hk => by simp; omega) (by simp) fun k h1 _ => Below.heap_alloc _ _ _ h1
        obtain ⟨xs, kvs, hown, hkv⟩ := HROW5.out.go
        have hRB : ∀ j, ownB a' j = true → B ≤ j ∧ j < wr.heap.size := fun j hj => by
          obtain ⟨ys, kvs0, hown0, -⟩ := HROW.out.go
          exact row_block hown0 hj
        have HNEW : Hid (TF (w5.alloc (.cells #[.int .i64 u0, .int .i64 u1, .bool u2, .string u3, .slice q1 q2 q3, .slice s1' s2' s3'] 38)) (fun k => decide (k < B) || ownB a' k) (.agg #[.int .i64 u0, .int .i64 u1, .bool u2, .string u3, .slice q1 q2 q3, .slice s1' s2' s3']) p) := htf5.move (by simp) fun j h1 h2 => ⟨by
          have h3 : wr.heap.size ≤ j := oldB_no h2
          have h4 : decide (j < B) = false := by simp; omega
          rw [h4, Bool.false_or]
          cases ho : ownB a' j
          · rfl
          · have := (hRB j ho).2; omega, Below.heap_alloc _ _ _ h1⟩
        have HOWN := Hid.mk hown
        have HKV := Hid.mk hkv
        have HXL : Hid (xs.length = ts.length * 6) := by unfold Hid; rw [hown.1]
        have HNEWS := Hid.mk (World.news_of_block (cs := #[.int .i64 u0, .int .i64 u1, .bool u2, .string u3, .slice q1 q2 q3, .slice s1' s2' s3']) (t := 38) (fr := (0, 0)) (alloc_new w5 (.cells #[.int .i64 u0, .int .i64 u1, .bool u2, .string u3, .slice q1 q2 q3, .slice s1' s2' s3'] 38)))
        have HT5 := Hid.mk (box6 HTR.out hk5' hTr)
        have HX5 := Hid.mk (box6 HXR.out hk5' hXr)
        have k55 := (cells6 HT5.out).2.2.2.2.2.1
        have hT5s : Tb < w5.heap.size := heap_lt HT5.out
        have k56 : (w5.alloc (.cells #[.int .i64 u0, .int .i64 u1, .bool u2, .string u3, .slice q1 q2 q3, .slice s1' s2' s3'] 38)).cell? ⟨Tb, 5, none⟩ = some (.slice a' ts.length cap') := (World.cell?_of_block (a := ⟨Tb, 5, none⟩) (Below.heap_alloc _ _ _ hT5s)).trans k55
        clear hR5 hk5 hk5' hq5 htf5 hown hkv hRB HCALL
        dsimp only
        refine hK.out _ _ ?_ (fun hHeld => ?_)
        · (try dsimp only)
          exact k55
        clear hK K
        refine wpAnyL_one (i := 6) (by kernel_rfl) rfl (fun K hK => ?_)
        go_simp
        refine hK.out _ _ ?_ (fun hHeld => ?_)
        · (try dsimp only)
          exact k56
        clear hK K
        refine wpAnyL_one (i := 7) (by kernel_rfl) rfl (fun K hK => ?_)
        refine step_append_lies _ (by rfl) _ _ _ (by rfl) B 38 i0 _ 6 88 Tryz.underlying36 hi iz0 iz1 iz2 rfl (by decide) (.slice a' ts.length cap') ts.length xs (by rfl) HOWN.out ⟨w5.heap.size, 0, none⟩ 1 1 [.int .i64 u0, .int .i64 u1, .bool u2, .string u3, .slice q1 q2 q3, .slice s1' s2' s3'] (by rfl) (by rfl) HNEWS.out (by simp [Value.oneCell']) (by omega) (by simp [maxLen]; omega) (by omega) (by simp; omega) (w5.heap.size + 1) (by simp) ?_
        intro g7 c7 W7 hown7 hgr7 hat7 hlt7
        have HOWN7 := Hid.mk hown7
        have HGR7 := Hid.mk hgr7
        have HAT7 := Hid.mk hat7
        have HAG : Hid (∀ k, k < B → W7.heap[k]? = w5.heap[k]?) := fun k hk => (hgr7.block k (by simp; omega) (fun e => by have := (World.ownsRow.lt HOWN.out k e.symm).1; omega)).trans (Below.heap_alloc _ _ _ (by omega))
        have hs7 : w5.heap.size ≤ W7.heap.size := by have := hgr7.size; simp at this; omega
        have HT7 := Hid.mk ((HAG.out Tb hTB).trans HT5.out)
        have z75 := (cells6 HT7.out).2.2.2.2.2.1
        have fz7 := frz6 HT7.out
        have hT7s : Tb < W7.heap.size := heap_lt HT7.out
        clear hown7 hgr7 hat7
        refine hK.out _ _ ?_ (fun hHeld => ?_)
        · (try dsimp only)
          exact z75
        clear hK K
        refine wpAnyL_take (i := 8) (v := ?_) rfl (by kernel_rfl) (by kernel_rfl) (by kernel_rfl) (by kernel_rfl) (fun _ _ _ h => h) (Or.inl ⟨by rfl, ?_⟩) (by assumption) ?_
        rotate_left
        · (intro w hSw; (try dsimp only at hSw); go_simp; (try with_reducible rfl))
        refine wpAnyL_last (by kernel_rfl) rfl (by kernel_rfl) (fun K hK => ?_)
        go_simp
        refine hK.out _ _ ?_
        clear hK K
        go_wp2
        have hlen : (ts ++ [p]).length = ts.length + 1 := by simp
        have KZ : Kept (fun k => k = Tb) W7 (W7.setCell ⟨Tb, 5, none⟩ (.slice (some ⟨g7, 0, none⟩) (ts.length + 1) c7)) := (Kept.refl (fun k => k = Tb) W7).setCell (p := ⟨Tb, 5, none⟩) rfl _
        refine ⟨⟨ts ++ [p], r5, bad5, n5, some ⟨g7, 0, none⟩, c7, by rw [hlen]; go_num, ?_, ?_, ?_, ?_, ?_, ?_, kid_step HKAT.out hlt HQ5.out⟩, by simp [intOf]; omega⟩
        · refine RowF.move (w := W7) ?_ (fun k hk => by simp; omega) KZ.size (fun k h1 h2 => KZ.block k h1 (fun e => by have := geB h2; omega))
          exact RowF.snoc (cap := cap') HKV.out HXL.out HOWN7.out HGR7.out (by simpa using HAT7.out) HNEW.out
        · rw [hlen]
          exact set5_heap HT7.out
        · exact (KZ.block _ (by omega) (by omega)).trans ((HAG.out _ (by omega)).trans HX5.out)
        · exact HR5.out.move (Nat.le_trans hs7 KZ.size) fun k hk => (KZ.block _ (by omega) (by omega)).trans (HAG.out _ (by omega))
        · exact ⟨HGR7.out.os.trans (HK5.out.os.trans HKR.out.os), HGR7.out.tape.trans (HK5.out.tape.trans HKR.out.tape), HGR7.out.output.trans (HK5.out.output.trans HKR.out.output), by have := KZ.size; omega, fun k h1 h2 => (KZ.block _ (by omega) (by omega)).trans ((HAG.out _ (by omega)).trans ((HK5.out.block _ (by omega) h2).trans (HKR.out.block _ h1 h2)))⟩
        · have := KZ.size; omega
      · have HE := Hid.mk (kid_end HKAT.out (by omega) (by cases bad with | true => exact Or.inl rfl | false => exact Or.inr fun h => hgo ⟨rfl, h⟩))
        cases bad with
        | true =>
          clear hgo
          by_cases hlt : ts.length < 2
          · have zlt : (ts.length : Int) < 2 := by omega
            go_wp2
            refine bodyPost_ret (v := .agg #[.int .i64 6, .int .i64 0, .bool false, .string { data := #[] }, .slice none 0 0, .slice a' ts.length cap']) (by simp [results, Tryz.results43, go_sem, y0, y1, y2, y3, y4, y5]) rfl ⟨_, .mk 6 0 false { data := #[] } [] ts, r, true, n2, rfl, ⟨_, _, _, _, _, _, _, _, _, _, rfl⟩, ?_, ?_, ?_, by simpa using HE.out⟩
            · have KF := keep6 (P := fun k => k = w.heap.size) (w := wr) (b := w.heap.size) (a0 := .int .i64 6) (a1 := .int .i64 0) (a2 := .bool false) (a3 := .string { data := #[] }) (a4 := .slice none 0 0) (a5 := .slice a' ts.length cap') rfl
              have hrow := HROW.out.move (fun k hk => by simp; omega) KF.size (fun k h1 h2 => KF.block k h1 (fun e => by have := geB h2; omega))
              have hd2 := hrow.done (fun k hk => by simp; omega) (f := 6) (n := 0) (hd := false) (nm := { data := #[] }) (la := none) (lc := 0) (ls := []) (Or.inl rfl) (fun _ => rfl) (Nat.le_refl _) (by omega)
              exact hd2.sub (fun k hk => oldB_new (by have := geB hk; omega))
            · repeat (refine RR.setNew ?_ (by simp only; omega) _)
              exact HRR.out
            · repeat (refine Kept.setNew ?_ (by simp only; omega) _)
              exact HKR.out
          · have zlt : ¬ (ts.length : Int) < 2 := by omega
            go_wp2
            refine bodyPost_ret (v := .agg #[.int .i64 6, .int .i64 0, .bool false, .string { data := #[] }, .slice none 0 0, .slice a' ts.length cap']) (by simp [results, Tryz.results43, go_sem, y0, y1, y2, y3, y4, y5]) rfl ⟨_, .mk 6 0 false { data := #[] } [] ts, r, true, n2, rfl, ⟨_, _, _, _, _, _, _, _, _, _, rfl⟩, ?_, ?_, ?_, by simpa using HE.out⟩
            · have KF := keep6 (P := fun k => k = w.heap.size) (w := wr) (b := w.heap.size) (a0 := .int .i64 6) (a1 := .int .i64 0) (a2 := .bool false) (a3 := .string { data := #[] }) (a4 := .slice none 0 0) (a5 := .slice a' ts.length cap') rfl
              have hrow := HROW.out.move (fun k hk => by simp; omega) KF.size (fun k h1 h2 => KF.block k h1 (fun e => by have := geB h2; omega))
              have hd2 := hrow.done (fun k hk => by simp; omega) (f := 6) (n := 0) (hd := false) (nm := { data := #[] }) (la := none) (lc := 0) (ls := []) (Or.inl rfl) (fun _ => rfl) (Nat.le_refl _) (by omega)
              exact hd2.sub (fun k hk => oldB_new (by have := geB hk; omega))
            · repeat (refine RR.setNew ?_ (by simp only; omega) _)
              exact HRR.out
            · repeat (refine Kept.setNew ?_ (by simp only; omega) _)
              exact HKR.out
        | false =>
          have zlt : ¬ (ts.length : Int) < 2 := by
            intro h
            exact hgo ⟨rfl, by omega⟩
          clear hgo
          go_wp2
          refine bodyPost_ret (v := .agg #[.int .i64 6, .int .i64 0, .bool false, .string { data := #[] }, .slice none 0 0, .slice a' ts.length cap']) (by simp [results, Tryz.results43, go_sem, y0, y1, y2, y3, y4, y5]) rfl ⟨_, .mk 6 0 false { data := #[] } [] ts, r, false, n2, rfl, ⟨_, _, _, _, _, _, _, _, _, _, rfl⟩, ?_, ?_, ?_, by simpa using HE.out⟩
          · have KF := keep6 (P := fun k => k = w.heap.size) (w := wr) (b := w.heap.size) (a0 := .int .i64 6) (a1 := .int .i64 0) (a2 := .bool false) (a3 := .string { data := #[] }) (a4 := .slice none 0 0) (a5 := .slice a' ts.length cap') rfl
            have hrow := HROW.out.move (fun k hk => by simp; omega) KF.size (fun k h1 h2 => KF.block k h1 (fun e => by have := geB h2; omega))
            have hd2 := hrow.done (fun k hk => by simp; omega) (f := 6) (n := 0) (hd := false) (nm := { data := #[] }) (la := none) (lc := 0) (ls := []) (Or.inl rfl) (fun _ => rfl) (Nat.le_refl _) (by omega)
            exact hd2.sub (fun k hk => oldB_new (by have := geB hk; omega))
          · repeat (refine RR.setNew ?_ (by simp only; omega) _)
            exact HRR.out
          · repeat (refine Kept.setNew ?_ (by simp only; omega) _)
            exact HKR.out
  · obtain rfl : k = 3 := by rw [← hk]; decide
    have HM : Hid (m = 7) := by have := HF.out; unfold Hid; omega
    clear hk hk0
    have HTS := HT2
    have HXS := HX2
    have HRS := HR2
    have HKS := HK2
    have HKI : Hid (KidAt P (pterm d') 7 false 3 [] r1 false (n + 1)) := by
      have h := kid_start HPE.out HQN.out hn0 (k := 3) (h := false) (r2 := r1) (bad := false) (by rw [HF.out]; decide) (Or.inl ⟨rfl, by rw [HM.out]; rfl⟩)
      rw [HF.out] at h
      exact h
    clear HPE HQN HT2 HX2 HR2 HK2
    go_wp2
    obtain ⟨B, hB⟩ : ∃ B, W2.heap.size = B := ⟨_, rfl⟩
    have hTB : Tb < B := by rw [← hB]; exact heap_lt HTS.out
    go_loopw [10] (fun i wr => ∃ (ts : List Tm) (r : List UInt8) (bad : Bool) (n2 : Nat) (a' : Option Addr) (cap' : Nat), i = .int .i64 (ts.length : Int) ∧ RowF wr B (fun k => decide (k < B)) a' cap' ts ∧ wr.heap[Tb]? = some (.cells #[.int .i64 7, .int .i64 0, .bool false, .string { data := #[] }, .slice none 0 0, .slice a' ts.length cap'] 38 (0, 0)) ∧ wr.heap[w.heap.size]? = some (.cells #[.int .i64 0, .int .i64 0, .bool false, .string { data := #[] }, .slice none 0 0, .slice none 0 0] 38 (0, 0)) ∧ RR wr N rb a cap all r bad n2 ∧ Kept (fun k => k = rb) w wr ∧ B ≤ wr.heap.size ∧ KidAt P (pterm d') 7 false 3 ts r bad n2) (fun i _ => 3 - (intOf i).toNat)
    case atStart => exact ⟨[], r1, false, n + 1, none, 0, rfl, RowF.nil _ _ _, HTS.out, HXS.out, HRS.out, HKS.out, by omega, HKI.out⟩
    case round =>
      obtain ⟨ts, r, bad, n2, a', cap', rfl, hrow, hTr1, hXr1, hRr, hkr, hBr, hka⟩ := hrel
      have HROW := Hid.mk hrow
      have HTR := Hid.mk hTr1
      have HXR := Hid.mk hXr1
      have HRR := Hid.mk hRr
      have HKR := Hid.mk hkr
      have HKAT := Hid.mk hka
      have hszr := hkr.size
      obtain ⟨t0, t1, t2, t3, t4, t5, t6⟩ := cells6 HTR.out
      obtain ⟨y0, y1, y2, y3, y4, y5, y6⟩ := cells6 HXR.out
      have yf := frz6 HXR.out
      obtain ⟨p9, -, hh9⟩ := HRR.out.2.2.2.2.2.2.2
      obtain ⟨c0, c1, c2, c3, cl, cf⟩ := cellsR hh9
      clear hrow hTr1 hXr1 hRr hkr hka hh9
      by_cases hgo : bad = false ∧ ts.length < 3
      · obtain ⟨rfl, hlt⟩ := hgo
        have hn2 : n2 ≤ 20000 := by
          rcases HKAT.out with ⟨-, -, -, h, -⟩ | ⟨h, -⟩
          · exact h
          · cases h
        have zlt : (ts.length : Int) < 3 := by omega
        have HCALL := HREC r n2 (high + 1) wr.drew (HRR.out.on (Below.refl _ _).drew) hn2 (by have := HHI.out; omega)
        have hwr : IntKind.i64.wrap (high + 1) = high + 1 := by rw [IntKind.wrap_i64]; omega
        rw [← hwr] at HCALL
        clear hwr
        go_wp2_with fail
        refine wp_region_last (S := fun w' => w'.cell? ⟨Tb, 5, none⟩ = some (.slice a' ts.length cap')) 9 mx ?_ (fun hHeld => ?_)
        · (try dsimp only)
          exact t5
        refine wpAnyL_take (i := 0) (v := ?_) rfl (by kernel_rfl) (by kernel_rfl) (by kernel_rfl) (by kernel_rfl) (fun _ _ _ h => h) (Or.inl ⟨by rfl, ?_⟩) (by assumption) ?_
        rotate_left
        · (intro w hSw; (try dsimp only at hSw); go_simp; (try with_reducible rfl))
        refine wpAnyL_take (i := 1) (v := ?_) rfl (by kernel_rfl) (by kernel_rfl) (by kernel_rfl) (by kernel_rfl) (fun _ _ _ h => h) (Or.inl ⟨by rfl, ?_⟩) (by assumption) ?_
        rotate_left
        · (intro w hSw; (try dsimp only at hSw); go_simp; (try with_reducible rfl))
        refine wpAnyL_take (i := 2) (v := ?_) rfl (by kernel_rfl) (by kernel_rfl) (by kernel_rfl) (by kernel_rfl) (fun _ _ _ h => h) (Or.inl ⟨by rfl, ?_⟩) (by assumption) ?_
        rotate_left
        · (intro w hSw; (try dsimp only at hSw); go_simp; (try with_reducible rfl))
        refine wpAnyL_take (i := 3) (v := ?_) rfl (by kernel_rfl) (by kernel_rfl) (by kernel_rfl) (by kernel_rfl) (fun _ _ _ h => h) (Or.inl ⟨by rfl, ?_⟩) (by assumption) ?_
        rotate_left
        · (intro w hSw; (try dsimp only at hSw); go_simp; (try with_reducible rfl))
        refine wpAnyL_take (i := 4) (v := ?_) rfl (by kernel_rfl) (by kernel_rfl) (by kernel_rfl) (by kernel_rfl) (fun _ _ _ h => h) (Or.inl ⟨by rfl, ?_⟩) (by assumption) ?_
        rotate_left
        · (intro w hSw; (try dsimp only at hSw); go_simp; (try with_reducible rfl))
        refine wpAnyL_one (i := 5) (by kernel_rfl) rfl (fun K hK => ?_)
        go_simp
        go_at_call 43
        refine HCALL.mono ?_
        rintro e w5 ⟨v5, p, r5, bad5, n5, rfl, ⟨u0, u1, u2, u3, q1, q2, q3, s1', s2', s3', rfl⟩, htf5, hR5, hk5, hq5⟩
        have hk5' : Kept (fun k => k = rb) wr w5 := (Kept.of_below (Below.refl _ wr).drew).trans hk5
        have HK5 := Hid.mk hk5'
        have HR5 := Hid.mk hR5
        have HQ5 := Hid.mk hq5
        have hsz5 := hk5'.size
        have HROW5 : Hid (RowF (w5.alloc (.cells #[.int .i64 u0, .int .i64 u1, .bool u2, .string u3, .slice q1 q2 q3, .slice s1' s2' s3'] 38)) B (fun k => decide (k < B)) a' cap' ts) := (HROW.out.move (fun k hk => by simp; omega) hk5'.size fun k h1 h2 => hk5'.block k h1 (by have := geB h2; omega)).move (fun k hk => by simp; omega) (by simp) fun k h1 _ => Below.heap_alloc _ _ _ h1
        obtain ⟨xs, kvs, hown, hkv⟩ := HROW5.out.go
        have hRB : ∀ j, ownB a' j = true → B ≤ j ∧ j < wr.heap.size := fun j hj => by
          obtain ⟨ys, kvs0, hown0, -⟩ := HROW.out.go
          exact row_block hown0 hj
        have HNEW : Hid (TF (w5.alloc (.cells #[.int .i64 u0, .int .i64 u1, .bool u2, .string u3, .slice q1 q2 q3, .slice s1' s2' s3'] 38)) (fun k => decide (k < B) || ownB a' k) (.agg #[.int .i64 u0, .int .i64 u1, .bool u2, .string u3, .slice q1 q2 q3, .slice s1' s2' s3']) p) := htf5.move (by simp) fun j h1 h2 => ⟨by
          have h3 : wr.heap.size ≤ j := oldB_no h2
          have h4 : decide (j < B) = false := by simp; omega
          rw [h4, Bool.false_or]
          cases ho : ownB a' j
          · rfl
          · have := (hRB j ho).2; omega, Below.heap_alloc _ _ _ h1⟩
        have HOWN := Hid.mk hown
        have HKV := Hid.mk hkv
        have HXL : Hid (xs.length = ts.length * 6) := by unfold Hid; rw [hown.1]
        have HNEWS := Hid.mk (World.news_of_block (cs := #[.int .i64 u0, .int .i64 u1, .bool u2, .string u3, .slice q1 q2 q3, .slice s1' s2' s3']) (t := 38) (fr := (0, 0)) (alloc_new w5 (.cells #[.int .i64 u0, .int .i64 u1, .bool u2, .string u3, .slice q1 q2 q3, .slice s1' s2' s3'] 38)))
        have HT5 := Hid.mk (box6 HTR.out hk5' hTr)
        have HX5 := Hid.mk (box6 HXR.out hk5' hXr)
        have k55 := (cells6 HT5.out).2.2.2.2.2.1
        have hT5s : Tb < w5.heap.size := heap_lt HT5.out
        have k56 : (w5.alloc (.cells #[.int .i64 u0, .int .i64 u1, .bool u2, .string u3, .slice q1 q2 q3, .slice s1' s2' s3'] 38)).cell? ⟨Tb, 5, none⟩ = some (.slice a' ts.length cap') := (World.cell?_of_block (a := ⟨Tb, 5, none⟩) (Below.heap_alloc _ _ _ hT5s)).trans k55
        clear hR5 hk5 hk5' hq5 htf5 hown hkv hRB HCALL
        dsimp only
        refine hK.out _ _ ?_ (fun hHeld => ?_)
        · (try dsimp only)
          exact k55
        clear hK K
        refine wpAnyL_one (i := 6) (by kernel_rfl) rfl (fun K hK => ?_)
        go_simp
        refine hK.out _ _ ?_ (fun hHeld => ?_)
        · (try dsimp only)
          exact k56
        clear hK K
        refine wpAnyL_one (i := 7) (by kernel_rfl) rfl (fun K hK => ?_)
        refine step_append_lies _ (by rfl) _ _ _ (by rfl) B 38 i0 _ 6 88 Tryz.underlying36 hi iz0 iz1 iz2 rfl (by decide) (.slice a' ts.length cap') ts.length xs (by rfl) HOWN.out ⟨w5.heap.size, 0, none⟩ 1 1 [.int .i64 u0, .int .i64 u1, .bool u2, .string u3, .slice q1 q2 q3, .slice s1' s2' s3'] (by rfl) (by rfl) HNEWS.out (by simp [Value.oneCell']) (by omega) (by simp [maxLen]; omega) (by omega) (by simp; omega) (w5.heap.size + 1) (by simp) ?_
        intro g7 c7 W7 hown7 hgr7 hat7 hlt7
        have HOWN7 := Hid.mk hown7
        have HGR7 := Hid.mk hgr7
        have HAT7 := Hid.mk hat7
        have HAG : Hid (∀ k, k < B → W7.heap[k]? = w5.heap[k]?) := fun k hk => (hgr7.block k (by simp; omega) (fun e => by have := (World.ownsRow.lt HOWN.out k e.symm).1; omega)).trans (Below.heap_alloc _ _ _ (by omega))
        have hs7 : w5.heap.size ≤ W7.heap.size := by have := hgr7.size; simp at this; omega
        have HT7 := Hid.mk ((HAG.out Tb hTB).trans HT5.out)
        have z75 := (cells6 HT7.out).2.2.2.2.2.1
        have fz7 := frz6 HT7.out
        have hT7s : Tb < W7.heap.size := heap_lt HT7.out
        clear hown7 hgr7 hat7
        refine hK.out _ _ ?_ (fun hHeld => ?_)
        · (try dsimp only)
          exact z75
        clear hK K
        refine wpAnyL_take (i := 8) (v := ?_) rfl (by kernel_rfl) (by kernel_rfl) (by kernel_rfl) (by kernel_rfl) (fun _ _ _ h => h) (Or.inl ⟨by rfl, ?_⟩) (by assumption) ?_
        rotate_left
        · (intro w hSw; (try dsimp only at hSw); go_simp; (try with_reducible rfl))
        refine wpAnyL_last (by kernel_rfl) rfl (by kernel_rfl) (fun K hK => ?_)
        go_simp
        refine hK.out _ _ ?_
        clear hK K
        go_wp2
        have hlen : (ts ++ [p]).length = ts.length + 1 := by simp
        have KZ : Kept (fun k => k = Tb) W7 (W7.setCell ⟨Tb, 5, none⟩ (.slice (some ⟨g7, 0, none⟩) (ts.length + 1) c7)) := (Kept.refl (fun k => k = Tb) W7).setCell (p := ⟨Tb, 5, none⟩) rfl _
        refine ⟨⟨ts ++ [p], r5, bad5, n5, some ⟨g7, 0, none⟩, c7, by rw [hlen]; go_num, ?_, ?_, ?_, ?_, ?_, ?_, kid_step HKAT.out hlt HQ5.out⟩, by simp [intOf]; omega⟩
        · refine RowF.move (w := W7) ?_ (fun k hk => by simp; omega) KZ.size (fun k h1 h2 => KZ.block k h1 (fun e => by have := geB h2; omega))
          exact RowF.snoc (cap := cap') HKV.out HXL.out HOWN7.out HGR7.out (by simpa using HAT7.out) HNEW.out
        · rw [hlen]
          exact set5_heap HT7.out
        · exact (KZ.block _ (by omega) (by omega)).trans ((HAG.out _ (by omega)).trans HX5.out)
        · exact HR5.out.move (Nat.le_trans hs7 KZ.size) fun k hk => (KZ.block _ (by omega) (by omega)).trans (HAG.out _ (by omega))
        · exact ⟨HGR7.out.os.trans (HK5.out.os.trans HKR.out.os), HGR7.out.tape.trans (HK5.out.tape.trans HKR.out.tape), HGR7.out.output.trans (HK5.out.output.trans HKR.out.output), by have := KZ.size; omega, fun k h1 h2 => (KZ.block _ (by omega) (by omega)).trans ((HAG.out _ (by omega)).trans ((HK5.out.block _ (by omega) h2).trans (HKR.out.block _ h1 h2)))⟩
        · have := KZ.size; omega
      · have HE := Hid.mk (kid_end HKAT.out (by omega) (by cases bad with | true => exact Or.inl rfl | false => exact Or.inr fun h => hgo ⟨rfl, h⟩))
        cases bad with
        | true =>
          clear hgo
          by_cases hlt : ts.length < 3
          · have zlt : (ts.length : Int) < 3 := by omega
            go_wp2
            refine bodyPost_ret (v := .agg #[.int .i64 7, .int .i64 0, .bool false, .string { data := #[] }, .slice none 0 0, .slice a' ts.length cap']) (by simp [results, Tryz.results43, go_sem, y0, y1, y2, y3, y4, y5]) rfl ⟨_, .mk 7 0 false { data := #[] } [] ts, r, true, n2, rfl, ⟨_, _, _, _, _, _, _, _, _, _, rfl⟩, ?_, ?_, ?_, by simpa using HE.out⟩
            · have KF := keep6 (P := fun k => k = w.heap.size) (w := wr) (b := w.heap.size) (a0 := .int .i64 7) (a1 := .int .i64 0) (a2 := .bool false) (a3 := .string { data := #[] }) (a4 := .slice none 0 0) (a5 := .slice a' ts.length cap') rfl
              have hrow := HROW.out.move (fun k hk => by simp; omega) KF.size (fun k h1 h2 => KF.block k h1 (fun e => by have := geB h2; omega))
              have hd2 := hrow.done (fun k hk => by simp; omega) (f := 7) (n := 0) (hd := false) (nm := { data := #[] }) (la := none) (lc := 0) (ls := []) (Or.inl rfl) (fun _ => rfl) (Nat.le_refl _) (by omega)
              exact hd2.sub (fun k hk => oldB_new (by have := geB hk; omega))
            · repeat (refine RR.setNew ?_ (by simp only; omega) _)
              exact HRR.out
            · repeat (refine Kept.setNew ?_ (by simp only; omega) _)
              exact HKR.out
          · have zlt : ¬ (ts.length : Int) < 3 := by omega
            go_wp2
            refine bodyPost_ret (v := .agg #[.int .i64 7, .int .i64 0, .bool false, .string { data := #[] }, .slice none 0 0, .slice a' ts.length cap']) (by simp [results, Tryz.results43, go_sem, y0, y1, y2, y3, y4, y5]) rfl ⟨_, .mk 7 0 false { data := #[] } [] ts, r, true, n2, rfl, ⟨_, _, _, _, _, _, _, _, _, _, rfl⟩, ?_, ?_, ?_, by simpa using HE.out⟩
            · have KF := keep6 (P := fun k => k = w.heap.size) (w := wr) (b := w.heap.size) (a0 := .int .i64 7) (a1 := .int .i64 0) (a2 := .bool false) (a3 := .string { data := #[] }) (a4 := .slice none 0 0) (a5 := .slice a' ts.length cap') rfl
              have hrow := HROW.out.move (fun k hk => by simp; omega) KF.size (fun k h1 h2 => KF.block k h1 (fun e => by have := geB h2; omega))
              have hd2 := hrow.done (fun k hk => by simp; omega) (f := 7) (n := 0) (hd := false) (nm := { data := #[] }) (la := none) (lc := 0) (ls := []) (Or.inl rfl) (fun _ => rfl) (Nat.le_refl _) (by omega)
              exact hd2.sub (fun k hk => oldB_new (by have := geB hk; omega))
            · repeat (refine RR.setNew ?_ (by simp only; omega) _)
              exact HRR.out
            · repeat (refine Kept.setNew ?_ (by simp only; omega) _)
              exact HKR.out
        | false =>
          have zlt : ¬ (ts.length : Int) < 3 := by
            intro h
            exact hgo ⟨rfl, by omega⟩
          clear hgo
          go_wp2
          refine bodyPost_ret (v := .agg #[.int .i64 7, .int .i64 0, .bool false, .string { data := #[] }, .slice none 0 0, .slice a' ts.length cap']) (by simp [results, Tryz.results43, go_sem, y0, y1, y2, y3, y4, y5]) rfl ⟨_, .mk 7 0 false { data := #[] } [] ts, r, false, n2, rfl, ⟨_, _, _, _, _, _, _, _, _, _, rfl⟩, ?_, ?_, ?_, by simpa using HE.out⟩
          · have KF := keep6 (P := fun k => k = w.heap.size) (w := wr) (b := w.heap.size) (a0 := .int .i64 7) (a1 := .int .i64 0) (a2 := .bool false) (a3 := .string { data := #[] }) (a4 := .slice none 0 0) (a5 := .slice a' ts.length cap') rfl
            have hrow := HROW.out.move (fun k hk => by simp; omega) KF.size (fun k h1 h2 => KF.block k h1 (fun e => by have := geB h2; omega))
            have hd2 := hrow.done (fun k hk => by simp; omega) (f := 7) (n := 0) (hd := false) (nm := { data := #[] }) (la := none) (lc := 0) (ls := []) (Or.inl rfl) (fun _ => rfl) (Nat.le_refl _) (by omega)
            exact hd2.sub (fun k hk => oldB_new (by have := geB hk; omega))
          · repeat (refine RR.setNew ?_ (by simp only; omega) _)
            exact HRR.out
          · repeat (refine Kept.setNew ?_ (by simp only; omega) _)
            exact HKR.out
  · obtain rfl : k = 1 := by rw [← hk]; decide
    have HM : Hid (m = 8) := by have := HF.out; unfold Hid; omega
    clear hk hk0
    have HTS := HT2
    have HXS := HX2
    have HRS := HR2
    have HKS := HK2
    have HKI : Hid (KidAt P (pterm d') 8 false 1 [] r1 false (n + 1)) := by
      have h := kid_start HPE.out HQN.out hn0 (k := 1) (h := false) (r2 := r1) (bad := false) (by rw [HF.out]; decide) (Or.inl ⟨rfl, by rw [HM.out]; rfl⟩)
      rw [HF.out] at h
      exact h
    clear HPE HQN HT2 HX2 HR2 HK2
    go_wp2
    obtain ⟨B, hB⟩ : ∃ B, W2.heap.size = B := ⟨_, rfl⟩
    have hTB : Tb < B := by rw [← hB]; exact heap_lt HTS.out
    go_loopw [10] (fun i wr => ∃ (ts : List Tm) (r : List UInt8) (bad : Bool) (n2 : Nat) (a' : Option Addr) (cap' : Nat), i = .int .i64 (ts.length : Int) ∧ RowF wr B (fun k => decide (k < B)) a' cap' ts ∧ wr.heap[Tb]? = some (.cells #[.int .i64 8, .int .i64 0, .bool false, .string { data := #[] }, .slice none 0 0, .slice a' ts.length cap'] 38 (0, 0)) ∧ wr.heap[w.heap.size]? = some (.cells #[.int .i64 0, .int .i64 0, .bool false, .string { data := #[] }, .slice none 0 0, .slice none 0 0] 38 (0, 0)) ∧ RR wr N rb a cap all r bad n2 ∧ Kept (fun k => k = rb) w wr ∧ B ≤ wr.heap.size ∧ KidAt P (pterm d') 8 false 1 ts r bad n2) (fun i _ => 1 - (intOf i).toNat)
    case atStart => exact ⟨[], r1, false, n + 1, none, 0, rfl, RowF.nil _ _ _, HTS.out, HXS.out, HRS.out, HKS.out, by omega, HKI.out⟩
    case round =>
      obtain ⟨ts, r, bad, n2, a', cap', rfl, hrow, hTr1, hXr1, hRr, hkr, hBr, hka⟩ := hrel
      have HROW := Hid.mk hrow
      have HTR := Hid.mk hTr1
      have HXR := Hid.mk hXr1
      have HRR := Hid.mk hRr
      have HKR := Hid.mk hkr
      have HKAT := Hid.mk hka
      have hszr := hkr.size
      obtain ⟨t0, t1, t2, t3, t4, t5, t6⟩ := cells6 HTR.out
      obtain ⟨y0, y1, y2, y3, y4, y5, y6⟩ := cells6 HXR.out
      have yf := frz6 HXR.out
      obtain ⟨p9, -, hh9⟩ := HRR.out.2.2.2.2.2.2.2
      obtain ⟨c0, c1, c2, c3, cl, cf⟩ := cellsR hh9
      clear hrow hTr1 hXr1 hRr hkr hka hh9
      by_cases hgo : bad = false ∧ ts.length < 1
      · obtain ⟨rfl, hlt⟩ := hgo
        have hn2 : n2 ≤ 20000 := by
          rcases HKAT.out with ⟨-, -, -, h, -⟩ | ⟨h, -⟩
          · exact h
          · cases h
        have zlt : (ts.length : Int) < 1 := by omega
        have HCALL := HREC r n2 (high + 1) wr.drew (HRR.out.on (Below.refl _ _).drew) hn2 (by have := HHI.out; omega)
        have hwr : IntKind.i64.wrap (high + 1) = high + 1 := by rw [IntKind.wrap_i64]; omega
        rw [← hwr] at HCALL
        clear hwr
        go_wp2_with fail
        refine wp_region_last (S := fun w' => w'.cell? ⟨Tb, 5, none⟩ = some (.slice a' ts.length cap')) 9 mx ?_ (fun hHeld => ?_)
        · (try dsimp only)
          exact t5
        refine wpAnyL_take (i := 0) (v := ?_) rfl (by kernel_rfl) (by kernel_rfl) (by kernel_rfl) (by kernel_rfl) (fun _ _ _ h => h) (Or.inl ⟨by rfl, ?_⟩) (by assumption) ?_
        rotate_left
        · (intro w hSw; (try dsimp only at hSw); go_simp; (try with_reducible rfl))
        refine wpAnyL_take (i := 1) (v := ?_) rfl (by kernel_rfl) (by kernel_rfl) (by kernel_rfl) (by kernel_rfl) (fun _ _ _ h => h) (Or.inl ⟨by rfl, ?_⟩) (by assumption) ?_
        rotate_left
        · (intro w hSw; (try dsimp only at hSw); go_simp; (try with_reducible rfl))
        refine wpAnyL_take (i := 2) (v := ?_) rfl (by kernel_rfl) (by kernel_rfl) (by kernel_rfl) (by kernel_rfl) (fun _ _ _ h => h) (Or.inl ⟨by rfl, ?_⟩) (by assumption) ?_
        rotate_left
        · (intro w hSw; (try dsimp only at hSw); go_simp; (try with_reducible rfl))
        refine wpAnyL_take (i := 3) (v := ?_) rfl (by kernel_rfl) (by kernel_rfl) (by kernel_rfl) (by kernel_rfl) (fun _ _ _ h => h) (Or.inl ⟨by rfl, ?_⟩) (by assumption) ?_
        rotate_left
        · (intro w hSw; (try dsimp only at hSw); go_simp; (try with_reducible rfl))
        refine wpAnyL_take (i := 4) (v := ?_) rfl (by kernel_rfl) (by kernel_rfl) (by kernel_rfl) (by kernel_rfl) (fun _ _ _ h => h) (Or.inl ⟨by rfl, ?_⟩) (by assumption) ?_
        rotate_left
        · (intro w hSw; (try dsimp only at hSw); go_simp; (try with_reducible rfl))
        refine wpAnyL_one (i := 5) (by kernel_rfl) rfl (fun K hK => ?_)
        go_simp
        go_at_call 43
        refine HCALL.mono ?_
        rintro e w5 ⟨v5, p, r5, bad5, n5, rfl, ⟨u0, u1, u2, u3, q1, q2, q3, s1', s2', s3', rfl⟩, htf5, hR5, hk5, hq5⟩
        have hk5' : Kept (fun k => k = rb) wr w5 := (Kept.of_below (Below.refl _ wr).drew).trans hk5
        have HK5 := Hid.mk hk5'
        have HR5 := Hid.mk hR5
        have HQ5 := Hid.mk hq5
        have hsz5 := hk5'.size
        have HROW5 : Hid (RowF (w5.alloc (.cells #[.int .i64 u0, .int .i64 u1, .bool u2, .string u3, .slice q1 q2 q3, .slice s1' s2' s3'] 38)) B (fun k => decide (k < B)) a' cap' ts) := (HROW.out.move (fun k hk => by simp; omega) hk5'.size fun k h1 h2 => hk5'.block k h1 (by have := geB h2; omega)).move (fun k hk => by simp; omega) (by simp) fun k h1 _ => Below.heap_alloc _ _ _ h1
        obtain ⟨xs, kvs, hown, hkv⟩ := HROW5.out.go
        have hRB : ∀ j, ownB a' j = true → B ≤ j ∧ j < wr.heap.size := fun j hj => by
          obtain ⟨ys, kvs0, hown0, -⟩ := HROW.out.go
          exact row_block hown0 hj
        have HNEW : Hid (TF (w5.alloc (.cells #[.int .i64 u0, .int .i64 u1, .bool u2, .string u3, .slice q1 q2 q3, .slice s1' s2' s3'] 38)) (fun k => decide (k < B) || ownB a' k) (.agg #[.int .i64 u0, .int .i64 u1, .bool u2, .string u3, .slice q1 q2 q3, .slice s1' s2' s3']) p) := htf5.move (by simp) fun j h1 h2 => ⟨by
          have h3 : wr.heap.size ≤ j := oldB_no h2
          have h4 : decide (j < B) = false := by simp; omega
          rw [h4, Bool.false_or]
          cases ho : ownB a' j
          · rfl
          · have := (hRB j ho).2; omega, Below.heap_alloc _ _ _ h1⟩
        have HOWN := Hid.mk hown
        have HKV := Hid.mk hkv
        have HXL : Hid (xs.length = ts.length * 6) := by unfold Hid; rw [hown.1]
        have HNEWS := Hid.mk (World.news_of_block (cs := #[.int .i64 u0, .int .i64 u1, .bool u2, .string u3, .slice q1 q2 q3, .slice s1' s2' s3']) (t := 38) (fr := (0, 0)) (alloc_new w5 (.cells #[.int .i64 u0, .int .i64 u1, .bool u2, .string u3, .slice q1 q2 q3, .slice s1' s2' s3'] 38)))
        have HT5 := Hid.mk (box6 HTR.out hk5' hTr)
        have HX5 := Hid.mk (box6 HXR.out hk5' hXr)
        have k55 := (cells6 HT5.out).2.2.2.2.2.1
        have hT5s : Tb < w5.heap.size := heap_lt HT5.out
        have k56 : (w5.alloc (.cells #[.int .i64 u0, .int .i64 u1, .bool u2, .string u3, .slice q1 q2 q3, .slice s1' s2' s3'] 38)).cell? ⟨Tb, 5, none⟩ = some (.slice a' ts.length cap') := (World.cell?_of_block (a := ⟨Tb, 5, none⟩) (Below.heap_alloc _ _ _ hT5s)).trans k55
        clear hR5 hk5 hk5' hq5 htf5 hown hkv hRB HCALL
        dsimp only
        refine hK.out _ _ ?_ (fun hHeld => ?_)
        · (try dsimp only)
          exact k55
        clear hK K
        refine wpAnyL_one (i := 6) (by kernel_rfl) rfl (fun K hK => ?_)
        go_simp
        refine hK.out _ _ ?_ (fun hHeld => ?_)
        · (try dsimp only)
          exact k56
        clear hK K
        refine wpAnyL_one (i := 7) (by kernel_rfl) rfl (fun K hK => ?_)
        refine step_append_lies _ (by rfl) _ _ _ (by rfl) B 38 i0 _ 6 88 Tryz.underlying36 hi iz0 iz1 iz2 rfl (by decide) (.slice a' ts.length cap') ts.length xs (by rfl) HOWN.out ⟨w5.heap.size, 0, none⟩ 1 1 [.int .i64 u0, .int .i64 u1, .bool u2, .string u3, .slice q1 q2 q3, .slice s1' s2' s3'] (by rfl) (by rfl) HNEWS.out (by simp [Value.oneCell']) (by omega) (by simp [maxLen]; omega) (by omega) (by simp; omega) (w5.heap.size + 1) (by simp) ?_
        intro g7 c7 W7 hown7 hgr7 hat7 hlt7
        have HOWN7 := Hid.mk hown7
        have HGR7 := Hid.mk hgr7
        have HAT7 := Hid.mk hat7
        have HAG : Hid (∀ k, k < B → W7.heap[k]? = w5.heap[k]?) := fun k hk => (hgr7.block k (by simp; omega) (fun e => by have := (World.ownsRow.lt HOWN.out k e.symm).1; omega)).trans (Below.heap_alloc _ _ _ (by omega))
        have hs7 : w5.heap.size ≤ W7.heap.size := by have := hgr7.size; simp at this; omega
        have HT7 := Hid.mk ((HAG.out Tb hTB).trans HT5.out)
        have z75 := (cells6 HT7.out).2.2.2.2.2.1
        have fz7 := frz6 HT7.out
        have hT7s : Tb < W7.heap.size := heap_lt HT7.out
        clear hown7 hgr7 hat7
        refine hK.out _ _ ?_ (fun hHeld => ?_)
        · (try dsimp only)
          exact z75
        clear hK K
        refine wpAnyL_take (i := 8) (v := ?_) rfl (by kernel_rfl) (by kernel_rfl) (by kernel_rfl) (by kernel_rfl) (fun _ _ _ h => h) (Or.inl ⟨by rfl, ?_⟩) (by assumption) ?_
        rotate_left
        · (intro w hSw; (try dsimp only at hSw); go_simp; (try with_reducible rfl))
        refine wpAnyL_last (by kernel_rfl) rfl (by kernel_rfl) (fun K hK => ?_)
        go_simp
        refine hK.out _ _ ?_
        clear hK K
        go_wp2
        have hlen : (ts ++ [p]).length = ts.length + 1 := by simp
        have KZ : Kept (fun k => k = Tb) W7 (W7.setCell ⟨Tb, 5, none⟩ (.slice (some ⟨g7, 0, none⟩) (ts.length + 1) c7)) := (Kept.refl (fun k => k = Tb) W7).setCell (p := ⟨Tb, 5, none⟩) rfl _
        refine ⟨⟨ts ++ [p], r5, bad5, n5, some ⟨g7, 0, none⟩, c7, by rw [hlen]; go_num, ?_, ?_, ?_, ?_, ?_, ?_, kid_step HKAT.out hlt HQ5.out⟩, by simp [intOf]; omega⟩
        · refine RowF.move (w := W7) ?_ (fun k hk => by simp; omega) KZ.size (fun k h1 h2 => KZ.block k h1 (fun e => by have := geB h2; omega))
          exact RowF.snoc (cap := cap') HKV.out HXL.out HOWN7.out HGR7.out (by simpa using HAT7.out) HNEW.out
        · rw [hlen]
          exact set5_heap HT7.out
        · exact (KZ.block _ (by omega) (by omega)).trans ((HAG.out _ (by omega)).trans HX5.out)
        · exact HR5.out.move (Nat.le_trans hs7 KZ.size) fun k hk => (KZ.block _ (by omega) (by omega)).trans (HAG.out _ (by omega))
        · exact ⟨HGR7.out.os.trans (HK5.out.os.trans HKR.out.os), HGR7.out.tape.trans (HK5.out.tape.trans HKR.out.tape), HGR7.out.output.trans (HK5.out.output.trans HKR.out.output), by have := KZ.size; omega, fun k h1 h2 => (KZ.block _ (by omega) (by omega)).trans ((HAG.out _ (by omega)).trans ((HK5.out.block _ (by omega) h2).trans (HKR.out.block _ h1 h2)))⟩
        · have := KZ.size; omega
      · have HE := Hid.mk (kid_end HKAT.out (by omega) (by cases bad with | true => exact Or.inl rfl | false => exact Or.inr fun h => hgo ⟨rfl, h⟩))
        cases bad with
        | true =>
          clear hgo
          by_cases hlt : ts.length < 1
          · have zlt : (ts.length : Int) < 1 := by omega
            go_wp2
            refine bodyPost_ret (v := .agg #[.int .i64 8, .int .i64 0, .bool false, .string { data := #[] }, .slice none 0 0, .slice a' ts.length cap']) (by simp [results, Tryz.results43, go_sem, y0, y1, y2, y3, y4, y5]) rfl ⟨_, .mk 8 0 false { data := #[] } [] ts, r, true, n2, rfl, ⟨_, _, _, _, _, _, _, _, _, _, rfl⟩, ?_, ?_, ?_, by simpa using HE.out⟩
            · have KF := keep6 (P := fun k => k = w.heap.size) (w := wr) (b := w.heap.size) (a0 := .int .i64 8) (a1 := .int .i64 0) (a2 := .bool false) (a3 := .string { data := #[] }) (a4 := .slice none 0 0) (a5 := .slice a' ts.length cap') rfl
              have hrow := HROW.out.move (fun k hk => by simp; omega) KF.size (fun k h1 h2 => KF.block k h1 (fun e => by have := geB h2; omega))
              have hd2 := hrow.done (fun k hk => by simp; omega) (f := 8) (n := 0) (hd := false) (nm := { data := #[] }) (la := none) (lc := 0) (ls := []) (Or.inl rfl) (fun _ => rfl) (Nat.le_refl _) (by omega)
              exact hd2.sub (fun k hk => oldB_new (by have := geB hk; omega))
            · repeat (refine RR.setNew ?_ (by simp only; omega) _)
              exact HRR.out
            · repeat (refine Kept.setNew ?_ (by simp only; omega) _)
              exact HKR.out
          · have zlt : ¬ (ts.length : Int) < 1 := by omega
            go_wp2
            refine bodyPost_ret (v := .agg #[.int .i64 8, .int .i64 0, .bool false, .string { data := #[] }, .slice none 0 0, .slice a' ts.length cap']) (by simp [results, Tryz.results43, go_sem, y0, y1, y2, y3, y4, y5]) rfl ⟨_, .mk 8 0 false { data := #[] } [] ts, r, true, n2, rfl, ⟨_, _, _, _, _, _, _, _, _, _, rfl⟩, ?_, ?_, ?_, by simpa using HE.out⟩
            · have KF := keep6 (P := fun k => k = w.heap.size) (w := wr) (b := w.heap.size) (a0 := .int .i64 8) (a1 := .int .i64 0) (a2 := .bool false) (a3 := .string { data := #[] }) (a4 := .slice none 0 0) (a5 := .slice a' ts.length cap') rfl
              have hrow := HROW.out.move (fun k hk => by simp; omega) KF.size (fun k h1 h2 => KF.block k h1 (fun e => by have := geB h2; omega))
              have hd2 := hrow.done (fun k hk => by simp; omega) (f := 8) (n := 0) (hd := false) (nm := { data := #[] }) (la := none) (lc := 0) (ls := []) (Or.inl rfl) (fun _ => rfl) (Nat.le_refl _) (by omega)
              exact hd2.sub (fun k hk => oldB_new (by have := geB hk; omega))
            · repeat (refine RR.setNew ?_ (by simp only; omega) _)
              exact HRR.out
            · repeat (refine Kept.setNew ?_ (by simp only; omega) _)
              exact HKR.out
        | false =>
          have zlt : ¬ (ts.length : Int) < 1 := by
            intro h
            exact hgo ⟨rfl, by omega⟩
          clear hgo
          go_wp2
          refine bodyPost_ret (v := .agg #[.int .i64 8, .int .i64 0, .bool false, .string { data := #[] }, .slice none 0 0, .slice a' ts.length cap']) (by simp [results, Tryz.results43, go_sem, y0, y1, y2, y3, y4, y5]) rfl ⟨_, .mk 8 0 false { data := #[] } [] ts, r, false, n2, rfl, ⟨_, _, _, _, _, _, _, _, _, _, rfl⟩, ?_, ?_, ?_, by simpa using HE.out⟩
          · have KF := keep6 (P := fun k => k = w.heap.size) (w := wr) (b := w.heap.size) (a0 := .int .i64 8) (a1 := .int .i64 0) (a2 := .bool false) (a3 := .string { data := #[] }) (a4 := .slice none 0 0) (a5 := .slice a' ts.length cap') rfl
            have hrow := HROW.out.move (fun k hk => by simp; omega) KF.size (fun k h1 h2 => KF.block k h1 (fun e => by have := geB h2; omega))
            have hd2 := hrow.done (fun k hk => by simp; omega) (f := 8) (n := 0) (hd := false) (nm := { data := #[] }) (la := none) (lc := 0) (ls := []) (Or.inl rfl) (fun _ => rfl) (Nat.le_refl _) (by omega)
            exact hd2.sub (fun k hk => oldB_new (by have := geB hk; omega))
          · repeat (refine RR.setNew ?_ (by simp only; omega) _)
            exact HRR.out
          · repeat (refine Kept.setNew ?_ (by simp only; omega) _)
            exact HKR.out
  · obtain rfl : k = 1 := by rw [← hk]; decide
    have HM : Hid (m = 9) := by have := HF.out; unfold Hid; omega
    clear hk hk0
    have HTS := HT2
    have HXS := HX2
    have HRS := HR2
    have HKS := HK2
    have HKI : Hid (KidAt P (pterm d') 9 false 1 [] r1 false (n + 1)) := by
      have h := kid_start HPE.out HQN.out hn0 (k := 1) (h := false) (r2 := r1) (bad := false) (by rw [HF.out]; decide) (Or.inl ⟨rfl, by rw [HM.out]; rfl⟩)
      rw [HF.out] at h
      exact h
    clear HPE HQN HT2 HX2 HR2 HK2
    go_wp2
    obtain ⟨B, hB⟩ : ∃ B, W2.heap.size = B := ⟨_, rfl⟩
    have hTB : Tb < B := by rw [← hB]; exact heap_lt HTS.out
    go_loopw [10] (fun i wr => ∃ (ts : List Tm) (r : List UInt8) (bad : Bool) (n2 : Nat) (a' : Option Addr) (cap' : Nat), i = .int .i64 (ts.length : Int) ∧ RowF wr B (fun k => decide (k < B)) a' cap' ts ∧ wr.heap[Tb]? = some (.cells #[.int .i64 9, .int .i64 0, .bool false, .string { data := #[] }, .slice none 0 0, .slice a' ts.length cap'] 38 (0, 0)) ∧ wr.heap[w.heap.size]? = some (.cells #[.int .i64 0, .int .i64 0, .bool false, .string { data := #[] }, .slice none 0 0, .slice none 0 0] 38 (0, 0)) ∧ RR wr N rb a cap all r bad n2 ∧ Kept (fun k => k = rb) w wr ∧ B ≤ wr.heap.size ∧ KidAt P (pterm d') 9 false 1 ts r bad n2) (fun i _ => 1 - (intOf i).toNat)
    case atStart => exact ⟨[], r1, false, n + 1, none, 0, rfl, RowF.nil _ _ _, HTS.out, HXS.out, HRS.out, HKS.out, by omega, HKI.out⟩
    case round =>
      obtain ⟨ts, r, bad, n2, a', cap', rfl, hrow, hTr1, hXr1, hRr, hkr, hBr, hka⟩ := hrel
      have HROW := Hid.mk hrow
      have HTR := Hid.mk hTr1
      have HXR := Hid.mk hXr1
      have HRR := Hid.mk hRr
      have HKR := Hid.mk hkr
      have HKAT := Hid.mk hka
      have hszr := hkr.size
      obtain ⟨t0, t1, t2, t3, t4, t5, t6⟩ := cells6 HTR.out
      obtain ⟨y0, y1, y2, y3, y4, y5, y6⟩ := cells6 HXR.out
      have yf := frz6 HXR.out
      obtain ⟨p9, -, hh9⟩ := HRR.out.2.2.2.2.2.2.2
      obtain ⟨c0, c1, c2, c3, cl, cf⟩ := cellsR hh9
      clear hrow hTr1 hXr1 hRr hkr hka hh9
      by_cases hgo : bad = false ∧ ts.length < 1
      · obtain ⟨rfl, hlt⟩ := hgo
        have hn2 : n2 ≤ 20000 := by
          rcases HKAT.out with ⟨-, -, -, h, -⟩ | ⟨h, -⟩
          · exact h
          · cases h
        have zlt : (ts.length : Int) < 1 := by omega
        have HCALL := HREC r n2 (high + 1) wr.drew (HRR.out.on (Below.refl _ _).drew) hn2 (by have := HHI.out; omega)
        have hwr : IntKind.i64.wrap (high + 1) = high + 1 := by rw [IntKind.wrap_i64]; omega
        rw [← hwr] at HCALL
        clear hwr
        go_wp2_with fail
        refine wp_region_last (S := fun w' => w'.cell? ⟨Tb, 5, none⟩ = some (.slice a' ts.length cap')) 9 mx ?_ (fun hHeld => ?_)
        · (try dsimp only)
          exact t5
        refine wpAnyL_take (i := 0) (v := ?_) rfl (by kernel_rfl) (by kernel_rfl) (by kernel_rfl) (by kernel_rfl) (fun _ _ _ h => h) (Or.inl ⟨by rfl, ?_⟩) (by assumption) ?_
        rotate_left
        · (intro w hSw; (try dsimp only at hSw); go_simp; (try with_reducible rfl))
        refine wpAnyL_take (i := 1) (v := ?_) rfl (by kernel_rfl) (by kernel_rfl) (by kernel_rfl) (by kernel_rfl) (fun _ _ _ h => h) (Or.inl ⟨by rfl, ?_⟩) (by assumption) ?_
        rotate_left
        · (intro w hSw; (try dsimp only at hSw); go_simp; (try with_reducible rfl))
        refine wpAnyL_take (i := 2) (v := ?_) rfl (by kernel_rfl) (by kernel_rfl) (by kernel_rfl) (by kernel_rfl) (fun _ _ _ h => h) (Or.inl ⟨by rfl, ?_⟩) (by assumption) ?_
        rotate_left
        · (intro w hSw; (try dsimp only at hSw); go_simp; (try with_reducible rfl))
        refine wpAnyL_take (i := 3) (v := ?_) rfl (by kernel_rfl) (by kernel_rfl) (by kernel_rfl) (by kernel_rfl) (fun _ _ _ h => h) (Or.inl ⟨by rfl, ?_⟩) (by assumption) ?_
        rotate_left
        · (intro w hSw; (try dsimp only at hSw); go_simp; (try with_reducible rfl))
        refine wpAnyL_take (i := 4) (v := ?_) rfl (by kernel_rfl) (by kernel_rfl) (by kernel_rfl) (by kernel_rfl) (fun _ _ _ h => h) (Or.inl ⟨by rfl, ?_⟩) (by assumption) ?_
        rotate_left
        · (intro w hSw; (try dsimp only at hSw); go_simp; (try with_reducible rfl))
        refine wpAnyL_one (i := 5) (by kernel_rfl) rfl (fun K hK => ?_)
        go_simp
        go_at_call 43
        refine HCALL.mono ?_
        rintro e w5 ⟨v5, p, r5, bad5, n5, rfl, ⟨u0, u1, u2, u3, q1, q2, q3, s1', s2', s3', rfl⟩, htf5, hR5, hk5, hq5⟩
        have hk5' : Kept (fun k => k = rb) wr w5 := (Kept.of_below (Below.refl _ wr).drew).trans hk5
        have HK5 := Hid.mk hk5'
        have HR5 := Hid.mk hR5
        have HQ5 := Hid.mk hq5
        have hsz5 := hk5'.size
        have HROW5 : Hid (RowF (w5.alloc (.cells #[.int .i64 u0, .int .i64 u1, .bool u2, .string u3, .slice q1 q2 q3, .slice s1' s2' s3'] 38)) B (fun k => decide (k < B)) a' cap' ts) := (HROW.out.move (fun k hk => by simp; omega) hk5'.size fun k h1 h2 => hk5'.block k h1 (by have := geB h2; omega)).move (fun k hk => by simp; omega) (by simp) fun k h1 _ => Below.heap_alloc _ _ _ h1
        obtain ⟨xs, kvs, hown, hkv⟩ := HROW5.out.go
        have hRB : ∀ j, ownB a' j = true → B ≤ j ∧ j < wr.heap.size := fun j hj => by
          obtain ⟨ys, kvs0, hown0, -⟩ := HROW.out.go
          exact row_block hown0 hj
        have HNEW : Hid (TF (w5.alloc (.cells #[.int .i64 u0, .int .i64 u1, .bool u2, .string u3, .slice q1 q2 q3, .slice s1' s2' s3'] 38)) (fun k => decide (k < B) || ownB a' k) (.agg #[.int .i64 u0, .int .i64 u1, .bool u2, .string u3, .slice q1 q2 q3, .slice s1' s2' s3']) p) := htf5.move (by simp) fun j h1 h2 => ⟨by
          have h3 : wr.heap.size ≤ j := oldB_no h2
          have h4 : decide (j < B) = false := by simp; omega
          rw [h4, Bool.false_or]
          cases ho : ownB a' j
          · rfl
          · have := (hRB j ho).2; omega, Below.heap_alloc _ _ _ h1⟩
        have HOWN := Hid.mk hown
        have HKV := Hid.mk hkv
        have HXL : Hid (xs.length = ts.length * 6) := by unfold Hid; rw [hown.1]
        have HNEWS := Hid.mk (World.news_of_block (cs := #[.int .i64 u0, .int .i64 u1, .bool u2, .string u3, .slice q1 q2 q3, .slice s1' s2' s3']) (t := 38) (fr := (0, 0)) (alloc_new w5 (.cells #[.int .i64 u0, .int .i64 u1, .bool u2, .string u3, .slice q1 q2 q3, .slice s1' s2' s3'] 38)))
        have HT5 := Hid.mk (box6 HTR.out hk5' hTr)
        have HX5 := Hid.mk (box6 HXR.out hk5' hXr)
        have k55 := (cells6 HT5.out).2.2.2.2.2.1
        have hT5s : Tb < w5.heap.size := heap_lt HT5.out
        have k56 : (w5.alloc (.cells #[.int .i64 u0, .int .i64 u1, .bool u2, .string u3, .slice q1 q2 q3, .slice s1' s2' s3'] 38)).cell? ⟨Tb, 5, none⟩ = some (.slice a' ts.length cap') := (World.cell?_of_block (a := ⟨Tb, 5, none⟩) (Below.heap_alloc _ _ _ hT5s)).trans k55
        clear hR5 hk5 hk5' hq5 htf5 hown hkv hRB HCALL
        dsimp only
        refine hK.out _ _ ?_ (fun hHeld => ?_)
        · (try dsimp only)
          exact k55
        clear hK K
        refine wpAnyL_one (i := 6) (by kernel_rfl) rfl (fun K hK => ?_)
        go_simp
        refine hK.out _ _ ?_ (fun hHeld => ?_)
        · (try dsimp only)
          exact k56
        clear hK K
        refine wpAnyL_one (i := 7) (by kernel_rfl) rfl (fun K hK => ?_)
        refine step_append_lies _ (by rfl) _ _ _ (by rfl) B 38 i0 _ 6 88 Tryz.underlying36 hi iz0 iz1 iz2 rfl (by decide) (.slice a' ts.length cap') ts.length xs (by rfl) HOWN.out ⟨w5.heap.size, 0, none⟩ 1 1 [.int .i64 u0, .int .i64 u1, .bool u2, .string u3, .slice q1 q2 q3, .slice s1' s2' s3'] (by rfl) (by rfl) HNEWS.out (by simp [Value.oneCell']) (by omega) (by simp [maxLen]; omega) (by omega) (by simp; omega) (w5.heap.size + 1) (by simp) ?_
        intro g7 c7 W7 hown7 hgr7 hat7 hlt7
        have HOWN7 := Hid.mk hown7
        have HGR7 := Hid.mk hgr7
        have HAT7 := Hid.mk hat7
        have HAG : Hid (∀ k, k < B → W7.heap[k]? = w5.heap[k]?) := fun k hk => (hgr7.block k (by simp; omega) (fun e => by have := (World.ownsRow.lt HOWN.out k e.symm).1; omega)).trans (Below.heap_alloc _ _ _ (by omega))
        have hs7 : w5.heap.size ≤ W7.heap.size := by have := hgr7.size; simp at this; omega
        have HT7 := Hid.mk ((HAG.out Tb hTB).trans HT5.out)
        have z75 := (cells6 HT7.out).2.2.2.2.2.1
        have fz7 := frz6 HT7.out
        have hT7s : Tb < W7.heap.size := heap_lt HT7.out
        clear hown7 hgr7 hat7
        refine hK.out _ _ ?_ (fun hHeld => ?_)
        · (try dsimp only)
          exact z75
        clear hK K
        refine wpAnyL_take (i := 8) (v := ?_) rfl (by kernel_rfl) (by kernel_rfl) (by kernel_rfl) (by kernel_rfl) (fun _ _ _ h => h) (Or.inl ⟨by rfl, ?_⟩) (by assumption) ?_
        rotate_left
        · (intro w hSw; (try dsimp only at hSw); go_simp; (try with_reducible rfl))
        refine wpAnyL_last (by kernel_rfl) rfl (by kernel_rfl) (fun K hK => ?_)
        go_simp
        refine hK.out _ _ ?_
        clear hK K
        go_wp2
        have hlen : (ts ++ [p]).length = ts.length + 1 := by simp
        have KZ : Kept (fun k => k = Tb) W7 (W7.setCell ⟨Tb, 5, none⟩ (.slice (some ⟨g7, 0, none⟩) (ts.length + 1) c7)) := (Kept.refl (fun k => k = Tb) W7).setCell (p := ⟨Tb, 5, none⟩) rfl _
        refine ⟨⟨ts ++ [p], r5, bad5, n5, some ⟨g7, 0, none⟩, c7, by rw [hlen]; go_num, ?_, ?_, ?_, ?_, ?_, ?_, kid_step HKAT.out hlt HQ5.out⟩, by simp [intOf]; omega⟩
        · refine RowF.move (w := W7) ?_ (fun k hk => by simp; omega) KZ.size (fun k h1 h2 => KZ.block k h1 (fun e => by have := geB h2; omega))
          exact RowF.snoc (cap := cap') HKV.out HXL.out HOWN7.out HGR7.out (by simpa using HAT7.out) HNEW.out
        · rw [hlen]
          exact set5_heap HT7.out
        · exact (KZ.block _ (by omega) (by omega)).trans ((HAG.out _ (by omega)).trans HX5.out)
        · exact HR5.out.move (Nat.le_trans hs7 KZ.size) fun k hk => (KZ.block _ (by omega) (by omega)).trans (HAG.out _ (by omega))
        · exact ⟨HGR7.out.os.trans (HK5.out.os.trans HKR.out.os), HGR7.out.tape.trans (HK5.out.tape.trans HKR.out.tape), HGR7.out.output.trans (HK5.out.output.trans HKR.out.output), by have := KZ.size; omega, fun k h1 h2 => (KZ.block _ (by omega) (by omega)).trans ((HAG.out _ (by omega)).trans ((HK5.out.block _ (by omega) h2).trans (HKR.out.block _ h1 h2)))⟩
        · have := KZ.size; omega
      · have HE := Hid.mk (kid_end HKAT.out (by omega) (by cases bad with | true => exact Or.inl rfl | false => exact Or.inr fun h => hgo ⟨rfl, h⟩))
        cases bad with
        | true =>
          clear hgo
          by_cases hlt : ts.length < 1
          · have zlt : (ts.length : Int) < 1 := by omega
            go_wp2
            refine bodyPost_ret (v := .agg #[.int .i64 9, .int .i64 0, .bool false, .string { data := #[] }, .slice none 0 0, .slice a' ts.length cap']) (by simp [results, Tryz.results43, go_sem, y0, y1, y2, y3, y4, y5]) rfl ⟨_, .mk 9 0 false { data := #[] } [] ts, r, true, n2, rfl, ⟨_, _, _, _, _, _, _, _, _, _, rfl⟩, ?_, ?_, ?_, by simpa using HE.out⟩
            · have KF := keep6 (P := fun k => k = w.heap.size) (w := wr) (b := w.heap.size) (a0 := .int .i64 9) (a1 := .int .i64 0) (a2 := .bool false) (a3 := .string { data := #[] }) (a4 := .slice none 0 0) (a5 := .slice a' ts.length cap') rfl
              have hrow := HROW.out.move (fun k hk => by simp; omega) KF.size (fun k h1 h2 => KF.block k h1 (fun e => by have := geB h2; omega))
              have hd2 := hrow.done (fun k hk => by simp; omega) (f := 9) (n := 0) (hd := false) (nm := { data := #[] }) (la := none) (lc := 0) (ls := []) (Or.inl rfl) (fun _ => rfl) (Nat.le_refl _) (by omega)
              exact hd2.sub (fun k hk => oldB_new (by have := geB hk; omega))
            · repeat (refine RR.setNew ?_ (by simp only; omega) _)
              exact HRR.out
            · repeat (refine Kept.setNew ?_ (by simp only; omega) _)
              exact HKR.out
          · have zlt : ¬ (ts.length : Int) < 1 := by omega
            go_wp2
            refine bodyPost_ret (v := .agg #[.int .i64 9, .int .i64 0, .bool false, .string { data := #[] }, .slice none 0 0, .slice a' ts.length cap']) (by simp [results, Tryz.results43, go_sem, y0, y1, y2, y3, y4, y5]) rfl ⟨_, .mk 9 0 false { data := #[] } [] ts, r, true, n2, rfl, ⟨_, _, _, _, _, _, _, _, _, _, rfl⟩, ?_, ?_, ?_, by simpa using HE.out⟩
            · have KF := keep6 (P := fun k => k = w.heap.size) (w := wr) (b := w.heap.size) (a0 := .int .i64 9) (a1 := .int .i64 0) (a2 := .bool false) (a3 := .string { data := #[] }) (a4 := .slice none 0 0) (a5 := .slice a' ts.length cap') rfl
              have hrow := HROW.out.move (fun k hk => by simp; omega) KF.size (fun k h1 h2 => KF.block k h1 (fun e => by have := geB h2; omega))
              have hd2 := hrow.done (fun k hk => by simp; omega) (f := 9) (n := 0) (hd := false) (nm := { data := #[] }) (la := none) (lc := 0) (ls := []) (Or.inl rfl) (fun _ => rfl) (Nat.le_refl _) (by omega)
              exact hd2.sub (fun k hk => oldB_new (by have := geB hk; omega))
            · repeat (refine RR.setNew ?_ (by simp only; omega) _)
              exact HRR.out
            · repeat (refine Kept.setNew ?_ (by simp only; omega) _)
              exact HKR.out
        | false =>
          have zlt : ¬ (ts.length : Int) < 1 := by
            intro h
            exact hgo ⟨rfl, by omega⟩
          clear hgo
          go_wp2
          refine bodyPost_ret (v := .agg #[.int .i64 9, .int .i64 0, .bool false, .string { data := #[] }, .slice none 0 0, .slice a' ts.length cap']) (by simp [results, Tryz.results43, go_sem, y0, y1, y2, y3, y4, y5]) rfl ⟨_, .mk 9 0 false { data := #[] } [] ts, r, false, n2, rfl, ⟨_, _, _, _, _, _, _, _, _, _, rfl⟩, ?_, ?_, ?_, by simpa using HE.out⟩
          · have KF := keep6 (P := fun k => k = w.heap.size) (w := wr) (b := w.heap.size) (a0 := .int .i64 9) (a1 := .int .i64 0) (a2 := .bool false) (a3 := .string { data := #[] }) (a4 := .slice none 0 0) (a5 := .slice a' ts.length cap') rfl
            have hrow := HROW.out.move (fun k hk => by simp; omega) KF.size (fun k h1 h2 => KF.block k h1 (fun e => by have := geB h2; omega))
            have hd2 := hrow.done (fun k hk => by simp; omega) (f := 9) (n := 0) (hd := false) (nm := { data := #[] }) (la := none) (lc := 0) (ls := []) (Or.inl rfl) (fun _ => rfl) (Nat.le_refl _) (by omega)
            exact hd2.sub (fun k hk => oldB_new (by have := geB hk; omega))
          · repeat (refine RR.setNew ?_ (by simp only; omega) _)
            exact HRR.out
          · repeat (refine Kept.setNew ?_ (by simp only; omega) _)
            exact HKR.out
  · obtain rfl : k = 0 := by rw [← hk]; decide
    have HM : Hid (m = 10) := by have := HF.out; unfold Hid; omega
    clear hk hk0
    obtain ⟨l0, lh, lz0, lz1, lz2⟩ := info_parts8 infoLevel
    have hr1 : r1.length ≤ 1000000 := by have := pnum_less HQN.out; omega
    have HC4 := rrtext_any N rb a cap all r1 (n + 1) W2 HR2.out
    go_wp2_with fail
    refine HC4.mono ?_
    intro e w4 h4
    obtain ⟨nm, r4, bad4, rfl, hR4, hk4, hq4⟩ := h4.out
    have HT4 := box6 HT2.out hk4 hTr
    have HX4 := box6 HX2.out hk4 hXr
    obtain ⟨W5, hW5⟩ : ∃ W5, w4.setCell ⟨Tb, 3, none⟩ (.string nm) = W5 := ⟨_, rfl⟩
    have hR5 := hR4.setNew (p := ⟨Tb, 3, none⟩) (by simp only; omega) (.string nm)
    have hK5 := (HK2.out.trans hk4).setNew (p := ⟨Tb, 3, none⟩) (by simp only; omega) (.string nm)
    rw [hW5] at hR5 hK5
    have hT5 : W5.heap[Tb]? = some (.cells #[.int .i64 10, .int .i64 0, .bool false, .string nm, .slice none 0 0, .slice none 0 0] 38 (0, 0)) := by
      rw [← hW5, setCell_eq]; show (w4.heap.modify Tb _)[Tb]? = _
      rw [Array.getElem?_modify, if_pos rfl, HT4]; rfl
    have hX5 : W5.heap[w.heap.size]? = some (.cells #[.int .i64 0, .int .i64 0, .bool false, .string { data := #[] }, .slice none 0 0, .slice none 0 0] 38 (0, 0)) := by rw [← hW5]; exact (Below.heap_setCell _ _ _ _ hTX').trans HX4
    have HT5 := Hid.mk hT5
    have HX5 := Hid.mk hX5
    have HK5 := Hid.mk hK5
    have HW5 := Hid.mk hW5
    have HC5 := rrnum_any N rb a cap all r4 bad4 (n + 1) W5 hR5
    have HQ4 := Hid.mk hq4
    clear t0 t1 t2 t3 t4 t5 t6 tf y0 y1 y2 y3 y4 y5 y6 yf c0 c1 c2 c3 cl cf hR4 HC4 h4 hq4
    obtain ⟨t0, t1, t2, t3, t4, t5, t6⟩ := cells6 HT4
    have tf := frz6 HT4
    clear HT4 HX4 hT5 hX5 hK5 hR5 hW5 hk4
    go_wp2_with fail
    rw [HW5.out]
    refine HC5.mono ?_
    intro e w6 h6
    obtain ⟨x6, r6, bad6, rfl, hR6, hk6, hq6⟩ := h6.out
    have HRS := Hid.mk hR6
    have HKS : Hid (Kept (fun k => k = rb) w w6) := HK5.out.trans hk6
    have HTS := Hid.mk (box6 HT5.out hk6 hTr)
    have HXS := Hid.mk (box6 HX5.out hk6 hXr)
    obtain ⟨Q, hQ⟩ : ∃ Q, pfields 10 r1 = Q := ⟨_, rfl⟩
    have hst := lvf_start hr1 HQ4.out hq6
    rw [hQ] at hst
    have HST := Hid.mk hst
    have HPQ : Hid (P = Q.map fun z => (.mk 10 z.1.1 z.1.2.1 z.1.2.2.1 z.1.2.2.2 [], z.2, n + 1)) := by
      have h := pt_leaf HPE.out HQN.out hn0 (by rw [HF.out]; decide)
      rw [HF.out, HM.out, hQ] at h
      exact h
    clear t0 t1 t2 t3 t4 t5 t6 tf hR6 hk6 h6 HC5 hq6 HQ4 HPE HQN hst hQ HT5 HX5 HK5 HT2 HX2 HR2 HK2 HW5
    obtain ⟨B, hB⟩ : ∃ B, w6.heap.size = B := ⟨_, rfl⟩
    have hTB : Tb < B := by rw [← hB]; exact heap_lt HTS.out
    go_wp2
    go_loopw [9] (fun i wr => ∃ (ls : List LvT) (r : List UInt8) (bad : Bool) (a' : Option Addr) (cap' : Nat), i = .int .i64 (ls.length : Int) ∧ RowL wr B (fun k => decide (k < B)) a' cap' ls ∧ wr.heap[Tb]? = some (.cells #[.int .i64 10, .int .i64 0, .bool false, .string nm, .slice a' ls.length cap', .slice none 0 0] 38 (0, 0)) ∧ wr.heap[w.heap.size]? = some (.cells #[.int .i64 0, .int .i64 0, .bool false, .string { data := #[] }, .slice none 0 0, .slice none 0 0] 38 (0, 0)) ∧ RR wr N rb a cap all r bad (n + 1) ∧ Kept (fun k => k = rb) w wr ∧ B ≤ wr.heap.size ∧ LvfAt Q nm x6 ls r bad) (fun i _ => x6 - (intOf i).toNat)
    case atStart => exact ⟨[], r6, bad6, none, 0, rfl, RowL.nil _ _ _, HTS.out, HXS.out, HRS.out, HKS.out, by omega, HST.out⟩
    case round =>
      obtain ⟨ls, r, bad, a', cap', rfl, hrow, hTr1, hXr1, hRr, hkr, hBr, hka⟩ := hrel
      have HROW := Hid.mk hrow
      have HTR := Hid.mk hTr1
      have HXR := Hid.mk hXr1
      have HRR := Hid.mk hRr
      have HKR := Hid.mk hkr
      have HKAT := Hid.mk hka
      have hszr := hkr.size
      obtain ⟨t0, t1, t2, t3, t4, t5, t6⟩ := cells6 HTR.out
      obtain ⟨y0, y1, y2, y3, y4, y5, y6⟩ := cells6 HXR.out
      have yf := frz6 HXR.out
      obtain ⟨p9, -, hh9⟩ := HRR.out.2.2.2.2.2.2.2
      obtain ⟨c0, c1, c2, c3, cl, cf⟩ := cellsR hh9
      clear hrow hTr1 hXr1 hRr hkr hka hh9
      by_cases hgo : bad = false ∧ ls.length < x6
      · obtain ⟨rfl, hlt⟩ := hgo
        have hbx : ls.length ≤ 1000000 := by
          rcases HKAT.out with ⟨-, -, -, -, h, -⟩ | ⟨h, -⟩
          · omega
          · cases h
        have zlt : (ls.length : Int) < (x6 : Int) := by omega
        have HCALL := rrlevel_any N rb a cap all r (n + 1) wr.drew (HRR.out.on (Below.refl _ _).drew)
        go_wp2_with fail
        refine wp_region_last (S := fun w' => w'.cell? ⟨Tb, 4, none⟩ = some (.slice a' ls.length cap')) 7 mx ?_ (fun hHeld => ?_)
        · (try dsimp only)
          exact t4
        refine wpAnyL_take (i := 0) (v := ?_) rfl (by kernel_rfl) (by kernel_rfl) (by kernel_rfl) (by kernel_rfl) (fun _ _ _ h => h) (Or.inl ⟨by rfl, ?_⟩) (by assumption) ?_
        rotate_left
        · (intro w hSw; (try dsimp only at hSw); go_simp; (try with_reducible rfl))
        refine wpAnyL_take (i := 1) (v := ?_) rfl (by kernel_rfl) (by kernel_rfl) (by kernel_rfl) (by kernel_rfl) (fun _ _ _ h => h) (Or.inl ⟨by rfl, ?_⟩) (by assumption) ?_
        rotate_left
        · (intro w hSw; (try dsimp only at hSw); go_simp; (try with_reducible rfl))
        refine wpAnyL_take (i := 2) (v := ?_) rfl (by kernel_rfl) (by kernel_rfl) (by kernel_rfl) (by kernel_rfl) (fun _ _ _ h => h) (Or.inl ⟨by rfl, ?_⟩) (by assumption) ?_
        rotate_left
        · (intro w hSw; (try dsimp only at hSw); go_simp; (try with_reducible rfl))
        refine wpAnyL_one (i := 3) (by kernel_rfl) rfl (fun K hK => ?_)
        go_simp
        go_at_call 73
        refine HCALL.mono ?_
        rintro e w5 ⟨lm, lx, la, lc, r5, bad5, rfl, hS5, hn5, hR5, hk5, hq5⟩
        have hk5' : Kept (fun k => k = rb) wr w5 := (Kept.of_below (Below.refl _ wr).drew).trans hk5
        have HK5 := Hid.mk hk5'
        have HR5 := Hid.mk hR5
        have HQ5 := Hid.mk hq5
        have HN5 := Hid.mk hn5
        have hsz5 := hk5'.size
        have HROW5 : Hid (RowL (w5.alloc (.cells #[.int .i64 lm, .slice la lx.length lc] 105)) B (fun k => decide (k < B)) a' cap' ls) := (HROW.out.move (fun k hk => by simp; omega) hk5'.size fun k h1 h2 => hk5'.block k h1 (by have := geB h2; omega)).move (fun k hk => by simp; omega) (by simp) fun k h1 _ => Below.heap_alloc _ _ _ h1
        obtain ⟨xs, hown, hkv⟩ := HROW5.out.go
        have hRB : ∀ j, ownB a' j = true → B ≤ j ∧ j < wr.heap.size := fun j hj => by
          obtain ⟨ys, hown0, -⟩ := HROW.out.go
          exact rowG_block hown0 hj
        have HNEW : Hid (SL (maskB (fun k => decide (k < B) || ownB a' k) (w5.alloc (.cells #[.int .i64 lm, .slice la lx.length lc] 105))) la lx) := hS5.subF (by rw [maskB_size, maskB_size]; simp) (maskB_keeps fun j h1 h2 => ⟨by
          have h3 : wr.heap.size ≤ j := oldB_no h2
          have h4 : decide (j < B) = false := by simp; omega
          rw [h4, Bool.false_or]
          cases ho : ownB a' j
          · rfl
          · have := (hRB j ho).2; omega, Below.heap_alloc _ _ _ h1⟩)
        have HOWN := Hid.mk hown
        have HKV := Hid.mk hkv
        have HXL : Hid (xs.length = ls.length * 2) := by unfold Hid; rw [hown.1]
        have HNEWS := Hid.mk (World.news_of_block (cs := #[.int .i64 lm, .slice la lx.length lc]) (t := 105) (fr := (0, 0)) (alloc_new w5 (.cells #[.int .i64 lm, .slice la lx.length lc] 105)))
        have HT5 := Hid.mk (box6 HTR.out hk5' hTr)
        have HX5 := Hid.mk (box6 HXR.out hk5' hXr)
        have k55 := (cells6 HT5.out).2.2.2.2.1
        have hT5s : Tb < w5.heap.size := heap_lt HT5.out
        have k56 : (w5.alloc (.cells #[.int .i64 lm, .slice la lx.length lc] 105)).cell? ⟨Tb, 4, none⟩ = some (.slice a' ls.length cap') := (World.cell?_of_block (a := ⟨Tb, 4, none⟩) (Below.heap_alloc _ _ _ hT5s)).trans k55
        clear hR5 hk5 hk5' hq5 hS5 hn5 hown hkv hRB HCALL
        dsimp only
        refine hK.out _ _ ?_ (fun hHeld => ?_)
        · (try dsimp only)
          exact k55
        clear hK K
        refine wpAnyL_one (i := 4) (by kernel_rfl) rfl (fun K hK => ?_)
        go_simp
        refine hK.out _ _ ?_ (fun hHeld => ?_)
        · (try dsimp only)
          exact k56
        clear hK K
        refine wpAnyL_one (i := 5) (by kernel_rfl) rfl (fun K hK => ?_)
        refine step_append_lies _ (by rfl) _ _ _ (by rfl) B 105 l0 _ 2 32 Tryz.underlying35 lh lz0 lz1 lz2 rfl (by decide) (.slice a' ls.length cap') ls.length xs (by rfl) HOWN.out ⟨w5.heap.size, 0, none⟩ 1 1 [.int .i64 lm, .slice la lx.length lc] (by rfl) (by rfl) HNEWS.out (by simp [Value.oneCell']) (by omega) (by simp [maxLen]; omega) (by omega) (by simp; omega) (w5.heap.size + 1) (by simp) ?_
        intro g7 c7 W7 hown7 hgr7 hat7 hlt7
        have HOWN7 := Hid.mk hown7
        have HGR7 := Hid.mk hgr7
        have HAT7 := Hid.mk hat7
        have HAG : Hid (∀ k, k < B → W7.heap[k]? = w5.heap[k]?) := fun k hk => (hgr7.block k (by simp; omega) (fun e => by have := (World.ownsRow.lt HOWN.out k e.symm).1; omega)).trans (Below.heap_alloc _ _ _ (by omega))
        have hs7 : w5.heap.size ≤ W7.heap.size := by have := hgr7.size; simp at this; omega
        have HT7 := Hid.mk ((HAG.out Tb hTB).trans HT5.out)
        have z75 := (cells6 HT7.out).2.2.2.2.1
        have fz7 := frz6 HT7.out
        have hT7s : Tb < W7.heap.size := heap_lt HT7.out
        clear hown7 hgr7 hat7
        refine hK.out _ _ ?_ (fun hHeld => ?_)
        · (try dsimp only)
          exact z75
        clear hK K
        refine wpAnyL_take (i := 6) (v := ?_) rfl (by kernel_rfl) (by kernel_rfl) (by kernel_rfl) (by kernel_rfl) (fun _ _ _ h => h) (Or.inl ⟨by rfl, ?_⟩) (by assumption) ?_
        rotate_left
        · (intro w hSw; (try dsimp only at hSw); go_simp; (try with_reducible rfl))
        refine wpAnyL_last (by kernel_rfl) rfl (by kernel_rfl) (fun K hK => ?_)
        go_simp
        refine hK.out _ _ ?_
        clear hK K
        go_wp2
        have hlen : (ls ++ [(lm, lx)]).length = ls.length + 1 := by simp
        have KZ : Kept (fun k => k = Tb) W7 (W7.setCell ⟨Tb, 4, none⟩ (.slice (some ⟨g7, 0, none⟩) (ls.length + 1) c7)) := (Kept.refl (fun k => k = Tb) W7).setCell (p := ⟨Tb, 4, none⟩) rfl _
        refine ⟨⟨ls ++ [(lm, lx)], r5, bad5, some ⟨g7, 0, none⟩, c7, by rw [hlen]; go_num, ?_, ?_, ?_, ?_, ?_, ?_, lvf_step HKAT.out hlt HQ5.out⟩, by simp [intOf]; omega⟩
        · refine RowL.move (w := W7) ?_ (fun k hk => by simp; omega) KZ.size (fun k h1 h2 => KZ.block k h1 (fun e => by have := geB h2; omega))
          exact RowL.snoc (cap := cap') HKV.out HXL.out HOWN7.out HGR7.out (by simpa using HAT7.out) HN5.out HNEW.out
        · rw [hlen]
          exact set4_heap HT7.out
        · exact (KZ.block _ (by omega) (by omega)).trans ((HAG.out _ (by omega)).trans HX5.out)
        · exact HR5.out.move (Nat.le_trans hs7 KZ.size) fun k hk => (KZ.block _ (by omega) (by omega)).trans (HAG.out _ (by omega))
        · exact ⟨HGR7.out.os.trans (HK5.out.os.trans HKR.out.os), HGR7.out.tape.trans (HK5.out.tape.trans HKR.out.tape), HGR7.out.output.trans (HK5.out.output.trans HKR.out.output), by have := KZ.size; omega, fun k h1 h2 => (KZ.block _ (by omega) (by omega)).trans ((HAG.out _ (by omega)).trans ((HK5.out.block _ (by omega) h2).trans (HKR.out.block _ h1 h2)))⟩
        · have := KZ.size; omega
      · have HE : Hid ((bad = false ∧ P = some (.mk 10 0 false nm ls [], r, n + 1) ∧ smT 1000000 (.mk 10 0 false nm ls []) ∧ n + 1 ≤ 20000) ∨ (bad = true ∧ P = none)) := by
          rcases lvf_end HKAT.out (by cases bad with | true => exact Or.inl rfl | false => exact Or.inr fun h => hgo ⟨rfl, h⟩) with ⟨h1, h2, h3, h4, h5⟩ | ⟨h1, h2⟩
          · exact Or.inl ⟨h1, by rw [HPQ.out, h2]; rfl, (smT_mk _ _ _ _ _ _ _).2 ⟨by omega, h4, h5, by simp, by simp⟩, by omega⟩
          · exact Or.inr ⟨h1, by rw [HPQ.out, h2]; rfl⟩
        cases bad with
        | true =>
          clear hgo
          by_cases hlt : ls.length < x6
          · have zlt : (ls.length : Int) < (x6 : Int) := by omega
            go_wp2
            refine wp_loop_rounds 1 ?_
            rw [rounds_succ]
            go_wp2
            refine bodyPost_ret (v := .agg #[.int .i64 10, .int .i64 0, .bool false, .string nm, .slice a' ls.length cap', .slice none 0 0]) (by simp [results, Tryz.results43, go_sem, y0, y1, y2, y3, y4, y5]) rfl ⟨_, .mk 10 0 false nm ls [], r, true, n + 1, rfl, ⟨_, _, _, _, _, _, _, _, _, _, rfl⟩, ?_, ?_, ?_, by simpa using HE.out⟩
            · have KF := keep6 (P := fun k => k = w.heap.size) (w := wr) (b := w.heap.size) (a0 := .int .i64 10) (a1 := .int .i64 0) (a2 := .bool false) (a3 := .string nm) (a4 := .slice a' ls.length cap') (a5 := .slice none 0 0) rfl
              have hrow := HROW.out.move (fun k hk => by simp; omega) KF.size (fun k h1 h2 => KF.block k h1 (fun e => by have := geB h2; omega))
              obtain ⟨hln, hl1, hl2, hl3⟩ := hrow.ln (fun k hk => by simp; omega)
              have hd2 := (RowF.nil _ B (fun k => decide (k < B))).done (fun k hk => by simp; omega) (f := 10) (n := 0) (hd := false) (nm := nm) hln hl1 hl2 hl3
              exact hd2.sub (fun k hk => oldB_new (by have := geB hk; omega))
            · repeat (refine RR.setNew ?_ (by simp only; omega) _)
              exact HRR.out
            · repeat (refine Kept.setNew ?_ (by simp only; omega) _)
              exact HKR.out
          · have zlt : ¬ (ls.length : Int) < (x6 : Int) := by omega
            go_wp2
            refine wp_loop_rounds 1 ?_
            rw [rounds_succ]
            go_wp2
            refine bodyPost_ret (v := .agg #[.int .i64 10, .int .i64 0, .bool false, .string nm, .slice a' ls.length cap', .slice none 0 0]) (by simp [results, Tryz.results43, go_sem, y0, y1, y2, y3, y4, y5]) rfl ⟨_, .mk 10 0 false nm ls [], r, true, n + 1, rfl, ⟨_, _, _, _, _, _, _, _, _, _, rfl⟩, ?_, ?_, ?_, by simpa using HE.out⟩
            · have KF := keep6 (P := fun k => k = w.heap.size) (w := wr) (b := w.heap.size) (a0 := .int .i64 10) (a1 := .int .i64 0) (a2 := .bool false) (a3 := .string nm) (a4 := .slice a' ls.length cap') (a5 := .slice none 0 0) rfl
              have hrow := HROW.out.move (fun k hk => by simp; omega) KF.size (fun k h1 h2 => KF.block k h1 (fun e => by have := geB h2; omega))
              obtain ⟨hln, hl1, hl2, hl3⟩ := hrow.ln (fun k hk => by simp; omega)
              have hd2 := (RowF.nil _ B (fun k => decide (k < B))).done (fun k hk => by simp; omega) (f := 10) (n := 0) (hd := false) (nm := nm) hln hl1 hl2 hl3
              exact hd2.sub (fun k hk => oldB_new (by have := geB hk; omega))
            · repeat (refine RR.setNew ?_ (by simp only; omega) _)
              exact HRR.out
            · repeat (refine Kept.setNew ?_ (by simp only; omega) _)
              exact HKR.out
        | false =>
          have zlt : ¬ (ls.length : Int) < (x6 : Int) := by
            intro h
            exact hgo ⟨rfl, by omega⟩
          clear hgo
          go_wp2
          refine wp_loop_rounds 1 ?_
          rw [rounds_succ]
          go_wp2
          refine bodyPost_ret (v := .agg #[.int .i64 10, .int .i64 0, .bool false, .string nm, .slice a' ls.length cap', .slice none 0 0]) (by simp [results, Tryz.results43, go_sem, y0, y1, y2, y3, y4, y5]) rfl ⟨_, .mk 10 0 false nm ls [], r, false, n + 1, rfl, ⟨_, _, _, _, _, _, _, _, _, _, rfl⟩, ?_, ?_, ?_, by simpa using HE.out⟩
          · have KF := keep6 (P := fun k => k = w.heap.size) (w := wr) (b := w.heap.size) (a0 := .int .i64 10) (a1 := .int .i64 0) (a2 := .bool false) (a3 := .string nm) (a4 := .slice a' ls.length cap') (a5 := .slice none 0 0) rfl
            have hrow := HROW.out.move (fun k hk => by simp; omega) KF.size (fun k h1 h2 => KF.block k h1 (fun e => by have := geB h2; omega))
            obtain ⟨hln, hl1, hl2, hl3⟩ := hrow.ln (fun k hk => by simp; omega)
            have hd2 := (RowF.nil _ B (fun k => decide (k < B))).done (fun k hk => by simp; omega) (f := 10) (n := 0) (hd := false) (nm := nm) hln hl1 hl2 hl3
            exact hd2.sub (fun k hk => oldB_new (by have := geB hk; omega))
          · repeat (refine RR.setNew ?_ (by simp only; omega) _)
            exact HRR.out
          · repeat (refine Kept.setNew ?_ (by simp only; omega) _)
            exact HKR.out
  · obtain rfl : k = 0 := by rw [← hk]; decide
    have HM : Hid (m = 11) := by have := HF.out; unfold Hid; omega
    clear hk hk0
    have HC4 := rrnum_any N rb a cap all r1 false (n + 1) W2 HR2.out
    go_wp2_with fail
    refine HC4.mono ?_
    intro e w4 h4
    obtain ⟨x4, r4, bad4, rfl, hR4, hk4, hq4⟩ := h4.out
    have HR4 := Hid.mk hR4
    have HK4 : Hid (Kept (fun k => k = rb) w w4) := HK2.out.trans hk4
    have HT4 := Hid.mk (box6 HT2.out hk4 hTr)
    have HX4 := Hid.mk (box6 HX2.out hk4 hXr)
    have hs4 := hk4.size
    have hT4s : Tb < w4.heap.size := heap_lt HT4.out
    clear t0 t1 t2 t3 t4 t5 t6 tf y0 y1 y2 y3 y4 y5 y6 yf c0 c1 c2 c3 cl cf hR4 hk4 h4 HC4
    obtain ⟨t0, t1, t2, t3, t4, t5, t6⟩ := cells6 HT4.out
    have tf := frz6 HT4.out
    obtain ⟨y0, y1, y2, y3, y4, y5, y6⟩ := cells6 HX4.out
    have yf := frz6 HX4.out
    obtain ⟨p4, -, hh4⟩ := HR4.out.2.2.2.2.2.2.2
    obtain ⟨c0, c1, c2, c3, cl, cf⟩ := cellsR hh4
    clear hh4
    have HE : Hid ((bad4 = false ∧ P = some (.mk 11 (x4 : Int) false ⟨#[]⟩ [] [], r4, n + 1) ∧ smT 1000000 (.mk 11 (x4 : Int) false ⟨#[]⟩ [] []) ∧ n + 1 ≤ 20000) ∨ (bad4 = true ∧ P = none)) := by
      have h := pt_leaf HPE.out HQN.out hn0 (by rw [HF.out]; decide)
      rw [HF.out, HM.out] at h
      have hp : pfields 11 r1 = (pnum 6 r1).map (fun z => (((z.1 : Int), false, ⟨#[]⟩, []), z.2)) := by unfold pfields; rw [if_pos (by simp)]
      rw [hp] at h
      rcases hq4 with ⟨e4, q4⟩ | ⟨e4, q4⟩
      · rw [q4] at h
        exact Or.inl ⟨e4, by rw [h]; rfl, (smT_mk _ _ _ _ _ _ _).2 ⟨by decide, by simp, by simp, by simp, by simp⟩, by omega⟩
      · rw [q4] at h
        exact Or.inr ⟨e4, by rw [h]; rfl⟩
    clear HPE HQN hq4
    go_wp2
    refine wp_loop_rounds 1 ?_
    rw [rounds_succ]
    go_wp2
    refine bodyPost_ret (v := .agg #[.int .i64 11, .int .i64 (x4 : Int), .bool false, .string { data := #[] }, .slice none 0 0, .slice none 0 0]) (by simp [results, Tryz.results43, go_sem, y0, y1, y2, y3, y4, y5]) rfl ⟨_, .mk 11 (x4 : Int) false ⟨#[]⟩ [] [], r4, bad4, n + 1, rfl, ⟨_, _, _, _, _, _, _, _, _, _, rfl⟩, TF.leaf _ _ _ _, ?_, ?_, HE.out⟩
    · repeat (refine RR.setNew ?_ (by simp only; omega) _)
      exact HR4.out
    · repeat (refine Kept.setNew ?_ (by simp only; omega) _)
      exact HK4.out

theorem rrterm_all (N rb : Nat) (a : Option Addr) (cap : Nat) (all : List UInt8) : ∀ d, d ≤ 500 → RrT N rb a cap all d
  | 0, h => rrterm_step N rb a cap all 0 (fun d' e => by cases e) h
  | d + 1, h => rrterm_step N rb a cap all (d + 1) (fun d' e => by
    obtain rfl : d = d' := by omega
    exact rrterm_all N rb a cap all d (by omega)) h
end Go.Proofs.YtndjdeiccmhelaaGreat
