/- The reference's reader of bytes: its level. -/
import Derived.Test.YtndjdeiccmhelaaGreatEX
namespace Go.Proofs.YtndjdeiccmhelaaGreat
open Go.RowKit Go.Sort Go.Lib

/-- so many variables at the head of bytes -/
def pvars : Nat → List UInt8 → Option (List (Int × Int) × List UInt8)
  | 0, bs => some ([], bs)
  | c + 1, bs => match pnum 6 bs with
    | none => none
    | some (x, r) => match pnum 6 r with
      | none => none
      | some (y, r2) => (pvars c r2).map fun z => ((((x : Nat) : Int), ((y : Nat) : Int)) :: z.1, z.2)

/-- a level at the head of bytes -/
def plevel (bs : List UInt8) : Option (LvT × List UInt8) := match pnum 6 bs with
  | none => none
  | some (m, r) => match pnum 6 r with
    | none => none
    | some (c, r2) => (pvars c r2).map fun z => ((((m : Nat) : Int), z.1), z.2)

theorem setL1 {w : World} {b : Nat} {u v x : Value} {t : TypeId} (h : w.heap[b]? = some (.cells #[u, v] t (0, 0))) : (w.setCell ⟨b, 1, none⟩ x).heap[b]? = some (.cells #[u, x] t (0, 0)) := by
  rw [setCell_eq]; show (w.heap.modify b _)[b]? = _
  rw [Array.getElem?_modify, if_pos rfl, h]; rfl

theorem pnum_less : ∀ {k : Nat} {bs r : List UInt8} {m : Nat}, pnum k bs = some (m, r) → r.length < bs.length
  | 0, _, _, _, h => by cases h
  | k + 1, [], _, _, h => by cases h
  | k + 1, c :: bs, r, m, h => by
    rw [pnum] at h
    split at h
    · simp only [Option.some.injEq, Prod.mk.injEq] at h
      rw [← h.2]; simp
    · cases hp : pnum k bs with
      | none => rw [hp] at h; cases h
      | some x =>
        rw [hp] at h
        simp only [Option.map_some, Option.some.injEq, Prod.mk.injEq] at h
        have := pnum_less (r := x.2) (m := x.1) hp
        rw [← h.2, List.length_cons]; omega

theorem RrNum.out {w : World} {N rb : Nat} {a : Option Addr} {cap : Nat} {all : List UInt8} {bad : Bool} {n : Nat} {e : Ending} {w' : World} {P : Option (Nat × List UInt8)} (h : RrNum w N rb a cap all bad n e w' P) : ∃ (m : Nat) (r : List UInt8) (bad' : Bool), e = .returned (.int .i64 (m : Int)) ∧ RR w' N rb a cap all r bad' n ∧ Kept (fun k => k = rb) w w' ∧ ((bad' = bad ∧ P = some (m, r)) ∨ (bad' = true ∧ P = none)) := by
  cases P with
  | none => obtain ⟨r, h1, h2, h3⟩ := h; exact ⟨0, r, true, h1, h2, h3, Or.inr ⟨rfl, rfl⟩⟩
  | some x => obtain ⟨h1, h2, h3⟩ := h; exact ⟨x.1, x.2, bad, h1, h2, h3, Or.inl ⟨rfl, rfl⟩⟩

/-- what is read: the level and what is left, or the reader is bad -/
def RrLev (w : World) (N rb : Nat) (a : Option Addr) (cap : Nat) (all : List UInt8) (n : Nat) (e : Ending) (w' : World) (P : Option (LvT × List UInt8)) : Prop :=
  ∃ (m : Int) (xs : List (Int × Int)) (a' : Option Addr) (cap' : Nat) (r : List UInt8) (bad : Bool), e = .returned (.agg #[.int .i64 m, .slice a' xs.length cap']) ∧ SL (maskB (oldB w) w') a' xs ∧ (a' = none → cap' = 0) ∧ RR w' N rb a cap all r bad n ∧ Kept (fun k => k = rb) w w' ∧ ((bad = false ∧ P = some ((m, xs), r) ∧ xs.length ≤ 1000000) ∨ (bad = true ∧ P = none))

/-- how far a level is read -/
def LevAt (P : Option (LvT × List UInt8)) (m c : Nat) (xs : List (Int × Int)) (r : List UInt8) (bad : Bool) : Prop :=
  (bad = false ∧ xs.length ≤ c ∧ P = (pvars (c - xs.length) r).map (fun z => (((m : Int), xs ++ z.1), z.2)) ∧ xs.length + r.length ≤ 1000000) ∨ (bad = true ∧ P = none)

theorem lev_start {bs r1 r2 : List UInt8} {m c : Nat} {bad1 bad2 : Bool} (hl : bs.length ≤ 1000000) (h1 : (bad1 = false ∧ pnum 6 bs = some (m, r1)) ∨ (bad1 = true ∧ pnum 6 bs = none)) (h2 : (bad2 = bad1 ∧ pnum 6 r1 = some (c, r2)) ∨ (bad2 = true ∧ pnum 6 r1 = none)) : LevAt (plevel bs) m c [] r2 bad2 := by
  unfold LevAt plevel
  rcases h1 with ⟨e1, q1⟩ | ⟨e1, q1⟩
  · rw [q1]
    have l1 := pnum_less q1
    rcases h2 with ⟨e2, q2⟩ | ⟨e2, q2⟩
    · have l2 := pnum_less q2
      simp only [q2]
      exact Or.inl ⟨e2.trans e1, Nat.zero_le _, by simp, by simp; omega⟩
    · simp only [q2]
      exact Or.inr ⟨e2, trivial⟩
  · rw [q1]
    rcases h2 with ⟨e2, q2⟩ | ⟨e2, q2⟩
    · exact Or.inr ⟨e2.trans e1, rfl⟩
    · exact Or.inr ⟨e2, rfl⟩

theorem lev_step {P : Option (LvT × List UInt8)} {m c x y : Nat} {xs : List (Int × Int)} {r r3 r4 : List UInt8} {bad3 bad4 : Bool} (h : LevAt P m c xs r false) (hlt : xs.length < c) (h1 : (bad3 = false ∧ pnum 6 r = some (x, r3)) ∨ (bad3 = true ∧ pnum 6 r = none)) (h2 : (bad4 = bad3 ∧ pnum 6 r3 = some (y, r4)) ∨ (bad4 = true ∧ pnum 6 r3 = none)) : LevAt P m c (xs ++ [((x : Int), (y : Int))]) r4 bad4 := by
  rcases h with ⟨-, -, hP, hb⟩ | ⟨h, -⟩
  rotate_left
  · cases h
  obtain ⟨d, hd⟩ : ∃ d, c - xs.length = d + 1 := ⟨c - xs.length - 1, by omega⟩
  rw [hd, pvars] at hP
  unfold LevAt
  rcases h1 with ⟨e1, q1⟩ | ⟨e1, q1⟩
  · simp only [q1] at hP
    have l1 := pnum_less q1
    rcases h2 with ⟨e2, q2⟩ | ⟨e2, q2⟩
    · simp only [q2] at hP
      have l2 := pnum_less q2
      refine Or.inl ⟨e2.trans e1, by rw [List.length_append]; simp; omega, ?_, by rw [List.length_append]; simp; omega⟩
      rw [hP, List.length_append, show c - (xs.length + [((x : Int), (y : Int))].length) = d by simp; omega, Option.map_map]
      congr 1
      funext z
      simp
    · simp only [q2] at hP
      exact Or.inr ⟨e2, by rw [hP]; rfl⟩
  · simp only [q1] at hP
    refine Or.inr ⟨?_, by rw [hP]; rfl⟩
    rcases h2 with ⟨e2, q2⟩ | ⟨e2, q2⟩
    · exact e2.trans e1
    · exact e2

theorem lev_end {P : Option (LvT × List UInt8)} {m c : Nat} {xs : List (Int × Int)} {r : List UInt8} {bad : Bool} (h : LevAt P m c xs r bad) (hd : bad = true ∨ ¬ xs.length < c) : (bad = false ∧ P = some (((m : Int), xs), r) ∧ xs.length ≤ 1000000) ∨ (bad = true ∧ P = none) := by
  rcases h with ⟨h1, h2, h3, h4⟩ | h
  · have hc : c - xs.length = 0 := by
      rcases hd with h | h
      · rw [h] at h1; cases h1
      · omega
    rw [hc] at h3
    exact Or.inl ⟨h1, by rw [h3]; simp [pvars], by omega⟩
  · exact Or.inr h

set_option maxRecDepth 100000 in
set_option maxHeartbeats 8000000 in
theorem rrlevel_any (N rb : Nat) (a : Option Addr) (cap : Nat) (all bs : List UInt8) (n : Nat) (w : World) (hR : RR w N rb a cap all bs false n) : Calls Tryz.prog 73 #[.pointer (some ⟨rb, 0, none⟩)] w fun e w' => RrLev w N rb a cap all n e w' (plevel bs) := by
  obtain ⟨i0, hi, iz0, iz1, iz2⟩ := info_parts infoLVar
  have mx := mixed
  have hrN := hR.1
  have hNw := hR.2.1
  have hall := hR.2.2.2.2.2.1
  have hbl : bs.length ≤ 1000000 := by
    obtain ⟨p, hp, -⟩ := hR.2.2.2.2.2.2.2
    have := congrArg List.length hp
    rw [List.length_append] at this
    omega
  obtain ⟨W0, hW0⟩ : ∃ W0, w.alloc (.cells #[.int .i64 0, .slice none 0 0] 105) = W0 := ⟨_, rfl⟩
  have hb : RowKit.Below w.heap.size w W0 := by rw [← hW0]; exact (Below.refl _ _).alloc (Nat.le_refl _) _
  have HX0 : Hid (W0.heap[w.heap.size]? = some (.cells #[.int .i64 0, .slice none 0 0] 105 (0, 0))) := by unfold Hid; rw [← hW0]; exact alloc_new _ _
  have HC := rrnum_any N rb a cap all bs false n W0 (hR.on hb)
  have HK0 : Hid (Kept (fun k => k = rb) w W0) := Kept.of_below hb
  have HW0 := Hid.mk hW0
  clear hR hb hW0
  go_enter Tryz.func73, Tryz.ntmps73
  go_wp2_with fail
  rw [HW0.out]
  refine HC.mono ?_
  intro e w1 h1
  obtain ⟨m, r1, bad1, rfl, hR1, hk1, hq1⟩ := h1.out
  obtain ⟨W1, hW1⟩ : ∃ W1, w1.alloc (.cells #[.int .i64 (m : Int), .slice none 0 0] 105) = W1 := ⟨_, rfl⟩
  have hb1 : RowKit.Below w1.heap.size w1 W1 := by rw [← hW1]; exact (Below.refl _ _).alloc (Nat.le_refl _) _
  have HL1 : Hid (W1.heap[w1.heap.size]? = some (.cells #[.int .i64 (m : Int), .slice none 0 0] 105 (0, 0))) := by unfold Hid; rw [← hW1]; exact alloc_new _ _
  have hx0 : w.heap.size < W0.heap.size := heap_lt HX0.out
  have hs1 := hk1.size
  have HX1 : Hid (W1.heap[w.heap.size]? = some (.cells #[.int .i64 0, .slice none 0 0] 105 (0, 0))) := (hb1.block _ (by omega)).trans ((hk1.block _ (by omega) (by omega)).trans HX0.out)
  have HK1 : Hid (Kept (fun k => k = rb) w W1) := (HK0.out.trans hk1).trans (Kept.of_below hb1)
  have HC2 := rrnum_any N rb a cap all r1 bad1 n W1 (hR1.on hb1)
  have HW1 := Hid.mk hW1
  have HQ1 := Hid.mk hq1
  generalize hLb : w1.heap.size = Lb at *
  clear hR1 hk1 h1 HC hb1 hW1 hq1
  go_wp2_with fail
  rw [HW1.out]
  refine HC2.mono ?_
  intro e w2 h2
  obtain ⟨c, r2, bad2, rfl, hR2, hk2, hq2⟩ := h2.out
  have hLb1 : Lb < W1.heap.size := heap_lt HL1.out
  have hs2 := hk2.size
  have HX2 : Hid (w2.heap[w.heap.size]? = some (.cells #[.int .i64 0, .slice none 0 0] 105 (0, 0))) := (hk2.block _ (by omega) (by omega)).trans HX1.out
  have HL2 : Hid (w2.heap[Lb]? = some (.cells #[.int .i64 (m : Int), .slice none 0 0] 105 (0, 0))) := (hk2.block _ (by omega) (by omega)).trans HL1.out
  have HK2 : Hid (Kept (fun k => k = rb) w w2) := HK1.out.trans hk2
  have HR2 := Hid.mk hR2
  have HLA := Hid.mk (lev_start hbl HQ1.out hq2)
  obtain ⟨P, hP⟩ : ∃ P, plevel bs = P := ⟨_, rfl⟩
  rw [hP] at HLA
  have HPE := Hid.mk hP
  clear hP
  obtain ⟨B, hB⟩ : ∃ B, w2.heap.size = B := ⟨_, rfl⟩
  have hLB : Lb < B := by omega
  have hXL : w.heap.size < Lb := by omega
  have HX0' := HX0
  clear hR2 hk2 h2 HC2 hq2 HQ1 HX0 HX1 HL1 HK0 HK1 HW0 HW1 HX0' hbl
  go_wp2
  go_loopw [5] (fun i wr => ∃ (xs : List (Int × Int)) (r : List UInt8) (bad : Bool) (a' : Option Addr) (cap' : Nat), i = .int .i64 (xs.length : Int) ∧ OR B wr (.slice a' xs.length cap') xs ∧ wr.heap[Lb]? = some (.cells #[.int .i64 (m : Int), .slice a' xs.length cap'] 105 (0, 0)) ∧ wr.heap[w.heap.size]? = some (.cells #[.int .i64 0, .slice none 0 0] 105 (0, 0)) ∧ RR wr N rb a cap all r bad n ∧ Kept (fun k => k = rb) w wr ∧ B ≤ wr.heap.size ∧ LevAt P m c xs r bad) (fun i _ => c - (intOf i).toNat)
  case atStart => exact ⟨[], r2, bad2, none, 0, rfl, OR.nil _ _, HL2.out, HX2.out, HR2.out, HK2.out, by omega, HLA.out⟩
  case round =>
    obtain ⟨xs, r, bad, a', cap', rfl, hOr, hLr, hXr, hRr, hkr, hBr, hla⟩ := hrel
    have HOR := Hid.mk hOr
    have HLR := Hid.mk hLr
    have HXR := Hid.mk hXr
    have HRR := Hid.mk hRr
    have HKR := Hid.mk hkr
    have HLAT := Hid.mk hla
    obtain ⟨l0, l1, -, -, l4⟩ := cells2 HLR.out
    obtain ⟨p, hp, hh⟩ := HRR.out.2.2.2.2.2.2.2
    obtain ⟨c0, c1, c2, c3, cl, cf⟩ := cellsR hh
    clear hOr hLr hXr hRr hkr hla hp hh HLA HX2 HL2 HR2 HK2
    by_cases hgo : bad = false ∧ xs.length < c
    · obtain ⟨rfl, hlt⟩ := hgo
      have hbx : xs.length ≤ 1000000 := by
        rcases HLAT.out with ⟨-, -, -, h⟩ | ⟨h, -⟩
        · omega
        · cases h
      have zlt : (xs.length : Int) < (c : Int) := by omega
      have HC3 := rrnum_any N rb a cap all r false n wr.drew (HRR.out.on (Below.refl _ _).drew)
      go_wp2_with fail
      refine wp_region_last (S := fun w' => w'.cell? ⟨Lb, 1, none⟩ = some (.slice a' xs.length cap')) 10 mx ?_ (fun hHeld => ?_)
      · (try dsimp only)
        exact l1
      refine wpAnyL_take (i := 0) (v := ?_) rfl (by kernel_rfl) (by kernel_rfl) (by kernel_rfl) (by kernel_rfl) (fun _ _ _ h => h) (Or.inl ⟨by rfl, ?_⟩) (by assumption) ?_
      rotate_left
      · (intro w hSw; (try dsimp only at hSw); go_simp; (try with_reducible rfl))
      refine wpAnyL_take (i := 1) (v := ?_) rfl (by kernel_rfl) (by kernel_rfl) (by kernel_rfl) (by kernel_rfl) (fun _ _ _ h => h) (Or.inl ⟨by rfl, ?_⟩) (by assumption) ?_
      rotate_left
      · (intro w hSw; (try dsimp only at hSw); go_simp; (try with_reducible rfl))
      refine wpAnyL_take (i := 2) (v := ?_) rfl (by kernel_rfl) (by kernel_rfl) (by kernel_rfl) (by kernel_rfl) (fun _ _ _ h => h) (Or.inl ⟨by rfl, ?_⟩) (by assumption) ?_
      rotate_left
      · (intro w hSw; (try dsimp only at hSw); go_simp; (try with_reducible rfl))
      refine wpAnyL_take (i := 4) (v := ?_) rfl (by kernel_rfl) (by kernel_rfl) (by kernel_rfl) (by kernel_rfl) (fun _ _ _ h => h) (Or.inl ⟨by rfl, ?_⟩) (by assumption) ?_
      rotate_left
      · (intro w hSw; (try dsimp only at hSw); go_simp; (try with_reducible rfl))
      refine wpAnyL_one (i := 3) (by kernel_rfl) rfl (fun K hK => ?_)
      go_simp
      go_at_call 41
      refine HC3.mono ?_
      intro e w3 h3
      obtain ⟨x3, r3, bad3, rfl, hR3, hk3, hq3⟩ := h3.out
      have hk3' : Kept (fun k => k = rb) wr w3 := (Kept.of_below (Below.refl _ wr).drew).trans hk3
      have HK3 := Hid.mk hk3'
      have HQ3 := Hid.mk hq3
      have hs3 := hk3'.size
      have HL3 := Hid.mk ((hk3'.block _ (heap_lt HLR.out) (by omega)).trans HLR.out)
      have l31 := (cells2 HL3.out).2.1
      have HC4 := rrnum_any N rb a cap all r3 bad3 n w3 hR3
      clear hR3 hk3 hk3' hq3 h3 HC3
      dsimp only
      refine hK.out _ _ ?_ (fun hHeld => ?_)
      · (try dsimp only)
        exact l31
      clear hK K
      refine wpAnyL_one (i := 5) (by kernel_rfl) rfl (fun K hK => ?_)
      go_simp
      go_at_call 41
      refine HC4.mono ?_
      intro e w4 h4
      obtain ⟨x4, r4, bad4, rfl, hR4, hk4, hq4⟩ := h4.out
      have HR4 := Hid.mk hR4
      have HK4 : Hid (Kept (fun k => k = rb) wr w4) := HK3.out.trans hk4
      have HQ4 := Hid.mk hq4
      have hs4 := HK4.out.size
      have HL4 := Hid.mk ((hk4.block _ (heap_lt HL3.out) (by omega)).trans HL3.out)
      have l41 := (cells2 HL4.out).2.1
      have hn4 : Lb < w4.heap.size := heap_lt HL4.out
      have HO4 : Hid (OR B w4 (.slice a' xs.length cap') xs) := owns_move HOR.out fun j hj => HK4.out.block j (World.ownsRow.lt HOR.out j hj).2 (by have := (World.ownsRow.lt HOR.out j hj).1; omega)
      have HO5 : Hid (OR B (w4.alloc (.cells #[.int .i64 (x3 : Int), .int .i64 (x4 : Int)] 151)) (.slice a' xs.length cap') xs) := World.ownsRow.alloc HO4.out _
      have HNEWS := Hid.mk (World.news_of_block (cs := #[.int .i64 (x3 : Int), .int .i64 (x4 : Int)]) (t := 151) (fr := (0, 0)) (alloc_new w4 (.cells #[.int .i64 (x3 : Int), .int .i64 (x4 : Int)] 151)))
      have l51 : (w4.alloc (.cells #[.int .i64 (x3 : Int), .int .i64 (x4 : Int)] 151)).cell? ⟨Lb, 1, none⟩ = some (.slice a' xs.length cap') := (World.cell?_of_block (a := ⟨Lb, 1, none⟩) (Below.heap_alloc _ _ _ hn4)).trans l41
      clear hR4 hk4 hq4 h4 HC4
      dsimp only
      refine hK.out _ _ ?_ (fun hHeld => ?_)
      · (try dsimp only)
        exact l41
      clear hK K
      refine wpAnyL_take (i := 6) (v := ?_) rfl (by kernel_rfl) (by kernel_rfl) (by kernel_rfl) (by kernel_rfl) (fun _ _ _ h => h) (Or.inl ⟨by rfl, ?_⟩) (by assumption) ?_
      rotate_left
      · (intro w hSw; (try dsimp only at hSw); go_simp; (try with_reducible rfl))
      refine wpAnyL_one (i := 7) (by kernel_rfl) rfl (fun K hK => ?_)
      go_simp
      refine hK.out _ _ ?_ (fun hHeld => ?_)
      · (try dsimp only)
        exact l51
      clear hK K
      refine wpAnyL_one (i := 8) (by kernel_rfl) rfl (fun K hK => ?_)
      refine step_append_lies _ (by rfl) _ _ _ (by rfl) B 151 i0 _ 2 16 Tryz.underlying103 hi iz0 iz1 iz2 rfl (by decide) (.slice a' xs.length cap') xs.length (flat xs) (by rfl) HO5.out ⟨w4.heap.size, 0, none⟩ 1 1 [.int .i64 (x3 : Int), .int .i64 (x4 : Int)] (by rfl) (by rfl) HNEWS.out (by simp [Value.oneCell']) (by omega) (by simp [maxLen]; omega) (by omega) (by simp; omega) (w4.heap.size + 1) (by simp) ?_
      intro g7 c7 W7 hown7 hgr7 hat7 hlt7
      have HOWN7 := Hid.mk hown7
      have HGR7 := Hid.mk hgr7
      have HAG : Hid (∀ k, k < B → W7.heap[k]? = w4.heap[k]?) := fun k hk => (hgr7.block k (by simp; omega) (fun e => by have := (World.ownsRow.lt HO5.out k e.symm).1; omega)).trans (Below.heap_alloc _ _ _ (by omega))
      have hs7 : w4.heap.size ≤ W7.heap.size := by have := hgr7.size; simp at this; omega
      have HL7 := Hid.mk ((HAG.out Lb hLB).trans HL4.out)
      obtain ⟨l70, l71, -, -, l74⟩ := cells2 HL7.out
      obtain ⟨f70, f71⟩ := frz2 HL7.out
      clear hown7 hgr7 hat7
      refine hK.out _ _ ?_ (fun hHeld => ?_)
      · (try dsimp only)
        exact l71
      clear hK K
      refine wpAnyL_take (i := 9) (v := ?_) rfl (by kernel_rfl) (by kernel_rfl) (by kernel_rfl) (by kernel_rfl) (fun _ _ _ h => h) (Or.inl ⟨by rfl, ?_⟩) (by assumption) ?_
      rotate_left
      · (intro w hSw; (try dsimp only at hSw); go_simp; (try with_reducible rfl))
      refine wpAnyL_last (by kernel_rfl) rfl (by kernel_rfl) (fun K hK => ?_)
      go_simp
      refine hK.out _ _ ?_
      clear hK K
      go_wp2
      have hlen : (xs ++ [((x3 : Int), (x4 : Int))]).length = xs.length + 1 := by simp
      have hown : OR B W7 (.slice (some ⟨g7, 0, none⟩) (xs.length + 1) c7) (xs ++ [((x3 : Int), (x4 : Int))]) := by
        unfold OR
        rw [hlen, flat_append]
        exact HOWN7.out
      have KZ : Kept (fun k => k = Lb) W7 (W7.setCell ⟨Lb, 1, none⟩ (.slice (some ⟨g7, 0, none⟩) (xs.length + 1) c7)) := (Kept.refl (fun k => k = Lb) W7).setCell (p := ⟨Lb, 1, none⟩) rfl _
      have hw4 := HKR.out.size
      refine ⟨⟨xs ++ [((x3 : Int), (x4 : Int))], r4, bad4, some ⟨g7, 0, none⟩, c7, by rw [hlen]; go_num, ?_, ?_, ?_, ?_, ?_, ?_, lev_step HLAT.out hlt HQ3.out HQ4.out⟩, by simp [intOf]; omega⟩
      · rw [hlen]
        exact owns_move hown fun j hj => KZ.block j (World.ownsRow.lt hown j hj).2 (by have := (World.ownsRow.lt hown j hj).1; omega)
      · rw [hlen]
        exact setL1 HL7.out
      · exact (KZ.block _ (by omega) (by omega)).trans ((HAG.out _ (by omega)).trans ((HK4.out.block _ (by omega) (by omega)).trans HXR.out))
      · exact HR4.out.move (Nat.le_trans hs7 KZ.size) fun k hk => (KZ.block _ (by omega) (by omega)).trans (HAG.out _ (by omega))
      · exact ⟨HGR7.out.os.trans (HK4.out.os.trans HKR.out.os), HGR7.out.tape.trans (HK4.out.tape.trans HKR.out.tape), HGR7.out.output.trans (HK4.out.output.trans HKR.out.output), by have := KZ.size; omega, fun k h1 h2 => (KZ.block _ (by omega) (by omega)).trans ((HAG.out _ (by omega)).trans ((HK4.out.block _ (by omega) h2).trans (HKR.out.block _ h1 h2)))⟩
      · have := KZ.size; omega
    · have HE := Hid.mk (lev_end HLAT.out (by cases bad with | true => exact Or.inl rfl | false => exact Or.inr fun h => hgo ⟨rfl, h⟩))
      obtain ⟨a2, c2', hsh, hsl, hnn⟩ := HOR.out.slF (P := fun k => decide (k < B)) fun k hk => by simp; omega
      simp only [Value.slice.injEq, true_and] at hsh
      obtain ⟨rfl, rfl⟩ := hsh
      have HSL := Hid.mk hsl
      have HNN := Hid.mk hnn
      obtain ⟨y0, y1, -, -, y4⟩ := cells2 HXR.out
      obtain ⟨f0, f1⟩ := frz2 HXR.out
      have hgo' : ((xs.length : Int) < (c : Int)) = (bad = true ∧ xs.length < c) := by
        apply propext
        constructor
        · intro h
          refine ⟨?_, by omega⟩
          cases bad with
          | true => rfl
          | false => exact absurd ⟨rfl, by omega⟩ hgo
        · intro h; omega
      clear hsl hnn hgo
      cases bad with
      | true =>
        by_cases hlt : xs.length < c
        · have zlt : (xs.length : Int) < (c : Int) := by omega
          clear hgo'
          go_wp2
          refine bodyPost_ret (v := .agg #[.int .i64 (m : Int), .slice a' xs.length cap']) (by simp [results, Tryz.results73, go_sem, y0, y1]) rfl ?_
          rw [HPE.out]
          refine ⟨m, xs, a', cap', r, true, rfl, ?_, HNN.out, ?_, ?_, by simpa using HE.out⟩
          · refine HSL.out.subF (by rw [maskB_size, maskB_size]; simp [World.setCell]) (maskB_keeps fun k h1 h2 => ⟨oldB_new (by have := (by simpa using h2 : B ≤ k); omega), ?_⟩)
            have := (by simpa using h2 : B ≤ k)
            exact (Below.heap_setCell _ _ _ _ (by simp only; omega)).trans (Below.heap_setCell _ _ _ _ (by simp only; omega))
          · exact (HRR.out.setNew (p := ⟨w.heap.size, 0, none⟩) (by simp only; omega) _).setNew (p := ⟨w.heap.size, 1, none⟩) (by simp only; omega) _
          · exact (HKR.out.setNew (p := ⟨w.heap.size, 0, none⟩) (Nat.le_refl _) _).setNew (p := ⟨w.heap.size, 1, none⟩) (Nat.le_refl _) _
        · have zlt : ¬ (xs.length : Int) < (c : Int) := by omega
          clear hgo'
          go_wp2
          refine bodyPost_ret (v := .agg #[.int .i64 (m : Int), .slice a' xs.length cap']) (by simp [results, Tryz.results73, go_sem, y0, y1]) rfl ?_
          rw [HPE.out]
          refine ⟨m, xs, a', cap', r, true, rfl, ?_, HNN.out, ?_, ?_, by simpa using HE.out⟩
          · refine HSL.out.subF (by rw [maskB_size, maskB_size]; simp [World.setCell]) (maskB_keeps fun k h1 h2 => ⟨oldB_new (by have := (by simpa using h2 : B ≤ k); omega), ?_⟩)
            have := (by simpa using h2 : B ≤ k)
            exact (Below.heap_setCell _ _ _ _ (by simp only; omega)).trans (Below.heap_setCell _ _ _ _ (by simp only; omega))
          · exact (HRR.out.setNew (p := ⟨w.heap.size, 0, none⟩) (by simp only; omega) _).setNew (p := ⟨w.heap.size, 1, none⟩) (by simp only; omega) _
          · exact (HKR.out.setNew (p := ⟨w.heap.size, 0, none⟩) (Nat.le_refl _) _).setNew (p := ⟨w.heap.size, 1, none⟩) (Nat.le_refl _) _
      | false =>
        have zlt : ¬ (xs.length : Int) < (c : Int) := by rw [hgo']; simp
        clear hgo'
        go_wp2
        refine bodyPost_ret (v := .agg #[.int .i64 (m : Int), .slice a' xs.length cap']) (by simp [results, Tryz.results73, go_sem, y0, y1]) rfl ?_
        rw [HPE.out]
        refine ⟨m, xs, a', cap', r, false, rfl, ?_, HNN.out, ?_, ?_, by simpa using HE.out⟩
        · refine HSL.out.subF (by rw [maskB_size, maskB_size]; simp [World.setCell]) (maskB_keeps fun k h1 h2 => ⟨oldB_new (by have := (by simpa using h2 : B ≤ k); omega), ?_⟩)
          have := (by simpa using h2 : B ≤ k)
          exact (Below.heap_setCell _ _ _ _ (by simp only; omega)).trans (Below.heap_setCell _ _ _ _ (by simp only; omega))
        · exact (HRR.out.setNew (p := ⟨w.heap.size, 0, none⟩) (by simp only; omega) _).setNew (p := ⟨w.heap.size, 1, none⟩) (by simp only; omega) _
        · exact (HKR.out.setNew (p := ⟨w.heap.size, 0, none⟩) (Nat.le_refl _) _).setNew (p := ⟨w.heap.size, 1, none⟩) (Nat.le_refl _) _
end Go.Proofs.YtndjdeiccmhelaaGreat
