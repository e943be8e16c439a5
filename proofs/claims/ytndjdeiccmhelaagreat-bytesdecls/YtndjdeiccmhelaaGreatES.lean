/- The contracts of the reader of package bytes, whatever it reads: take, number. -/
import Derived.Test.YtndjdeiccmhelaaGreatEP
namespace Go.Proofs.YtndjdeiccmhelaaGreat
open Go.RowKit Go.Sort Go.Lib

/-- the reader gives up -/
def PanB (e : Ending) : Prop := e = .panicked [{ v := .iface 26 (.int .i64 30), recovered := false }]

theorem giveUp_any (w : World) : Calls Tryz.prog 102 #[] w fun e w' => PanB e ∧ w' = w := by
  go_enter Tryz.func102, Tryz.ntmps102
  go_wp2
  exact ⟨rfl, rfl, rfl⟩

/-- what a step of the reader does: it answers a value, and so many bytes fewer are left, or it gives up -/
def RdP (w : World) (N rb : Nat) (bs : List UInt8) (deep : Int) (less : Nat) (Q : Value → World → Prop) (e : Ending) (w' : World) : Prop :=
  (∃ v bs', e = .returned v ∧ Q v w' ∧ RD w' N rb bs' deep ∧ bs'.length + less ≤ bs.length ∧ Kept (fun k => k = rb) w w') ∨ (PanB e ∧ Kept (fun k => k = rb) w w')

set_option maxRecDepth 100000 in
set_option maxHeartbeats 4000000 in
theorem take_no (N rb n : Nat) (bs : List UInt8) (deep : Int) (w : World) (hR : RD w N rb bs deep) (hn : bs.length < n) : Calls Tryz.prog 101 #[.pointer (some ⟨rb, 0, none⟩), .int .i64 (n : Int)] w fun e w' => PanB e ∧ w' = w := by
  obtain ⟨hrN, hNs, a, cap, hh, hB, hc, hm, hne, hnn⟩ := hR
  obtain ⟨x0, x1, -, -, x4⟩ := cells2 hh
  clear hh hB hne hnn
  have hni : ((bs.length : Int) < (n : Int)) = True := by simp; omega
  have HG := giveUp_any w
  go_enter Tryz.func101, Tryz.ntmps101
  go_wp2_with fail
  refine HG.mono ?_
  rintro e w1 ⟨rfl, rfl⟩
  exact ⟨rfl, rfl, rfl⟩

set_option maxRecDepth 100000 in
set_option maxHeartbeats 4000000 in
theorem take_zero (N rb : Nat) (bs : List UInt8) (deep : Int) (w : World) (hR : RD w N rb bs deep) : Calls Tryz.prog 101 #[.pointer (some ⟨rb, 0, none⟩), .int .i64 0] w fun e w' => ∃ a c, e = .returned (.slice a 0 c) ∧ RD w' N rb bs deep ∧ Kept (fun k => k = rb) w w' := by
  obtain ⟨hrN, hNs, a, cap, hh, hB, hc, hm, hne, hnn⟩ := hR
  obtain ⟨x0, x1, -, -, x4⟩ := cells2 hh
  obtain ⟨f0, f1⟩ := frz2 hh
  have hk : Kept (fun k => k = rb) w (w.setCell ⟨rb, 0, none⟩ (.slice a bs.length cap)) := (Kept.refl (fun k => k = rb) w).setCell (p := ⟨rb, 0, none⟩) rfl _
  have hR' : RD (w.setCell ⟨rb, 0, none⟩ (.slice a bs.length cap)) N rb bs deep := ⟨hrN, Nat.le_trans hNs hk.size, a, cap, heap_set0 hh, hB.move hk.size fun b off e hb => hk.block b hb (hne _ e).1, hc, hm, hne, hnn⟩
  have HR := Hid.mk hR'
  have HK := Hid.mk hk
  clear hh hB hne hnn hk hR'
  go_enter Tryz.func101, Tryz.ntmps101
  go_wp2
  go_ret
  exact ⟨_, _, rfl, HR.out, HK.out⟩

set_option maxRecDepth 100000 in
set_option maxHeartbeats 8000000 in
theorem number_all (N rb : Nat) (bs : List UInt8) (deep : Int) (w : World) (hR : RD w N rb bs deep) : Calls Tryz.prog 69 #[.pointer (some ⟨rb, 0, none⟩)] w (RdP w N rb bs deep 1 fun v _ => ∃ m : Nat, m ≤ 1073741824 ∧ v = .int .i64 (m : Int)) := by
  have HR := Hid.mk hR
  clear hR
  go_enter Tryz.func69, Tryz.ntmps69
  go_wp2
  go_loopw [3, 4, 5] (fun acc more sh wr => ∃ (k A sN : Nat) (mo : Bool) (bs' : List UInt8), (mo = true → k ≤ 5) ∧ A ≤ 1073741824 ∧ 7 * k = sN ∧ acc = .int .u64 (A : Int) ∧ more = .bool mo ∧ sh = .int .i64 (sN : Int) ∧ RD wr N rb bs' deep ∧ bs'.length + k ≤ bs.length ∧ (mo = false → 1 ≤ k) ∧ k ≤ 6 ∧ Kept (fun k => k = rb) w wr) (fun _ more sh _ => moreN more - (intOf sh).toNat)
  case atStart => exact ⟨0, 0, 0, true, bs, by omega, by omega, rfl, rfl, rfl, rfl, HR.out, by omega, fun h => (by cases h), by omega, Kept.refl _ _⟩
  case round =>
    obtain ⟨k, A, sN, mo, bs1, hk5, hA, hs, rfl, rfl, rfl, hRr, hl, hmo, hk6, hkr⟩ := hrel
    have HRR := Hid.mk hRr
    have HKR := Hid.mk hkr
    clear hRr hkr
    cases mo
    · have hk1 := hmo rfl
      go_wp2
      go_ret
      exact Or.inl ⟨_, bs1, rfl, ⟨A, hA, rfl⟩, HRR.out, by omega, HKR.out⟩
    · have hk5' := hk5 rfl
      have hsN : sN ≤ 35 := by omega
      clear hk5 hmo
      rcases Nat.eq_zero_or_pos bs1.length with hz | hz
      · have HC := take_no N rb 1 bs1 deep wr HRR.out (by omega)
        go_wp2_with fail
        refine HC.mono ?_
        rintro e w2 ⟨rfl, rfl⟩
        exact ⟨rfl, Or.inr ⟨rfl, HKR.out⟩⟩
      · have HC := take_yes N rb 1 bs1 deep wr HRR.out hz (by decide)
        obtain ⟨y0, tl, rfl⟩ : ∃ y tl, bs1 = y :: tl := by
          cases bs1 with
          | nil => simp at hz
          | cons y tl => exact ⟨y, tl, rfl⟩
        simp only [List.take_succ_cons, List.take_zero, List.drop_succ_cons, List.drop_zero] at HC
        obtain ⟨y, hy, hyb⟩ : ∃ y : Nat, y < 256 ∧ ((y0.toNat : Nat) : Int) = (y : Int) := ⟨y0.toNat, y0.toNat_lt, rfl⟩
        have g1 := and127 y hy
        obtain ⟨q, hq⟩ : ∃ q, y % 128 = q := ⟨_, rfl⟩
        have hq1 : q < 128 := by omega
        rw [hq] at g1
        have g2 : IntKind.u64.wrap (q : Int) = (q : Int) := by rw [IntKind.wrap_u64]; omega
        have hpow : (2 : Nat) ^ sN ≤ 34359738368 := by
          have := Nat.pow_le_pow_right (n := 2) (by decide) hsN
          have h35 : (2 : Nat) ^ 35 = 34359738368 := by decide
          omega
        obtain ⟨z, hz1⟩ : ∃ z, q * 2 ^ sN = z := ⟨_, rfl⟩
        have hzb : z < 18446744073709551616 := by
          have := Nat.mul_le_mul (Nat.le_of_lt hq1) hpow
          omega
        have g3 : IntKind.u64.wrap ((q : Int) * 2 ^ sN) = (z : Int) := by
          have e : ((q : Nat) : Int) * 2 ^ sN = ((q * 2 ^ sN : Nat) : Int) := by rw [Int.natCast_mul, Int.natCast_pow]; rfl
          rw [e, hz1, IntKind.wrap_u64]
          omega
        obtain ⟨A2, hA2⟩ : ∃ A2, (A ||| z : Nat) = A2 := ⟨_, rfl⟩
        have g4 : bits .or .u64 (A : Int) (z : Int) = (A2 : Int) := by rw [bits_or_u64_nat A z (by omega) hzb, hA2]
        have HYB := Hid.mk hyb
        clear hyb hq hz1 hA2 hpow
        go_wp2_with fail
        refine HC.mono ?_
        rintro e w2 ⟨b, o, c, rfl, hbl, hR2, hk2⟩
        obtain ⟨cc, hlt⟩ : w2.cell? ⟨b, o, none⟩ = some (.int .u8 (y : Int)) ∧ b < w2.heap.size := by
          rcases hbl with h | ⟨b1, o1, e1, hlt, hcell⟩
          · cases h
          · simp only [Option.some.injEq, Addr.mk.injEq, and_true] at e1
            obtain ⟨rfl, rfl⟩ := e1
            have := hcell 0 (by simp)
            simp only [List.getElem_cons_zero, Nat.add_zero] at this
            rw [HYB.out] at this
            exact ⟨this, hlt⟩
        have HR2 := Hid.mk hR2
        have HK2 := Hid.mk (HKR.out.trans hk2)
        have HG := giveUp_any w2
        clear hbl hR2 hk2 HC
        by_cases hbig : A2 ≤ 1073741824 ∧ sN ≤ 28
        · have ha2 : ¬ (1073741824 : Int) < (A2 : Int) := by omega
          have hsx : ¬ (28 : Int) < (sN : Int) := by omega
          go_wp2
          refine ⟨⟨k + 1, A2, sN + 7, decide (127 < (y : Int)), tl, fun _ => by omega, hbig.1, by omega, rfl, rfl, by simp, HR2.out, by simp at hl; omega, fun _ => by omega, by omega, HK2.out⟩, ?_⟩
          cases hd : decide (127 < (y : Int)) <;> simp [moreN, intOf] <;> omega
        · have hbad : (1073741824 : Int) < (A2 : Int) ∨ (¬ (1073741824 : Int) < (A2 : Int) ∧ (28 : Int) < (sN : Int)) := by omega
          rcases hbad with h1 | ⟨h1, h2⟩
          all_goals
            go_wp2_with fail
            refine HG.mono ?_
            rintro e w3 ⟨rfl, rfl⟩
            exact ⟨rfl, Or.inr ⟨rfl, HK2.out⟩⟩
end Go.Proofs.YtndjdeiccmhelaaGreat

/- The contracts of the reader of package bytes, whatever it reads: flag, name, variable, level, several. -/
namespace Go.Proofs.YtndjdeiccmhelaaGreat
open Go.RowKit Go.Sort Go.Lib

set_option maxRecDepth 100000 in
set_option maxHeartbeats 4000000 in
theorem flag_all (N rb : Nat) (bs : List UInt8) (deep : Int) (w : World) (hR : RD w N rb bs deep) : Calls Tryz.prog 122 #[.pointer (some ⟨rb, 0, none⟩)] w (RdP w N rb bs deep 1 fun v _ => ∃ b : Bool, v = .bool b) := by
  have HC := number_all N rb bs deep w hR
  clear hR
  go_enter Tryz.func122, Tryz.ntmps122
  go_wp2_with fail
  refine HC.mono ?_
  rintro e w1 (⟨v1, bs1, rfl, ⟨m, hm, rfl⟩, hR1, hl1, hk1⟩ | ⟨rfl, hk1⟩)
  · have H1 : Hid (RD w1 N rb bs1 deep ∧ Kept (fun k => k = rb) w w1) := ⟨hR1, hk1⟩
    clear hR1 hk1
    go_wp2
    go_ret
    exact Or.inl ⟨_, bs1, rfl, ⟨_, rfl⟩, H1.out.1, hl1, H1.out.2⟩
  · exact ⟨rfl, Or.inr ⟨rfl, hk1⟩⟩

theorem string0 (a : Option Addr) (c : Nat) (w : World) : Sem.run Tryz.prog (convert 25 9 (.slice a 0 c)) w = .ok (.string ⟨#[]⟩) w := by
  cases a with
  | none =>
    rw [run_convert_bytes_string w 25 9 5 none 0 c Tryz.underlying25 Tryz.underlying5 Tryz.underlying9]
    rfl
  | some ad => exact run_convert_bytes_back (P := Tryz.prog) w 25 9 5 ad c [] Tryz.underlying25 Tryz.underlying5 Tryz.underlying9 (fun j hj => by simp at hj)

set_option maxRecDepth 100000 in
set_option maxHeartbeats 4000000 in
theorem name_all (N rb : Nat) (bs : List UInt8) (deep : Int) (w : World) (hR : RD w N rb bs deep) : Calls Tryz.prog 103 #[.pointer (some ⟨rb, 0, none⟩)] w (RdP w N rb bs deep 1 fun v _ => ∃ nm : ByteArray, v = .string nm ∧ nm.size ≤ bs.length) := by
  have HC := number_all N rb bs deep w hR
  clear hR
  go_enter Tryz.func103, Tryz.ntmps103
  go_wp2_with fail
  refine HC.mono ?_
  rintro e w1 (⟨v1, bs1, rfl, ⟨m, hm, rfl⟩, hR1, hl1, hk1⟩ | ⟨rfl, hk1⟩)
  rotate_left
  · exact ⟨rfl, Or.inr ⟨rfl, hk1⟩⟩
  have HR1 := Hid.mk hR1
  have HK1 := Hid.mk hk1
  clear hR1 hk1 HC
  rcases Nat.eq_zero_or_pos m with hz | hz
  · subst hz
    have HC2 := take_zero N rb bs1 deep w1 HR1.out
    go_wp2_with fail
    refine HC2.mono ?_
    rintro e w2 ⟨a2, c2, rfl, hR2, hk2⟩
    have H2 : Hid (RD w2 N rb bs1 deep ∧ Kept (fun k => k = rb) w w2) := ⟨hR2, HK1.out.trans hk2⟩
    have hconv := string0 a2 c2 w2
    clear hR2 hk2 HC2
    go_wp2
    go_ret
    exact Or.inl ⟨_, bs1, rfl, ⟨_, rfl, Nat.zero_le _⟩, H2.out.1, hl1, H2.out.2⟩
  · by_cases hle : m ≤ bs1.length
    · have HC2 := take_yes N rb m bs1 deep w1 HR1.out hle hz
      go_wp2_with fail
      refine HC2.mono ?_
      rintro e w2 ⟨b, o, c, rfl, hbl, hR2, hk2⟩
      have H2 : Hid (RD w2 N rb (bs1.drop m) deep ∧ Kept (fun k => k = rb) w w2) := ⟨hR2, HK1.out.trans hk2⟩
      have hconv := run_convert_bytes_back (P := Tryz.prog) w2 25 9 5 ⟨b, o, none⟩ c (bs1.take m) Tryz.underlying25 Tryz.underlying5 Tryz.underlying9 (fun j hj => hbl.flat j _ (by rw [flatB, List.getElem?_map, List.getElem?_eq_getElem hj]; rfl))
      rw [List.length_take, Nat.min_eq_left hle] at hconv
      have hln : (bs1.drop m).length + 1 ≤ bs.length := by rw [List.length_drop]; omega
      have hsz : (⟨(bs1.take m).toArray⟩ : ByteArray).size ≤ bs.length := by show (bs1.take m).toArray.size ≤ _; rw [List.size_toArray, List.length_take]; omega
      clear hbl hR2 hk2 HC2
      generalize (⟨(bs1.take m).toArray⟩ : ByteArray) = nm at *
      go_wp2
      go_ret
      exact Or.inl ⟨_, _, rfl, ⟨_, rfl, hsz⟩, H2.out.1, hln, H2.out.2⟩
    · have HC2 := take_no N rb m bs1 deep w1 HR1.out (by omega)
      go_wp2_with fail
      refine HC2.mono ?_
      rintro e w2 ⟨rfl, rfl⟩
      exact ⟨rfl, Or.inr ⟨rfl, HK1.out⟩⟩

set_option maxRecDepth 100000 in
set_option maxHeartbeats 4000000 in
theorem variable_all (N rb : Nat) (bs : List UInt8) (deep : Int) (w : World) (hR : RD w N rb bs deep) : Calls Tryz.prog 135 #[.pointer (some ⟨rb, 0, none⟩)] w (RdP w N rb bs deep 1 fun v _ => ∃ x y : Int, v = .agg #[.int .i64 x, .int .i64 y]) := by
  have hlR := hR.2.1
  obtain ⟨W0, hW0⟩ : ∃ W0, w.alloc (.cells #[.int .i64 0, .int .i64 0] 151) = W0 := ⟨_, rfl⟩
  have hb : RowKit.Below w.heap.size w W0 := by rw [← hW0]; exact (Below.refl _ _).alloc (Nat.le_refl _) _
  have HX0 : Hid (W0.heap[w.heap.size]? = some (.cells #[.int .i64 0, .int .i64 0] 151 (0, 0))) := by unfold Hid; rw [← hW0]; exact alloc_new _ _
  have HC := number_all N rb bs deep W0 (hR.on hb)
  have HK0 : Hid (Kept (fun k => k = rb) w W0) := Kept.of_below hb
  have HW0 := Hid.mk hW0
  have hrbN := hR.1
  clear hR hb hW0
  go_enter Tryz.func135, Tryz.ntmps135
  go_wp2_with fail
  rw [HW0.out]
  refine HC.mono ?_
  rintro e w1 (⟨v1, bs1, rfl, ⟨m, hm, rfl⟩, hR1, hl1, hk1⟩ | ⟨rfl, hk1⟩)
  rotate_left
  · exact ⟨rfl, Or.inr ⟨rfl, HK0.out.trans hk1⟩⟩
  have HC2 := number_all N rb bs1 deep w1 hR1
  have HK1 : Hid (Kept (fun k => k = rb) w w1) := HK0.out.trans hk1
  have HX1 : Hid (w1.heap[w.heap.size]? = some (.cells #[.int .i64 0, .int .i64 0] 151 (0, 0))) := (hk1.block _ (heap_lt HX0.out) (by omega)).trans HX0.out
  clear hR1 hk1 HC
  go_wp2_with fail
  refine HC2.mono ?_
  rintro e w2 (⟨v2, bs2, rfl, ⟨m2, hm2, rfl⟩, hR2, hl2, hk2⟩ | ⟨rfl, hk2⟩)
  rotate_left
  · exact ⟨rfl, Or.inr ⟨rfl, HK1.out.trans hk2⟩⟩
  have HR2 := Hid.mk hR2
  have HK2 : Hid (Kept (fun k => k = rb) w w2) := HK1.out.trans hk2
  have hX2 := (hk2.block _ (heap_lt HX1.out) (by omega)).trans HX1.out
  obtain ⟨y0, y1, -, -, y4⟩ := cells2 hX2
  obtain ⟨f0, f1⟩ := frz2 hX2
  clear hR2 hk2 HC2 hX2
  go_wp2
  refine bodyPost_ret (v := .agg #[.int .i64 m, .int .i64 m2]) (by simp [results, Tryz.results135, go_sem, y0, y1]) rfl (Or.inl ⟨_, bs2, rfl, ⟨_, _, rfl⟩, ?_, by omega, ?_⟩)
  · exact (HR2.out.setNew (p := ⟨w.heap.size, 0, none⟩) (by simp only; omega) _).setNew (p := ⟨w.heap.size, 1, none⟩) (by simp only; omega) _
  · exact (HK2.out.setNew (p := ⟨w.heap.size, 0, none⟩) (Nat.le_refl _) _).setNew (p := ⟨w.heap.size, 1, none⟩) (Nat.le_refl _) _

set_option maxRecDepth 100000 in
set_option maxHeartbeats 4000000 in
theorem severalV_all (N rb : Nat) (n : Nat) (bs : List UInt8) (deep : Int) (w : World) (hR : RD w N rb bs deep) (hn : n ≤ 1073741824) (hbl : bs.length ≤ 1000000) : Calls Tryz.prog 134 #[.int .i64 (n : Int), .func (.func 135) #[.pointer (some ⟨rb, 0, none⟩)] #[]] w (RdP w N rb bs deep 0 fun v w' => ∃ xs, OR w.heap.size w' v xs ∧ xs.length ≤ bs.length) := by
  have hlR := hR.2.1
  have hrb := hR.1
  have HR := Hid.mk hR
  clear hR
  go_enter Tryz.func134, Tryz.ntmps134
  go_wp2
  go_loopw [5, 7] (fun u i wr => ∃ (k : Nat) (xs : List (Int × Int)) (bs' : List UInt8), k ≤ n ∧ i = .int .i64 k ∧ xs.length = k ∧ OR w.heap.size wr u xs ∧ RD wr N rb bs' deep ∧ bs'.length + k ≤ bs.length ∧ Kept (fun k => k = rb) w wr) (fun _ i _ => n - (intOf i).toNat)
  case atStart => exact ⟨0, [], bs, Nat.zero_le _, rfl, rfl, OR.nil _ _, HR.out, Nat.le_refl _, Kept.refl _ _⟩
  case round =>
    obtain ⟨k, xs, bs1, hk, rfl, hxk, hOr, hRr, hl, hkr⟩ := hrel
    have HOR := Hid.mk hOr
    have HRR := Hid.mk hRr
    have HKR := Hid.mk hkr
    have HXK := Hid.mk hxk
    have hsz := hkr.size
    clear hOr hRr hkr hxk
    by_cases hlt : k < n
    · have HC := variable_all N rb bs1 deep wr HRR.out
      go_wp2_with fail
      refine HC.mono ?_
      rintro e w1 (⟨v1, bs2, rfl, ⟨px, py, rfl⟩, hR1, hl1, hk1⟩ | ⟨rfl, hk1⟩)
      rotate_left
      · exact ⟨rfl, Or.inr ⟨rfl, HKR.out.trans hk1⟩⟩
      have HR1 := Hid.mk hR1
      have HK1 := Hid.mk (HKR.out.trans hk1)
      have hsz1 := hk1.size
      have HO1 : Hid (OR w.heap.size (w1.alloc (.cells #[.int .i64 px, .int .i64 py] 151)) u5 xs) := World.ownsRow.alloc (owns_move HOR.out fun j hj => hk1.block j (World.ownsRow.lt HOR.out j hj).2 (by have := (World.ownsRow.lt HOR.out j hj).1; omega)) _
      have HNB : Hid ((w1.alloc (.cells #[.int .i64 px, .int .i64 py] 151)).heap[w1.heap.size]? = some (.cells #[.int .i64 px, .int .i64 py] 151 (0, 0))) := alloc_new _ _
      have hB1 : w.heap.size ≤ (w1.alloc (.cells #[.int .i64 px, .int .i64 py] 151)).heap.size := by simp; omega
      clear hR1 hk1 HC
      go_wp2_with (at_builtin; refine wpList_appP rfl _ _ rfl w.heap.size u5 xs px py w1.heap.size 1 rfl rfl HO1.out HNB.out (by have := HXK.out; omega) hB1 ?_; intro g7 c7 W7 hown7 hgr7 hat7; have HOWN7 := Hid.mk hown7; have HGR7 := Hid.mk hgr7; clear hown7 hgr7 hat7)
      have hag : ∀ j, j < w.heap.size → W7.heap[j]? = w1.heap[j]? := fun j hj => (HGR7.out.block j (by simp; omega) (fun e => by have := (World.ownsRow.lt HO1.out j e.symm).1; omega)).trans (Below.heap_alloc _ _ _ (by omega))
      have hs7 : w1.heap.size ≤ W7.heap.size := by have := HGR7.out.size; simp at this; omega
      exact ⟨⟨k + 1, xs ++ [(px, py)], bs2, hlt, by go_num, by rw [List.length_append]; have := HXK.out; simp; omega, HOWN7.out, HR1.out.move hs7 (fun j hj => hag j (by omega)), by omega, ⟨HGR7.out.os.trans HK1.out.os, HGR7.out.tape.trans HK1.out.tape, HGR7.out.output.trans HK1.out.output, Nat.le_trans HK1.out.size hs7, fun j hj hp => (hag j hj).trans (HK1.out.block j hj hp)⟩⟩, by simp [intOf]; omega⟩
    · go_wp2
      go_ret
      exact Or.inl ⟨_, bs1, rfl, ⟨xs, HOR.out, by have := HXK.out; omega⟩, HRR.out, by omega, HKR.out⟩
end Go.Proofs.YtndjdeiccmhelaaGreat
