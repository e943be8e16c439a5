/- The contracts of caught, read and ReadTerm of package bytes, where what is read was written. -/
import Derived.Test.YtndjdeiccmhelaaGreatEN
import Derived.Recover
import Derived.Defers
import Derived.Test.YtndjdeiccmhelaaGreatOM
import Derived.Test.YtndjdeiccmhelaaGreatWE
namespace Go.Proofs.YtndjdeiccmhelaaGreat
open Go.RowKit Go.Sort Go.Lib

theorem BL.at {w : World} {a : Option Addr} {bs : List UInt8} (h : BL w a bs) {k : Nat} (hk : k < bs.length) : ∃ b off, a = some ⟨b, off, none⟩ ∧ b < w.heap.size ∧ w.cell? ⟨b, off + k, none⟩ = some (.int .u8 (bs[k].toNat : Int)) := by
  rcases h with h | ⟨b, off, ha, hlt, hc⟩
  · subst h; simp at hk
  · exact ⟨b, off, ha, hlt, hc k hk⟩

theorem take_eqB {xs ys : List UInt8} {k : Nat} (h1 : k < xs.length) (h2 : k < ys.length) (h : xs.take k = ys.take k) (he : xs[k] = ys[k]) : xs.take (k + 1) = ys.take (k + 1) := by
  rw [List.take_succ_eq_append_getElem h1, List.take_succ_eq_append_getElem h2, h, he]

set_option maxRecDepth 100000 in
set_option maxHeartbeats 4000000 in
theorem EqualB_any (xs ys : List UInt8) (aa ab : Option Addr) (ca cb : Nat) (w : World) (hSa : BL w aa xs) (hSb : BL w ab ys) (hxn : xs.length ≤ 4398046511104) :
    Calls Tryz.prog 67 #[.slice aa xs.length ca, .slice ab ys.length cb] w fun e w' => e = .returned (.bool (decide (xs = ys))) ∧ Grew w w' := by
  have HSa := Hid.mk hSa
  have HSb := Hid.mk hSb
  have mx := mixed
  clear hSa hSb
  by_cases hL : xs.length = ys.length
  · have hL' : ((xs.length : Int) != (ys.length : Int)) = false := by simp [hL]
    have HL := Hid.mk hL
    clear hL
    go_enter Tryz.func67, Tryz.ntmps67
    go_wp2
    go_loopw [13] (fun i wr => ∃ k : Nat, k ≤ xs.length ∧ i = .int .i64 k ∧ Grew w wr ∧ xs.take k = ys.take k) (fun i _ => xs.length - (intOf i).toNat)
    case atStart => exact ⟨0, Nat.zero_le _, rfl, Grew.refl _, rfl⟩
    case round =>
      obtain ⟨k, hk, rfl, hb, htk⟩ := hrel
      have HT := Hid.mk htk
      clear htk
      by_cases hlt : k < xs.length
      · have hlt2 : k < ys.length := by have := HL.out; omega
        obtain ⟨b, off, rfl, hbl, hc0⟩ := (HSa.out.below hb.below).at hlt
        obtain ⟨b', off', rfl, hbl', hc0'⟩ := (HSb.out.below hb.below).at hlt2
        have z1 : (k : Int) < (xs.length : Int) := by omega
        have z2 : (k : Int) < (ys.length : Int) := by omega
        by_cases he : xs[k] = ys[k]
        · have HE := Hid.mk (take_eqB hlt hlt2 HT.out he)
          rw [he] at hc0
          generalize ys[k] = y at *
          clear he
          go_wp2_with fail
          go_quiet (fail)
          go_wp2
          refine ⟨⟨k + 1, hlt, by go_num, hb.drewN _, HE.out⟩, by simp [intOf]; omega⟩
        · have HE : Hid (decide (xs = ys) = false) := by
            unfold Hid; rw [decide_eq_false_iff_not]; intro e; subst e; exact he rfl
          have hne : (((xs[k].toNat : Nat) : Int) != ((ys[k].toNat : Nat) : Int)) = true := by
            rw [bne_iff_ne]; intro e; exact he (UInt8.toNat_inj.1 (by omega))
          generalize xs[k] = x at *
          generalize ys[k] = y at *
          clear he
          go_wp2_with fail
          go_quiet (fail)
          go_wp2
          go_ret
          exact ⟨by rw [HE.out]; rfl, hb.drewN _⟩
      · have HE : Hid (decide (xs = ys) = true) := by
          have h1 : xs.take k = xs := List.take_of_length_le (by omega)
          have h2 : ys.take k = ys := List.take_of_length_le (by have := HL.out; omega)
          have h3 := HT.out
          rw [h1, h2] at h3
          unfold Hid; simp [h3]
        go_wp2
        go_ret
        exact ⟨by rw [HE.out]; rfl, hb⟩
  · have hL' : ((xs.length : Int) != (ys.length : Int)) = true := by simp; omega
    have HE : Hid (decide (xs = ys) = false) := by
      unfold Hid; rw [decide_eq_false_iff_not]; intro e; subst e; exact hL rfl
    clear hL
    go_enter Tryz.func67, Tryz.ntmps67
    go_wp2
    go_ret
    exact ⟨by rw [HE.out]; rfl, Grew.refl _⟩

theorem fieldB_clean (f n : Int) (h : Bool) (nm : ByteArray) (ls : List LvT) : fieldB f (if f = 1 ∨ f = 11 then n else 0) (if f = 3 ∨ f = 4 ∨ f = 5 then h else false) (if f = 10 then nm else ByteArray.empty) (if f = 2 ∨ f = 10 then ls else []) = fieldB f n h nm ls := by
  unfold fieldB
  split
  · rfl
  · split
    · rfl
    · split
      · rename_i h3; rw [if_pos (Or.inr h3)]
      · split
        · rename_i h4; rw [if_pos (Or.inl h4)]
        · rfl

theorem enc_clean (t : Tm) : encT (cleanT t) = encT t := by
  refine Tm.ind (P := fun t => encT (cleanT t) = encT t) ?_ t
  intro f n hd nm ls ks ih
  rw [clean_mk, encT_mk, encT_mk, fieldB_clean, List.flatMap_map]
  have h : ∀ l : List Tm, (∀ k ∈ l, encT (cleanT k) = encT k) → l.flatMap (fun x => encT (cleanT x)) = l.flatMap encT := by
    intro l
    induction l with
    | nil => intro _; rfl
    | cons k l ihl => intro h; rw [List.flatMap_cons, List.flatMap_cons, h k (by simp), ihl fun x hx => h x (by simp [hx])]
  rw [h ks ih]

theorem res_clean (t : Tm) : termRes (cleanT t) = termRes t := by
  unfold termRes
  rw [clean_check, enc_clean]

end Go.Proofs.YtndjdeiccmhelaaGreat

/- The contract of telamonlaw2.alive. -/
namespace Go.Proofs.YtndjdeiccmhelaaGreat
open Go.RowKit Go.Sort

theorem sm_con : smT 1000000 tCon := sm_leaf _ _ _ _ _ (by decide) (by simp) (by simp)
theorem sm_set : smT 1000000 (tSet 0) := sm_leaf _ _ _ _ _ (by decide) (by simp) (by simp)
theorem sm_var (n : Int) : smT 1000000 (tVar n) := sm_leaf _ _ _ _ _ (by decide) (by simp) (by simp)

theorem Exactly_exa (va vb : Value) (t : Tm) (w : World) (hs : smT 1000000 t) (ha : TV w va t) (hb : TV w vb t) : Calls Tryz.prog 39 #[va, vb] w fun e w' => e = .returned (.bool true) ∧ RowKit.Below w.heap.size w w' :=
  (Exactly_same t va vb w (smT_lv _ _ hs) ha hb).mono fun _ _ ⟨h1, h2⟩ => ⟨h1, h2.below⟩

end Go.Proofs.YtndjdeiccmhelaaGreat

/- The document's example of chapter 3: alive. -/
namespace Go.Proofs.YtndjdeiccmhelaaGreat
open Go.RowKit Go.Sort Go.Lib

theorem enc_ex : encT (tLam (tSet 0) (tVar 0)) = [4, 0, 2, 0, 0, 1, 0] := by
  unfold tLam tSet tVar
  rw [encT_mk]
  simp only [List.flatMap_cons, List.flatMap_nil, encT_mk]
  unfold fieldB levB
  simp [numB_small]

theorem res_ex : termRes (tLam (tSet 0) (tVar 0)) = .ok [4, 0, 2, 0, 0, 1, 0] := by
  have hc : checkT (tLam (tSet 0) (tVar 0)) = 0 := by
    refine check_mk ?_ ?_ (formed_lam formed_set (formed_var 0 (by omega) (by omega)))
    · unfold tLam tSet tVar; rw [size_two, size_leaf, size_leaf]; omega
    · unfold tLam tSet tVar; rw [high_two, high_leaf, high_leaf]; simp
  unfold termRes
  rw [hc, enc_ex]
  rfl

theorem num3_any (k : Int) (w : World) : Calls Tryz.prog 10 #[.int .i64 k] w fun e w' => e = .returned (.int .i64 k) ∧ w' = w := by
  go_enter Tryz.func10, Tryz.ntmps10
  go_wp2
  go_ret
  exact ⟨rfl, rfl⟩

/-- string(b) of bytes in memory -/
theorem string_of {w : World} {a : Option Addr} {cap : Nat} {bs : List UInt8} (h : BL w a bs) (hn : a = none → cap = 0) : Sem.run Tryz.prog (convert 25 9 (.slice a bs.length cap)) w = .ok (.string ⟨bs.toArray⟩) w := by
  cases a with
  | none =>
    have hb : bs = [] := by
      rcases h with h | ⟨b, off, e, -⟩
      · exact h
      · cases e
    subst hb
    rw [hn rfl]
    show Sem.run Tryz.prog (convert 25 9 (.slice none 0 0)) w = _
    rw [run_convert_bytes_string w 25 9 5 none 0 0 Tryz.underlying25 Tryz.underlying5 Tryz.underlying9]
    rfl
  | some ad => exact run_convert_bytes_back (P := Tryz.prog) w 25 9 5 ad cap bs Tryz.underlying25 Tryz.underlying5 Tryz.underlying9 (fun j hj => h.flat j _ (by simp [flatB, hj]))

set_option maxRecDepth 100000 in
set_option maxHeartbeats 4000000 in
theorem alive3_any (w : World) : Calls Tryz.prog 6 #[] w fun e w' => e = .returned (.bool true) ∧ RowKit.Below w.heap.size w w' := by
  have HS := Set_any 0 w
  go_enter Tryz.func6, Tryz.ntmps6
  go_wp2_with fail
  refine HS.mono ?_
  rintro e w1 ⟨v1, rfl, ht1, hb1⟩
  have HV := Var_any 0 w1
  have HT1 := Hid.mk ht1
  have HB1 := Hid.mk hb1
  clear ht1 hb1 HS
  go_wp2_with fail
  refine HV.mono ?_
  rintro e w2 ⟨v2, rfl, ht2, hb2⟩
  have HL := Lam_any v1 v2 _ _ w2 (HT1.out.on hb2) ht2
  have HB2 : Hid (RowKit.Below w.heap.size w w2) := HB1.out.trans (hb2.mono HB1.out.size)
  clear ht2 hb2 HV
  go_wp2_with fail
  refine HL.mono ?_
  rintro e w3 ⟨v3, rfl, ht3, hb3⟩
  have HC := BTerm_any (tLam (tSet 0) (tVar 0)) v3 w3 ht3 (sm_two _ _ _ _ _ sm_set (sm_var 0))
  rw [res_ex] at HC
  have HB3 : Hid (RowKit.Below w.heap.size w w3) := HB2.out.trans (hb3.mono HB2.out.size)
  clear ht3 hb3 HL
  go_wp2_with fail
  refine HC.mono ?_
  rintro e w4 ⟨⟨v4, rfl, hO4⟩, hb4⟩
  obtain ⟨a4, c4, rfl, hbl, -, -, hn4, -⟩ := hO4.shape
  have hconv : Sem.run Tryz.prog (convert 25 9 (.slice a4 7 c4)) w4 = _ := string_of hbl hn4
  have HB4 : Hid (RowKit.Below w.heap.size w w4) := HB3.out.trans (hb4.mono HB3.out.size)
  clear hO4 hb4 hbl hn4 HC
  go_wp2_with (go_at_call 10; refine (num3_any _ _).mono ?_; rintro e w' ⟨rfl, rfl⟩)
  go_ret
  exact ⟨rfl, HB4.out⟩
end Go.Proofs.YtndjdeiccmhelaaGreat

/- The contracts of the reader of package bytes, whatever it reads: take, number. -/
namespace Go.Proofs.YtndjdeiccmhelaaGreat
open Go.RowKit Go.Sort Go.Lib

/-- the reader gives up -/
def PanB (e : Ending) : Prop := e = .panicked [{ v := .iface 26 (.int .i64 30), recovered := false }]

theorem giveUp_any (w : World) : Calls Tryz.prog 102 #[] w fun e w' => PanB e ∧ w' = w := by
  go_enter Tryz.func102, Tryz.ntmps102
  go_wp2
  exact ⟨rfl, rfl, rfl⟩

/-- what a step of the reader does: it answers a value, and so many bytes fewer are left, or it gives up -/
def RdP (w : World) (N rb : Nat) (bs : List UInt8) (deep : Int) (less : Nat) (Q : Value → World → Prop) (e : Ending) (w' : World) : Prop :=
  (∃ v bs', e = .returned v ∧ Q v w' ∧ RD w' N rb bs' deep ∧ bs'.length + less ≤ bs.length ∧ Kept (fun k => k = rb) w w') ∨ (PanB e ∧ Kept (fun k => k = rb) w w')

set_option maxRecDepth 100000 in
set_option maxHeartbeats 4000000 in
theorem take_no (N rb n : Nat) (bs : List UInt8) (deep : Int) (w : World) (hR : RD w N rb bs deep) (hn : bs.length < n) : Calls Tryz.prog 101 #[.pointer (some ⟨rb, 0, none⟩), .int .i64 (n : Int)] w fun e w' => PanB e ∧ w' = w := by
  obtain ⟨hrN, hNs, a, cap, hh, hB, hc, hm, hne, hnn⟩ := hR
  obtain ⟨x0, x1, -, -, x4⟩ := cells2 hh
  clear hh hB hne hnn
  have hni : ((bs.length : Int) < (n : Int)) = True := by simp; omega
  have HG := giveUp_any w
  go_enter Tryz.func101, Tryz.ntmps101
  go_wp2_with fail
  refine HG.mono ?_
  rintro e w1 ⟨rfl, rfl⟩
  exact ⟨rfl, rfl, rfl⟩

set_option maxRecDepth 100000 in
set_option maxHeartbeats 4000000 in
theorem take_zero (N rb : Nat) (bs : List UInt8) (deep : Int) (w : World) (hR : RD w N rb bs deep) : Calls Tryz.prog 101 #[.pointer (some ⟨rb, 0, none⟩), .int .i64 0] w fun e w' => ∃ a c, e = .returned (.slice a 0 c) ∧ RD w' N rb bs deep ∧ Kept (fun k => k = rb) w w' := by
  obtain ⟨hrN, hNs, a, cap, hh, hB, hc, hm, hne, hnn⟩ := hR
  obtain ⟨x0, x1, -, -, x4⟩ := cells2 hh
  obtain ⟨f0, f1⟩ := frz2 hh
  have hk : Kept (fun k => k = rb) w (w.setCell ⟨rb, 0, none⟩ (.slice a bs.length cap)) := (Kept.refl (fun k => k = rb) w).setCell (p := ⟨rb, 0, none⟩) rfl _
  have hR' : RD (w.setCell ⟨rb, 0, none⟩ (.slice a bs.length cap)) N rb bs deep := ⟨hrN, Nat.le_trans hNs hk.size, a, cap, heap_set0 hh, hB.move hk.size fun b off e hb => hk.block b hb (hne _ e).1, hc, hm, hne, hnn⟩
  have HR := Hid.mk hR'
  have HK := Hid.mk hk
  clear hh hB hne hnn hk hR'
  go_enter Tryz.func101, Tryz.ntmps101
  go_wp2
  go_ret
  exact ⟨_, _, rfl, HR.out, HK.out⟩

set_option maxRecDepth 100000 in
set_option maxHeartbeats 8000000 in
theorem number_all (N rb : Nat) (bs : List UInt8) (deep : Int) (w : World) (hR : RD w N rb bs deep) : Calls Tryz.prog 69 #[.pointer (some ⟨rb, 0, none⟩)] w (RdP w N rb bs deep 1 fun v _ => ∃ m : Nat, m ≤ 1073741824 ∧ v = .int .i64 (m : Int)) := by
  have HR := Hid.mk hR
  clear hR
  go_enter Tryz.func69, Tryz.ntmps69
  go_wp2
  go_loopw [3, 4, 5] (fun acc more sh wr => ∃ (k A sN : Nat) (mo : Bool) (bs' : List UInt8), (mo = true → k ≤ 5) ∧ A ≤ 1073741824 ∧ 7 * k = sN ∧ acc = .int .u64 (A : Int) ∧ more = .bool mo ∧ sh = .int .i64 (sN : Int) ∧ RD wr N rb bs' deep ∧ bs'.length + k ≤ bs.length ∧ (mo = false → 1 ≤ k) ∧ k ≤ 6 ∧ Kept (fun k => k = rb) w wr) (fun _ more sh _ => moreN more - (intOf sh).toNat)
  case atStart => exact ⟨0, 0, 0, true, bs, by omega, by omega, rfl, rfl, rfl, rfl, HR.out, by omega, fun h => (by cases h), by omega, Kept.refl _ _⟩
  case round =>
    obtain ⟨k, A, sN, mo, bs1, hk5, hA, hs, rfl, rfl, rfl, hRr, hl, hmo, hk6, hkr⟩ := hrel
    have HRR := Hid.mk hRr
    have HKR := Hid.mk hkr
    clear hRr hkr
    cases mo
    · have hk1 := hmo rfl
      go_wp2
      go_ret
      exact Or.inl ⟨_, bs1, rfl, ⟨A, hA, rfl⟩, HRR.out, by omega, HKR.out⟩
    · have hk5' := hk5 rfl
      have hsN : sN ≤ 35 := by omega
      clear hk5 hmo
      rcases Nat.eq_zero_or_pos bs1.length with hz | hz
      · have HC := take_no N rb 1 bs1 deep wr HRR.out (by omega)
        go_wp2_with fail
        refine HC.mono ?_
        rintro e w2 ⟨rfl, rfl⟩
        exact ⟨rfl, Or.inr ⟨rfl, HKR.out⟩⟩
      · have HC := take_yes N rb 1 bs1 deep wr HRR.out hz (by decide)
        obtain ⟨y0, tl, rfl⟩ : ∃ y tl, bs1 = y :: tl := by
          cases bs1 with
          | nil => simp at hz
          | cons y tl => exact ⟨y, tl, rfl⟩
        simp only [List.take_succ_cons, List.take_zero, List.drop_succ_cons, List.drop_zero] at HC
        obtain ⟨y, hy, hyb⟩ : ∃ y : Nat, y < 256 ∧ ((y0.toNat : Nat) : Int) = (y : Int) := ⟨y0.toNat, y0.toNat_lt, rfl⟩
        have g1 := and127 y hy
        obtain ⟨q, hq⟩ : ∃ q, y % 128 = q := ⟨_, rfl⟩
        have hq1 : q < 128 := by omega
        rw [hq] at g1
        have g2 : IntKind.u64.wrap (q : Int) = (q : Int) := by rw [IntKind.wrap_u64]; omega
        have hpow : (2 : Nat) ^ sN ≤ 34359738368 := by
          have := Nat.pow_le_pow_right (n := 2) (by decide) hsN
          have h35 : (2 : Nat) ^ 35 = 34359738368 := by decide
          omega
        obtain ⟨z, hz1⟩ : ∃ z, q * 2 ^ sN = z := ⟨_, rfl⟩
        have hzb : z < 18446744073709551616 := by
          have := Nat.mul_le_mul (Nat.le_of_lt hq1) hpow
          omega
        have g3 : IntKind.u64.wrap ((q : Int) * 2 ^ sN) = (z : Int) := by
          have e : ((q : Nat) : Int) * 2 ^ sN = ((q * 2 ^ sN : Nat) : Int) := by rw [Int.natCast_mul, Int.natCast_pow]; rfl
          rw [e, hz1, IntKind.wrap_u64]
          omega
        obtain ⟨A2, hA2⟩ : ∃ A2, (A ||| z : Nat) = A2 := ⟨_, rfl⟩
        have g4 : bits .or .u64 (A : Int) (z : Int) = (A2 : Int) := by rw [bits_or_u64_nat A z (by omega) hzb, hA2]
        have HYB := Hid.mk hyb
        clear hyb hq hz1 hA2 hpow
        go_wp2_with fail
        refine HC.mono ?_
        rintro e w2 ⟨b, o, c, rfl, hbl, hR2, hk2⟩
        obtain ⟨cc, hlt⟩ : w2.cell? ⟨b, o, none⟩ = some (.int .u8 (y : Int)) ∧ b < w2.heap.size := by
          rcases hbl with h | ⟨b1, o1, e1, hlt, hcell⟩
          · cases h
          · simp only [Option.some.injEq, Addr.mk.injEq, and_true] at e1
            obtain ⟨rfl, rfl⟩ := e1
            have := hcell 0 (by simp)
            simp only [List.getElem_cons_zero, Nat.add_zero] at this
            rw [HYB.out] at this
            exact ⟨this, hlt⟩
        have HR2 := Hid.mk hR2
        have HK2 := Hid.mk (HKR.out.trans hk2)
        have HG := giveUp_any w2
        clear hbl hR2 hk2 HC
        by_cases hbig : A2 ≤ 1073741824 ∧ sN ≤ 28
        · have ha2 : ¬ (1073741824 : Int) < (A2 : Int) := by omega
          have hsx : ¬ (28 : Int) < (sN : Int) := by omega
          go_wp2
          refine ⟨⟨k + 1, A2, sN + 7, decide (127 < (y : Int)), tl, fun _ => by omega, hbig.1, by omega, rfl, rfl, by simp, HR2.out, by simp at hl; omega, fun _ => by omega, by omega, HK2.out⟩, ?_⟩
          cases hd : decide (127 < (y : Int)) <;> simp [moreN, intOf] <;> omega
        · have hbad : (1073741824 : Int) < (A2 : Int) ∨ (¬ (1073741824 : Int) < (A2 : Int) ∧ (28 : Int) < (sN : Int)) := by omega
          rcases hbad with h1 | ⟨h1, h2⟩
          all_goals
            go_wp2_with fail
            refine HG.mono ?_
            rintro e w3 ⟨rfl, rfl⟩
            exact ⟨rfl, Or.inr ⟨rfl, HK2.out⟩⟩
end Go.Proofs.YtndjdeiccmhelaaGreat
