/- The contract of the tables' meets. -/
import Derived.Test.YtkcpnbfhoamlfaaGreatDoorQEX
import Derived.Maps.RangeWalk
import Derived.Test.YtkcpnbfhoamlfaaGreatDoorXTY
namespace Go.Proofs.YtkcpnbfhoamlfaaGreatDoor
open Go.RowKit Go.Sort

theorem keyS_inv {key : Value} {kl : Lit} (h : keyOf Tryz.prog 9 key = some kl) : ∃ s : ByteArray, key = .string s := by
  unfold keyOf at h
  cases key <;> simp [Tryz.underlying9, mapKey] at h
  exact ⟨_, rfl⟩

theorem keyS_is {s : ByteArray} {kl : Lit} (h : keyOf Tryz.prog 9 (.string s) = some kl) : s.size ≤ maxLen ∧ kl = keyS s := by
  unfold keyOf at h
  simp [Tryz.underlying9, mapKey] at h
  exact ⟨h.1, h.2.symm⟩

theorem keyS_one {s s' : ByteArray} (h : keyS s' = keyS s) : s' = s := by
  unfold keyS at h
  simp only [Lit.string.injEq] at h
  cases s; cases s'
  exact congrArg ByteArray.mk (Array.ext' h)

theorem ranges_has {w : World} {b r n cnt : Nat} {D : DataW Unit} {left : Lit → Bool} {kl : Lit} (h : w.ranges Tryz.prog 9 readM b r n D left cnt) (hk : WideAt.IsKeyLit kl) (hl : left kl = true) : Maps.has D kl = true := by
  obtain ⟨es, clock, since, seen, c0, -, -, -, rfl, -, -, -, -, hl2, -⟩ := h
  obtain ⟨x, hx, he⟩ := hl2 kl hl
  rw [Maps.has_eq, List.any_eq_true]
  exact ⟨_, mem_sorted.2 (List.mem_map.2 ⟨x, hx, rfl⟩), by rw [he]; exact WideAt.sameKey_self hk⟩

/-- what meets answers -/
def MeetOut (M N : ByteArray → Option (Int × Int)) (e : Ending) : Prop := ∃ q : Bool, e = .returned (.bool q) ∧ (q = true ↔ ∃ s : ByteArray, s.size ≤ maxLen ∧ (N s).isSome = true ∧ (M s).isSome = true)

set_option maxRecDepth 100000 in
set_option maxHeartbeats 4000000 in
theorem tmeets_any (sb so n nm mb : Nat) (mv : Option Nat) (M N : ByteArray → Option (Int × Int)) (w : World) (hc : w.cell? ⟨sb, so, none⟩ = some (.map mv)) (hT : Tb w mv n M) (hN : Tb w (some mb) nm N) : Calls Tryz.prog 31 #[.pointer (some ⟨sb, so, none⟩), .agg #[.map (some mb)]] w fun e w' => MeetOut M N e ∧ RowKit.Below w.heap.size w w' := by
  have hsb : sb < w.heap.size := World.block_lt_of_cell? w _ hc
  have hmb := hN.lt
  obtain ⟨W0, hW0⟩ : ∃ W0, w.alloc (.cells #[.map (some mb)] 53) = W0 := ⟨_, rfl⟩
  have hb0 : RowKit.Below w.heap.size w W0 := by rw [← hW0]; exact (Below.refl _ _).alloc (Nat.le_refl _) _
  have hX0 : W0.heap[w.heap.size]? = some (.cells #[.map (some mb)] 53 (0, 0)) := by rw [← hW0]; exact alloc_new _ _
  have x0 : W0.cell? ⟨w.heap.size, 0, none⟩ = some (.map (some mb)) := by rw [cell_of_row W0 _ 0 _ _ _ hX0]; rfl
  have hs0 : W0.heap.size = w.heap.size + 1 := by rw [← hW0]; simp
  have hs0a := Nat.le_of_eq hs0
  have hs0b := Nat.le_of_eq hs0.symm
  have hN0 : Tb W0 (some mb) nm N := hN.keep fun b hb => hb0.block b (by cases hb; exact hmb)
  obtain ⟨D, ho0, hD⟩ : ∃ D, W0.ownsMap Tryz.prog 9 readM mb nm D ∧ ∀ s : ByteArray, s.size ≤ maxLen → Maps.has D (keyS s) = (N s).isSome ∧ ∀ x zd, N s = some x → D.atKey (keyS s) zd = .agg [.lit (.int .i64 x.1), .lit (.int .i64 x.2)] := by
    rcases hN0.go with ⟨h, -⟩ | ⟨b, D, h1, h2, h3⟩
    · cases h
    · cases h1; exact ⟨D, h2, h3⟩
  have HD := Hid.mk hD
  have HO0 := Hid.mk ho0
  have HC := Hid.mk hc
  have HT := Hid.mk hT
  have HB0 := Hid.mk hb0
  have HW0 := Hid.mk hW0
  clear hc hT hN hN0 hb0 hX0 hW0 hs0 hD ho0
  go_enter Tryz.func31, Tryz.ntmps31
  go_wp2_with (first | rw [HW0.out] | (at_range; refine wpList_range_own _ rfl _ 51 rfl 9 60 law_str Tryz.underlying51 _ mb nm D rfl HO0.out ?_; intro W1 hrg1 hg1 hs1; have HRG1 := Hid.mk hrg1; have HG1 := Hid.mk hg1; have hs1a := Nat.le_of_eq hs1; have hs1b := Nat.le_of_eq hs1.symm; clear hrg1 hg1 hs1))
  clear x0
  go_frame
  go_loopw [5] (fun _ wr => ∃ (left : Lit → Bool) (cnt : Nat), wr.ranges Tryz.prog 9 readM mb W0.heap.size nm D left cnt ∧ RowKit.Below w.heap.size w wr ∧ W0.heap.size < wr.heap.size ∧ ∀ s : ByteArray, s.size ≤ maxLen → (N s).isSome = true → left (keyS s) = false → (M s).isSome = false) (fun _ wr => wr.rangeLeft mb W0.heap.size)
  case atStart => exact ⟨_, _, HRG1.out, HB0.out.trans ⟨HG1.out.os, HG1.out.tape, HG1.out.output, HG1.out.size, fun k hk => HG1.out.block k (by omega) (by simp)⟩, by omega, fun s hs h1 h2 => by rw [(HD.out s hs).1, h1] at h2; cases h2⟩
  case round =>
    obtain ⟨left, cnt, hrg, hb, hsz, hsub⟩ := hrel
    have HB := Hid.mk hb
    have HSUB := Hid.mk hsub
    have hcr : wr.cell? ⟨sb, so, none⟩ = some (.map mv) := (hb.cell (p := ⟨sb, so, none⟩) hsb).trans HC.out
    rcases hrg.next law_str 0 with ⟨h0, hl, hrun⟩ | ⟨key, v, kl, y, w2, cnt2, hkey, hlk, hv, -, hrun, hrg2, hlt2, hg2, hsz2, hen⟩
    · have HL := Hid.mk hl
      clear hrg hb hsub hl
      go_wp2
      go_ret
      refine ⟨⟨false, rfl, ⟨fun h => (by cases h), fun ⟨s, h1, h2, h3⟩ => ?_⟩⟩, HB.out⟩
      rw [HSUB.out s h1 h2 (HL.out _)] at h3
      cases h3
    · obtain ⟨s, rfl⟩ := keyS_inv hkey
      obtain ⟨hs, rfl⟩ := keyS_is hkey
      obtain ⟨p, k, rfl, -⟩ := readM_inv hv
      have HRG2 := Hid.mk hrg2
      have HRG := Hid.mk hrg
      have hb2 : RowKit.Below w.heap.size w w2 := hb.trans ⟨hg2.os, hg2.tape, hg2.output, hg2.size, fun j hj => hg2.block j (by omega) (by intro e; cases e; omega)⟩
      have HB2 := Hid.mk hb2
      have hT2 : Tb w2 mv n M := HT.out.keep fun b hb => hb2.block b (by subst hb; exact HT.out.lt)
      obtain ⟨p2, k2, hrun2, -⟩ := hT2.look hs
      have hcr2 : w2.cell? ⟨sb, so, none⟩ = some (.map mv) := (hb2.cell (p := ⟨sb, so, none⟩) hsb).trans HC.out
      have HNS : Hid ((N s).isSome = true) := by
        unfold Hid
        rw [← (HD.out s hs).1]
        exact ranges_has hrg (keyS_lit hs) hlk
      obtain ⟨W2, hW2⟩ : ∃ W2, w2.alloc (.cells #[.int .i64 p2, .int .i64 k2] 60) = W2 := ⟨_, rfl⟩
      have hb3 : RowKit.Below w.heap.size w W2 := by rw [← hW2]; exact hb2.alloc (hb2.size) _
      have hrg3 : W2.ranges Tryz.prog 9 readM mb W0.heap.size nm D (fun z => left z && !z.sameKey (keyS s)) cnt2 := by rw [← hW2]; exact hrg2.alloc _
      have hs3 : w2.heap.size ≤ W2.heap.size := by rw [← hW2]; simp
      have HB3 := Hid.mk hb3
      have HRG3 := Hid.mk hrg3
      have HW2 := Hid.mk hW2
      have HQ : Hid (∃ q, (M s).isSome = q) := ⟨_, rfl⟩
      obtain ⟨q, hq⟩ := HQ.out
      have HQE := Hid.mk hq
      rw [hq] at hrun2
      have hltm : cnt2 < cnt := hlt2
      clear hrg hb hsub hrg2 hg2 hb2 hT2 hb3 hrg3 hW2 hq HQ hkey hlk hv
      cases q with
      | true =>
        go_wp2_with (rw [HW2.out])
        go_ret
        exact ⟨⟨true, rfl, fun _ => ⟨s, hs, HNS.out, HQE.out⟩, fun _ => rfl⟩, HB3.out⟩
      | false =>
        go_wp2_with (rw [HW2.out])
        refine ⟨⟨_, _, HRG3.out, HB3.out, by omega, fun s' hs' h1 h2 => ?_⟩, by rw [HRG3.out.left_eq, HRG.out.left_eq]; omega⟩
        cases hl : left (keyS s') with
        | false => exact HSUB.out s' hs' h1 hl
        | true =>
          rw [hl, Bool.true_and, Bool.not_eq_false'] at h2
          obtain rfl : s' = s := keyS_one (WideAt.sameKey_eq h2)
          exact HQE.out
end Go.Proofs.YtkcpnbfhoamlfaaGreatDoor

/- The contract of the tables' join. -/
namespace Go.Proofs.YtkcpnbfhoamlfaaGreatDoor
open Go.RowKit Go.Sort

theorem Tb.more {w : World} {mv : Option Nat} {n m : Nat} {M : ByteArray → Option (Int × Int)} (h : Tb w mv n M) (hn : n ≤ m) : Tb w mv m M := by
  cases mv with
  | some b => exact h.mono hn
  | none => exact ⟨h.go.elim (fun h => Or.inl h) (fun ⟨b, D, h1, h2, h3⟩ => by cases h1)⟩

theorem ranges_keep {w w' : World} {b r n cnt : Nat} {D : DataW Unit} {left : Lit → Bool} (h : w.ranges Tryz.prog 9 readM b r n D left cnt) (h1 : w'.heap[b]? = w.heap[b]?) (h2 : w'.heap[r]? = w.heap[r]?) : w'.ranges Tryz.prog 9 readM b r n D left cnt := by
  obtain ⟨es, clock, since, seen, c0, k1, k2, k3, k4, k5, k6⟩ := h
  exact ⟨es, clock, since, seen, c0, h1.trans k1, k2, k3, k4, h2.trans k5, k6⟩

/-- what the names mean, when those that are left are not yet put -/
def partM (M N : ByteArray → Option (Int × Int)) (left : Lit → Bool) : ByteArray → Option (Int × Int) := fun s => if (N s).isSome = true ∧ left (keyS s) = false then N s else M s

/-- both tables in one -/
def joinM (M N : ByteArray → Option (Int × Int)) : ByteArray → Option (Int × Int) := fun s => if (N s).isSome = true then N s else M s

theorem Tb.congr {w : World} {mv : Option Nat} {n : Nat} {M N : ByteArray → Option (Int × Int)} (h : Tb w mv n M) (he : ∀ s, s.size ≤ maxLen → M s = N s) (hb : ∀ s, ¬ s.size ≤ maxLen → N s = none) : Tb w mv n N := by
  rcases h.go with ⟨h1, h2⟩ | ⟨b, D, h1, h2, h3⟩
  · refine ⟨Or.inl ⟨h1, fun s => ?_⟩⟩
    by_cases hs : s.size ≤ maxLen
    · rw [← he s hs]; exact h2 s
    · exact hb s hs
  · exact ⟨Or.inr ⟨b, D, h1, h2, fun s hs => by rw [← he s hs]; exact h3 s hs⟩⟩

set_option maxRecDepth 100000 in
set_option maxHeartbeats 4000000 in
theorem tjoin_any (sb so n nm mb : Nat) (mv : Option Nat) (M N : ByteArray → Option (Int × Int)) (w : World) (hc : w.cell? ⟨sb, so, none⟩ = some (.map mv)) (hfz : ∀ o, w.frozen? ⟨sb, o, none⟩ = false) (hT : Tb w mv n M) (hN : Tb w (some mb) nm N) (h1 : mv ≠ some sb) (h2 : mv ≠ some mb) (h3 : mb ≠ sb) (hn : n + nm < maxLen) (hNb : ∀ s, ¬ s.size ≤ maxLen → N s = none) (hMb : ∀ s, ¬ s.size ≤ maxLen → M s = none) (hdis : ∀ s, (N s).isSome = true → M s = none) : Calls Tryz.prog 19 #[.pointer (some ⟨sb, so, none⟩), .agg #[.map (some mb)]] w fun e w' => e = .returned (.tuple #[]) ∧ ∃ mv', w'.cell? ⟨sb, so, none⟩ = some (.map mv') ∧ Tb w' mv' (n + nm) (joinM M N) ∧ mv' ≠ some sb ∧ (mv' = mv ∨ mv = none ∧ ∃ m, mv' = some m ∧ w.heap.size ≤ m) ∧ Kept (fun k => k = sb ∨ mv = some k) w w' ∧ (∀ o, o ≠ so → w'.cell? ⟨sb, o, none⟩ = w.cell? ⟨sb, o, none⟩) ∧ (∀ o, w'.frozen? ⟨sb, o, none⟩ = false) ∧ Rw w w' sb := by
  have hsb : sb < w.heap.size := World.block_lt_of_cell? w _ hc
  have hmb := hN.lt
  have hmvl : ∀ b, mv = some b → b < w.heap.size := fun b hb => by subst hb; exact hT.lt
  obtain ⟨W0, hW0⟩ : ∃ W0, w.alloc (.cells #[.map (some mb)] 53) = W0 := ⟨_, rfl⟩
  have hb0 : RowKit.Below w.heap.size w W0 := by rw [← hW0]; exact (Below.refl _ _).alloc (Nat.le_refl _) _
  have hX0 : W0.heap[w.heap.size]? = some (.cells #[.map (some mb)] 53 (0, 0)) := by rw [← hW0]; exact alloc_new _ _
  have x0 : W0.cell? ⟨w.heap.size, 0, none⟩ = some (.map (some mb)) := by rw [cell_of_row W0 _ 0 _ _ _ hX0]; rfl
  have hs0 : W0.heap.size = w.heap.size + 1 := by rw [← hW0]; simp
  have hs0a := Nat.le_of_eq hs0
  have hs0b := Nat.le_of_eq hs0.symm
  have hN0 : Tb W0 (some mb) nm N := hN.keep fun b hb => hb0.block b (by cases hb; exact hmb)
  obtain ⟨D, ho0, hD⟩ : ∃ D, W0.ownsMap Tryz.prog 9 readM mb nm D ∧ ∀ s : ByteArray, s.size ≤ maxLen → Maps.has D (keyS s) = (N s).isSome ∧ ∀ x zd, N s = some x → D.atKey (keyS s) zd = .agg [.lit (.int .i64 x.1), .lit (.int .i64 x.2)] := by
    rcases hN0.go with ⟨h, -⟩ | ⟨b, D, h1, h2, h3⟩
    · cases h
    · cases h1; exact ⟨D, h2, h3⟩
  have hsD := ho0.size_le
  have HD := Hid.mk hD
  have HO0 := Hid.mk ho0
  have HC := Hid.mk hc
  have HT := Hid.mk hT
  have HFZ := Hid.mk hfz
  have HB0 := Hid.mk hb0
  have HW0 := Hid.mk hW0
  have HNB := Hid.mk hNb
  have HMB := Hid.mk hMb
  have HDIS := Hid.mk hdis
  have HMVL := Hid.mk hmvl
  clear hc hT hN hN0 hb0 hX0 hW0 hs0 hD ho0 hfz hNb hMb hdis hmvl
  go_enter Tryz.func19, Tryz.ntmps19
  go_wp2_with (first | rw [HW0.out] | (at_range; refine wpList_range_own _ rfl _ 51 rfl 9 60 law_str Tryz.underlying51 _ mb nm D rfl HO0.out ?_; intro W1 hrg1 hg1 hs1; have HRG1 := Hid.mk hrg1; have HG1 := Hid.mk hg1; have hs1a := Nat.le_of_eq hs1; have hs1b := Nat.le_of_eq hs1.symm; clear hrg1 hg1 hs1))
  have HB1 : Hid (RowKit.Below w.heap.size w W1) := HB0.out.trans ⟨HG1.out.os, HG1.out.tape, HG1.out.output, HG1.out.size, fun k hk => HG1.out.block k (by omega) (by simp)⟩
  clear x0
  go_frame
  go_loopw [4] (fun _ wr => ∃ (left : Lit → Bool) (cnt nc : Nat) (mvc : Option Nat), wr.ranges Tryz.prog 9 readM mb W0.heap.size nm D left cnt ∧ W0.heap.size < wr.heap.size ∧ nc + cnt ≤ n + Maps.size D ∧ wr.cell? ⟨sb, so, none⟩ = some (.map mvc) ∧ (∀ o, wr.frozen? ⟨sb, o, none⟩ = false) ∧ Tb wr mvc nc (partM M N left) ∧ (mvc = mv ∨ mv = none ∧ ∃ m, mvc = some m ∧ W0.heap.size < m) ∧ Kept (fun k => k = sb ∨ mv = some k) w wr ∧ (∀ o, o ≠ so → wr.cell? ⟨sb, o, none⟩ = w.cell? ⟨sb, o, none⟩) ∧ Rw w wr sb) (fun _ wr => wr.rangeLeft mb W0.heap.size)
  case atStart =>
    refine ⟨_, _, n, mv, HRG1.out, by omega, Nat.le_refl _, (HB1.out.cell (p := ⟨sb, so, none⟩) hsb).trans HC.out, fun o => (World.frozen?_of_block (a := ⟨sb, o, none⟩) (HB1.out.block sb hsb)).trans (HFZ.out o), ?_, Or.inl rfl, Kept.of_below HB1.out, fun o _ => HB1.out.cell (p := ⟨sb, o, none⟩) hsb, Rw.of (HB1.out.block sb hsb)⟩
    refine (HT.out.keep fun b hb => HB1.out.block b (HMVL.out b hb)).congr (fun s hs => ?_) (fun s hs => ?_)
    · unfold partM
      rw [if_neg]
      rintro ⟨q1, q2⟩
      rw [(HD.out s hs).1, q1] at q2
      cases q2
    · unfold partM
      rw [if_neg (by rw [HNB.out s hs]; simp)]
      exact HMB.out s hs
  case round =>
    obtain ⟨left, cnt, nc, mvc, hrg, hsz, hnc, hcr, hfr, hTr, hmvc, hkr, hor, hrw⟩ := hrel
    have hx : ∀ b, mvc = some b → b ≠ sb ∧ b ≠ mb ∧ b ≠ W0.heap.size := fun b hb => by
      rcases hmvc with h | ⟨-, m, h, hm⟩
      · rw [h] at hb
        have := HMVL.out b hb
        exact ⟨fun e => h1 (by rw [hb, e]), fun e => h2 (by rw [hb, e]), by omega⟩
      · rw [h] at hb
        cases hb
        exact ⟨by omega, by omega, by omega⟩
    have HX := Hid.mk hx
    have HKR := Hid.mk hkr
    have HOR := Hid.mk hor
    have HRW := Hid.mk hrw
    have HMVC := Hid.mk hmvc
    have HTR := Hid.mk hTr
    have HRG := Hid.mk hrg
    have hwr := hkr.size
    rcases hrg.next law_str 0 with ⟨h0, hl, hrun⟩ | ⟨key, v, kl, y, w2, cnt2, hkey, hlk, hv, hat, hrun, hrg2, hlt2, hg2, hsz2, hen⟩
    · have HL := Hid.mk hl
      have HCR := Hid.mk hcr
      have HFR := Hid.mk hfr
      clear hrg hl hcr hfr hTr hmvc hkr hor hx hrw
      go_wp2
      refine bodyPost_end (v := .tuple #[]) (by simp [results, Tryz.results19, go_sem]) rfl ?_
      refine ⟨rfl, mvc, HCR.out, ?_, fun e => (HX.out _ e).1 rfl, ?_, HKR.out, HOR.out, HFR.out, HRW.out⟩
      · refine (HTR.out.more (by omega)).congr (fun s hs => ?_) (fun s hs => ?_)
        · unfold partM joinM
          by_cases hq : (N s).isSome = true
          · rw [if_pos ⟨hq, HL.out _⟩, if_pos hq]
          · rw [if_neg (fun h => hq h.1), if_neg hq]
        · unfold joinM
          rw [if_neg (by rw [HNB.out s hs]; simp)]
          exact HMB.out s hs
      · rcases HMVC.out with h | ⟨hmn, m, h, hm⟩
        · exact Or.inl h
        · exact Or.inr ⟨hmn, m, h, by omega⟩
    · obtain ⟨s, rfl⟩ := keyS_inv hkey
      obtain ⟨hs, rfl⟩ := keyS_is hkey
      obtain ⟨p, k, rfl, rfl⟩ := readM_inv hv
      have hsz2a := Nat.le_of_eq hsz2
      have hsz2b := Nat.le_of_eq hsz2.symm
      clear hsz2
      have HNS : Hid (N s = some (p, k)) := by
        unfold Hid
        have q1 : (N s).isSome = true := by rw [← (HD.out s hs).1]; exact ranges_has hrg (keyS_lit hs) hlk
        obtain ⟨x, hxx⟩ := Option.isSome_iff_exists.1 q1
        have q2 := (HD.out s hs).2 x (.agg []) hxx
        rw [hat] at q2
        simp only [DataW.agg.injEq, List.cons.injEq, DataW.lit.injEq, Lit.int.injEq, and_true, true_and] at q2
        rw [hxx, q2.1, q2.2]
      obtain ⟨W3, hW3⟩ : ∃ W3, w2.alloc (.cells #[.int .i64 p, .int .i64 k] 60) = W3 := ⟨_, rfl⟩
      have hY3 : W3.heap[w2.heap.size]? = some (.cells #[.int .i64 p, .int .i64 k] 60 (0, 0)) := by rw [← hW3]; exact alloc_new _ _
      have hE3 : ∀ j, j < w2.heap.size → j ≠ W0.heap.size → W3.heap[j]? = wr.heap[j]? := fun j hj hn => by rw [← hW3]; exact (Below.heap_alloc _ _ _ hj).trans (hg2.block j (by omega) (by intro e; cases e; exact hn rfl))
      have hs3 : W3.heap.size = w2.heap.size + 1 := by rw [← hW3]; simp
      have hs3a := Nat.le_of_eq hs3
      have hs3b := Nat.le_of_eq hs3.symm
      have hrg3 : W3.ranges Tryz.prog 9 readM mb W0.heap.size nm D (fun z => left z && !z.sameKey (keyS s)) cnt2 := by rw [← hW3]; exact hrg2.alloc _
      have hO3 : W3.os = wr.os ∧ W3.tape = wr.tape ∧ W3.output = wr.output := by rw [← hW3]; exact ⟨hg2.os, hg2.tape, hg2.output⟩
      have hT3 : Tb W3 mvc nc (partM M N left) := hTr.keep fun b hb => hE3 b (by have := hTr; subst hb; have := hTr.lt; omega) (hx b hb).2.2
      have HC4 := tput_any sb so nc mvc (partM M N left) s p k W3 ((World.cell?_of_block (a := ⟨sb, so, none⟩) (hE3 sb (by omega) (by omega))).trans hcr) (fun o => (World.frozen?_of_block (a := ⟨sb, o, none⟩) (hE3 sb (by omega) (by omega))).trans (hfr o)) hT3 (fun e => (hx _ e).1 rfl) hs (by omega)
      obtain ⟨y0, y1, yl, yf⟩ := cells2f hY3
      have HPN : Hid ((partM M N left s).isSome = false) := by
        unfold Hid partM
        rw [if_neg (by rw [hlk]; simp), HDIS.out s (by rw [HNS.out]; rfl)]
        rfl
      have HE3 := Hid.mk hE3
      have HRG3 := Hid.mk hrg3
      have HO3 := Hid.mk hO3
      have HW3 := Hid.mk hW3
      have HFR := Hid.mk hfr
      have HLK := Hid.mk hlk
      clear hrg hcr hfr hTr hmvc hkr hor hx hrw hrg2 hg2 hW3 hY3 hE3 hs3 hrg3 hO3 hT3 hkey hlk hv hat
      go_wp2_with (rw [HW3.out])
      refine HC4.mono ?_
      rintro e w4 (⟨h, -, -⟩ | ⟨-, rfl, m, hc4, hT4, hms, hmv4, hk4, ho4, hz4, hr4⟩)
      · rw [HPN.out] at h; cases h
      have hm4 : m ≠ mb ∧ m ≠ W0.heap.size := by
        rcases hmv4 with h | ⟨-, h⟩
        · exact (HX.out m h).2
        · exact ⟨by omega, by omega⟩
      have hs4 := hk4.size
      have HK4 := Hid.mk hk4
      have HT4 := Hid.mk hT4
      have HMV4 := Hid.mk hmv4
      have HC4' := Hid.mk hc4
      have HO4 := Hid.mk ho4
      have HZ4 := Hid.mk hz4
      have HR4 := Hid.mk hr4
      clear hc4 hT4 hmv4 hk4 ho4 hz4 hr4 HC4 y0 y1 yl yf
      go_wp2
      refine ⟨⟨_, _, nc + 1, some m, ranges_keep HRG3.out (HK4.out.block mb (by omega) (by rintro (h | h); exact h3 h; exact (HX.out mb h).2.1 rfl)) (HK4.out.block _ (by omega) (by rintro (h | h); omega; exact (HX.out _ h).2.2 rfl)), by omega, by omega, HC4'.out, fun o => ?_, ?_, ?_, ?_, fun o ho => ?_, HRW.out.trans ((Rw.of (HE3.out sb (by omega) (by omega))).trans HR4.out)⟩, by rw [(ranges_keep HRG3.out (HK4.out.block mb (by omega) (by rintro (h | h); exact h3 h; exact (HX.out mb h).2.1 rfl)) (HK4.out.block _ (by omega) (by rintro (h | h); omega; exact (HX.out _ h).2.2 rfl))).left_eq, HRG.out.left_eq]; omega⟩
      · exact (HZ4.out o).trans ((World.frozen?_of_block (a := ⟨sb, o, none⟩) (HE3.out sb (by omega) (by omega))).trans (HFR.out o))
      · refine HT4.out.congr (fun s' hs' => ?_) (fun s' hs' => ?_)
        · unfold updM partM
          by_cases he : s'.data.toList = s.data.toList
          · obtain rfl : s' = s := keyS_one (by unfold keyS; rw [he])
            rw [if_pos rfl, if_pos ⟨by rw [HNS.out]; rfl, by simp only [WideAt.sameKey_self (keyS_lit hs)]; simp⟩, HNS.out]
          · rw [if_neg he]
            have hk : (keyS s').sameKey (keyS s) = false := by
              cases hq : (keyS s').sameKey (keyS s) with
              | false => rfl
              | true => exact absurd (WideAt.sameKey_eq hq) (keyS_ne he)
            simp only [hk]
            simp
        · unfold partM
          rw [if_neg (by rw [HNB.out s' hs']; simp)]
          exact HMB.out s' hs'
      · rcases HMV4.out with h | ⟨hcn, h⟩
        · rcases HMVC.out with h' | ⟨hmn, m', h', hm'⟩
          · exact Or.inl (h.symm.trans h')
          · exact Or.inr ⟨hmn, m, rfl, by rw [h] at h'; cases h'; exact hm'⟩
        · rcases HMVC.out with h' | ⟨hmn, m', h', hm'⟩
          · exact Or.inr ⟨h'.symm.trans hcn, m, rfl, by omega⟩
          · exact Or.inr ⟨hmn, m, rfl, by omega⟩
      · refine ⟨HK4.out.os.trans (HO3.out.1.trans HKR.out.os), HK4.out.tape.trans (HO3.out.2.1.trans HKR.out.tape), HK4.out.output.trans (HO3.out.2.2.trans HKR.out.output), by omega, fun j hj hn => ?_⟩
        refine (HK4.out.block j (by omega) ?_).trans ((HE3.out j (by omega) (by omega)).trans (HKR.out.block j hj hn))
        rintro (h | h)
        · exact hn (Or.inl h)
        · rcases HMVC.out with h' | ⟨-, m', h', hm'⟩
          · exact hn (Or.inr (h'.symm.trans h))
          · rw [h] at h'; cases h'; omega
      · exact (HO4.out o ho).trans ((World.cell?_of_block (a := ⟨sb, o, none⟩) (HE3.out sb (by omega) (by omega))).trans (HOR.out o ho))
end Go.Proofs.YtkcpnbfhoamlfaaGreatDoor

/- An executor for closed calls, 33: a table in memory, as entries and as a function. -/
namespace Go.Proofs.YtkcpnbfhoamlfaaGreatDoor.X
open Go.RowKit

theorem inj_key {l : List MapEntry} (h : (l.map (·.key)).Nodup) {x y : MapEntry} (hx : x ∈ l) (hy : y ∈ l) (e : x.key = y.key) : x = y := by
  induction l with
  | nil => cases hx
  | cons z l ih =>
    simp only [List.map_cons, List.nodup_cons] at h
    rcases List.mem_cons.1 hx with e1 | h1
    · rcases List.mem_cons.1 hy with e2 | h2
      · rw [e1, e2]
      · exact absurd (List.mem_map.2 ⟨y, h2, by rw [← e, e1]⟩) h.1
    · rcases List.mem_cons.1 hy with e2 | h2
      · exact absurd (List.mem_map.2 ⟨x, h1, by rw [e, e2]⟩) h.1
      · exact ih h.2 h1 h2

/-- an entry of a table -/
def EntM (M : ByteArray → Option (Int × Int)) (x : MapEntry) : Prop := ∃ s p k, x.key = .string s ∧ s.size ≤ maxLen ∧ x.val = .agg #[.int .i64 p, .int .i64 k] ∧ M s = some (p, k)

/-- a table's entries -/
theorem Tb.out {w : World} {b n : Nat} {M : ByteArray → Option (Int × Int)} (h : Tb w (some b) n M) : ∃ arr clk, w.heap[b]? = some (.map arr clk) ∧ MapKept.Stamped arr clk ∧ arr.size ≤ n ∧ (∀ x ∈ arr.toList, EntM M x) ∧
    ∀ s p k, s.size ≤ maxLen → M s = some (p, k) → ∃ x ∈ arr.toList, x.key = .string s ∧ x.val = .agg #[.int .i64 p, .int .i64 k] := by
  rcases h.go with ⟨h, -⟩ | ⟨b', D, h1, ⟨arr, clk, hb, F, hs, rfl⟩, hD⟩
  · cases h
  cases h1
  refine ⟨arr, clk, hb, F.stamped, hs, fun x hx => ?_, fun s p k hsz hM => ?_⟩
  · obtain ⟨y, hy⟩ := F.reads x hx
    obtain ⟨s, hks⟩ := keyS_inv (WideElems.rd_key hy)
    have hkey := WideElems.rd_key hy
    rw [hks] at hkey
    obtain ⟨hsz, hy1⟩ := keyS_is hkey
    rcases Maps.fit_look true law_str Tryz.underlying51 (zeroM w) hb F (keyS_of hsz) with ⟨-, hno, -⟩ | ⟨e0, y0, he0, hk0, -, hR0, hat, -⟩
    · exact absurd hks (hno x hx)
    · have hex : e0 = x := inj_key F.stamped.2.2 he0 hx (hk0.trans hks.symm)
      subst hex
      obtain ⟨p, k, hv, hy0⟩ := readM_inv hR0
      have hhas := Maps.has_true_of_atKey hat
      rw [(hD s hsz).1] at hhas
      obtain ⟨x', hx'⟩ := Option.isSome_iff_exists.1 hhas
      have h2 := (hD s hsz).2 x' (.agg []) hx'
      rw [hat, hy0] at h2
      simp only [DataW.agg.injEq, List.cons.injEq, DataW.lit.injEq, Lit.int.injEq, and_true, true_and] at h2
      exact ⟨s, p, k, hks, hsz, hv, by rw [hx', h2.1, h2.2]⟩
  · rcases Maps.fit_look true law_str Tryz.underlying51 (zeroM w) hb F (keyS_of hsz) with ⟨-, -, hat⟩ | ⟨e0, y0, he0, hk0, -, hR0, hat, -⟩
    · have := Maps.has_false_of_atKey hat
      rw [(hD s hsz).1, hM] at this
      cases this
    · obtain ⟨p', k', hv, hy0⟩ := readM_inv hR0
      have h2 := (hD s hsz).2 (p, k) (.agg []) hM
      rw [hat, hy0] at h2
      simp only [DataW.agg.injEq, List.cons.injEq, DataW.lit.injEq, Lit.int.injEq, and_true, true_and] at h2
      exact ⟨e0, he0, hk0, by rw [hv, h2.1, h2.2]⟩

/-- entries are a table -/
theorem Tb.of {w : World} {b n : Nat} {M : ByteArray → Option (Int × Int)} {arr : Array MapEntry} {clk : Nat} (hb : w.heap[b]? = some (.map arr clk)) (hst : MapKept.Stamped arr clk) (hs : arr.size ≤ n) (hn : n ≤ maxLen) (h1 : ∀ x ∈ arr.toList, EntM M x)
    (h2 : ∀ s p k, s.size ≤ maxLen → M s = some (p, k) → ∃ x ∈ arr.toList, x.key = .string s ∧ x.val = .agg #[.int .i64 p, .int .i64 k]) : Tb w (some b) n M := by
  have F : WideElems.Fit Tryz.prog 9 readM arr clk := ⟨Nat.le_trans hs hn, hst, fun x hx => by
    obtain ⟨s, p, k, e1, e2, e3, e4⟩ := h1 x hx
    exact ⟨_, WideElems.rd_mk (key := x.key) (val := x.val) (born := x.born) (by rw [e1]; exact keyS_of e2) (by rw [e3]; exact readM_mk p k)⟩⟩
  refine ⟨.inr ⟨b, _, rfl, ⟨arr, clk, hb, F, hs, rfl⟩, fun s hsz => ?_⟩⟩
  rcases Maps.fit_look true law_str Tryz.underlying51 (zeroM w) hb F (keyS_of hsz) with ⟨-, hno, hat⟩ | ⟨e0, y0, he0, hk0, -, hR0, hat, -⟩
  · have hM : M s = none := by
      cases hm : M s with
      | none => rfl
      | some x =>
        obtain ⟨e, he, hk, -⟩ := h2 s x.1 x.2 hsz hm
        exact absurd hk (hno e he)
    refine ⟨?_, fun x zd hx => by rw [hM] at hx; cases hx⟩
    rw [Maps.has_false_of_atKey hat, hM]; rfl
  · obtain ⟨s', p, k, e1, e2, e3, e4⟩ := h1 e0 he0
    have : s' = s := by rw [hk0] at e1; exact (Value.string.inj e1).symm
    subst this
    obtain ⟨p', k', hv, hy0⟩ := readM_inv hR0
    refine ⟨by rw [Maps.has_true_of_atKey hat, e4]; rfl, fun x zd hx => ?_⟩
    rw [e4] at hx
    cases hx
    rw [hat, hy0]
    rw [e3] at hv
    simp only [Value.agg.injEq, Array.mk.injEq, List.cons.injEq, Value.int.injEq, and_true, true_and] at hv
    rw [hv.1, hv.2]

end Go.Proofs.YtkcpnbfhoamlfaaGreatDoor.X

/- An executor for closed calls, 34: a map's block is a table, and a table is a map's block. -/
namespace Go.Proofs.YtkcpnbfhoamlfaaGreatDoor.X
open Go.RowKit

def natsOf (b : ByteArray) : List Nat := b.data.toList.map (·.toNat)

theorem bytes_nats (b : ByteArray) : bytesOf (natsOf b) = b := by
  cases b with
  | mk d =>
    unfold bytesOf natsOf
    congr 1
    apply Array.ext'
    show List.map UInt8.ofNat (List.map (fun x : UInt8 => x.toNat) d.toList) = d.toList
    rw [List.map_map]
    conv => rhs; rw [← List.map_id d.toList]
    exact List.map_congr_left fun x _ => by simp

theorem nats_bytes {s : List Nat} (h : ∀ x ∈ s, x < 256) : natsOf (bytesOf s) = s := by
  unfold natsOf bytesOf
  simp only [List.map_map]
  conv => rhs; rw [← List.map_id s]
  refine List.map_congr_left fun x hx => ?_
  have := h x hx
  simp [UInt8.toNat_ofNat']
  omega

def okE (e : AV × AV × Nat) : Bool := match e.1, e.2.1 with
  | .str s, .agg [.int .i64 _, .int .i64 _] => Nat.ble s.length 1000
  | _, _ => false

def okEs : List (AV × AV × Nat) → Bool
  | [] => true
  | e :: l => okE e && okEs l

theorem okE_spec {e : AV × AV × Nat} (h : okE e = true) : ∃ s p k, e.1 = .str s ∧ e.2.1 = .agg [.int .i64 p, .int .i64 k] ∧ s.length ≤ 1000 := by
  unfold okE at h
  split at h
  · rename_i s p k h1 h2
    exact ⟨s, p, k, h1, h2, Nat.le_of_ble_eq_true h⟩
  · cases h

theorem okEs_mem : ∀ {es : List (AV × AV × Nat)}, okEs es = true → ∀ e ∈ es, okE e = true
  | [], _, e, he => by cases he
  | x :: l, h, e, he => by
    simp only [okEs, Bool.and_eq_true] at h
    rcases List.mem_cons.1 he with rfl | he
    · exact h.1
    · exact okEs_mem h.2 e he

/-- entries, as a function -/
def MofE (es : List (AV × AV × Nat)) : ByteArray → Option (Int × Int) := fun b => match look (natsOf b) es with
  | some (.agg [.int .i64 p, .int .i64 k]) => some (p, k)
  | _ => none

theorem MofE_iff {es : List (AV × AV × Nat)} {b : ByteArray} {p k : Int} : MofE es b = some (p, k) ↔ look (natsOf b) es = some (.agg [.int .i64 p, .int .i64 k]) := by
  unfold MofE
  constructor
  · intro h
    split at h
    · rename_i p' k' he
      cases h
      exact he
    · cases h
  · intro h
    rw [h]

section
variable {P : Program} {w0 : World} {r : Rho} {h : T AO} {nx : Pt} {w : World}

/-- texts as they may stand in memory -/
def okS (es : List (AV × AV × Nat)) : Prop := ∀ e ∈ es, ∀ s, e.1 = .str s → ∀ x ∈ s, x < 256

theorem okS_of {es : List (AV × AV × Nat)} {n : Pt → Prop} {c : Nat} (ho : okO n (.map es c)) : okS es := fun e he s hs => by
  have := (ho e he).1
  rw [hs] at this
  simpa only [okV] using this

theorem tb_of_BR {k : Pt} {es : List (AV × AV × Nat)} {c n b : Nat} (hbr : BR P r k (.map es c) (w.heap[b]?)) (hS : okS es) (hok : okEs es = true) (hl : es.length ≤ n) (hn : n ≤ maxLen) : Tb w (some b) n (MofE es) := by
  obtain ⟨es', c', hb, M, Bi⟩ := hbr
  have hok' : ∀ e ∈ es', ∃ s p k, e.1 = .str s ∧ e.2.1 = .agg [.int .i64 p, .int .i64 k] ∧ s.length ≤ 1000 ∧ ∀ x ∈ s, x < 256 := fun e he => by
    obtain ⟨e', he', q1, q2⟩ := M.mem he
    obtain ⟨s, p, k, g1, g2, g3⟩ := okE_spec (okEs_mem hok e' he')
    exact ⟨s, p, k, by rw [← q1]; exact g1, by rw [← q2]; exact g2, g3, hS e' he' s g1⟩
  have hkv : ∀ e ∈ es', ∀ s, e.1 = .str s → look s es = some e.2.1 := fun e he s hs => by
    rw [look_mem M.str M.nodup, M.perm.mem_iff]
    exact List.mem_map.2 ⟨e, he, by simp [KV, hs]⟩
  have hmax : (1000 : Nat) ≤ maxLen := by decide
  refine Tb.of hb ⟨fun x hx => ?_, ?_, ?_⟩ (by simpa using Nat.le_trans (Nat.le_of_eq (by have := M.perm.length_eq; simpa using this.symm)) hl) hn (fun x hx => ?_) fun s p k hs hM => ?_
  · obtain ⟨e, he, rfl⟩ := List.mem_map.1 (show x ∈ es'.map (concE r) from hx)
    exact Bi.2 e he
  · have : (es'.map (concE r)).map (·.born) = es'.map (·.2.2) := by simp [concE, Function.comp_def]
    show ((es'.map (concE r)).map (·.born)).Nodup
    rw [this]; exact Bi.1
  · show ((es'.map (concE r)).map (·.key)).Nodup
    have hk := M.keys.1
    unfold List.Nodup at hk ⊢
    rw [List.pairwise_map] at hk
    rw [List.map_map, List.pairwise_map]
    refine hk.imp_of_mem fun {a b} ha hb' hab e => hab ?_
    obtain ⟨s, p, k, g1, -, -, g4⟩ := hok' a ha
    obtain ⟨s', p', k', g1', -, -, g4'⟩ := hok' b hb'
    simp only [Function.comp, concE, g1, g1', conc, Value.string.injEq] at e
    rw [g1, g1', ← nats_bytes g4, ← nats_bytes g4', e]
  · obtain ⟨e, he, rfl⟩ := List.mem_map.1 (show x ∈ es'.map (concE r) from hx)
    obtain ⟨s, p, k, g1, g2, g3, g4⟩ := hok' e he
    refine ⟨bytesOf s, p, k, by simp [concE, g1, conc], ?_, by simp [concE, g2, conc, concL], ?_⟩
    · have : (bytesOf s).size = s.length := by simp [bytesOf, ByteArray.size]
      rw [this]; omega
    · rw [MofE_iff, nats_bytes g4, hkv e he s g1, g2]
  · rw [MofE_iff, look_mem M.str M.nodup, M.perm.mem_iff] at hM
    obtain ⟨e, he, q⟩ := List.mem_map.1 hM
    simp only [KV, Prod.mk.injEq] at q
    refine ⟨concE r e, List.mem_map.2 ⟨e, he, rfl⟩, ?_, ?_⟩
    · simp [concE, q.1, conc, bytes_nats]
    · simp [concE, q.2, conc, concL]

/-- an entry of the world, told -/
def decE (x : MapEntry) : AV × AV × Nat := (match x.key with | .string s => .str (natsOf s) | _ => .nilp, match x.val with | .agg a => (match a.toList with | [.int _ p, .int _ k] => .agg [.int .i64 p, .int .i64 k] | _ => .nilp) | _ => .nilp, x.born)

theorem BR_of_tb {k : Pt} {es : List (AV × AV × Nat)} {c n b : Nat} (hT : Tb w (some b) n (MofE es)) (hS : okS es) (hok : okEs es = true) (hnd : (es.map Prod.fst).Nodup) : BR P r k (.map es c) (w.heap[b]?) := by
  obtain ⟨arr, clk, hb, hst, -, h1, h2⟩ := Tb.out hT
  have hstr : ∀ e ∈ es, ∃ s, e.1 = .str s := fun e he => by obtain ⟨s, p, k, g, -⟩ := okE_spec (okEs_mem hok e he); exact ⟨s, g⟩
  have hdec : ∀ x ∈ arr.toList, ∃ s p k, x.key = .string s ∧ decE x = (.str (natsOf s), .agg [.int .i64 p, .int .i64 k], x.born) ∧ x.val = .agg #[.int .i64 p, .int .i64 k] ∧ look (natsOf s) es = some (.agg [.int .i64 p, .int .i64 k]) := fun x hx => by
    obtain ⟨s, p, k, e1, e2, e3, e4⟩ := h1 x hx
    exact ⟨s, p, k, e1, by simp only [decE, e1, e3], e3, MofE_iff.1 e4⟩
  have hmax : (1000 : Nat) ≤ maxLen := by decide
  refine ⟨arr.toList.map decE, clk, ?_, ⟨?_, hnd, hstr⟩, ?_, fun e he => ?_⟩
  · rw [hb]
    congr 2
    apply Array.ext'
    rw [List.map_map]
    conv => lhs; rw [← List.map_id arr.toList]
    refine List.map_congr_left fun x hx => ?_
    obtain ⟨s, p, k, e1, e2, e3, -⟩ := hdec x hx
    cases x with
    | mk key val born =>
      simp only at e1 e3
      subst e1; subst e3
      simp only [Function.comp, id, e2, concE, conc, concL, bytes_nats]
  · have hkn : ∀ {l : List (AV × AV × Nat)}, (l.map Prod.fst).Nodup → (l.map KV).Nodup := fun {l} h => by
      unfold List.Nodup at h ⊢
      rw [List.pairwise_map] at h ⊢
      exact h.imp fun {a b} hab e => hab (by simp only [KV, Prod.mk.injEq] at e; exact e.1)
    have hnd2 : ((arr.toList.map decE).map Prod.fst).Nodup := by
      have hk := hst.2.2
      unfold List.Nodup at hk ⊢
      rw [List.pairwise_map] at hk
      rw [List.map_map, List.pairwise_map]
      refine hk.imp_of_mem fun {a b} ha hb' hab e => hab ?_
      obtain ⟨s, p, k, e1, e2, -⟩ := hdec a ha
      obtain ⟨s', p', k', e1', e2', -⟩ := hdec b hb'
      simp only [Function.comp, e2, e2', AV.str.injEq] at e
      rw [e1, e1', ← bytes_nats s, ← bytes_nats s', e]
    rw [List.perm_ext_iff_of_nodup (hkn hnd) (hkn hnd2)]
    intro q
    constructor
    · intro hq
      obtain ⟨e, he, rfl⟩ := List.mem_map.1 hq
      obtain ⟨s, p, k, g1, g2, g3⟩ := okE_spec (okEs_mem hok e he)
      have hl := (look_mem hstr hnd (s := s) (v := e.2.1)).2 (List.mem_map.2 ⟨e, he, by simp [KV, g1]⟩)
      obtain ⟨x, hx, q1, q2⟩ := h2 (bytesOf s) p k (by have : (bytesOf s).size = s.length := by simp [bytesOf, ByteArray.size]
                                                       rw [this]; omega) (by rw [MofE_iff, nats_bytes (hS e he s g1), hl, g2])
      obtain ⟨s', p', k', e1, e2, e3, -⟩ := hdec x hx
      rw [q1] at e1
      cases e1
      rw [q2] at e3
      simp only [Value.agg.injEq, Array.mk.injEq, List.cons.injEq, Value.int.injEq, and_true, true_and] at e3
      refine List.mem_map.2 ⟨decE x, List.mem_map.2 ⟨x, hx, rfl⟩, ?_⟩
      rw [e2]
      simp only [KV, g1, g2, nats_bytes (hS e he s g1), ← e3.1, ← e3.2]
    · intro hq
      obtain ⟨e, he, rfl⟩ := List.mem_map.1 hq
      obtain ⟨x, hx, rfl⟩ := List.mem_map.1 he
      obtain ⟨s', p', k', e1, e2, e3, e4⟩ := hdec x hx
      rw [e2]
      exact (look_mem hstr hnd).1 e4
  · have : (arr.toList.map decE).map (·.2.2) = arr.toList.map (·.born) := by simp [decE, Function.comp_def]
    rw [this]; exact hst.2.1
  · obtain ⟨x, hx, rfl⟩ := List.mem_map.1 he
    exact hst.1 x hx

end
end Go.Proofs.YtkcpnbfhoamlfaaGreatDoor.X

/- An executor for closed calls, 35: the tables' join and meets, told. -/
namespace Go.Proofs.YtkcpnbfhoamlfaaGreatDoor.X
open Go.RowKit

section
variable {P : Program} {w0 : World} {r : Rho} {h : T AO} {nx : Pt} {w w' : World}

/-- some known blocks have turned -/
theorem WR.turn (H : WR P w0 r h nx w) {h' : T AO} (hB : Below w0.heap.size w0 w') (h1 : ∀ k o, h'.find k = some o → (h.find k = some o ∧ w'.heap[r.blk k]? = w.heap[r.blk k]?) ∨ ((∃ o0, h.find k = some o0) ∧ okO r.has o ∧ BR P r k o (w'.heap[r.blk k]?))) : WR P w0 r h' nx w' := by
  have key : ∀ k o, h'.find k = some o → ∃ o0, h.find k = some o0 := fun k o hk => by
    rcases h1 k o hk with ⟨g, -⟩ | ⟨g, -⟩
    · exact ⟨o, g⟩
    · exact g
  refine ⟨H.dom, H.dis, hB, fun k o hk => ?_, fun i j oi oj hi hj e => ?_⟩
  · rcases h1 k o hk with ⟨g, e⟩ | ⟨⟨o0, g⟩, g2, g3⟩
    · obtain ⟨a1, a2, a3, a4⟩ := H.has k o g
      exact ⟨a1, a2, a3, by rw [e]; exact a4⟩
    · obtain ⟨a1, a2, -, -⟩ := H.has k o0 g
      exact ⟨a1, a2, g2, g3⟩
  · obtain ⟨x, hx⟩ := key i oi hi
    obtain ⟨y, hy⟩ := key j oj hj
    exact H.apart i j x y hx hy e

/-- no key of the second is one of the first -/
def disB (es1 : List (AV × AV × Nat)) : List (AV × AV × Nat) → Bool
  | [] => true
  | e :: l => (match e.1 with | .str s => (look s es1).isNone | _ => false) && disB es1 l

theorem disB_spec {es1 : List (AV × AV × Nat)} : ∀ {es2 : List (AV × AV × Nat)}, disB es1 es2 = true → ∀ e ∈ es2, ∀ s, e.1 = .str s → look s es1 = none
  | [], _, e, he => by cases he
  | x :: l, h, e, he => by
    simp only [disB, Bool.and_eq_true] at h
    rcases List.mem_cons.1 he with rfl | he
    · intro s hs
      have := h.1
      rw [hs] at this
      simpa using this
    · exact disB_spec h.2 e he

theorem look_app {s : List Nat} : ∀ {es1 es2 : List (AV × AV × Nat)}, (∀ e ∈ es1, ∃ s, e.1 = .str s) → look s (es1 ++ es2) = (match look s es1 with | some v => some v | none => look s es2)
  | [], es2, _ => rfl
  | e :: l, es2, h => by
    obtain ⟨s', hs'⟩ := h e (List.mem_cons_self ..)
    simp only [List.cons_append, look, hs']
    cases eqN s s' with
    | true => rfl
    | false => exact look_app fun e he => h e (List.mem_cons_of_mem _ he)

theorem okEs_app : ∀ {a b : List (AV × AV × Nat)}, okEs a = true → okEs b = true → okEs (a ++ b) = true
  | [], _, _, hb => hb
  | e :: l, b, ha, hb => by
    simp only [okEs, Bool.and_eq_true, List.cons_append] at ha ⊢
    exact ⟨ha.1, okEs_app ha.2 hb⟩

/-- there are two arguments, no more -/
def twoK (tm : T AV) (c : Prop) : Prop := match tm.find (.o .e) with
  | none => c
  | some _ => False

/-- what join does -/
def joinD : D := fun _ tm h nx K => twoK tm <| tm.getK .e fun a0 => tm.getK (.z .e) fun a1 => match a0, a1 with
  | .ptr kt ot, .agg [.map m2] => h.getK kt fun b => match b with
    | .cells cs e => h.getK m2 fun b2 => match b2 with
      | .map es2 _ => match cs[ot]? with
        | some (.map m1) => h.getK m1 fun b1 => match b1 with
          | .map es1 _ => Bool.rec (motive := fun _ => Prop) False (forceL (es1 ++ es2) fun es => h.setK (.map es 0) m1 fun h => K .nrm tm h nx)
              (okEs es1 && okEs es2 && disB es1 es2 && !(eqP m1 kt) && !(eqP m2 m1) && !(eqP m2 kt) && Nat.ble es1.length 1000 && Nat.ble es2.length 1000)
          | _ => False
        | some .nilm => Bool.rec (motive := fun _ => Prop) False (h.setK (.map es2 0) nx fun h => forceL (putL cs ot [.map nx]) fun cs' => h.setK (.cells cs' e) kt fun h => forceP nx.succ fun nx' => K .nrm tm h nx')
            (okEs es2 && !(eqP m2 kt) && Nat.ble es2.length 1000 && Nat.ble 1 es2.length)
        | _ => False
      | _ => False
    | _ => False
  | _, _ => False

/-- the slot of the answer of meets -/
def meetP : Pt := .o (.z .e)

/-- what meets does -/
def meetsD : D := fun _ tm h nx K => twoK tm <| tm.getK .e fun a0 => tm.getK (.z .e) fun a1 => match a0, a1 with
  | .ptr kt ot, .agg [.map m2] => h.getK kt fun b => match b with
    | .cells cs _ => h.getK m2 fun b2 => match b2 with
      | .map es2 _ => match cs[ot]? with
        | some (.map m1) => h.getK m1 fun b1 => match b1 with
          | .map es1 _ => Bool.rec (motive := fun _ => Prop) False (Bool.rec (motive := fun _ => Prop) (tm.setK (.bool true) meetP fun tm => K .ret tm h nx) (tm.setK (.bool false) meetP fun tm => K .ret tm h nx) (disB es1 es2))
              (okEs es1 && okEs es2 && Nat.ble es1.length 1000 && Nat.ble es2.length 1000)
          | _ => False
        | some .nilm => Bool.rec (motive := fun _ => Prop) False (tm.setK (.bool false) meetP fun tm => K .ret tm h nx) (okEs es2 && Nat.ble es2.length 1000)
        | _ => False
      | _ => False
    | _ => False
  | _, _ => False

def joinAF : AF := ⟨joinD, []⟩
def meetsAF : AF := ⟨meetsD, [.t meetP]⟩

/-- a variable that holds a table -/
theorem cell_of_BR {k : Pt} {cs : List AV} {e : TypeId} {b o : Nat} {v : AV} (hbr : BR P r k (.cells cs e) (w.heap[b]?)) (hv : cs[o]? = some v) : w.cell? ⟨b, o, none⟩ = some (conc r v) ∧ ∀ o, w.frozen? ⟨b, o, none⟩ = false := by
  obtain ⟨rest, hb, -⟩ := hbr
  refine ⟨?_, fun o => by simp [World.frozen?, hb]⟩
  rw [cell_of_row _ _ _ _ _ _ hb]
  have ho : o < (concL r cs).length := by rw [concL_length]; exact (List.getElem?_eq_some_iff.1 hv).1
  rw [List.getElem?_toArray, List.getElem?_append_left ho, concL_get, hv]
  rfl

theorem argsK_full : ∀ {args : List AV} {p : Pt} {tm : T AV} {c : T AV → Prop}, argsK args p tm c → ∃ tm', c tm' ∧ (∀ q : Pt, q.toNat < p.toNat → tm'.find q = tm.find q) ∧ (∀ (q : Pt) i v, q.toNat = p.toNat + i → args[i]? = some v → tm'.find q = some v) ∧
    ∀ (q : Pt), p.toNat + args.length ≤ q.toNat → tm'.find q = tm.find q
  | [], p, tm, c, hk => ⟨tm, hk, fun _ _ => rfl, fun q i v _ h => by simp at h, fun _ _ => rfl⟩
  | x :: l, p, tm, c, hk => by
    have hk : tm.setK x p fun tm => forceP p.succ fun p => argsK l p tm c := hk
    rw [T.setK_iff, forceP_iff] at hk
    obtain ⟨tm', h1, h2, h3, h4⟩ := argsK_full hk
    refine ⟨tm', h1, fun q hq => ?_, fun q i v hq hv => ?_, fun q hq => ?_⟩
    · rw [h2 q (by rw [Pt.toNat_succ]; omega), T.find_set_ne _ _ _ _ (fun e => by rw [e] at hq; omega)]
    · cases i with
      | zero =>
        have : q = p := Pt.inj (by omega)
        subst this
        simp only [List.getElem?_cons_zero, Option.some.injEq] at hv
        rw [h2 q (by rw [Pt.toNat_succ]; omega), T.find_set, hv]
      | succ i => exact h3 q i v (by rw [Pt.toNat_succ]; omega) (by simpa using hv)
    · simp only [List.length_cons] at hq
      rw [h4 q (by rw [Pt.toNat_succ]; omega), T.find_set_ne _ _ _ _ (fun e => by rw [e] at hq; omega)]

theorem args_two {args : List AV} {tm : T AV} {c : AV → AV → Prop} (hf : ∀ (q : Pt) v, args[q.toNat]? = some v → tm.find q = some v) (hb : ∀ q v, tm.find q = some v → args[q.toNat]? = some v) (hk : twoK tm (tm.getK .e fun a0 => tm.getK (.z .e) fun a1 => c a0 a1)) : ∃ a0 a1, args = [a0, a1] ∧ c a0 a1 := by
  unfold twoK at hk
  split at hk
  · rename_i hn
    obtain ⟨a0, h0, hk⟩ := (T.getK_iff _ _ _).1 hk
    obtain ⟨a1, h1, hk⟩ := (T.getK_iff _ _ _).1 hk
    have e0 := hb _ _ h0
    have e1 := hb _ _ h1
    simp only [Pt.toNat] at e0 e1
    match args, e0, e1 with
    | [x, y], e0, e1 =>
      simp at e0 e1
      exact ⟨a0, a1, by rw [e0, e1], hk⟩
    | x :: y :: z :: l, e0, e1 =>
      have := hf (.o .e) z (by simp [Pt.toNat])
      rw [hn] at this; cases this
  · exact hk.elim

/-- two arguments -/
theorem two_args {args : List AV} {c : AV → AV → T AV → Prop} (hk : argsK args .e .l fun tm => twoK tm (tm.getK .e fun a0 => tm.getK (.z .e) fun a1 => c a0 a1 tm)) : ∃ a0 a1 tm, args = [a0, a1] ∧ c a0 a1 tm := by
  obtain ⟨tm, h1, h2, h3, h4⟩ := argsK_full hk
  have hb : ∀ q v, tm.find q = some v → args[q.toNat]? = some v := by
    intro q v hv
    rcases Nat.lt_or_ge q.toNat args.length with hlt | hge
    · have := h3 q q.toNat args[q.toNat] (by simp [Pt.toNat]) (by simp [hlt])
      rw [this] at hv; cases hv; simp [hlt]
    · rw [h4 q (by simp [Pt.toNat]; exact hge), T.find_l] at hv
      cases hv
  obtain ⟨a0, a1, e, hk⟩ := args_two (c := fun a0 a1 => c a0 a1 tm) (fun q v hv => h3 q q.toNat v (by simp [Pt.toNat]) hv) hb h1
  exact ⟨a0, a1, tm, e, hk⟩

end
end Go.Proofs.YtkcpnbfhoamlfaaGreatDoor.X
