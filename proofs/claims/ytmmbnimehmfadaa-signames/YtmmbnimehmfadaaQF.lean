/- The contract of the tables' meets. -/
import Derived.Test.YtmmbnimehmfadaaQE
import Derived.Maps.RangeWalk
namespace Go.Proofs.Ytmmbnimehmfadaa
open Go.RowKit Go.Sort

theorem keyS_inv {key : Value} {kl : Lit} (h : keyOf Try.prog 9 key = some kl) : ∃ s : ByteArray, key = .string s := by
  unfold keyOf at h
  cases key <;> simp [Try.underlying9, mapKey] at h
  exact ⟨_, rfl⟩

theorem keyS_is {s : ByteArray} {kl : Lit} (h : keyOf Try.prog 9 (.string s) = some kl) : s.size ≤ maxLen ∧ kl = keyS s := by
  unfold keyOf at h
  simp [Try.underlying9, mapKey] at h
  exact ⟨h.1, h.2.symm⟩

theorem keyS_one {s s' : ByteArray} (h : keyS s' = keyS s) : s' = s := by
  unfold keyS at h
  simp only [Lit.string.injEq] at h
  cases s; cases s'
  exact congrArg ByteArray.mk (Array.ext' h)

theorem ranges_has {w : World} {b r n cnt : Nat} {D : DataW Unit} {left : Lit → Bool} {kl : Lit} (h : w.ranges Try.prog 9 readM b r n D left cnt) (hk : WideAt.IsKeyLit kl) (hl : left kl = true) : Maps.has D kl = true := by
  obtain ⟨es, clock, since, seen, c0, -, -, -, rfl, -, -, -, -, hl2, -⟩ := h
  obtain ⟨x, hx, he⟩ := hl2 kl hl
  rw [Maps.has_eq, List.any_eq_true]
  exact ⟨_, mem_sorted.2 (List.mem_map.2 ⟨x, hx, rfl⟩), by rw [he]; exact WideAt.sameKey_self hk⟩

/-- what meets answers -/
def MeetOut (M N : ByteArray → Option (Int × Int)) (e : Ending) : Prop := ∃ q : Bool, e = .returned (.bool q) ∧ (q = true ↔ ∃ s : ByteArray, s.size ≤ maxLen ∧ (N s).isSome = true ∧ (M s).isSome = true)

set_option maxRecDepth 100000 in
set_option maxHeartbeats 4000000 in
theorem tmeets_any (sb so n nm mb : Nat) (mv : Option Nat) (M N : ByteArray → Option (Int × Int)) (w : World) (hc : w.cell? ⟨sb, so, none⟩ = some (.map mv)) (hT : Tb w mv n M) (hN : Tb w (some mb) nm N) : Calls Try.prog 26 #[.pointer (some ⟨sb, so, none⟩), .agg #[.map (some mb)]] w fun e w' => MeetOut M N e ∧ RowKit.Below w.heap.size w w' := by
  have hsb : sb < w.heap.size := World.block_lt_of_cell? w _ hc
  have hmb := hN.lt
  obtain ⟨W0, hW0⟩ : ∃ W0, w.alloc (.cells #[.map (some mb)] 52) = W0 := ⟨_, rfl⟩
  have hb0 : RowKit.Below w.heap.size w W0 := by rw [← hW0]; exact (Below.refl _ _).alloc (Nat.le_refl _) _
  have hX0 : W0.heap[w.heap.size]? = some (.cells #[.map (some mb)] 52 (0, 0)) := by rw [← hW0]; exact alloc_new _ _
  have x0 : W0.cell? ⟨w.heap.size, 0, none⟩ = some (.map (some mb)) := by rw [cell_of_row W0 _ 0 _ _ _ hX0]; rfl
  have hs0 : W0.heap.size = w.heap.size + 1 := by rw [← hW0]; simp
  have hs0a := Nat.le_of_eq hs0
  have hs0b := Nat.le_of_eq hs0.symm
  have hN0 : Tb W0 (some mb) nm N := hN.keep fun b hb => hb0.block b (by cases hb; exact hmb)
  obtain ⟨D, ho0, hD⟩ : ∃ D, W0.ownsMap Try.prog 9 readM mb nm D ∧ ∀ s : ByteArray, s.size ≤ maxLen → Maps.has D (keyS s) = (N s).isSome ∧ ∀ x zd, N s = some x → D.atKey (keyS s) zd = .agg [.lit (.int .i64 x.1), .lit (.int .i64 x.2)] := by
    rcases hN0.go with ⟨h, -⟩ | ⟨b, D, h1, h2, h3⟩
    · cases h
    · cases h1; exact ⟨D, h2, h3⟩
  have HD := Hid.mk hD
  have HO0 := Hid.mk ho0
  have HC := Hid.mk hc
  have HT := Hid.mk hT
  have HB0 := Hid.mk hb0
  have HW0 := Hid.mk hW0
  clear hc hT hN hN0 hb0 hX0 hW0 hs0 hD ho0
  go_enter Try.func26, Try.ntmps26
  go_wp2_with (first | rw [HW0.out] | (at_range; refine wpList_range_own _ rfl _ 50 rfl 9 59 law_str Try.underlying50 _ mb nm D rfl HO0.out ?_; intro W1 hrg1 hg1 hs1; have HRG1 := Hid.mk hrg1; have HG1 := Hid.mk hg1; have hs1a := Nat.le_of_eq hs1; have hs1b := Nat.le_of_eq hs1.symm; clear hrg1 hg1 hs1))
  clear x0
  go_frame
  go_loopw [5] (fun _ wr => ∃ (left : Lit → Bool) (cnt : Nat), wr.ranges Try.prog 9 readM mb W0.heap.size nm D left cnt ∧ RowKit.Below w.heap.size w wr ∧ W0.heap.size < wr.heap.size ∧ ∀ s : ByteArray, s.size ≤ maxLen → (N s).isSome = true → left (keyS s) = false → (M s).isSome = false) (fun _ wr => wr.rangeLeft mb W0.heap.size)
  case atStart => exact ⟨_, _, HRG1.out, HB0.out.trans ⟨HG1.out.os, HG1.out.tape, HG1.out.output, HG1.out.size, fun k hk => HG1.out.block k (by omega) (by simp)⟩, by omega, fun s hs h1 h2 => by rw [(HD.out s hs).1, h1] at h2; cases h2⟩
  case round =>
    obtain ⟨left, cnt, hrg, hb, hsz, hsub⟩ := hrel
    have HB := Hid.mk hb
    have HSUB := Hid.mk hsub
    have hcr : wr.cell? ⟨sb, so, none⟩ = some (.map mv) := (hb.cell (p := ⟨sb, so, none⟩) hsb).trans HC.out
    rcases hrg.next law_str 0 with ⟨h0, hl, hrun⟩ | ⟨key, v, kl, y, w2, cnt2, hkey, hlk, hv, -, hrun, hrg2, hlt2, hg2, hsz2, hen⟩
    · have HL := Hid.mk hl
      clear hrg hb hsub hl
      go_wp2
      go_ret
      refine ⟨⟨false, rfl, ⟨fun h => (by cases h), fun ⟨s, h1, h2, h3⟩ => ?_⟩⟩, HB.out⟩
      rw [HSUB.out s h1 h2 (HL.out _)] at h3
      cases h3
    · obtain ⟨s, rfl⟩ := keyS_inv hkey
      obtain ⟨hs, rfl⟩ := keyS_is hkey
      obtain ⟨p, k, rfl, -⟩ := readM_inv hv
      have HRG2 := Hid.mk hrg2
      have HRG := Hid.mk hrg
      have hb2 : RowKit.Below w.heap.size w w2 := hb.trans ⟨hg2.os, hg2.tape, hg2.output, hg2.size, fun j hj => hg2.block j (by omega) (by intro e; cases e; omega)⟩
      have HB2 := Hid.mk hb2
      have hT2 : Tb w2 mv n M := HT.out.keep fun b hb => hb2.block b (by subst hb; exact HT.out.lt)
      obtain ⟨p2, k2, hrun2, -⟩ := hT2.look hs
      have hcr2 : w2.cell? ⟨sb, so, none⟩ = some (.map mv) := (hb2.cell (p := ⟨sb, so, none⟩) hsb).trans HC.out
      have HNS : Hid ((N s).isSome = true) := by
        unfold Hid
        rw [← (HD.out s hs).1]
        exact ranges_has hrg (keyS_lit hs) hlk
      obtain ⟨W2, hW2⟩ : ∃ W2, w2.alloc (.cells #[.int .i64 p2, .int .i64 k2] 59) = W2 := ⟨_, rfl⟩
      have hb3 : RowKit.Below w.heap.size w W2 := by rw [← hW2]; exact hb2.alloc (hb2.size) _
      have hrg3 : W2.ranges Try.prog 9 readM mb W0.heap.size nm D (fun z => left z && !z.sameKey (keyS s)) cnt2 := by rw [← hW2]; exact hrg2.alloc _
      have hs3 : w2.heap.size ≤ W2.heap.size := by rw [← hW2]; simp
      have HB3 := Hid.mk hb3
      have HRG3 := Hid.mk hrg3
      have HW2 := Hid.mk hW2
      have HQ : Hid (∃ q, (M s).isSome = q) := ⟨_, rfl⟩
      obtain ⟨q, hq⟩ := HQ.out
      have HQE := Hid.mk hq
      rw [hq] at hrun2
      have hltm : cnt2 < cnt := hlt2
      clear hrg hb hsub hrg2 hg2 hb2 hT2 hb3 hrg3 hW2 hq HQ hkey hlk hv
      cases q with
      | true =>
        go_wp2_with (rw [HW2.out])
        go_ret
        exact ⟨⟨true, rfl, fun _ => ⟨s, hs, HNS.out, HQE.out⟩, fun _ => rfl⟩, HB3.out⟩
      | false =>
        go_wp2_with (rw [HW2.out])
        refine ⟨⟨_, _, HRG3.out, HB3.out, by omega, fun s' hs' h1 h2 => ?_⟩, by rw [HRG3.out.left_eq, HRG.out.left_eq]; omega⟩
        cases hl : left (keyS s') with
        | false => exact HSUB.out s' hs' h1 hl
        | true =>
          rw [hl, Bool.true_and, Bool.not_eq_false'] at h2
          obtain rfl : s' = s := keyS_one (WideAt.sameKey_eq h2)
          exact HQE.out
end Go.Proofs.Ytmmbnimehmfadaa
