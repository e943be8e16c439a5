/- The contracts of the reader of package bytes, where what is read was written: take, number. -/
import Derived.Test.YtndjdeiccmhelaaGreatEH
import Derived.Test.YtndjdeiccmhelaaGreatKC
import Derived.Test.YtndjdeiccmhelaaGreatOL
namespace Go.Proofs.YtndjdeiccmhelaaGreat
open Go.RowKit Go.Sort Go.Lib

/-- block rb is a reader's: bs is what is left, so many terms are around; the reader and its bytes lie ahead of N -/
def RD (w : World) (N rb : Nat) (bs : List UInt8) (deep : Int) : Prop := rb < N ∧ N ≤ w.heap.size ∧ ∃ a cap, w.heap[rb]? = some (.cells #[.slice a bs.length cap, .int .i64 deep] 73 (0, 0)) ∧ BL w a bs ∧ bs.length ≤ cap ∧ cap ≤ 9223372036854775807 ∧ (∀ ad, a = some ad → ad.block ≠ rb ∧ ad.block < N) ∧ (a = none → bs = [])

theorem RD.lt {w : World} {N rb : Nat} {bs : List UInt8} {deep : Int} (h : RD w N rb bs deep) : rb < w.heap.size := Nat.lt_of_lt_of_le h.1 h.2.1

theorem RD.move {w w' : World} {N rb : Nat} {bs : List UInt8} {deep : Int} (h : RD w N rb bs deep) (hs : w.heap.size ≤ w'.heap.size) (hk : ∀ k, k < N → w'.heap[k]? = w.heap[k]?) : RD w' N rb bs deep := by
  obtain ⟨h1, h2, a, cap, hh, hB, hc, hm, hne, hn⟩ := h
  exact ⟨h1, Nat.le_trans h2 hs, a, cap, (hk rb h1).trans hh, hB.move hs fun b off e _ => hk b (hne _ e).2, hc, hm, hne, hn⟩

theorem RD.on {w w' : World} {N rb : Nat} {bs : List UInt8} {deep : Int} (h : RD w N rb bs deep) (hb : RowKit.Below w.heap.size w w') : RD w' N rb bs deep := h.move hb.size fun k hk => hb.block k (Nat.lt_of_lt_of_le hk h.2.1)

theorem Kept.setNew {P : Nat → Prop} {w w2 : World} (h : Kept P w w2) {p : Addr} (hp : w.heap.size ≤ p.block) (v : Value) : Kept P w (w2.setCell p v) :=
  ⟨h.os, h.tape, h.output, by have := h.size; simp [World.setCell]; omega, fun k hk hq => (Below.heap_setCell _ _ _ _ (by omega)).trans (h.block k hk hq)⟩

theorem RD.setNew {w : World} {N rb : Nat} {bs : List UInt8} {deep : Int} (h : RD w N rb bs deep) {p : Addr} (hp : N ≤ p.block) (v : Value) : RD (w.setCell p v) N rb bs deep := h.move (by simp [World.setCell]) fun k hk => Below.heap_setCell _ _ _ _ (by omega)

/-- what is left behind n bytes -/
theorem RD.cut {w : World} {N rb n b off c : Nat} {bs : List UInt8} {deep : Int} {x : Value} (hh : w.heap[rb]? = some (.cells #[x, .int .i64 deep] 73 (0, 0))) (hB : BL w (some ⟨b, off, none⟩) bs) (hbr : b ≠ rb) (hbN : b < N) (hrN : rb < N) (hNs : N ≤ w.heap.size) {a' : Addr} (ha : a' = ⟨b, off + n, none⟩ ∨ (bs.length ≤ n ∧ a' = ⟨b, off, none⟩)) (hc : bs.length - n ≤ c) (hm : c ≤ 9223372036854775807) :
    RD (w.setCell ⟨rb, 0, none⟩ (.slice (some a') (bs.length - n) c)) N rb (bs.drop n) deep ∧ Kept (fun k => k = rb) w (w.setCell ⟨rb, 0, none⟩ (.slice (some a') (bs.length - n) c)) ∧ BL (w.setCell ⟨rb, 0, none⟩ (.slice (some a') (bs.length - n) c)) (some ⟨b, off, none⟩) (bs.take n) := by
  have hk : Kept (fun k => k = rb) w (w.setCell ⟨rb, 0, none⟩ (.slice (some a') (bs.length - n) c)) := (Kept.refl (fun k => k = rb) w).setCell (p := ⟨rb, 0, none⟩) rfl _
  have hB' : BL (w.setCell ⟨rb, 0, none⟩ (.slice (some a') (bs.length - n) c)) (some ⟨b, off, none⟩) bs := hB.move hk.size fun b' off' e hb' => hk.block b' hb' (by simp only [Option.some.injEq, Addr.mk.injEq] at e; omega)
  refine ⟨⟨hrN, Nat.le_trans hNs hk.size, some a', c, ?_, ?_, by rw [List.length_drop]; exact hc, hm, fun ad e => ?_, fun e => by cases e⟩, hk, ?_⟩
  · rw [List.length_drop]; exact heap_set0 hh
  · rcases hB' with h | ⟨b1, o1, e1, hlt, hcell⟩
    · left; rw [h]; simp
    · simp only [Option.some.injEq, Addr.mk.injEq, and_true] at e1
      obtain ⟨rfl, rfl⟩ := e1
      rcases ha with rfl | ⟨hl, rfl⟩
      · refine Or.inr ⟨b, off + n, rfl, hlt, fun i hi => ?_⟩
        have hi' : n + i < bs.length := by rw [List.length_drop] at hi; omega
        have := hcell (n + i) hi'
        rw [List.getElem_drop, Nat.add_assoc]
        exact this
      · left; exact List.drop_eq_nil_of_le hl
  · simp only [Option.some.injEq] at e
    subst e
    rcases ha with rfl | ⟨-, rfl⟩ <;> exact ⟨hbr, hbN⟩
  · rcases hB' with h | ⟨b1, o1, e1, hlt, hcell⟩
    · left; rw [h]; simp
    · exact Or.inr ⟨b1, o1, e1, hlt, fun i hi => by
        have hi' : i < bs.length := by rw [List.length_take] at hi; omega
        rw [List.getElem_take]
        exact hcell i hi'⟩

set_option maxRecDepth 100000 in
set_option maxHeartbeats 4000000 in
theorem take_yes (N rb n : Nat) (bs : List UInt8) (deep : Int) (w : World) (hR : RD w N rb bs deep) (hn : n ≤ bs.length) (hn0 : 0 < n) : Calls Tryz.prog 101 #[.pointer (some ⟨rb, 0, none⟩), .int .i64 (n : Int)] w fun e w' => ∃ b o c, e = .returned (.slice (some ⟨b, o, none⟩) n c) ∧ BL w' (some ⟨b, o, none⟩) (bs.take n) ∧ RD w' N rb (bs.drop n) deep ∧ Kept (fun k => k = rb) w w' := by
  obtain ⟨hrN, hNs, a, cap, hh, hB, hc, hm, hne, hnn⟩ := hR
  obtain ⟨b, off, rfl⟩ : ∃ b off, a = some ⟨b, off, none⟩ := by
    rcases hB with h | ⟨b, off, h, -⟩
    · rw [h] at hn; simp at hn; omega
    · exact ⟨b, off, h⟩
  obtain ⟨x0, x1, -, -, x4⟩ := cells2 hh
  obtain ⟨f0, f1⟩ := frz2 hh
  obtain ⟨hbr, hbN⟩ := hne _ rfl
  simp only at hbr hbN
  have HH := Hid.mk hh
  have HBL := Hid.mk hB
  clear hh hB hne hnn
  by_cases hcn : cap = n
  · subst hcn
    have hl : bs.length ≤ cap := by omega
    have hcut := RD.cut (n := cap) (c := 0) (deep := deep) HH.out HBL.out hbr hbN hrN hNs (a' := ⟨b, off, none⟩) (Or.inr ⟨hl, rfl⟩) (by omega) (by omega)
    rw [show bs.length - cap = 0 by omega] at hcut
    have HC := Hid.mk hcut
    clear hcut
    go_enter Tryz.func101, Tryz.ntmps101
    go_wp2
    go_ret
    exact ⟨b, off, _, rfl, HC.out.2.2, HC.out.1, HC.out.2.1⟩
  · have hcut := RD.cut (n := n) (c := cap - n) (deep := deep) HH.out HBL.out hbr hbN hrN hNs (a' := ⟨b, off + n, none⟩) (Or.inl rfl) (by omega) (by omega)
    have HC := Hid.mk hcut
    clear hcut
    go_enter Tryz.func101, Tryz.ntmps101
    go_wp2
    go_ret
    exact ⟨b, off, _, rfl, HC.out.2.2, HC.out.1, HC.out.2.1⟩

def moreN : Value → Nat
  | .bool true => 100
  | _ => 0

theorem and127 (x : Nat) (h : x < 256) : bits .and .u8 (x : Int) 127 = ((x % 128 : Nat) : Int) := by
  have key : ∀ y : Fin 256, bits .and .u8 ((y.val : Nat) : Int) 127 = ((y.val % 128 : Nat) : Int) := by decide +kernel
  exact key ⟨x, h⟩

theorem or_low {A q s : Nat} (hA : A < 2 ^ s) (h1 : A < 18446744073709551616) (h2 : q * 2 ^ s < 18446744073709551616) : bits .or .u64 (A : Int) ((q * 2 ^ s : Nat) : Int) = ((q * 2 ^ s + A : Nat) : Int) := by
  rw [bits_or_u64_nat A (q * 2 ^ s) h1 h2, Nat.or_comm, ← Nat.shiftLeft_eq, Nat.shiftLeft_add_eq_or_of_lt hA]

/-- one byte of a number: what is known of it in the walk -/
theorem round_facts {n k y : Nat} (hn : n ≤ 1073741824) (hk : k ≤ 4) (hy : y < 256) (hq : y % 128 = n / 128 ^ k % 128) :
    ∃ A sN z A2 q : Nat, n % 128 ^ k = A ∧ 7 * k = sN ∧ sN ≤ 28 ∧ bits .and .u8 (y : Int) 127 = (q : Int) ∧ IntKind.u64.wrap (q : Int) = (q : Int) ∧ IntKind.u64.wrap ((q : Int) * 2 ^ sN) = (z : Int) ∧ bits .or .u64 (A : Int) (z : Int) = (A2 : Int) ∧ A2 = n % 128 ^ (k + 1) ∧ A2 ≤ 1073741824 := by
  have hp : (128 : Nat) ^ k = 2 ^ (7 * k) := by rw [Nat.pow_mul]
  have hA : n % 128 ^ k < 2 ^ (7 * k) := by rw [← hp]; exact Nat.mod_lt _ (Nat.pow_pos (by decide))
  have hle : (2 : Nat) ^ (7 * k) ≤ 2 ^ 28 := Nat.pow_le_pow_right (by decide) (by omega)
  have h28 : (2 : Nat) ^ 28 = 268435456 := by decide
  have hz : y % 128 * 2 ^ (7 * k) < 18446744073709551616 := by
    have h1 : y % 128 < 128 := Nat.mod_lt _ (by decide)
    have := Nat.mul_le_mul (Nat.le_of_lt h1) hle
    omega
  have hsum : n % 128 ^ (k + 1) = y % 128 * 2 ^ (7 * k) + n % 128 ^ k := by
    rw [Nat.pow_succ, Nat.mod_mul, hq, ← hp, Nat.mul_comm, Nat.add_comm]
  refine ⟨n % 128 ^ k, 7 * k, y % 128 * 2 ^ (7 * k), n % 128 ^ (k + 1), y % 128, rfl, rfl, by omega, and127 y hy, ?_, ?_, ?_, rfl, Nat.le_trans (Nat.mod_le _ _) hn⟩
  · rw [IntKind.wrap_u64]; omega
  · have e : ((y % 128 : Nat) : Int) * 2 ^ (7 * k) = ((y % 128 * 2 ^ (7 * k) : Nat) : Int) := by
      rw [Int.natCast_mul, Int.natCast_pow]; rfl
    rw [e, IntKind.wrap_u64]
    omega
  · rw [hsum]
    exact or_low hA (by omega) hz

set_option maxRecDepth 100000 in
set_option maxHeartbeats 8000000 in
theorem rdnum_any (N rb n : Nat) (rest : List UInt8) (deep : Int) (w : World) (hR : RD w N rb (numB n ++ rest) deep) (hn : n ≤ 1073741824) : Calls Tryz.prog 69 #[.pointer (some ⟨rb, 0, none⟩)] w fun e w' => e = .returned (.int .i64 (n : Int)) ∧ RD w' N rb rest deep ∧ Kept (fun k => k = rb) w w' := by
  have HR := Hid.mk hR
  clear hR
  go_enter Tryz.func69, Tryz.ntmps69
  go_wp2
  go_loopw [3, 4, 5] (fun acc more sh wr => (∃ k A sN : Nat, k ≤ 4 ∧ n % 128 ^ k = A ∧ 7 * k = sN ∧ acc = .int .u64 (A : Int) ∧ more = .bool true ∧ sh = .int .i64 (sN : Int) ∧ RD wr N rb (numB (n / 128 ^ k) ++ rest) deep ∧ Kept (fun k => k = rb) w wr) ∨ (∃ s : Int, acc = .int .u64 (n : Int) ∧ more = .bool false ∧ sh = .int .i64 s ∧ RD wr N rb rest deep ∧ Kept (fun k => k = rb) w wr)) (fun _ more sh _ => moreN more - (intOf sh).toNat)
  case atStart => exact Or.inl ⟨0, 0, 0, by omega, by simp [Nat.mod_one], rfl, rfl, rfl, rfl, by simpa using HR.out, Kept.refl _ _⟩
  case round =>
    rcases hrel with ⟨k, A0, s0, hk, hA0, hs0, rfl, rfl, rfl, hRr, hkr⟩ | ⟨s, rfl, rfl, rfl, hRr, hkr⟩
    · have HRR := Hid.mk hRr
      have HKR := Hid.mk hkr
      clear hRr hkr
      have hlen1 : 1 ≤ (numB (n / 128 ^ k) ++ rest).length := by rw [List.length_append]; cases h : numB (n / 128 ^ k) with | nil => exact absurd h (numB_ne _) | cons a l => simp; omega
      have HC := take_yes N rb 1 _ deep wr HRR.out hlen1 (by decide)
      clear hlen1
      obtain ⟨y, tl, hy, hnb, hq⟩ : ∃ (y : Nat) (tl : List UInt8), y < 256 ∧ numB (n / 128 ^ k) = UInt8.ofNat y :: tl ∧ y % 128 = n / 128 ^ k % 128 ∧ ((128 ≤ n / 128 ^ k ∧ 127 < y ∧ tl = numB (n / 128 ^ (k + 1))) ∨ (n / 128 ^ k < 128 ∧ y < 128 ∧ tl = [])) := by
        by_cases h : 128 ≤ n / 128 ^ k
        · exact ⟨n / 128 ^ k % 128 + 128, numB (n / 128 ^ k / 128), by omega, numB_big h, by omega, Or.inl ⟨h, by omega, by rw [Nat.div_div_eq_div_mul, ← Nat.pow_succ]⟩⟩
        · exact ⟨n / 128 ^ k, [], by omega, numB_small (by omega), by omega, Or.inr ⟨by omega, by omega, rfl⟩⟩
      obtain ⟨hq, hcase⟩ := hq
      obtain ⟨A, sN, z, A2, q, rfl, rfl, hs28, g1, g2, g3, g4, hA2, hA2l⟩ := round_facts hn hk hy hq
      have hyb : ((UInt8.ofNat y).toNat : Int) = (y : Int) := by rw [UInt8.toNat_ofNat_of_lt' (by show y < 256; omega)]
      rw [hnb] at HC
      simp only [List.cons_append, List.take_succ_cons, List.take_zero, List.drop_succ_cons, List.drop_zero] at HC
      rw [hA0] at g4
      rw [hs0] at g3 hs28
      have HA0 := Hid.mk hA0
      have HS0 := Hid.mk hs0
      have HNB := Hid.mk hnb
      have HCASE := Hid.mk hcase
      have HA2 := Hid.mk hA2
      have hyc : (127 < (y : Int)) = decide (128 ≤ n / 128 ^ k) := by
        rcases hcase with ⟨h1, h2, -⟩ | ⟨h1, h2, -⟩ <;> simp <;> omega
      have HYB := Hid.mk hyb
      clear hA0 hs0 hnb hcase hA2 hq hyb
      go_wp2_with fail
      refine HC.mono ?_
      rintro e w2 ⟨b, o, c, rfl, hbl, hR2, hk2⟩
      obtain ⟨cc, hlt⟩ : w2.cell? ⟨b, o, none⟩ = some (.int .u8 (y : Int)) ∧ b < w2.heap.size := by
        rcases hbl with h | ⟨b1, o1, e1, hlt, hcell⟩
        · cases h
        · simp only [Option.some.injEq, Addr.mk.injEq, and_true] at e1
          obtain ⟨rfl, rfl⟩ := e1
          have := hcell 0 (by simp)
          simp only [List.getElem_cons_zero, Nat.add_zero] at this
          rw [HYB.out] at this
          exact ⟨this, hlt⟩
      have HR2 := Hid.mk hR2
      have HK2 := Hid.mk (HKR.out.trans hk2)
      clear hbl hR2 hk2 HC
      have ha2 : ¬ (1073741824 : Int) < (A2 : Int) := by omega
      have hsx : ¬ (28 : Int) < (s0 : Int) := by omega
      go_wp2
      rcases HCASE.out with ⟨h1, h2, h3⟩ | ⟨h1, h2, h3⟩
      · have hk3 : k ≤ 3 := by
          rcases Nat.lt_or_ge 3 k with h | h
          · obtain rfl : k = 4 := by omega
            have h4 : (128 : Nat) ^ 4 = 268435456 := by decide
            rw [h4] at h1
            omega
          · exact h
        have hs0 := HS0.out
        refine ⟨Or.inl ⟨k + 1, A2, s0 + 7, by omega, HA2.out.symm, by omega, rfl, by simp [h1], by simp, ?_, HK2.out⟩, ?_⟩
        · rw [← h3]; exact HR2.out
        · simp [h1, moreN, intOf]; omega
      · have hA : A2 = n := by
          rw [HA2.out]
          refine Nat.mod_eq_of_lt ?_
          rw [Nat.pow_succ, Nat.mul_comm]
          exact (Nat.div_lt_iff_lt_mul (Nat.pow_pos (by decide))).1 h1
        have hs0 := HS0.out
        have hd : decide (128 ≤ n / 128 ^ k) = false := by simp; omega
        refine ⟨Or.inr ⟨_, by rw [hA], by rw [hd], rfl, ?_, HK2.out⟩, ?_⟩
        · have := HR2.out; rwa [h3, List.nil_append] at this
        · rw [hd]; simp [moreN, intOf]; omega
    · have HRR := Hid.mk hRr
      have HKR := Hid.mk hkr
      clear hRr hkr
      go_wp2
      go_ret
      exact ⟨rfl, HRR.out, HKR.out⟩
end Go.Proofs.YtndjdeiccmhelaaGreat
