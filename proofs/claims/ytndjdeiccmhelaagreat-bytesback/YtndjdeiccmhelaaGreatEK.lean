/- The contracts of the reader of package bytes, where what is read was written: take, number. -/
import Derived.Test.YtndjdeiccmhelaaGreatCA
import Derived.Test.YtndjdeiccmhelaaGreatFP
import Derived.Test.YtndjdeiccmhelaaGreatHB
import Derived.Test.YtndjdeiccmhelaaGreatOG
import Derived.Test.YtndjdeiccmhelaaGreatOD
namespace Go.Proofs.YtndjdeiccmhelaaGreat
open Go.RowKit Go.Sort Go.Lib

/-- block rb is a reader's: bs is what is left, so many terms are around; the reader and its bytes lie ahead of N -/
def RD (w : World) (N rb : Nat) (bs : List UInt8) (deep : Int) : Prop := rb < N ∧ N ≤ w.heap.size ∧ ∃ a cap, w.heap[rb]? = some (.cells #[.slice a bs.length cap, .int .i64 deep] 73 (0, 0)) ∧ BL w a bs ∧ bs.length ≤ cap ∧ cap ≤ 9223372036854775807 ∧ (∀ ad, a = some ad → ad.block ≠ rb ∧ ad.block < N) ∧ (a = none → bs = [])

theorem RD.lt {w : World} {N rb : Nat} {bs : List UInt8} {deep : Int} (h : RD w N rb bs deep) : rb < w.heap.size := Nat.lt_of_lt_of_le h.1 h.2.1

theorem RD.move {w w' : World} {N rb : Nat} {bs : List UInt8} {deep : Int} (h : RD w N rb bs deep) (hs : w.heap.size ≤ w'.heap.size) (hk : ∀ k, k < N → w'.heap[k]? = w.heap[k]?) : RD w' N rb bs deep := by
  obtain ⟨h1, h2, a, cap, hh, hB, hc, hm, hne, hn⟩ := h
  exact ⟨h1, Nat.le_trans h2 hs, a, cap, (hk rb h1).trans hh, hB.move hs fun b off e _ => hk b (hne _ e).2, hc, hm, hne, hn⟩

theorem RD.on {w w' : World} {N rb : Nat} {bs : List UInt8} {deep : Int} (h : RD w N rb bs deep) (hb : RowKit.Below w.heap.size w w') : RD w' N rb bs deep := h.move hb.size fun k hk => hb.block k (Nat.lt_of_lt_of_le hk h.2.1)

theorem Kept.setNew {P : Nat → Prop} {w w2 : World} (h : Kept P w w2) {p : Addr} (hp : w.heap.size ≤ p.block) (v : Value) : Kept P w (w2.setCell p v) :=
  ⟨h.os, h.tape, h.output, by have := h.size; simp [World.setCell]; omega, fun k hk hq => (Below.heap_setCell _ _ _ _ (by omega)).trans (h.block k hk hq)⟩

theorem RD.setNew {w : World} {N rb : Nat} {bs : List UInt8} {deep : Int} (h : RD w N rb bs deep) {p : Addr} (hp : N ≤ p.block) (v : Value) : RD (w.setCell p v) N rb bs deep := h.move (by simp [World.setCell]) fun k hk => Below.heap_setCell _ _ _ _ (by omega)

/-- what is left behind n bytes -/
theorem RD.cut {w : World} {N rb n b off c : Nat} {bs : List UInt8} {deep : Int} {x : Value} (hh : w.heap[rb]? = some (.cells #[x, .int .i64 deep] 73 (0, 0))) (hB : BL w (some ⟨b, off, none⟩) bs) (hbr : b ≠ rb) (hbN : b < N) (hrN : rb < N) (hNs : N ≤ w.heap.size) {a' : Addr} (ha : a' = ⟨b, off + n, none⟩ ∨ (bs.length ≤ n ∧ a' = ⟨b, off, none⟩)) (hc : bs.length - n ≤ c) (hm : c ≤ 9223372036854775807) :
    RD (w.setCell ⟨rb, 0, none⟩ (.slice (some a') (bs.length - n) c)) N rb (bs.drop n) deep ∧ Kept (fun k => k = rb) w (w.setCell ⟨rb, 0, none⟩ (.slice (some a') (bs.length - n) c)) ∧ BL (w.setCell ⟨rb, 0, none⟩ (.slice (some a') (bs.length - n) c)) (some ⟨b, off, none⟩) (bs.take n) := by
  have hk : Kept (fun k => k = rb) w (w.setCell ⟨rb, 0, none⟩ (.slice (some a') (bs.length - n) c)) := (Kept.refl (fun k => k = rb) w).setCell (p := ⟨rb, 0, none⟩) rfl _
  have hB' : BL (w.setCell ⟨rb, 0, none⟩ (.slice (some a') (bs.length - n) c)) (some ⟨b, off, none⟩) bs := hB.move hk.size fun b' off' e hb' => hk.block b' hb' (by simp only [Option.some.injEq, Addr.mk.injEq] at e; omega)
  refine ⟨⟨hrN, Nat.le_trans hNs hk.size, some a', c, ?_, ?_, by rw [List.length_drop]; exact hc, hm, fun ad e => ?_, fun e => by cases e⟩, hk, ?_⟩
  · rw [List.length_drop]; exact heap_set0 hh
  · rcases hB' with h | ⟨b1, o1, e1, hlt, hcell⟩
    · left; rw [h]; simp
    · simp only [Option.some.injEq, Addr.mk.injEq, and_true] at e1
      obtain ⟨rfl, rfl⟩ := e1
      rcases ha with rfl | ⟨hl, rfl⟩
      · refine Or.inr ⟨b, off + n, rfl, hlt, fun i hi => ?_⟩
        have hi' : n + i < bs.length := by rw [List.length_drop] at hi; omega
        have := hcell (n + i) hi'
        rw [List.getElem_drop, Nat.add_assoc]
        exact this
      · left; exact List.drop_eq_nil_of_le hl
  · simp only [Option.some.injEq] at e
    subst e
    rcases ha with rfl | ⟨-, rfl⟩ <;> exact ⟨hbr, hbN⟩
  · rcases hB' with h | ⟨b1, o1, e1, hlt, hcell⟩
    · left; rw [h]; simp
    · exact Or.inr ⟨b1, o1, e1, hlt, fun i hi => by
        have hi' : i < bs.length := by rw [List.length_take] at hi; omega
        rw [List.getElem_take]
        exact hcell i hi'⟩

set_option maxRecDepth 100000 in
set_option maxHeartbeats 4000000 in
theorem take_yes (N rb n : Nat) (bs : List UInt8) (deep : Int) (w : World) (hR : RD w N rb bs deep) (hn : n ≤ bs.length) (hn0 : 0 < n) : Calls Tryz.prog 101 #[.pointer (some ⟨rb, 0, none⟩), .int .i64 (n : Int)] w fun e w' => ∃ b o c, e = .returned (.slice (some ⟨b, o, none⟩) n c) ∧ BL w' (some ⟨b, o, none⟩) (bs.take n) ∧ RD w' N rb (bs.drop n) deep ∧ Kept (fun k => k = rb) w w' := by
  obtain ⟨hrN, hNs, a, cap, hh, hB, hc, hm, hne, hnn⟩ := hR
  obtain ⟨b, off, rfl⟩ : ∃ b off, a = some ⟨b, off, none⟩ := by
    rcases hB with h | ⟨b, off, h, -⟩
    · rw [h] at hn; simp at hn; omega
    · exact ⟨b, off, h⟩
  obtain ⟨x0, x1, -, -, x4⟩ := cells2 hh
  obtain ⟨f0, f1⟩ := frz2 hh
  obtain ⟨hbr, hbN⟩ := hne _ rfl
  simp only at hbr hbN
  have HH := Hid.mk hh
  have HBL := Hid.mk hB
  clear hh hB hne hnn
  by_cases hcn : cap = n
  · subst hcn
    have hl : bs.length ≤ cap := by omega
    have hcut := RD.cut (n := cap) (c := 0) (deep := deep) HH.out HBL.out hbr hbN hrN hNs (a' := ⟨b, off, none⟩) (Or.inr ⟨hl, rfl⟩) (by omega) (by omega)
    rw [show bs.length - cap = 0 by omega] at hcut
    have HC := Hid.mk hcut
    clear hcut
    go_enter Tryz.func101, Tryz.ntmps101
    go_wp2
    go_ret
    exact ⟨b, off, _, rfl, HC.out.2.2, HC.out.1, HC.out.2.1⟩
  · have hcut := RD.cut (n := n) (c := cap - n) (deep := deep) HH.out HBL.out hbr hbN hrN hNs (a' := ⟨b, off + n, none⟩) (Or.inl rfl) (by omega) (by omega)
    have HC := Hid.mk hcut
    clear hcut
    go_enter Tryz.func101, Tryz.ntmps101
    go_wp2
    go_ret
    exact ⟨b, off, _, rfl, HC.out.2.2, HC.out.1, HC.out.2.1⟩

def moreN : Value → Nat
  | .bool true => 100
  | _ => 0

theorem and127 (x : Nat) (h : x < 256) : bits .and .u8 (x : Int) 127 = ((x % 128 : Nat) : Int) := by
  have key : ∀ y : Fin 256, bits .and .u8 ((y.val : Nat) : Int) 127 = ((y.val % 128 : Nat) : Int) := by decide +kernel
  exact key ⟨x, h⟩

theorem or_low {A q s : Nat} (hA : A < 2 ^ s) (h1 : A < 18446744073709551616) (h2 : q * 2 ^ s < 18446744073709551616) : bits .or .u64 (A : Int) ((q * 2 ^ s : Nat) : Int) = ((q * 2 ^ s + A : Nat) : Int) := by
  rw [bits_or_u64_nat A (q * 2 ^ s) h1 h2, Nat.or_comm, ← Nat.shiftLeft_eq, Nat.shiftLeft_add_eq_or_of_lt hA]

/-- one byte of a number: what is known of it in the walk -/
theorem round_facts {n k y : Nat} (hn : n ≤ 1073741824) (hk : k ≤ 4) (hy : y < 256) (hq : y % 128 = n / 128 ^ k % 128) :
    ∃ A sN z A2 q : Nat, n % 128 ^ k = A ∧ 7 * k = sN ∧ sN ≤ 28 ∧ bits .and .u8 (y : Int) 127 = (q : Int) ∧ IntKind.u64.wrap (q : Int) = (q : Int) ∧ IntKind.u64.wrap ((q : Int) * 2 ^ sN) = (z : Int) ∧ bits .or .u64 (A : Int) (z : Int) = (A2 : Int) ∧ A2 = n % 128 ^ (k + 1) ∧ A2 ≤ 1073741824 := by
  have hp : (128 : Nat) ^ k = 2 ^ (7 * k) := by rw [Nat.pow_mul]
  have hA : n % 128 ^ k < 2 ^ (7 * k) := by rw [← hp]; exact Nat.mod_lt _ (Nat.pow_pos (by decide))
  have hle : (2 : Nat) ^ (7 * k) ≤ 2 ^ 28 := Nat.pow_le_pow_right (by decide) (by omega)
  have h28 : (2 : Nat) ^ 28 = 268435456 := by decide
  have hz : y % 128 * 2 ^ (7 * k) < 18446744073709551616 := by
    have h1 : y % 128 < 128 := Nat.mod_lt _ (by decide)
    have := Nat.mul_le_mul (Nat.le_of_lt h1) hle
    omega
  have hsum : n % 128 ^ (k + 1) = y % 128 * 2 ^ (7 * k) + n % 128 ^ k := by
    rw [Nat.pow_succ, Nat.mod_mul, hq, ← hp, Nat.mul_comm, Nat.add_comm]
  refine ⟨n % 128 ^ k, 7 * k, y % 128 * 2 ^ (7 * k), n % 128 ^ (k + 1), y % 128, rfl, rfl, by omega, and127 y hy, ?_, ?_, ?_, rfl, Nat.le_trans (Nat.mod_le _ _) hn⟩
  · rw [IntKind.wrap_u64]; omega
  · have e : ((y % 128 : Nat) : Int) * 2 ^ (7 * k) = ((y % 128 * 2 ^ (7 * k) : Nat) : Int) := by
      rw [Int.natCast_mul, Int.natCast_pow]; rfl
    rw [e, IntKind.wrap_u64]
    omega
  · rw [hsum]
    exact or_low hA (by omega) hz

set_option maxRecDepth 100000 in
set_option maxHeartbeats 8000000 in
theorem rdnum_any (N rb n : Nat) (rest : List UInt8) (deep : Int) (w : World) (hR : RD w N rb (numB n ++ rest) deep) (hn : n ≤ 1073741824) : Calls Tryz.prog 69 #[.pointer (some ⟨rb, 0, none⟩)] w fun e w' => e = .returned (.int .i64 (n : Int)) ∧ RD w' N rb rest deep ∧ Kept (fun k => k = rb) w w' := by
  have HR := Hid.mk hR
  clear hR
  go_enter Tryz.func69, Tryz.ntmps69
  go_wp2
  go_loopw [3, 4, 5] (fun acc more sh wr => (∃ k A sN : Nat, k ≤ 4 ∧ n % 128 ^ k = A ∧ 7 * k = sN ∧ acc = .int .u64 (A : Int) ∧ more = .bool true ∧ sh = .int .i64 (sN : Int) ∧ RD wr N rb (numB (n / 128 ^ k) ++ rest) deep ∧ Kept (fun k => k = rb) w wr) ∨ (∃ s : Int, acc = .int .u64 (n : Int) ∧ more = .bool false ∧ sh = .int .i64 s ∧ RD wr N rb rest deep ∧ Kept (fun k => k = rb) w wr)) (fun _ more sh _ => moreN more - (intOf sh).toNat)
  case atStart => exact Or.inl ⟨0, 0, 0, by omega, by simp [Nat.mod_one], rfl, rfl, rfl, rfl, by simpa using HR.out, Kept.refl _ _⟩
  case round =>
    rcases hrel with ⟨k, A0, s0, hk, hA0, hs0, rfl, rfl, rfl, hRr, hkr⟩ | ⟨s, rfl, rfl, rfl, hRr, hkr⟩
    · have HRR := Hid.mk hRr
      have HKR := Hid.mk hkr
      clear hRr hkr
      have hlen1 : 1 ≤ (numB (n / 128 ^ k) ++ rest).length := by rw [List.length_append]; cases h : numB (n / 128 ^ k) with | nil => exact absurd h (numB_ne _) | cons a l => simp; omega
      have HC := take_yes N rb 1 _ deep wr HRR.out hlen1 (by decide)
      clear hlen1
      obtain ⟨y, tl, hy, hnb, hq⟩ : ∃ (y : Nat) (tl : List UInt8), y < 256 ∧ numB (n / 128 ^ k) = UInt8.ofNat y :: tl ∧ y % 128 = n / 128 ^ k % 128 ∧ ((128 ≤ n / 128 ^ k ∧ 127 < y ∧ tl = numB (n / 128 ^ (k + 1))) ∨ (n / 128 ^ k < 128 ∧ y < 128 ∧ tl = [])) := by
        by_cases h : 128 ≤ n / 128 ^ k
        · exact ⟨n / 128 ^ k % 128 + 128, numB (n / 128 ^ k / 128), by omega, numB_big h, by omega, Or.inl ⟨h, by omega, by rw [Nat.div_div_eq_div_mul, ← Nat.pow_succ]⟩⟩
        · exact ⟨n / 128 ^ k, [], by omega, numB_small (by omega), by omega, Or.inr ⟨by omega, by omega, rfl⟩⟩
      obtain ⟨hq, hcase⟩ := hq
      obtain ⟨A, sN, z, A2, q, rfl, rfl, hs28, g1, g2, g3, g4, hA2, hA2l⟩ := round_facts hn hk hy hq
      have hyb : ((UInt8.ofNat y).toNat : Int) = (y : Int) := by rw [UInt8.toNat_ofNat_of_lt' (by show y < 256; omega)]
      rw [hnb] at HC
      simp only [List.cons_append, List.take_succ_cons, List.take_zero, List.drop_succ_cons, List.drop_zero] at HC
      rw [hA0] at g4
      rw [hs0] at g3 hs28
      have HA0 := Hid.mk hA0
      have HS0 := Hid.mk hs0
      have HNB := Hid.mk hnb
      have HCASE := Hid.mk hcase
      have HA2 := Hid.mk hA2
      have hyc : (127 < (y : Int)) = decide (128 ≤ n / 128 ^ k) := by
        rcases hcase with ⟨h1, h2, -⟩ | ⟨h1, h2, -⟩ <;> simp <;> omega
      have HYB := Hid.mk hyb
      clear hA0 hs0 hnb hcase hA2 hq hyb
      go_wp2_with fail
      refine HC.mono ?_
      rintro e w2 ⟨b, o, c, rfl, hbl, hR2, hk2⟩
      obtain ⟨cc, hlt⟩ : w2.cell? ⟨b, o, none⟩ = some (.int .u8 (y : Int)) ∧ b < w2.heap.size := by
        rcases hbl with h | ⟨b1, o1, e1, hlt, hcell⟩
        · cases h
        · simp only [Option.some.injEq, Addr.mk.injEq, and_true] at e1
          obtain ⟨rfl, rfl⟩ := e1
          have := hcell 0 (by simp)
          simp only [List.getElem_cons_zero, Nat.add_zero] at this
          rw [HYB.out] at this
          exact ⟨this, hlt⟩
      have HR2 := Hid.mk hR2
      have HK2 := Hid.mk (HKR.out.trans hk2)
      clear hbl hR2 hk2 HC
      have ha2 : ¬ (1073741824 : Int) < (A2 : Int) := by omega
      have hsx : ¬ (28 : Int) < (s0 : Int) := by omega
      go_wp2
      rcases HCASE.out with ⟨h1, h2, h3⟩ | ⟨h1, h2, h3⟩
      · have hk3 : k ≤ 3 := by
          rcases Nat.lt_or_ge 3 k with h | h
          · obtain rfl : k = 4 := by omega
            have h4 : (128 : Nat) ^ 4 = 268435456 := by decide
            rw [h4] at h1
            omega
          · exact h
        have hs0 := HS0.out
        refine ⟨Or.inl ⟨k + 1, A2, s0 + 7, by omega, HA2.out.symm, by omega, rfl, by simp [h1], by simp, ?_, HK2.out⟩, ?_⟩
        · rw [← h3]; exact HR2.out
        · simp [h1, moreN, intOf]; omega
      · have hA : A2 = n := by
          rw [HA2.out]
          refine Nat.mod_eq_of_lt ?_
          rw [Nat.pow_succ, Nat.mul_comm]
          exact (Nat.div_lt_iff_lt_mul (Nat.pow_pos (by decide))).1 h1
        have hs0 := HS0.out
        have hd : decide (128 ≤ n / 128 ^ k) = false := by simp; omega
        refine ⟨Or.inr ⟨_, by rw [hA], by rw [hd], rfl, ?_, HK2.out⟩, ?_⟩
        · have := HR2.out; rwa [h3, List.nil_append] at this
        · rw [hd]; simp [moreN, intOf]; omega
    · have HRR := Hid.mk hRr
      have HKR := Hid.mk hkr
      clear hRr hkr
      go_wp2
      go_ret
      exact ⟨rfl, HRR.out, HKR.out⟩
end Go.Proofs.YtndjdeiccmhelaaGreat

/- Rows of levels that grow, with a footprint. -/
namespace Go.Proofs.YtndjdeiccmhelaaGreat
open Go.RowKit Go.Sort

theorem ownsG_shape {w : World} {B n size : Nat} {e : TypeId} {v : Value} {xs : List Value} (h : w.ownsRow B e size v n xs) : ∃ a cap, v = .slice a n cap ∧ n ≤ cap ∧ cap ≤ 9223372036854775807 ∧ (a = none → n = 0 ∧ cap = 0) ∧ ∀ ad, a = some ad → ∃ g, ad = ⟨g, 0, none⟩ ∧ B ≤ g ∧ g < w.heap.size := by
  rcases h.2 with ⟨hv, hn⟩ | ⟨g, cap, cur, hv, hg, hh, hc, hm, hs, ht⟩
  · exact ⟨none, 0, by rw [hv, hn], by omega, by omega, fun _ => ⟨hn, rfl⟩, fun ad h => by cases h⟩
  · exact ⟨_, cap, hv, hc, by unfold maxLen at hm; omega, fun h => (by cases h), fun ad h => ⟨g, (by simpa using h.symm), hg, heap_lt hh⟩⟩

theorem ownsG_block {w W : World} {B n cap size : Nat} {e : TypeId} {a : Option Addr} {xs : List Value} (h : w.ownsRow B e size (.slice a n cap) n xs) (hk : ∀ g, a = some ⟨g, 0, none⟩ → W.heap[g]? = w.heap[g]?) : W.ownsRow B e size (.slice a n cap) n xs := by
  rcases h with ⟨h1, h2⟩
  refine ⟨h1, ?_⟩
  rcases h2 with h2 | ⟨g, cap', cur, hv, hg, hh, r⟩
  · exact Or.inl h2
  · refine Or.inr ⟨g, cap', cur, hv, hg, (hk g ?_).trans hh, r⟩
    simp at hv
    exact hv.1

theorem rowG_block {w : World} {B cap n size : Nat} {e : TypeId} {a : Option Addr} {xs : List Value} (h : w.ownsRow B e size (.slice a n cap) n xs) {k : Nat} (hk : ownB a k = true) : B ≤ k ∧ k < w.heap.size := by
  cases a with
  | none => simp [ownB] at hk
  | some ad =>
    obtain ⟨_, _, e, -, -, -, hg⟩ := ownsG_shape h
    simp only [Value.slice.injEq, true_and] at e
    obtain ⟨rfl, rfl⟩ := e
    obtain ⟨g, rfl, h1, h2⟩ := hg ad rfl
    simp [ownB] at hk
    omega

/-- a row of levels of the call's own, which do not look into it, nor into the blocks of P -/
structure RowL (w : World) (B : Nat) (P : Nat → Bool) (a : Option Addr) (cap : Nat) (ls : List LvT) : Prop where
  go : ∃ xs : List Value, w.ownsRow B 105 2 (.slice a ls.length cap) ls.length xs ∧ ∀ j n vs, ls[j]? = some (n, vs) → xs[j * 2]? = some (.int .i64 n) ∧ ∃ a' cap', xs[j * 2 + 1]? = some (.slice a' vs.length cap') ∧ (a' = none → cap' = 0) ∧ SL (maskB (fun k => P k || ownB a k) w) a' vs

theorem RowL.nil (w : World) (B : Nat) (P : Nat → Bool) : RowL w B P none 0 [] := ⟨[], World.ownsRow_nil _ _ _ _, fun j n vs h => by simp at h⟩

theorem RowL.move {w w' : World} {B cap : Nat} {P : Nat → Bool} {a : Option Addr} {ls : List LvT} (h : RowL w B P a cap ls) (hB : ∀ k, B ≤ k → P k = false) (hs : w.heap.size ≤ w'.heap.size) (hk : ∀ k, k < w.heap.size → P k = false → w'.heap[k]? = w.heap[k]?) : RowL w' B P a cap ls := by
  obtain ⟨xs, hown, hkv⟩ := h.go
  refine ⟨xs, ownsG_block hown fun g hg => ?_, fun j n vs hj => ?_⟩
  · subst hg
    obtain ⟨h1, h2⟩ := World.ownsRow.lt hown g rfl
    exact hk g h2 (hB g h1)
  · obtain ⟨c0, a', cap', c1, hn, hS⟩ := hkv j n vs hj
    refine ⟨c0, a', cap', c1, hn, hS.subF (by rw [maskB_size, maskB_size]; exact hs) (maskB_keeps fun k h1 h2 => ⟨h2, hk k h1 ?_⟩)⟩
    rw [Bool.or_eq_false_iff] at h2; exact h2.1

theorem RowL.snoc {w w' : World} {B cap cap' g : Nat} {P : Nat → Bool} {a : Option Addr} {ls : List LvT} {xs : List Value} {n : Int} {vs : List (Int × Int)} {a' : Option Addr} {c' : Nat} (hkv : ∀ j n vs, ls[j]? = some (n, vs) → xs[j * 2]? = some (.int .i64 n) ∧ ∃ a' cap', xs[j * 2 + 1]? = some (.slice a' vs.length cap') ∧ (a' = none → cap' = 0) ∧ SL (maskB (fun k => P k || ownB a k) w) a' vs) (hl : xs.length = ls.length * 2)
    (hown : w'.ownsRow B 105 2 (.slice (some ⟨g, 0, none⟩) (ls.length + 1) cap') (ls.length + 1) (xs ++ [.int .i64 n, .slice a' vs.length c'])) (hgr : w.grownBy w' (Value.slice a ls.length cap).ownBlock) (hat : (Value.slice a ls.length cap).ownBlock = some g ∨ g = w.heap.size)
    (hn : a' = none → c' = 0) (hnew : SL (maskB (fun k => P k || ownB a k) w) a' vs) : RowL w' B P (some ⟨g, 0, none⟩) cap' (ls ++ [(n, vs)]) := by
  have hmv : ∀ k, k < w.heap.size → (P k || ownB a k) = false → (P k || ownB (some ⟨g, 0, none⟩) k) = false ∧ w'.heap[k]? = w.heap[k]? := by
    intro k hk hp
    rw [Bool.or_eq_false_iff] at hp
    refine ⟨?_, hgr.block k hk (ownB_none hp.2)⟩
    rw [Bool.or_eq_false_iff]
    refine ⟨hp.1, ?_⟩
    simp only [ownB, beq_eq_false_iff_ne]
    rcases hat with hat | hat
    · intro e
      exact ownB_none hp.2 (by rw [← e, hat])
    · omega
  have hsz : (maskB (fun k => P k || ownB a k) w).heap.size ≤ (maskB (fun k => P k || ownB (some ⟨g, 0, none⟩) k) w').heap.size := by rw [maskB_size, maskB_size]; exact hgr.size
  refine ⟨_, by rw [List.length_append]; exact hown, fun j m us hj => ?_⟩
  by_cases h : j < ls.length
  · rw [List.getElem?_append_left h] at hj
    obtain ⟨c0, b', cap2, c1, hn2, hS⟩ := hkv j m us hj
    exact ⟨by rw [List.getElem?_append_left (by omega)]; exact c0, b', cap2, by rw [List.getElem?_append_left (by omega)]; exact c1, hn2, hS.subF hsz (maskB_keeps hmv)⟩
  · obtain rfl : j = ls.length := by
      have := (List.getElem?_eq_some_iff.1 hj).1; simp at this; omega
    simp only [List.getElem?_concat_length, Option.some.injEq, Prod.mk.injEq] at hj
    obtain ⟨rfl, rfl⟩ := hj
    refine ⟨?_, a', c', ?_, hn, hnew.subF hsz (maskB_keeps hmv)⟩
    · rw [List.getElem?_append_right (by omega), hl, Nat.sub_self]; rfl
    · rw [List.getElem?_append_right (by omega), hl, Nat.add_sub_cancel_left]; rfl

/-- the row as the levels of a term -/
theorem RowL.ln {w : World} {B cap : Nat} {P : Nat → Bool} {a : Option Addr} {ls : List LvT} (h : RowL w B P a cap ls) (hB : ∀ k, B ≤ k → P k = false) : LN (maskB P w) a ls ∧ (a = none → cap = 0) ∧ ls.length ≤ cap ∧ cap ≤ 9223372036854775807 := by
  obtain ⟨xs, hown, hkv⟩ := h.go
  obtain ⟨a0, cap0, e, hc, hm, hn, hg⟩ := ownsG_shape hown
  simp only [Value.slice.injEq, true_and] at e
  obtain ⟨rfl, rfl⟩ := e
  have hsub : ∀ p v, (maskB (fun k => P k || ownB a k) w).cell? p = some v → (maskB P w).cell? p = some v := maskB_keeps fun k _ hp => ⟨by rw [Bool.or_eq_false_iff] at hp; exact hp.1, rfl⟩
  refine ⟨?_, fun e => (hn e).2, hc, hm⟩
  cases a with
  | none => exact Or.inl (List.length_eq_zero_iff.1 (hn rfl).1)
  | some ad =>
    obtain ⟨g, rfl, hg1, hg2⟩ := hg ad rfl
    refine Or.inr ⟨g, 0, rfl, by rw [maskB_size]; exact hg2, fun i n vs hi => ?_⟩
    have hi' : i < ls.length := (List.getElem?_eq_some_iff.1 hi).1
    obtain ⟨c0, a', cap', c1, hn', hS⟩ := hkv i n vs hi
    have hcell : ∀ o, (maskB P w).cell? ⟨g, o, none⟩ = w.cell? ⟨g, o, none⟩ := fun o => World.cell?_of_block (maskB_no w (hB g hg1))
    refine ⟨?_, a', cap', ?_, hS.subF (by rw [maskB_size, maskB_size]; exact Nat.le_refl _) hsub, hn'⟩
    · rw [Nat.zero_add, hcell, World.ownsRow.cellAt hown (i * 2) (by omega)]; exact c0
    · rw [Nat.zero_add, hcell, World.ownsRow.cellAt hown (i * 2 + 1) (by omega)]; exact c1

theorem OR.slF {B : Nat} {w : World} {v : Value} {xs : List (Int × Int)} {P : Nat → Bool} (h : OR B w v xs) (hP : ∀ k, B ≤ k → P k = false) : ∃ a cap, v = .slice a xs.length cap ∧ SL (maskB P w) a xs ∧ (a = none → cap = 0) := by
  rcases h.2 with ⟨hv, hn⟩ | ⟨g, cap, cur, hv, hg, hh, hc, hm, hs, ht⟩
  · have : xs = [] := List.length_eq_zero_iff.1 hn
    subst this
    exact ⟨none, 0, hv, Or.inl rfl, fun _ => rfl⟩
  · refine ⟨some ⟨g, 0, none⟩, cap, hv, ?_, fun e => by cases e⟩
    obtain ⟨a', cap', e, hS, -⟩ := h.shape
    rw [hv] at e
    simp only [Value.slice.injEq, true_and] at e
    obtain ⟨rfl, rfl⟩ := e
    rcases hS with hS | ⟨b, off, ha, hlt, hS⟩
    · exact Or.inl hS
    · simp only [Option.some.injEq, Addr.mk.injEq, and_true] at ha
      obtain ⟨rfl, rfl⟩ := ha
      have hcell : ∀ o, (maskB P w).cell? ⟨g, o, none⟩ = w.cell? ⟨g, o, none⟩ := fun o => World.cell?_of_block (maskB_no w (hP g hg))
      exact Or.inr ⟨g, 0, rfl, by rw [maskB_size]; exact hlt, fun i hi => ⟨(hcell _).trans (hS i hi).1, (hcell _).trans (hS i hi).2⟩⟩

/-- append(nil, x...) of pairs, at a step of a region that draws its order -/
theorem step_appV {w : World} {ops : Array Oper} {o : Oper} {a : Act} {K : Act → World → Prop} {Q : Exit → Act → World → Prop} {E : Prop} (hgd : o.guard = none) (s x : Operand) (ho : o.op = .call { callee := .builtin .append, args := #[s, x], argTypes := #[103, 103] })
    (B : Nat) (xs : List (Int × Int)) (a1 : Option Addr) (c1 : Nat) (hs : a.eval s = .slice none 0 0) (hx : a.eval x = .slice a1 xs.length c1) (hS : SL w a1 xs) (hn : a1 = none → c1 = 0) (hl : xs.length ≤ 4398046511104) (hB : B ≤ w.heap.size)
    (h : ∀ v' w', OR B w' v' xs → w.grownBy w' none → K (a.put o.dst v') w') : if Region.wanted o (yielded ops a.tmps) = true then Oper.wp Tryz.prog o a w K Q else E := by
  have hw : Region.wanted o (yielded ops a.tmps) = true := by simp [Region.wanted, hgd]
  rw [if_pos hw]
  obtain ⟨i0, hi, hz0, hz1, hz2⟩ := info_parts infoLVar
  have hO : OR B w (.slice none 0 0) [] := OR.nil _ _
  cases a1 with
  | none =>
    have hxe : xs = [] := by
      rcases hS with h | ⟨b, off, ha, _⟩
      · exact h
      · cases ha
    subst hxe
    rw [hn rfl] at hx
    have hrun := run_append_owned_none (P := Tryz.prog) (w := w) B 103 o.type 151 i0 2 Tryz.underlying103 hi (.slice none 0 0) 0 [] hO
    unfold Oper.wp
    simp only [List.length_nil] at hx
    simp [execOp, ho, resolve, invoke, builtin, hs, hx, hrun, Result.andThen]
    exact h _ w hO ⟨rfl, rfl, rfl, Nat.le_refl _, fun _ _ _ => rfl⟩
  | some ad =>
    have hnews : ∀ j u, (flat xs)[j]? = some u → w.cell? (ad.add j) = some u := by
      rcases hS with h | ⟨b, off, ha, hr⟩
      · subst h; intro j u hu; simp [flat] at hu
      · have ha' : ad = ⟨b, off, none⟩ := by simpa using ha
        subst ha'
        exact SL.flat (Or.inr ⟨b, off, rfl, hr⟩)
    refine wp_append_own _ s x 103 ho B 151 i0 _ 2 16 Tryz.underlying103 hi hz0 hz1 hz2 rfl (by decide) (.slice none 0 0) 0 [] hs hO ad xs.length c1 (flat xs) hx (flat_length xs) hnews (flat_one xs) (by simp [maxLen]; omega) (by omega) hB ?_
    intro v' w' hown hgr _
    exact h v' w' (by unfold OR; simpa using hown) hgr
end Go.Proofs.YtndjdeiccmhelaaGreat

/- The contract of telamonref1.Clean, form by form. -/
namespace Go.Proofs.YtndjdeiccmhelaaGreat
open Go.RowKit Go.Sort

theorem set5_heap {w : World} {b : Nat} {u0 u1 u2 u3 u4 u5 x : Value} {t : TypeId} (h : w.heap[b]? = some (.cells #[u0, u1, u2, u3, u4, u5] t (0, 0))) : (w.setCell ⟨b, 5, none⟩ x).heap[b]? = some (.cells #[u0, u1, u2, u3, u4, x] t (0, 0)) := by
  rw [setCell_eq]; show (w.heap.modify b _)[b]? = _
  rw [Array.getElem?_modify, if_pos rfl, h]; rfl

theorem set4_heap {w : World} {b : Nat} {u0 u1 u2 u3 u4 u5 x : Value} {t : TypeId} (h : w.heap[b]? = some (.cells #[u0, u1, u2, u3, u4, u5] t (0, 0))) : (w.setCell ⟨b, 4, none⟩ x).heap[b]? = some (.cells #[u0, u1, u2, u3, x, u5] t (0, 0)) := by
  rw [setCell_eq]; show (w.heap.modify b _)[b]? = _
  rw [Array.getElem?_modify, if_pos rfl, h]; rfl
end Go.Proofs.YtndjdeiccmhelaaGreat

/- The contracts of the reader of package bytes, where what is read was written: flag, name, variable, level. -/
namespace Go.Proofs.YtndjdeiccmhelaaGreat
open Go.RowKit Go.Sort Go.Lib

set_option maxRecDepth 100000 in
set_option maxHeartbeats 4000000 in
theorem rdflag_any (N rb : Nat) (f : Bool) (rest : List UInt8) (deep : Int) (w : World) (hR : RD w N rb ((if f then 1 else 0) :: rest) deep) : Calls Tryz.prog 122 #[.pointer (some ⟨rb, 0, none⟩)] w fun e w' => e = .returned (.bool f) ∧ RD w' N rb rest deep ∧ Kept (fun k => k = rb) w w' := by
  have HC := rdnum_any N rb (if f then 1 else 0) rest deep w (by rw [numB_flag]; exact hR) (by split <;> omega)
  clear hR
  cases f
  all_goals
    simp only [if_true, if_false, Bool.false_eq_true] at HC
    go_enter Tryz.func122, Tryz.ntmps122
    go_wp2_with fail
    refine HC.mono ?_
    rintro e w1 ⟨rfl, hR1, hk1⟩
    have H1 : Hid (RD w1 N rb rest deep ∧ Kept (fun k => k = rb) w w1) := ⟨hR1, hk1⟩
    clear hR1 hk1
    go_wp2
    go_ret
    exact ⟨rfl, H1.out.1, H1.out.2⟩

set_option maxRecDepth 100000 in
set_option maxHeartbeats 4000000 in
theorem rdname_any (N rb : Nat) (nm : ByteArray) (rest : List UInt8) (deep : Int) (w : World) (hR : RD w N rb (nameB nm ++ rest) deep) (h0 : 0 < nm.size) (hm : nm.size ≤ 1000000) : Calls Tryz.prog 103 #[.pointer (some ⟨rb, 0, none⟩)] w fun e w' => e = .returned (.string nm) ∧ RD w' N rb rest deep ∧ Kept (fun k => k = rb) w w' := by
  have HC := rdnum_any N rb nm.size (nm.data.toList ++ rest) deep w (by unfold nameB at hR; rwa [List.append_assoc] at hR) (by omega)
  have hlen : nm.data.toList.length = nm.size := rfl
  clear hR
  go_enter Tryz.func103, Tryz.ntmps103
  go_wp2_with fail
  refine HC.mono ?_
  rintro e w1 ⟨rfl, hR1, hk1⟩
  have HC2 := take_yes N rb nm.size _ deep w1 hR1 (by rw [List.length_append]; omega) h0
  rw [← hlen, List.take_left, List.drop_left, hlen] at HC2
  have HK1 := Hid.mk hk1
  clear hR1 hk1 HC
  go_wp2_with fail
  refine HC2.mono ?_
  rintro e w2 ⟨b, o, c, rfl, hbl, hR2, hk2⟩
  have H2 : Hid (RD w2 N rb rest deep ∧ Kept (fun k => k = rb) w w2) := ⟨hR2, HK1.out.trans hk2⟩
  have hconv := run_convert_bytes_back (P := Tryz.prog) w2 25 9 5 ⟨b, o, none⟩ c nm.data.toList Tryz.underlying25 Tryz.underlying5 Tryz.underlying9 (fun j hj => hbl.flat j _ (by simp [flatB]; exact ⟨_, by rw [Array.getElem?_eq_getElem (by simpa using hj)], by simp⟩))
  rw [hlen] at hconv
  clear hbl hR2 hk2 HC2
  go_wp2
  go_ret
  exact ⟨rfl, H2.out.1, H2.out.2⟩

set_option maxRecDepth 100000 in
set_option maxHeartbeats 4000000 in
theorem rdvariable_any (N rb : Nat) (x y : Int) (rest : List UInt8) (deep : Int) (w : World) (hR : RD w N rb (varB (x, y) ++ rest) deep) (hx0 : 0 ≤ x) (hx : x ≤ 1000) (hy0 : 0 ≤ y) (hy : y ≤ 1000) : Calls Tryz.prog 135 #[.pointer (some ⟨rb, 0, none⟩)] w fun e w' => e = .returned (.agg #[.int .i64 x, .int .i64 y]) ∧ RD w' N rb rest deep ∧ Kept (fun k => k = rb) w w' := by
  have hlR := hR.2.1
  obtain ⟨W0, hW0⟩ : ∃ W0, w.alloc (.cells #[.int .i64 0, .int .i64 0] 151) = W0 := ⟨_, rfl⟩
  have hb : RowKit.Below w.heap.size w W0 := by rw [← hW0]; exact (Below.refl _ _).alloc (Nat.le_refl _) _
  have HX0 : Hid (W0.heap[w.heap.size]? = some (.cells #[.int .i64 0, .int .i64 0] 151 (0, 0))) := by unfold Hid; rw [← hW0]; exact alloc_new _ _
  have HC := rdnum_any N rb x.toNat (numB y.toNat ++ rest) deep W0 ((by unfold varB at hR; rw [List.append_assoc] at hR; exact hR : RD w N rb (numB x.toNat ++ (numB y.toNat ++ rest)) deep).on hb) (by omega)
  rw [show ((x.toNat : Nat) : Int) = x by omega] at HC
  have HK0 : Hid (Kept (fun k => k = rb) w W0) := Kept.of_below hb
  have HW0 := Hid.mk hW0
  have hrbN := hR.1
  clear hR hb hW0
  go_enter Tryz.func135, Tryz.ntmps135
  go_wp2_with fail
  rw [HW0.out]
  refine HC.mono ?_
  rintro e w1 ⟨rfl, hR1, hk1⟩
  have HC2 := rdnum_any N rb y.toNat rest deep w1 hR1 (by omega)
  rw [show ((y.toNat : Nat) : Int) = y by omega] at HC2
  have HK1 : Hid (Kept (fun k => k = rb) w w1) := HK0.out.trans hk1
  have HX1 : Hid (w1.heap[w.heap.size]? = some (.cells #[.int .i64 0, .int .i64 0] 151 (0, 0))) := (hk1.block _ (heap_lt HX0.out) (by omega)).trans HX0.out
  clear hR1 hk1 HC
  go_wp2_with fail
  refine HC2.mono ?_
  rintro e w2 ⟨rfl, hR2, hk2⟩
  have HR2 := Hid.mk hR2
  have HK2 : Hid (Kept (fun k => k = rb) w w2) := HK1.out.trans hk2
  have hX2 := (hk2.block _ (heap_lt HX1.out) (by omega)).trans HX1.out
  obtain ⟨y0, y1, -, -, y4⟩ := cells2 hX2
  obtain ⟨f0, f1⟩ := frz2 hX2
  clear hR2 hk2 HC2 hX2
  go_wp2
  refine bodyPost_ret (v := .agg #[.int .i64 x, .int .i64 y]) (by simp [results, Tryz.results135, go_sem, y0, y1]) rfl ⟨rfl, ?_, ?_⟩
  · exact (HR2.out.setNew (p := ⟨w.heap.size, 0, none⟩) (by simp only; omega) _).setNew (p := ⟨w.heap.size, 1, none⟩) (by simp only; omega) _
  · exact (HK2.out.setNew (p := ⟨w.heap.size, 0, none⟩) (Nat.le_refl _) _).setNew (p := ⟨w.heap.size, 1, none⟩) (Nat.le_refl _) _
end Go.Proofs.YtndjdeiccmhelaaGreat
