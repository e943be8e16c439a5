/- The reference's reader of bytes: what it is, and its number. -/
import Derived.Test.YtndjdeiccmhelaaGreatEU
namespace Go.Proofs.YtndjdeiccmhelaaGreat
open Go.RowKit Go.Sort Go.Lib

theorem cellsR {w : World} {b : Nat} {v0 v1 v2 v3 : Value} {t : TypeId} (h : w.heap[b]? = some (.cells #[v0, v1, v2, v3] t (0, 0))) :
    w.cell? ⟨b, 0, none⟩ = some v0 ∧ w.cell? ⟨b, 1, none⟩ = some v1 ∧ w.cell? ⟨b, 2, none⟩ = some v2 ∧ w.cell? ⟨b, 3, none⟩ = some v3 ∧ b < w.heap.size ∧ ∀ o, w.frozen? ⟨b, o, none⟩ = false :=
  ⟨by rw [cell_of_row _ b 0 _ _ _ h]; rfl, by rw [cell_of_row _ b 1 _ _ _ h]; rfl, by rw [cell_of_row _ b 2 _ _ _ h]; rfl, by rw [cell_of_row _ b 3 _ _ _ h]; rfl, (Array.getElem?_eq_some_iff.1 h).1, fun o => by simp [World.frozen?, h]⟩

theorem setR1 {w : World} {b : Nat} {v0 v1 v2 v3 x : Value} {t : TypeId} (h : w.heap[b]? = some (.cells #[v0, v1, v2, v3] t (0, 0))) : (w.setCell ⟨b, 1, none⟩ x).heap[b]? = some (.cells #[v0, x, v2, v3] t (0, 0)) := by
  rw [setCell_eq]; show (w.heap.modify b _)[b]? = _
  rw [Array.getElem?_modify, if_pos rfl, h]; rfl

theorem setR2 {w : World} {b : Nat} {v0 v1 v2 v3 x : Value} {t : TypeId} (h : w.heap[b]? = some (.cells #[v0, v1, v2, v3] t (0, 0))) : (w.setCell ⟨b, 2, none⟩ x).heap[b]? = some (.cells #[v0, v1, x, v3] t (0, 0)) := by
  rw [setCell_eq]; show (w.heap.modify b _)[b]? = _
  rw [Array.getElem?_modify, if_pos rfl, h]; rfl

theorem setR3 {w : World} {b : Nat} {v0 v1 v2 v3 x : Value} {t : TypeId} (h : w.heap[b]? = some (.cells #[v0, v1, v2, v3] t (0, 0))) : (w.setCell ⟨b, 3, none⟩ x).heap[b]? = some (.cells #[v0, v1, v2, x] t (0, 0)) := by
  rw [setCell_eq]; show (w.heap.modify b _)[b]? = _
  rw [Array.getElem?_modify, if_pos rfl, h]; rfl

/-- block rb is the reference's reader, over the bytes all at a: bs is left, n parts were read; it and its bytes lie ahead of N -/
def RR (w : World) (N rb : Nat) (a : Option Addr) (cap : Nat) (all bs : List UInt8) (bad : Bool) (n : Nat) : Prop :=
  rb < N ∧ N ≤ w.heap.size ∧ BL w a all ∧ all.length ≤ cap ∧ cap ≤ 9223372036854775807 ∧ all.length ≤ 1000000 ∧ (∀ ad, a = some ad → ad.block ≠ rb ∧ ad.block < N) ∧
  ∃ p, all = p ++ bs ∧ w.heap[rb]? = some (.cells #[.slice a all.length cap, .int .i64 (p.length : Int), .bool bad, .int .i64 (n : Int)] 79 (0, 0))

theorem RR.move {w w' : World} {N rb : Nat} {a : Option Addr} {cap : Nat} {all bs : List UInt8} {bad : Bool} {n : Nat} (h : RR w N rb a cap all bs bad n) (hs : w.heap.size ≤ w'.heap.size) (hk : ∀ k, k < N → w'.heap[k]? = w.heap[k]?) : RR w' N rb a cap all bs bad n := by
  obtain ⟨h1, h2, hB, h4, h5, h6, hne, p, hp, hh⟩ := h
  exact ⟨h1, Nat.le_trans h2 hs, hB.move hs fun b off e _ => hk b (hne _ e).2, h4, h5, h6, hne, p, hp, (hk rb h1).trans hh⟩

theorem RR.on {w w' : World} {N rb : Nat} {a : Option Addr} {cap : Nat} {all bs : List UInt8} {bad : Bool} {n : Nat} (h : RR w N rb a cap all bs bad n) (hb : RowKit.Below w.heap.size w w') : RR w' N rb a cap all bs bad n := h.move hb.size fun k hk => hb.block k (Nat.lt_of_lt_of_le hk h.2.1)

theorem RR.setNew {w : World} {N rb : Nat} {a : Option Addr} {cap : Nat} {all bs : List UInt8} {bad : Bool} {n : Nat} (h : RR w N rb a cap all bs bad n) {p : Addr} (hp : N ≤ p.block) (v : Value) : RR (w.setCell p v) N rb a cap all bs bad n := h.move (by simp [World.setCell]) fun k hk => Below.heap_setCell _ _ _ _ (by omega)

/-- the reader's block changes -/
theorem RR.turn {w : World} {N rb : Nat} {a : Option Addr} {cap : Nat} {all bs : List UInt8} {bad : Bool} {n : Nat} (h : RR w N rb a cap all bs bad n) {o : Nat} {x : Value} {bs' : List UInt8} {bad' : Bool} {n' : Nat} (h' : ∃ p, all = p ++ bs' ∧ (w.setCell ⟨rb, o, none⟩ x).heap[rb]? = some (.cells #[.slice a all.length cap, .int .i64 (p.length : Int), .bool bad', .int .i64 (n' : Int)] 79 (0, 0))) : RR (w.setCell ⟨rb, o, none⟩ x) N rb a cap all bs' bad' n' ∧ Kept (fun k => k = rb) w (w.setCell ⟨rb, o, none⟩ x) := by
  have hk : Kept (fun k => k = rb) w (w.setCell ⟨rb, o, none⟩ x) := (Kept.refl (fun k => k = rb) w).setCell (p := ⟨rb, o, none⟩) rfl _
  obtain ⟨h1, h2, hB, h4, h5, h6, hne, -⟩ := h
  exact ⟨⟨h1, Nat.le_trans h2 hk.size, hB.move hk.size fun b off e hb' => hk.block b hb' (hne _ e).1, h4, h5, h6, hne, h'⟩, hk⟩

theorem RR.bad {w : World} {N rb : Nat} {a : Option Addr} {cap : Nat} {all bs : List UInt8} {bad : Bool} {n : Nat} (h : RR w N rb a cap all bs bad n) (x : Bool) : RR (w.setCell ⟨rb, 2, none⟩ (.bool x)) N rb a cap all bs x n ∧ Kept (fun k => k = rb) w (w.setCell ⟨rb, 2, none⟩ (.bool x)) := by
  obtain ⟨p, hp, hh⟩ := h.2.2.2.2.2.2.2
  exact h.turn ⟨p, hp, setR2 hh⟩

theorem RR.more {w : World} {N rb : Nat} {a : Option Addr} {cap : Nat} {all bs : List UInt8} {bad : Bool} {n : Nat} (h : RR w N rb a cap all bs bad n) : RR (w.setCell ⟨rb, 3, none⟩ (.int .i64 ((n + 1 : Nat) : Int))) N rb a cap all bs bad (n + 1) ∧ Kept (fun k => k = rb) w (w.setCell ⟨rb, 3, none⟩ (.int .i64 ((n + 1 : Nat) : Int))) := by
  obtain ⟨p, hp, hh⟩ := h.2.2.2.2.2.2.2
  exact h.turn ⟨p, hp, setR3 hh⟩

/-- a number at the head of bytes, of at most so many bytes -/
def pnum : Nat → List UInt8 → Option (Nat × List UInt8)
  | 0, _ => none
  | _ + 1, [] => none
  | k + 1, c :: bs => if c.toNat < 128 then some (c.toNat, bs) else (pnum k bs).map fun x => (c.toNat % 128 + 128 * x.1, x.2)

theorem pnum_numB (rest : List UInt8) : ∀ (k n : Nat), n < 128 ^ (k + 1) → pnum (k + 1) (numB n ++ rest) = some (n, rest)
  | 0, n, h => by
    have h' : n < 128 := by simpa using h
    rw [numB_small h']
    simp only [pnum, List.cons_append, List.nil_append, UInt8.toNat_ofNat']
    rw [Nat.mod_eq_of_lt (by omega), if_pos h']
  | k + 1, n, h => by
    by_cases hn : n < 128
    · rw [numB_small hn]
      simp only [pnum, List.cons_append, List.nil_append, UInt8.toNat_ofNat']
      rw [Nat.mod_eq_of_lt (by omega), if_pos hn]
    · rw [numB_big (by omega), List.cons_append, pnum, UInt8.toNat_ofNat', Nat.mod_eq_of_lt (a := n % 128 + 128) (by omega), if_neg (by omega), pnum_numB rest k (n / 128) (Nat.div_lt_of_lt_mul (by rw [Nat.pow_succ, Nat.mul_comm] at h; exact h))]
      simp only [Option.map_some, Option.some.injEq, Prod.mk.injEq, and_true]
      omega

/-- one byte of a number: what is known of it in the walk -/
theorem round_facts2 {A k y : Nat} (hk : k < 6) (hy : y < 256) (hA : A < 128 ^ k) :
    ∃ q A2 : Nat, y % 128 = q ∧ (y : Int).tmod 128 = (q : Int) ∧ wrap64 ((A : Int) + wrap64 ((q : Int) * 2 ^ (7 * k))) = (A2 : Int) ∧ A2 < 128 ^ (k + 1) ∧ A2 = A + 128 ^ k * q := by
  have hp : (128 : Nat) ^ k = 2 ^ (7 * k) := by rw [Nat.pow_mul]
  have hle : (128 : Nat) ^ k ≤ 128 ^ 5 := Nat.pow_le_pow_right (by decide) (by omega)
  have h5 : (128 : Nat) ^ 5 = 34359738368 := by decide
  have h1 : y % 128 < 128 := Nat.mod_lt _ (by decide)
  have h2 : y % 128 * 128 ^ k ≤ 127 * 128 ^ k := Nat.mul_le_mul_right _ (by omega)
  refine ⟨y % 128, A + y % 128 * 128 ^ k, rfl, ?_, ?_, ?_, by rw [Nat.mul_comm]⟩
  · rw [Int.tmod_eq_emod_of_nonneg (by omega)]; rfl
  · have e : ((y % 128 : Nat) : Int) * 2 ^ (7 * k) = ((y % 128 * 128 ^ k : Nat) : Int) := by
      rw [Int.natCast_mul, hp, Int.natCast_pow]; rfl
    rw [e]
    simp only [wrap64]
    omega
  · rw [Nat.pow_succ]; omega

/-- what is read: the value and what is left, or the reader is bad -/
def RrNum (w : World) (N rb : Nat) (a : Option Addr) (cap : Nat) (all : List UInt8) (bad : Bool) (n : Nat) (e : Ending) (w' : World) : Option (Nat × List UInt8) → Prop
  | some (m, rest) => e = .returned (.int .i64 (m : Int)) ∧ RR w' N rb a cap all rest bad n ∧ Kept (fun k => k = rb) w w'
  | none => ∃ rest, e = .returned (.int .i64 0) ∧ RR w' N rb a cap all rest true n ∧ Kept (fun k => k = rb) w w'

set_option maxRecDepth 100000 in
set_option maxHeartbeats 8000000 in
theorem rrnum_any (N rb : Nat) (a : Option Addr) (cap : Nat) (all bs : List UInt8) (bad : Bool) (n : Nat) (w : World) (hR : RR w N rb a cap all bs bad n) : Calls Tryz.prog 41 #[.pointer (some ⟨rb, 0, none⟩)] w fun e w' => RrNum w N rb a cap all bad n e w' (pnum 6 bs) := by
  have HR := Hid.mk hR
  clear hR
  go_enter Tryz.func41, Tryz.ntmps41
  go_wp2
  go_loopw [3, 4] (fun acc i wr => ∃ k A : Nat, ∃ l : List UInt8, k ≤ 6 ∧ A < 128 ^ k ∧ acc = .int .i64 (A : Int) ∧ i = .int .i64 (k : Int) ∧ RR wr N rb a cap all l bad n ∧ Kept (fun k => k = rb) w wr ∧ pnum 6 bs = (pnum (6 - k) l).map fun x => (A + 128 ^ k * x.1, x.2)) (fun _ i _ => 6 - (intOf i).toNat)
  case atStart => exact ⟨0, 0, bs, by omega, by simp, rfl, rfl, HR.out, Kept.refl _ _, by cases pnum 6 bs <;> simp⟩
  case round =>
    obtain ⟨k, A, l, hk, hA, rfl, rfl, hRr, hkr, hpn⟩ := hrel
    have HP := Hid.mk hpn
    have HK := Hid.mk hkr
    have HRR := Hid.mk hRr
    obtain ⟨hrN, hNs, hB, hc, hm, hal, hne, p, hp, hh⟩ := hRr
    obtain ⟨c0, c1, c2, c3, cl, cf⟩ := cellsR hh
    have HH := Hid.mk hh
    clear hpn hkr hh hNs
    by_cases hk6 : k < 6
    · cases l with
      | nil =>
        have hpl : p.length = all.length := by rw [hp]; simp
        rw [hpl] at c1
        have HE : Hid (pnum 6 bs = none) := by
          unfold Hid; rw [HP.out]
          obtain ⟨j, hj⟩ : ∃ j, 6 - k = j + 1 := ⟨5 - k, by omega⟩
          rw [hj]; rfl
        have HT := Hid.mk (HRR.out.bad true)
        clear hB hne hp HH
        go_wp2_with fail
        go_quiet (fail)
        go_wp2
        go_ret
        rw [HE.out]
        have h := (HRR.out.on (below_drewN (Below.refl _ _) nq)).bad true
        exact ⟨[], rfl, h.1, (HK.out.trans (Kept.of_below (below_drewN (Below.refl _ _) nq))).trans h.2⟩
      | cons c l' =>
        have hpl : p.length < all.length := by rw [hp]; simp
        obtain ⟨b, off, rfl, hbl, hcb⟩ := hB.at hpl
        have hac : all[p.length] = c := by simp [hp]
        rw [hac] at hcb
        have hy : c.toNat < 256 := c.toNat_lt
        obtain ⟨q, A2, hq, g1, g2, hA2, hz⟩ := round_facts2 hk6 hy hA
        have HQ := Hid.mk hq
        have HZ := Hid.mk hz
        have HG := Hid.mk g2
        have HA2 := Hid.mk hA2
        have HC : Hid (pnum (6 - k) (c :: l') = if c.toNat < 128 then some (c.toNat, l') else (pnum (6 - (k + 1)) l').map fun x => (c.toNat % 128 + 128 * x.1, x.2)) := by
          unfold Hid
          obtain ⟨j, hj⟩ : ∃ j, 6 - k = j + 1 := ⟨5 - k, by omega⟩
          rw [hj, pnum, show 6 - (k + 1) = j by omega]
        have HTU : Hid (∀ m, RR ((wr.drewN m).setCell ⟨rb, 1, none⟩ (.int .i64 ((p.length : Int) + 1))) N rb (some ⟨b, off, none⟩) cap all l' bad n ∧ Kept (fun k => k = rb) (wr.drewN m) ((wr.drewN m).setCell ⟨rb, 1, none⟩ (.int .i64 ((p.length : Int) + 1)))) := fun m =>
          (HRR.out.on (below_drewN (Below.refl _ _) m)).turn ⟨p ++ [c], by rw [hp]; simp, by rw [setR1 (w := wr.drewN m) HH.out]; simp⟩
        have HPL := Hid.mk hp
        have hpl2 : (p.length : Int) < (all.length : Int) := by omega
        clear hB hne hp HH hac hA2 hz hq g2
        generalize c.toNat = y at *
        generalize p.length = pl at *
        go_wp2_with fail
        go_quiet (fail)
        go_wp2_with fail
        go_quiet (fail)
        go_wp2
        · rename_i hlt
          go_ret
          have hpe : pnum 6 bs = some (A2, l') := by
            rw [HP.out, HC.out, if_pos (by omega), Option.map_some, HZ.out, ← HQ.out, Nat.mod_eq_of_lt (by omega)]
          rw [hpe]
          exact ⟨congrArg (fun x => Ending.returned (.int .i64 x)) HG.out, (HTU.out _).1, (HK.out.trans (Kept.of_below (below_drewN (Below.refl _ _) _))).trans (HTU.out _).2⟩
        · rename_i hlt
          refine ⟨⟨k + 1, A2, l', by omega, HA2.out, by rw [HG.out], by simp, (HTU.out _).1, (HK.out.trans (Kept.of_below (below_drewN (Below.refl _ _) _))).trans (HTU.out _).2, ?_⟩, by simp [intOf]; omega⟩
          rw [HP.out, HC.out, if_neg (by omega), Option.map_map]
          congr 1
          funext x
          simp only [Function.comp_apply]
          rw [HZ.out, HQ.out, Nat.pow_succ, Nat.mul_add, Nat.add_assoc, Nat.mul_assoc]
    · obtain rfl : k = 6 := by omega
      have HE : Hid (pnum 6 bs = none) := by unfold Hid; rw [HP.out]; rfl
      clear hB hne hp HH
      go_wp2
      go_ret
      rw [HE.out]
      have h := HRR.out.bad true
      exact ⟨l, rfl, h.1, HK.out.trans h.2⟩
end Go.Proofs.YtndjdeiccmhelaaGreat

/- The reference's reader of bytes: its text. -/
namespace Go.Proofs.YtndjdeiccmhelaaGreat
open Go.RowKit Go.Sort Go.Lib

/-- a name at the head of bytes -/
def ptext (bs : List UInt8) : Option (ByteArray × List UInt8) := match pnum 6 bs with
  | none => none
  | some (m, r) => if 60 < m ∨ r.length < m then none else some (⟨(r.take m).toArray⟩, r.drop m)

/-- what is read: the value and what is left, or the reader is bad -/
def RrTxt (w : World) (N rb : Nat) (a : Option Addr) (cap : Nat) (all : List UInt8) (n : Nat) (e : Ending) (w' : World) : Option (ByteArray × List UInt8) → Prop
  | some (nm, rest) => e = .returned (.string nm) ∧ RR w' N rb a cap all rest false n ∧ Kept (fun k => k = rb) w w'
  | none => ∃ rest, e = .returned (.string ⟨#[]⟩) ∧ RR w' N rb a cap all rest true n ∧ Kept (fun k => k = rb) w w'

set_option maxRecDepth 100000 in
set_option maxHeartbeats 8000000 in
theorem rrtext_any (N rb : Nat) (a : Option Addr) (cap : Nat) (all bs : List UInt8) (n : Nat) (w : World) (hR : RR w N rb a cap all bs false n) : Calls Tryz.prog 42 #[.pointer (some ⟨rb, 0, none⟩)] w fun e w' => RrTxt w N rb a cap all n e w' (ptext bs) := by
  have HC := rrnum_any N rb a cap all bs false n w hR
  have HA0 : Hid (all = [] → pnum 6 bs = none) := by
    intro h
    obtain ⟨p, hp, -⟩ := hR.2.2.2.2.2.2.2
    rw [h] at hp
    obtain ⟨-, rfl⟩ := List.append_eq_nil_iff.1 hp.symm
    rfl
  have HP : Hid (ptext bs = match pnum 6 bs with
    | none => none
    | some (m, r) => if 60 < m ∨ r.length < m then none else some (⟨(r.take m).toArray⟩, r.drop m)) := rfl
  clear hR
  generalize ptext bs = P at *
  generalize pnum 6 bs = Q at *
  go_enter Tryz.func42, Tryz.ntmps42
  go_wp2_with fail
  refine HC.mono ?_
  intro e w1 h1
  cases Q with
  | none =>
    obtain ⟨rest, rfl, hR1, hk1⟩ := h1
    have H1 := Hid.mk hR1
    have HK := Hid.mk hk1
    obtain ⟨p, hp, hh⟩ := hR1.2.2.2.2.2.2.2
    obtain ⟨c0, c1, c2, c3, cl, cf⟩ := cellsR hh
    clear HC hk1 hR1 hh
    go_wp2_with fail
    go_quiet (fail)
    go_wp2
    go_ret
    rw [HP.out]
    have h := (H1.out.on (below_drewN (Below.refl _ _) nq)).bad true
    exact ⟨rest, rfl, h.1, (HK.out.trans (Kept.of_below (below_drewN (Below.refl _ _) nq))).trans h.2⟩
  | some Q =>
    obtain ⟨m, rest⟩ := Q
    obtain ⟨rfl, hR1, hk1⟩ := h1
    have H1 := Hid.mk hR1
    have HK := Hid.mk hk1
    obtain ⟨hrN, hNs, hB, hc, hm, hal, hne, p, hp, hh⟩ := hR1
    obtain ⟨c0, c1, c2, c3, cl, cf⟩ := cellsR hh
    have HH := Hid.mk hh
    have hpl : p.length + rest.length = all.length := by rw [hp]; simp
    have HPP := Hid.mk hp
    have hw : IntKind.i64.wrap ((all.length : Int) - (p.length : Int)) = (rest.length : Int) := by rw [IntKind.wrap_i64]; omega
    simp only at HP
    clear HC hk1 hh hp hNs
    by_cases hbig : 60 < m ∨ rest.length < m
    · rw [if_pos hbig] at HP
      by_cases h60 : 60 < m
      · have h60' : (60 : Int) < (m : Int) := by omega
        clear hB hne
        go_wp2_with fail
        go_quiet (fail)
        go_wp2
        go_ret
        rw [HP.out]
        have h := (H1.out.on (below_drewN (Below.refl _ _) nq)).bad true
        exact ⟨rest, rfl, h.1, (HK.out.trans (Kept.of_below (below_drewN (Below.refl _ _) nq))).trans h.2⟩
      · have h60' : ¬ (60 : Int) < (m : Int) := by omega
        have hr : (rest.length : Int) < (m : Int) := by omega
        clear hB hne
        go_wp2_with fail
        go_quiet (fail)
        go_wp2
        go_ret
        rw [HP.out]
        have h := (H1.out.on (below_drewN (Below.refl _ _) nq)).bad true
        exact ⟨rest, rfl, h.1, (HK.out.trans (Kept.of_below (below_drewN (Below.refl _ _) nq))).trans h.2⟩
    · rw [if_neg hbig] at HP
      have h60' : ¬ (60 : Int) < (m : Int) := by omega
      have hr : ¬ (rest.length : Int) < (m : Int) := by omega
      have hml : m ≤ rest.length := by omega
      by_cases h0 : all = []
      · exact absurd (HA0.out h0) (by simp)
      · obtain ⟨b, off, rfl, hbl, hcell⟩ := hB.resolve_left h0
        have HTU : Hid (∀ q, RR ((w1.drewN q).setCell ⟨rb, 1, none⟩ (.int .i64 ((p.length : Int) + (m : Int)))) N rb (some ⟨b, off, none⟩) cap all (rest.drop m) false n ∧ Kept (fun k => k = rb) (w1.drewN q) ((w1.drewN q).setCell ⟨rb, 1, none⟩ (.int .i64 ((p.length : Int) + (m : Int))))) := fun q =>
          (H1.out.on (below_drewN (Below.refl _ _) q)).turn ⟨p ++ rest.take m, by rw [HPP.out]; simp, by rw [setR1 (w := w1.drewN q) HH.out, List.length_append, List.length_take, Nat.min_eq_left hml]; simp⟩
        by_cases hm0 : m = 0
        · subst hm0
          have hnm : (⟨(rest.take 0).toArray⟩ : ByteArray) = ⟨#[]⟩ := by simp
          rw [hnm] at HP
          simp only [Int.ofNat_zero, Int.add_zero] at HTU
          have hconv : ∀ a c q, Sem.run Tryz.prog (convert 25 9 (.slice a 0 c)) (w1.drewN q) = .ok (.string ⟨#[]⟩) (w1.drewN q) := fun a c q => string0 a c _
          clear hB hne hcell hnm
          by_cases hpc : p.length = cap
          · have hpc2 : cap - p.length = 0 := by omega
            simp only [hpc] at HTU
            go_wp2_with fail
            go_quiet (fail)
            go_wp2_with fail
            go_quiet (fail)
            go_wp2
            go_ret
            rw [HP.out]
            exact ⟨rfl, (HTU.out _).1, (HK.out.trans (Kept.of_below (below_drewN (Below.refl _ _) _))).trans (HTU.out _).2⟩
          · have hpc2 : ¬ cap - p.length = 0 := by omega
            go_wp2_with fail
            go_quiet (fail)
            go_wp2_with fail
            go_quiet (fail)
            go_wp2
            go_ret
            rw [HP.out]
            exact ⟨rfl, (HTU.out _).1, (HK.out.trans (Kept.of_below (below_drewN (Below.refl _ _) _))).trans (HTU.out _).2⟩
        · have hconv : ∀ q, Sem.run Tryz.prog (convert 25 9 (.slice (some ⟨b, off + p.length, none⟩) m (cap - p.length))) (w1.drewN q) = .ok (.string ⟨(rest.take m).toArray⟩) (w1.drewN q) := fun q => by
            have := string_of (w := w1.drewN q) (a := some ⟨b, off + p.length, none⟩) (cap := cap - p.length) (bs := rest.take m) (Or.inr ⟨b, off + p.length, rfl, hbl, fun k hk => ?_⟩) (fun e => by cases e)
            · rwa [List.length_take, Nat.min_eq_left hml] at this
            · have h1 : p.length + k < all.length := by rw [List.length_take] at hk; omega
              have h2 := hcell (p.length + k) h1
              have h3 : all[p.length + k] = (rest.take m)[k] := by simp [HPP.out]
              rw [h3, ← Nat.add_assoc] at h2
              exact h2
          clear hB hne hcell
          generalize (⟨(rest.take m).toArray⟩ : ByteArray) = nm at *
          go_wp2_with fail
          go_quiet (fail)
          go_wp2_with fail
          go_quiet (fail)
          go_wp2
          go_ret
          rw [HP.out]
          exact ⟨rfl, (HTU.out _).1, (HK.out.trans (Kept.of_below (below_drewN (Below.refl _ _) _))).trans (HTU.out _).2⟩
end Go.Proofs.YtndjdeiccmhelaaGreat
