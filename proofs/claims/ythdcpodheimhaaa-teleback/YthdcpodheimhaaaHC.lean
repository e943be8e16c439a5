/- The contract of the iterator that tele.outermost answers. -/
import Derived.Test.YthdcpodheimhaaaHB
import Derived.Test.YthdcpodheimhaaaOA
import Derived.Test.YthdcpodheimhaaaOG
import Derived.Test.YthdcpodheimhaaaEMA
import Derived.RangeFuncBound
import Derived.RangeFuncCalls
import Derived.RangeFuncLeaves
import Derived.RangeFuncFrom
import Derived.Shelf.Abstract
import Derived.Shelf.RegionOpen
import Derived.OwnWalkIn
import Derived.TacticsInMore
import Derived.LoopNIn
import Derived.LoopIn
import Derived.Sort.CutIn
namespace Go.Proofs.Ythdcpodheimhaaa
open Go.RowKit Go.Sort Go.Shelf Go.Lib
attribute [local go_sem] Oper.semAt_some

/-- xs are TPis, each the second kid of the one ahead of it, v and t the first one; v' and t' are behind them. -/
inductive PiRow (w0 : World) : List (Value × Tm) → Value → Tm → Value → Tm → Prop where
  | nil {v : Value} {t : Tm} (hv : TV w0 v t) : PiRow w0 [] v t v t
  | cons {n : Int} {h : Bool} {nm : ByteArray} {ls : List LvT} {d t1 t' : Tm} {la : Option Addr} {lc kb ko kc : Nat} {v1 v' : Value} {xs : List (Value × Tm)}
    (hv : TV w0 (.agg #[.int .i64 3, .int .i64 n, .bool h, .string nm, .slice la ls.length lc, .slice (some ⟨kb, ko, none⟩) 2 kc]) (.mk 3 n h nm ls [d, t1])) (hkb : kb < w0.heap.size) (hkc : 2 ≤ kc)
    (hc : CellsAt w0 kb (ko + 6) v1) (hr : PiRow w0 xs v1 t1 v' t') :
    PiRow w0 ((.agg #[.int .i64 3, .int .i64 n, .bool h, .string nm, .slice la ls.length lc, .slice (some ⟨kb, ko, none⟩) 2 kc], .mk 3 n h nm ls [d, t1]) :: xs) (.agg #[.int .i64 3, .int .i64 n, .bool h, .string nm, .slice la ls.length lc, .slice (some ⟨kb, ko, none⟩) 2 kc]) (.mk 3 n h nm ls [d, t1]) v' t'

theorem PiRow.tv {w0 : World} {xs : List (Value × Tm)} {v v' : Value} {t t' : Tm} (h : PiRow w0 xs v t v' t') : TV w0 v t := by
  cases h with
  | nil hv => exact hv
  | cons hv => exact hv

def encX (x : Value × Tm) : Array Value := #[x.1]

set_option maxRecDepth 100000 in
set_option maxHeartbeats 2000000 in
theorem outermost1_seq (m n0 b1 b2 : Nat) (N : Int) (xs : List (Value × Tm)) (t t' : Tm) (v' : Value) (f n : Int) (hd : Bool) (nm : ByteArray) (la ka : Option Addr) (l1 lc k1 kc : Nat) (w0 w : World) (hn0 : w0.heap.size = n0) (hB : RowKit.Below n0 w0 w) (hrow : PiRow w0 xs (.agg #[.int .i64 f, .int .i64 n, .bool hd, .string nm, .slice la l1 lc, .slice ka k1 kc]) t v' t') (hend : (xs.length : Int) = N ∨ ((xs.length : Int) < N ∧ t'.form ≠ 3)) (hN : N ≤ 9223372036854775807)
    (hb1 : w.heap[b1]? = some (.cells #[.int .i64 f, .int .i64 n, .bool hd, .string nm, .slice la l1 lc, .slice ka k1 kc] 25 (0, 0))) (hb2 : w.heap[b2]? = some (.cells #[.int .i64 N] 3 (0, 0))) :
    SeqX m Try.prog 41 #[.pointer (some ⟨b1, 0, none⟩), .pointer (some ⟨b2, 0, none⟩)] encX n0 xs w := by
  intro l B J W hW hsz hJ hY h0
  have HJ := Hid.mk hJ
  have HY := Hid.mk hY
  have hsW := hW.size
  have hnw : n0 ≤ w.heap.size := by rw [← hn0]; exact hB.size
  have HOLD : Hid (∀ k, k < n0 → W.heap[k]? = w0.heap[k]?) := fun k hk => (hW.block k (by omega)).trans (hB.block k hk)
  have h1 := (hW.block b1 (heap_lt hb1)).trans hb1
  have h2 := (hW.block b2 (heap_lt hb2)).trans hb2
  obtain ⟨W0, hW0⟩ : ∃ W0, W.alloc (.cells #[.int .i64 f, .int .i64 n, .bool hd, .string nm, .slice la l1 lc, .slice ka k1 kc] 25) = W0 := ⟨_, rfl⟩
  have hbe : RowKit.Below W.heap.size W W0 := by rw [← hW0]; exact (Below.refl _ _).alloc (Nat.le_refl _) _
  have HX0 : Hid (W0.heap[B + 2]? = some (.cells #[.int .i64 f, .int .i64 n, .bool hd, .string nm, .slice la l1 lc, .slice ka k1 kc] 25 (0, 0))) := by unfold Hid; rw [← hsz, ← hW0]; exact alloc_new _ _
  have HJ0 : Hid (J [] W0) := hJ [] W W0 h0 (Kept.of_below hbe)
  have HOLD0 : Hid (∀ k, k < n0 → W0.heap[k]? = w0.heap[k]?) := fun k hk => (hbe.block k (by omega)).trans (HOLD.out k hk)
  obtain ⟨x0, x1, x2, x3, x4, x5, x6⟩ := cells6 h1
  obtain ⟨y0, yf, y1⟩ := cells1 h2
  have HROW := Hid.mk hrow
  have HEND := Hid.mk hend
  have HSZ := Hid.mk hsz
  have HW0 := Hid.mk hW0
  have HB2 : Hid (W0.heap[b2]? = some (.cells #[.int .i64 N] 3 (0, 0))) := (hbe.block b2 (heap_lt h2)).trans h2
  clear hJ hY hW hB hb1 hb2 hrow hend h0 h1 h2 hW0 hbe HOLD hsz
  refine callsIn_of_wp Try.func41 rfl trivial ?_ rfl
  simp only [Try.ntmps41, List.size_toArray, List.length_cons, List.length_nil, Nat.reduceAdd, Nat.reduceSub, Array.replicate_succ, Array.replicate_zero, List.push_toArray, List.append_toArray, List.nil_append, List.cons_append]
  gi_wp2_with fail
  rw [HW0.out, HSZ.out]
  gi_loopw [7] (fun i wr => ∃ (pre rest : List (Value × Tm)) (tk : Tm) (f n : Int) (hd : Bool) (nm : ByteArray) (la ka : Option Addr) (l1 lc k1 kc : Nat), i = .int .i64 (pre.length : Int) ∧ pre ++ rest = xs ∧ PiRow w0 rest (.agg #[.int .i64 f, .int .i64 n, .bool hd, .string nm, .slice la l1 lc, .slice ka k1 kc]) tk v' t' ∧ J pre wr ∧ wr.heap[B + 2]? = some (.cells #[.int .i64 f, .int .i64 n, .bool hd, .string nm, .slice la l1 lc, .slice ka k1 kc] 25 (0, 0)) ∧ ∀ k, k < n0 → wr.heap[k]? = w0.heap[k]?) (fun i _ => xs.length - (intOf i).toNat)
  case atStart => exact ⟨[], xs, t, f, n, hd, nm, la, ka, l1, lc, k1, kc, rfl, rfl, HROW.out, HJ0.out, HX0.out, HOLD0.out⟩
  case round =>
    obtain ⟨pre, rest, tk, f, n, hd, nm, la, ka, l1, lc, k1, kc, rfl, hpr, hrk, hJk, hXk, hOk⟩ := hrel
    have HPR := Hid.mk hpr
    have HRK := Hid.mk hrk
    have HJK := Hid.mk hJk
    have HXK := Hid.mk hXk
    have HOK := Hid.mk hOk
    have hlp : pre.length + rest.length = xs.length := by rw [← hpr]; simp
    obtain ⟨z0, z1, z2, z3, z4, z5, z6⟩ := cells6 hXk
    clear hpr hrk hJk hXk hOk
    by_cases hlt : (pre.length : Int) < N
    · cases rest with
      | nil =>
        have hf3 : (f != 3) = true := by
          have h := HRK.out
          have hv := h.tv
          cases h with
          | nil _ =>
            obtain ⟨_, _, _, _, e⟩ := hv.shape
            simp only [Value.agg.injEq, Array.mk.injEq, List.cons.injEq, Value.int.injEq, true_and] at e
            rcases HEND.out with he | ⟨-, he⟩
            · simp at hlp; omega
            · rw [e.1]; simpa using he
        gi_wp2_with (with_reducible refine And.intro (fun _ h => (by cases h)) ?_)
        refine bodyPost_ret (results_none rfl _ _ _) rfl ?_
        refine ⟨⟨_, rfl⟩, ?_⟩
        have := HPR.out
        rw [List.append_nil] at this
        rw [← this]
        exact HJK.out
      | cons x rest =>
        obtain ⟨kb, ko, t1, q0, q1, q2, q3, e1, e2, e3, g1, g2, g3, hx, rfl, rfl, rfl, hkb, hkc, hc1, hr1⟩ : ∃ (kb ko : Nat) (t1 : Tm) (q0 q1 : Int) (q2 : Bool) (q3 : ByteArray) (e1 : Option Addr) (e2 e3 : Nat) (g1 : Option Addr) (g2 g3 : Nat), x.1 = .agg #[.int .i64 f, .int .i64 n, .bool hd, .string nm, .slice la l1 lc, .slice ka k1 kc] ∧ f = 3 ∧ ka = some ⟨kb, ko, none⟩ ∧ k1 = 2 ∧ kb < n0 ∧ 2 ≤ kc ∧ CellsAt w0 kb (ko + 6) (.agg #[.int .i64 q0, .int .i64 q1, .bool q2, .string q3, .slice e1 e2 e3, .slice g1 g2 g3]) ∧ PiRow w0 rest (.agg #[.int .i64 q0, .int .i64 q1, .bool q2, .string q3, .slice e1 e2 e3, .slice g1 g2 g3]) t1 v' t' := by
          generalize hvv : (Value.agg #[.int .i64 f, .int .i64 n, .bool hd, .string nm, .slice la l1 lc, .slice ka k1 kc]) = vv at *
          have h := HRK.out
          cases h with
          | cons hv hkb hkc hc hr =>
            simp only [Value.agg.injEq, Array.mk.injEq, List.cons.injEq, Value.int.injEq, Value.slice.injEq, true_and, and_true] at hvv
            obtain ⟨rfl, rfl, hvv⟩ := hvv
            have hc' := hc
            obtain ⟨q0, q1, q2, q3, e1, e2, e3, g1, g2, g3, rfl, -⟩ := hc'
            exact ⟨_, _, _, q0, q1, q2, q3, e1, e2, e3, g1, g2, g3, rfl, rfl, hvv.2.2.2.1, hvv.2.2.2.2.1, by omega, by omega, hc, hr⟩
        have HR1 := Hid.mk hr1
        have HC1 := Hid.mk hc1
        obtain ⟨fn, tmps, assign, body, hy, hR⟩ := HY.out pre x rest wr HPR.out (heap_lt HXK.out) HJK.out
        dsimp only [encX] at hy
        rw [hx] at hy
        clear hr1 hc1
        gi_wp2_with (with_reducible refine And.intro (fun _ h => (by cases h)) ?_)
        refine ⟨fun h => (by simp [Fence.wide] at h), hR.mono ?_⟩
        rintro e W3 ⟨rfl, hJ3, hrk3⟩
        have HJ3 := Hid.mk hJ3
        have hs3 := hrk3.size
        have HX3 := Hid.mk ((hrk3.block (B + 2) (heap_lt HXK.out) (Or.inr (by omega))).trans HXK.out)
        have HO3 : Hid (∀ k, k < n0 → W3.heap[k]? = w0.heap[k]?) := fun k hk => by
          by_cases hkw : k < wr.heap.size
          · exact (hrk3.block k hkw (Or.inl hk)).trans (HOK.out k hk)
          · exfalso
            have h := HOK.out k hk
            rw [Array.getElem?_eq_none (by omega)] at h
            have := (Array.getElem?_eq_none_iff).1 h.symm
            omega
        have hc3 := HC1.out.same (HO3.out kb hkb)
        obtain ⟨p0, p1, p2, p3, p4, p5, p6, p7, p8, p9, hpe, c0, c1, c2, c3, c4, c5⟩ := hc3
        simp only [Value.agg.injEq, Array.mk.injEq, List.cons.injEq, Value.int.injEq, Value.bool.injEq, Value.string.injEq, Value.slice.injEq, true_and, and_true] at hpe
        obtain ⟨rfl, rfl, rfl, rfl, ⟨rfl, rfl, rfl⟩, rfl, rfl, rfl⟩ := hpe
        clear z0 z1 z2 z3 z4 z5 z6 hJ3 hrk3 hy hR
        obtain ⟨z0, z1, z2, z3, z4, z5, z6⟩ := cells6 HX3.out
        have zf := frz HX3.out
        gi_wp2
        refine ⟨⟨pre ++ [x], rest, t1, q0, q1, q2, q3, e1, g1, e2, e3, g2, g3, ?_, ?_, HR1.out, HJ.out _ _ _ HJ3.out (keep6 rfl), set6 HX3.out, fun k hk => ?_⟩, ?_⟩
        · rw [List.length_append]; go_num
        · rw [List.append_assoc]; exact HPR.out
        · have := HSZ.out
          exact ((keep6 (P := fun k => k = B + 2) rfl).block k (by omega) (by omega)).trans (HO3.out k hk)
        · simp only [List.length_cons] at hlp
          simp [intOf]
          omega
    · gi_wp2
      refine bodyPost_end (results_none rfl _ _ _) rfl ?_
      refine ⟨⟨_, rfl⟩, ?_⟩
      have h : rest = [] := by
        rcases HEND.out with he | ⟨he, -⟩
        · exact List.length_eq_zero_iff.1 (by omega)
        · omega
      have := HPR.out
      rw [h, List.append_nil] at this
      rw [← this]
      exact HJK.out
end Go.Proofs.Ythdcpodheimhaaa
