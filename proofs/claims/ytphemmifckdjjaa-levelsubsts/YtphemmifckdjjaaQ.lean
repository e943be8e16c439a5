/- The contract of the iterator that level.compared answers. -/
import Derived.Test.YtphemmifckdjjaaP
import Derived.RangeFuncNested
import Derived.RangeFuncBound
import Derived.RangeFuncCalls
import Derived.RangeFuncLeaves
import Derived.RangeFuncFrom
import Derived.Shelf.Abstract
import Derived.Shelf.RegionOpen
import Derived.OwnWalkIn
import Derived.TacticsInMore
import Derived.LoopNIn
import Derived.LoopIn
import Derived.Sort.CutIn
namespace Go.Proofs.Ytphemmifckdjjaa
open Go.RowKit Go.Sort Go.Shelf Go.Lib
attribute [local go_sem] Oper.semAt_some

/-- A slice at address a, in a block below N, holds the pairs xs in world w. -/
def SLb (N : Nat) (w : World) (a : Option Addr) (xs : List (Int × Int)) : Prop :=
  xs = [] ∨ ∃ b off, a = some ⟨b, off, none⟩ ∧ b < N ∧ ∀ i, i < xs.length → w.cell? ⟨b, off + i * 2, none⟩ = some (.int .i64 (xs[i]?.getD (0, 0)).1) ∧ w.cell? ⟨b, off + i * 2 + 1, none⟩ = some (.int .i64 (xs[i]?.getD (0, 0)).2)

theorem SL.toB {w : World} {a : Option Addr} {xs : List (Int × Int)} (h : SL w a xs) : SLb w.heap.size w a xs := h
theorem SLb.toSL {N : Nat} {w : World} {a : Option Addr} {xs : List (Int × Int)} (h : SLb N w a xs) (hN : N ≤ w.heap.size) : SL w a xs := by
  rcases h with h | ⟨b, off, ha, hlt, hc⟩
  · exact Or.inl h
  · exact Or.inr ⟨b, off, ha, Nat.lt_of_lt_of_le hlt hN, hc⟩
theorem SLb.below {N : Nat} {w w' : World} {a : Option Addr} {xs : List (Int × Int)} (h : SLb N w a xs) (hb : RowKit.Below N w w') : SLb N w' a xs := by
  rcases h with h | ⟨b, off, ha, hlt, hc⟩
  · exact Or.inl h
  · refine Or.inr ⟨b, off, ha, hlt, fun i hi => ?_⟩
    rw [hb.cell (p := ⟨b, off + i * 2, none⟩) hlt, hb.cell (p := ⟨b, off + i * 2 + 1, none⟩) hlt]; exact hc i hi

/-- what a round of the loop keeps: what lay below n₀, and all below N but the block rc -/
def KpQ (n₀ N rc : Nat) (W W' : World) : Prop := RowKit.Below n₀ W W' ∧ ∀ k, k < N → k ≠ rc → W'.heap[k]? = W.heap[k]?

theorem KpQ.trans {n₀ N rc : Nat} {A B C : World} (h : KpQ n₀ N rc A B) (k : KpQ n₀ N rc B C) : KpQ n₀ N rc A C := ⟨h.1.trans k.1, fun i hi hn => (k.2 i hi hn).trans (h.2 i hi hn)⟩
theorem KpQ.grew {n₀ N rc : Nat} {A B : World} (h : Grew A B) (h1 : n₀ ≤ A.heap.size) (h2 : N ≤ A.heap.size) : KpQ n₀ N rc A B := ⟨h.below.mono h1, fun i hi _ => h.below.block i (by omega)⟩

theorem Grew.grownBy {A B : World} (h : Grew A B) : A.grownBy B none := by
  have hb := h.below
  exact ⟨hb.os, hb.tape, hb.output, hb.size, fun k hk _ => hb.block k hk⟩

/-- the pairs that are compared -/
def cmpPairs (na : Int) (xs : List (Int × Int)) (nb : Int) (ys : List (Int × Int)) : List (Int × Int) := (na, evalL [] nb ys) :: xs.map fun p => (p.2, gAdd p.1 ys)

theorem oneWay {e : Ending} {P Q : Prop} (h : (e = .returned (.bool true) ∧ P) ∨ (e = .returned (.bool false) ∧ Q)) : ∃ b : Bool, e = .returned (.bool b) ∧ Hid (if b then P else Q) := by
  rcases h with ⟨h, p⟩ | ⟨h, q⟩
  · exact ⟨true, h, by unfold Hid; simpa using p⟩
  · exact ⟨false, h, by unfold Hid; simpa using q⟩

theorem cmp_take {na nb : Int} {xs ys : List (Int × Int)} {k : Nat} {x y : Int} (h : xs[k]? = some (x, y)) : (cmpPairs na xs nb ys).take (k + 1 + 1) = (cmpPairs na xs nb ys).take (k + 1) ++ [(y, gAdd x ys)] := by
  obtain ⟨hk, e⟩ := List.getElem?_eq_some_iff.1 h
  have hl : k + 1 < (cmpPairs na xs nb ys).length := by simp [cmpPairs]; omega
  rw [List.take_succ_eq_append_getElem hl]
  simp [cmpPairs, e]

def encQ (x : Int × Int) : Array Value := #[.int .i64 x.1, .int .i64 x.2]

set_option maxRecDepth 100000 in
set_option maxHeartbeats 2000000 in
theorem compared1_stops (n : Nat) (hn : 1 ≤ n) (n₀ N rc A Bx : Nat) (na nb : Int) (xs ys : List (Int × Int)) (aa ab : Option Addr) (ca cb : Nat) (w : World) (hn0 : n₀ ≤ rc) (hrc : rc < N) (hN : N ≤ w.heap.size) (hA : A < N) (hA' : A ≠ rc) (hB : Bx < N) (hB' : Bx ≠ rc)
    (hhA : w.heap[A]? = some (.cells #[.int .i64 na, .slice aa xs.length ca] 24 (0, 0))) (hhB : w.heap[Bx]? = some (.cells #[.int .i64 nb, .slice ab ys.length cb] 24 (0, 0))) (hSa : SLb n₀ w aa xs) (hSb : SLb n₀ w ab ys) (hxn : xs.length ≤ 4398046511104) (hyn : ys.length ≤ 4398046511104) (hr : rightB nb ys = true) :
    SeqStopsK Fence.wide n Try.prog 49 #[.pointer (some ⟨A, 0, none⟩), .pointer (some ⟨Bx, 0, none⟩)] encQ (KpQ n₀ N rc) (fun zs => zs = cmpPairs na xs nb ys) (fun pre => pre <+: cmpPairs na xs nb ys) (xs.length + 1) w := by
  intro l J Jx W hW hJ hJx hY h0
  have hsW := hW.size
  have mx := mixed
  have hhA1 := (hW.block A (by omega)).trans hhA
  have hhB1 := (hW.block Bx (by omega)).trans hhB
  have hSa1 := hSa.below (hW.mono (by omega : n₀ ≤ w.heap.size))
  have hSb1 := hSb.below (hW.mono (by omega : n₀ ≤ w.heap.size))
  obtain ⟨qa0, qa1, -, -, qa4⟩ := cells2 hhA1
  obtain ⟨qb0, qb1, -, -, qb4⟩ := cells2 hhB1
  have HE := fun (W' : World) (h : Grew W W') => (callsIn_wide (n := n - 1)).2 (Eval_any nb ys ab cb [] none 0 W' ((hSb1.toSL (by omega)).below h.below) (by omega) (Or.inl rfl) (by simp))
  simp only [hr, if_true, List.length_nil] at HE
  have HJ0 : Hid (J [] W) := h0
  have HJ := Hid.mk hJ
  have HY := Hid.mk hY
  have HSa := Hid.mk hSa1
  have HSb := Hid.mk hSb1
  have HhA := Hid.mk hhA1
  have HhB := Hid.mk hhB1
  clear hW hhA hhB hSa hSb hJ hJx hY h0 hhA1 hhB1 hSa1 hSb1
  refine callsIn_of_wp Try.func49 rfl trivial ?_ rfl
  simp only [Try.ntmps49, List.size_toArray, List.length_cons, List.length_nil, Nat.reduceAdd, Nat.reduceSub, Array.replicate_succ, Array.replicate_zero, List.push_toArray, List.append_toArray, List.nil_append, List.cons_append]
  gi_wp2_with fail
  gi_cut [12] from 6 (fun c W3 => ∃ cv : Bool, c = .bool cv ∧ Hid (if cv then Jx ([] ++ [(na, evalL [] nb ys)]) W3 else J ([] ++ [(na, evalL [] nb ys)]) W3 ∧ KpQ n₀ N rc W W3))
  case first =>
    gi_region_with_o (first | (refine ⟨trivial, ?_⟩; gi_at_call 25; refine (HE _ (Grew.drew (Grew.refl _))).mono ?_; rintro e w1 ⟨rfl, hg⟩; have hg1 := (Grew.drew (Grew.refl W)).trans hg; have c0 := (hg1.below.cell (p := ⟨A, 0, none⟩) qa4).trans qa0; have hJ1 := HJ.out [] W w1 none HJ0.out hg1.grownBy (by intro r e; cases e); obtain ⟨fn, tmps, assign, body, hy, hR⟩ := HY.out [] (na, evalL [] nb ys) w1 hJ1 (by simp); dsimp only [encQ] at hy; have HJ1 := Hid.mk hJ1; clear hJ1) | (refine hR.mono ?_; intro e W3 hd; obtain ⟨bv, rfl, HD⟩ := oneWay hd; clear hd))
    all_goals
      gi_wp2
      gi_meet
      case rel =>
        refine ⟨!bv, rfl, ?_⟩
        cases bv
        · exact HD.out
        · exact ⟨HD.out.1, (KpQ.grew hg1 (by omega) (by omega)).trans HD.out.2⟩
  case rest =>
    obtain ⟨cv, rfl, HD⟩ := hcut
    clear HE qa0 qa1 qb0 qb1
    cases cv
    · have hd : J ([] ++ [(na, evalL [] nb ys)]) wc ∧ KpQ n₀ N rc W wc := by simpa using HD.out
      have HK3 := Hid.mk hd.2
      have HJ3 := Hid.mk hd.1
      obtain ⟨t0, t1, -, -, t4⟩ := cells2 ((HK3.out.2 A hA hA').trans HhA.out)
      clear hd HD
      gi_wp2
      gi_loopw [16] (fun i wr => ∃ k : Nat, k ≤ xs.length ∧ i = .int .i64 k ∧ J ((cmpPairs na xs nb ys).take (k + 1)) wr ∧ KpQ n₀ N rc W wr) (fun i _ => xs.length - (intOf i).toNat)
      case atStart => exact ⟨0, Nat.zero_le _, rfl, HJ3.out, HK3.out⟩
      case round =>
        clear HJ3 HK3 t0 t1 t4
        obtain ⟨k, hk, rfl, hJk, hKk⟩ := hrel
        have HJk := Hid.mk hJk
        have HKk := Hid.mk hKk
        have hbb := hKk.1.size
        clear hJk hKk
        by_cases hlt : k < xs.length
        · obtain ⟨b, off, x, y, rfl, hbl, hc0, hc1, hxy⟩ := ((HSa.out.below HKk.out.1).toSL (by omega)).at hlt
          obtain ⟨qb0, qb1, -, -, qb4⟩ := cells2 ((HKk.out.2 Bx hB hB').trans HhB.out)
          have HG := fun (W' : World) (h : Grew wr W') => (callsIn_wide (n := n - 1)).2 (greatestAdd_any nb ys ab cb x W' (((HSb.out.below HKk.out.1).toSL (by omega)).below h.below) (by omega))
          have hab : Grew wr ((wr.alloc (.cells #[.int .i64 x, .int .i64 y] 32)).drew) := ((Grew.refl wr).alloc _).drew
          have HAB := Hid.mk hab
          have hv0 : (wr.alloc (.cells #[.int .i64 x, .int .i64 y] 32)).heap[wr.heap.size]? = some (.cells #[.int .i64 x, .int .i64 y] 32 (0, 0)) := alloc_new _ _
          have HV0 := Hid.mk hv0
          clear hab hv0
          gi_wp2_with fail
          gi_region_with_o (first | (refine ⟨trivial, ?_⟩; gi_at_call 50; refine (HG _ HAB.out).mono ?_; rintro e w1 ⟨rfl, hg⟩; have hg1 := HAB.out.trans hg; obtain ⟨c0, c1, -, -, -⟩ := cells2 ((hg.below.block wr.heap.size (by simp)).trans HV0.out); have hJ1 := HJ.out _ wr w1 none HJk.out hg1.grownBy (by intro r e; cases e); obtain ⟨fn, tmps, assign, body, hy, hR⟩ := HY.out _ (y, gAdd x ys) w1 hJ1 (by simp [cmpPairs]; omega); dsimp only [encQ] at hy; clear hJ1) | (refine hR.mono ?_; intro e W3 hd; obtain ⟨bv, rfl, HD⟩ := oneWay hd; clear hd))
          all_goals
            cases bv
            · have hd : Jx ((cmpPairs na xs nb ys).take (k + 1) ++ [(y, gAdd x ys)]) W3 := by simpa using HD.out
              rw [← cmp_take hxy.out] at hd
              have HX := Hid.mk hd
              clear hd HD
              gi_wp2
              refine bodyPost_ret (results_none rfl _ _ _) rfl ?_
              exact ⟨⟨_, rfl⟩, .inr ⟨_, List.take_prefix _ _, HX.out⟩⟩
            · have hd : J ((cmpPairs na xs nb ys).take (k + 1) ++ [(y, gAdd x ys)]) W3 ∧ KpQ n₀ N rc w1 W3 := by simpa using HD.out
              rw [← cmp_take hxy.out] at hd
              have HX := Hid.mk hd
              clear hd HD
              gi_wp2
              go_roundw
              case rel => exact ⟨k + 1, hlt, by go_num, HX.out.1, (HKk.out.trans (KpQ.grew hg1 (by omega) (by omega))).trans HX.out.2⟩
              case measure => simp [intOf]; omega
        · have HT : Hid ((cmpPairs na xs nb ys).take (k + 1) = cmpPairs na xs nb ys) := List.take_of_length_le (by simp [cmpPairs]; omega)
          gi_wp2
          go_end0
          exact ⟨⟨_, rfl⟩, .inl ⟨_, rfl, by rw [← HT.out]; exact HJk.out⟩⟩
    · have hd : Jx ([] ++ [(na, evalL [] nb ys)]) wc := by simpa using HD.out
      gi_wp2
      refine bodyPost_ret (results_none rfl _ _ _) rfl ?_
      exact ⟨⟨_, rfl⟩, .inr ⟨_, ⟨_, rfl⟩, hd⟩⟩
end Go.Proofs.Ytphemmifckdjjaa
