/- A law for ranges over iterators that keep no box of their own; slices.Backward at terms. -/
import Derived.Test.YthdcpodheimhaaaHB
import Derived.Test.YthdcpodheimhaaaHJ
import Derived.RangeFuncBound
import Derived.RangeFuncCalls
import Derived.RangeFuncLeaves
import Derived.RangeFuncFrom
import Derived.Shelf.Abstract
import Derived.Shelf.RegionOpen
import Derived.OwnWalkIn
import Derived.TacticsInMore
import Derived.LoopNIn
import Derived.LoopIn
import Derived.Sort.CutIn
namespace Go.Proofs.Ythdcpodheimhaaa
open Go.RowKit Go.Sort Go.Shelf Go.Lib

/-- what a round keeps: the blocks that the iterator reads, and the loop's two blocks -/
structure RK2 (Rd : Nat → Prop) (B : Nat) (W W' : World) : Prop where
  size : W.heap.size ≤ W'.heap.size
  block : ∀ k, k < W.heap.size → (Rd k ∨ (B ≤ k ∧ k < B + 2)) → W'.heap[k]? = W.heap[k]?

theorem RK2.refl (Rd : Nat → Prop) (B : Nat) (W : World) : RK2 Rd B W W := ⟨Nat.le_refl _, fun _ _ _ => rfl⟩
theorem RK2.trans {Rd : Nat → Prop} {B : Nat} {X Y Z : World} (h : RK2 Rd B X Y) (k : RK2 Rd B Y Z) : RK2 Rd B X Z := ⟨Nat.le_trans h.size k.size, fun i hi hp => (k.block i (Nat.lt_of_lt_of_le hi h.size) hp).trans (h.block i hi hp)⟩

/-- a property of worlds that does not look into the two blocks from B on -/
def Abides2 (B : Nat) (J : World → Prop) : Prop := ∀ A A', J A → A.heap.size ≤ A'.heap.size → (∀ k, k < A.heap.size → ¬ (B ≤ k ∧ k < B + 2) → A'.heap[k]? = A.heap[k]?) → A'.os = A.os → A'.tape = A.tape → A'.output = A.output → J A'

/-- The contract of an iterator, called in W, that keeps no box of its own, reads the blocks of Rd, and goes on as long as it is told to: in the end all of xs have come. -/
def SeqY {α : Type} (n : Nat) (P : Program) (gf : Nat) (lb : Array Value) (encs : α → Array Value) (Rd : Nat → Prop) (xs : List α) (w : World) : Prop :=
  ∀ (l B : Nat) (J : List α → World → Prop) (W : World), RowKit.Below w.heap.size w W → W.heap.size = B + 2 → (∀ s, ∀ A A', J s A → Kept (fun _ => False) A A' → J s A') →
    (∀ pre x rest W1, pre ++ x :: rest = xs → B + 2 ≤ W1.heap.size → J pre W1 → YieldAt Fence.wide (n - 1) P l (encs x) W1 fun e W' => e = .returned (.bool true) ∧ J (pre ++ [x]) W' ∧ RK2 Rd B W1 W') →
    J [] W →
    CallsIn Fence.wide n P gf (#[.func (.yield l) #[] #[]] ++ lb) W fun e W' => (∃ v, e = .returned v) ∧ J xs W'

theorem rangeY {α : Type} {P : Program} {n : Nat} {g : Operand} {ps : Array Tmp} {assign body : Code} {Q : Exit → Act → World → Prop} {a : Act} {w : World}
    {gf : Nat} {lb : Array Value} (hg : a.eval g = .func (.func gf) #[] lb) (eg : ∀ args w, (callFunc gf args).run P w = .ok (.enter gf args) w)
    {encs : α → Array Value} {Rd : Nat → Prop} {xs : List α} {w0 : World} (hseq : SeqY (n - 1) P gf lb encs Rd xs w0) (hb0 : RowKit.Below w0.heap.size w0 w) (hps : ∀ x, (encs x).size = ps.size)
    (I : List α → World → Prop) (hI : ∀ s, Abides2 w.heap.size (I s)) (h0 : I [] w) (Ax : α → Act → World → Prop) (hAx : ∀ x a', Abides2 w.heap.size (Ax x a'))
    (hassign : ∀ (l : Nat) (pre : List α) (x : α) (rest : List α) (W : World) (K : Act → World → Prop), pre ++ x :: rest = xs → w.heap.size + 2 ≤ W.heap.size → I pre W → (∀ a' W', RK2 Rd w.heap.size W W' → I pre W' → Ax x a' W' → K a' W') →
      assign.wpIn (Fence.wide.inRound l) (n - 1 - 1) P (Exit.then K (fun _ _ _ => False)) { tmps := (ps.zip (encs x)).foldl (fun t (p, v) => t.setIfInBounds p v) a.tmps, defers := [] } W)
    (hbody : ∀ (l : Nat) (pre : List α) (x : α) (rest : List α) (a' : Act) (W : World), pre ++ x :: rest = xs → w.heap.size + 2 ≤ W.heap.size → I pre W → Ax x a' W → body.wpIn (Fence.wide.inRound l) (n - 1 - 1) P (fun e _ W' => e = .normal ∧ RK2 Rd w.heap.size W W' ∧ I (pre ++ [x]) W') a' W)
    (hdone : ∀ (D : Nat) (W : World), D = w.heap.size → I xs W → W.heap[D]? = some (.deferred (some [])) → Q .normal { a with defers := { target := .collected D, args := #[] } :: a.defers } W) :
    (Code.rangeFunc g ps assign body).wpIn Fence.wide n P Q a w := by
  refine wpIn_rangeFunc ?_
  intro fn hfn
  rw [show Fence.wide.round = none from rfl]
  obtain ⟨rec, hrec⟩ : ∃ rec : LoopState → Option Code → Loop, rec = fun st pe => { state := st, pending := pe, fn, tmps := a.tmps, params := ps, assign, body, defers := w.heap.size } := ⟨_, rfl⟩
  obtain ⟨W1, hW1⟩ : ∃ W1, (w.alloc (.deferred (some []))).alloc (.loop (rec .ready none)) = W1 := ⟨_, rfl⟩
  have hL1 : W1.heap[w.heap.size + 1]? = some (.loop (rec .ready none)) := by
    rw [← hW1]; have := World.alloc_heap_new (w.alloc (.deferred (some []))) (.loop (rec .ready none)); rwa [World.size_alloc] at this
  have hK1 : W1.heap[w.heap.size]? = some (.deferred (some [])) := by
    rw [← hW1]; exact (Below.heap_alloc _ _ _ (by simp)).trans (World.alloc_heap_new w _)
  have hbw : RowKit.Below w.heap.size w W1 := by rw [← hW1]; exact ((Below.refl _ w).alloc (Nat.le_refl _) _).alloc (by simp) _
  have hI1 : I [] W1 := hI [] w W1 h0 hbw.size (fun k hk _ => hbw.block k hk) hbw.os hbw.tape hbw.output
  have hb1 : RowKit.Below w0.heap.size w0 W1 := hb0.trans (hbw.mono hb0.size)
  have hs1 : W1.heap.size = w.heap.size + 2 := by rw [← hW1]; simp
  refine ⟨w.heap.size + 1, [{ target := .collected w.heap.size, args := #[] }], W1, { target := .fn (.func gf) lb, args := #[.func (.yield (w.heap.size + 1)) #[] #[]] }, W1, gf,
    #[.func (.yield (w.heap.size + 1)) #[] #[]] ++ lb, W1, ?_, ?_, ?_, ?_, fun h => by simp [Fence.wide] at h, ?_⟩
  · rw [← hW1, hrec]; exact run_enterLoop_outer _ _ _ _ _
  · simp only [resolve, hg]
    simp [go_sem]
  · intro f' hf'; exact trivial
  · simp [invoke, go_sem, eg]
  · refine (hseq (w.heap.size + 1) w.heap.size
      (fun pre W => I pre W ∧ W.heap[w.heap.size + 1]? = some (.loop (rec .ready none)) ∧ W.heap[w.heap.size]? = some (.deferred (some [])))
      W1 hb1 hs1
      (fun s A A' hs hk => ⟨hI s A A' hs.1 hk.size (fun k h1 _ => hk.block k h1 id) hk.os hk.tape hk.output, (hk.block _ (Array.getElem?_eq_some_iff.1 hs.2.1).1 id).trans hs.2.1, (hk.block _ (Array.getElem?_eq_some_iff.1 hs.2.2).1 id).trans hs.2.2⟩)
      ?_ ⟨hI1, hL1, hK1⟩).mono ?_
    · rintro pre x rest W hpre hlt2 ⟨hi, hl, hk⟩
      have hlt : w.heap.size + 1 < W.heap.size := by omega
      have hy := run_yield (P := P) (args := encs x) hl (by rw [hrec]; exact hps x)
      rw [hrec] at hy
      refine ⟨fn, _, assign, body, hy, roundIn_of_wpIn hfn (hassign _ pre x rest W _ hpre hlt2 hi ?_)⟩
      clear hy
      intro a' Wa hrk hia hax
      have hsa := hrk.size
      have hla := (hrk.block _ hlt (Or.inr (by omega))).trans hl
      have hka := (hrk.block _ (by omega) (Or.inr (by omega))).trans hk
      refine ⟨_, run_beginRound hla (by rw [hrec]), ?_⟩
      have hl2 : (Wa.putObj (w.heap.size + 1) (.loop { rec .ready none with state := .busy })).heap[w.heap.size + 1]? = some (.loop { rec .ready none with state := .busy }) := World.putObj_heap_same (by omega)
      have hk2 : (Wa.putObj (w.heap.size + 1) (.loop { rec .ready none with state := .busy })).heap[w.heap.size]? = some (.deferred (some [])) := (World.putObj_heap_other (by omega)).trans hka
      have hs2 : (Wa.putObj (w.heap.size + 1) (.loop { rec .ready none with state := .busy })).heap.size = Wa.heap.size := by simp [World.putObj]
      refine wpIn_mono (hbody _ pre x rest a' _ hpre (by rw [hs2]; omega) (hI _ _ _ hia (by rw [hs2]; exact Nat.le_refl _) (fun k _ h => World.putObj_heap_other (fun e => h (by omega))) rfl rfl rfl) (hAx x a' _ _ hax (by rw [hs2]; exact Nat.le_refl _) (fun k _ h => World.putObj_heap_other (fun e => h (by omega))) rfl rfl rfl)) ?_
      rintro e a3 W3 ⟨rfl, hrk3, hi3⟩
      have hs3 := hrk3.size
      rw [hs2] at hs3
      have hl3 := (hrk3.block (w.heap.size + 1) (by rw [hs2]; omega) (Or.inr (by omega))).trans hl2
      have hk3 := (hrk3.block w.heap.size (by rw [hs2]; omega) (Or.inr (by omega))).trans hk2
      have hr := run_endRound (P := P) none hl3
      rw [hrec] at hr
      refine ⟨_, _, hr, rfl, ⟨?_, ?_, ?_⟩, ?_, ?_⟩
      · exact hI _ _ _ hi3 (by simp [World.putObj]) (fun k _ h => World.putObj_heap_other (fun e => h (by omega))) rfl rfl rfl
      · rw [hrec]; exact World.putObj_heap_same (by omega)
      · exact (World.putObj_heap_other (by omega)).trans hk3
      · simp only [World.putObj, Array.size_setIfInBounds]; omega
      · intro k h1 h2
        by_cases e : k = w.heap.size + 1
        · subst e
          rw [hl, hrec]
          exact World.putObj_heap_same (by omega)
        · rw [World.putObj_heap_other e, hrk3.block k (by rw [hs2]; omega) h2, World.putObj_heap_other e]
          exact hrk.block k h1 h2
    · rintro e W2 ⟨⟨v, rfl⟩, hi, hl, hk⟩
      refine ⟨none, _, by have := run_endLoop (P := P) hl (by rw [hrec]; simp); rw [hrec] at this; exact this, hdone _ _ rfl ?_ ((World.putObj_heap_other (by omega)).trans hk)⟩
      exact hI _ _ _ hi (by simp [World.putObj]) (fun k _ h => World.putObj_heap_other (fun e => h (by omega))) rfl rfl rfl

attribute [local go_sem] Oper.semAt_some

theorem Backward_any (a : Option Addr) (n cap : Nat) (w : World) : Calls Try.prog 47 #[.slice a n cap] w fun e w' => e = .returned (.func (.func 55) #[] #[.pointer (some ⟨w.heap.size, 0, none⟩)]) ∧ w' = w.alloc (.cells #[.slice a n cap] 23) := by
  go_enter Try.func47, Try.ntmps47
  go_wp2
  go_ret
  exact ⟨rfl, rfl⟩

/-- an element as it is handed to yield -/
def encB (x : Int × Value) : Array Value := #[.int .i64 x.1, x.2]

/-- the elements of a list of so many values, the last one first -/
def backL (kv : Nat → Value) : Nat → List (Int × Value)
  | 0 => []
  | n + 1 => ((n : Int), kv n) :: backL kv n

set_option maxRecDepth 100000 in
set_option maxHeartbeats 2000000 in
theorem backward1_seq (m b1 : Nat) (b n cap : Nat) (kv : Nat → Value) (w : World) (hb1 : b1 < w.heap.size) (hbn : b < w.heap.size) (hB1 : w.heap[b1]? = some (.cells #[.slice (some ⟨b, 0, none⟩) n cap] 23 (0, 0))) (hn : n ≤ 1000000) (hkv : ∀ i, i < n → CellsAt w b (i * 6) (kv i)) :
    SeqY m Try.prog 55 #[.pointer (some ⟨b1, 0, none⟩)] encB (fun k => k = b ∨ k = b1) (backL kv n) w := by
  intro l B J W hW hsz hJ hY h0
  have HY := Hid.mk hY
  have HJ0 := Hid.mk h0
  have HKV := Hid.mk hkv
  have hsW := hW.size
  have HOLD : Hid (∀ k, (k = b ∨ k = b1) → W.heap[k]? = w.heap[k]?) := fun k hk => hW.block k (by omega)
  have HB1 := Hid.mk hB1
  obtain ⟨c0, c1, c2⟩ := cells1 ((HOLD.out b1 (Or.inr rfl)).trans hB1)
  have HSZ := Hid.mk hsz
  clear hJ hY hW hB1 hkv h0 hsz
  refine callsIn_of_wp Try.func55 rfl trivial ?_ rfl
  simp only [Try.ntmps55, List.size_toArray, List.length_cons, List.length_nil, Nat.reduceAdd, Nat.reduceSub, Array.replicate_succ, Array.replicate_zero, List.push_toArray, List.append_toArray, List.nil_append, List.cons_append]
  gi_wp2_with fail
  gi_loopw [3] (fun i wr => ∃ (k : Nat) (pre : List (Int × Value)), k ≤ n ∧ i = .int .i64 ((k : Int) - 1) ∧ pre ++ backL kv k = backL kv n ∧ J pre wr ∧ (∀ j, (j = b ∨ j = b1) → wr.heap[j]? = w.heap[j]?) ∧ W.heap.size ≤ wr.heap.size) (fun i _ => (intOf i + 1).toNat)
  case atStart => exact ⟨n, [], Nat.le_refl _, rfl, rfl, HJ0.out, HOLD.out, Nat.le_refl _⟩
  case round =>
    obtain ⟨k, pre, hk, rfl, hpr, hJk, hOk, hszk⟩ := hrel
    have HPR := Hid.mk hpr
    have HJK := Hid.mk hJk
    have HOK := Hid.mk hOk
    clear hpr hJk hOk c0 c1 c2
    obtain ⟨c0, c1, c2⟩ := cells1 ((HOK.out b1 (Or.inr rfl)).trans HB1.out)
    cases k with
    | zero =>
      gi_wp2
      refine bodyPost_end (results_none rfl _ _ _) rfl ?_
      refine ⟨⟨_, rfl⟩, ?_⟩
      have := HPR.out
      rw [backL, List.append_nil] at this
      rw [← this]
      exact HJK.out
    | succ k =>
      have e1 : ((k + 1 : Nat) : Int) - 1 = (k : Int) := by omega
      rw [e1]
      obtain ⟨d0, d1, d2, d3, d4, d5, d6, d7, d8, d9, hve, i0, i1, i2, i3, i4, i5⟩ := (HKV.out k (by omega)).same (HOK.out b (Or.inl rfl))
      obtain ⟨fn, tmps, assign, body, hy, hR⟩ := HY.out pre ((k : Int), kv k) (backL kv k) wr HPR.out (by have := HSZ.out; omega) HJK.out
      dsimp only [encB] at hy
      rw [hve] at hy
      have zk : (k : Int) < (n : Int) := by omega
      have zk0 : ¬ (k : Int) < 0 := by omega
      have hbl : b < wr.heap.size := by omega
      clear hve
      gi_wp2_with fail
      refine ⟨fun h => (by simp [Fence.wide] at h), hR.mono ?_⟩
      rintro e W3 ⟨rfl, hJ3, hrk3⟩
      have HJ3 := Hid.mk hJ3
      have hs3 := hrk3.size
      have HO3 : Hid (∀ j, (j = b ∨ j = b1) → W3.heap[j]? = w.heap[j]?) := fun j hj => (hrk3.block j (by omega) (Or.inl hj)).trans (HOK.out j hj)
      clear hJ3 hrk3 hy hR
      gi_wp2
      refine ⟨⟨k, pre ++ [((k : Int), kv k)], by omega, by go_num, ?_, HJ3.out, HO3.out, by omega⟩, ?_⟩
      · rw [List.append_assoc]; exact HPR.out
      · simp only [intOf]; omega
end Go.Proofs.Ythdcpodheimhaaa
