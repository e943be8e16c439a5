/- The contract of the iterator that level.compared answers. -/
import Derived.Test.YtbgkeomlfdmkeaaP
import Derived.RangeFuncNested
import Derived.RangeFuncBound
import Derived.RangeFuncCalls
import Derived.RangeFuncLeaves
import Derived.RangeFuncFrom
import Derived.Shelf.Abstract
import Derived.Shelf.RegionOpen
import Derived.OwnWalkIn
import Derived.TacticsInMore
import Derived.LoopNIn
import Derived.LoopIn
import Derived.Sort.CutIn
import Derived.Test.YtbgkeomlfdmkeaaWD
import Derived.Test.YtbgkeomlfdmkeaaRL
import Derived.Test.YtbgkeomlfdmkeaaMU
import Derived.Test.YtbgkeomlfdmkeaaSC
namespace Go.Proofs.Ytbgkeomlfdmkeaa
open Go.RowKit Go.Sort Go.Shelf Go.Lib
attribute [local go_sem] Oper.semAt_some

/-- A slice at address a, in a block below N, holds the pairs xs in world w. -/
def SLb (N : Nat) (w : World) (a : Option Addr) (xs : List (Int × Int)) : Prop :=
  xs = [] ∨ ∃ b off, a = some ⟨b, off, none⟩ ∧ b < N ∧ ∀ i, i < xs.length → w.cell? ⟨b, off + i * 2, none⟩ = some (.int .i64 (xs[i]?.getD (0, 0)).1) ∧ w.cell? ⟨b, off + i * 2 + 1, none⟩ = some (.int .i64 (xs[i]?.getD (0, 0)).2)

theorem SL.toB {w : World} {a : Option Addr} {xs : List (Int × Int)} (h : SL w a xs) : SLb w.heap.size w a xs := h
theorem SLb.toSL {N : Nat} {w : World} {a : Option Addr} {xs : List (Int × Int)} (h : SLb N w a xs) (hN : N ≤ w.heap.size) : SL w a xs := by
  rcases h with h | ⟨b, off, ha, hlt, hc⟩
  · exact Or.inl h
  · exact Or.inr ⟨b, off, ha, Nat.lt_of_lt_of_le hlt hN, hc⟩
theorem SLb.below {N : Nat} {w w' : World} {a : Option Addr} {xs : List (Int × Int)} (h : SLb N w a xs) (hb : RowKit.Below N w w') : SLb N w' a xs := by
  rcases h with h | ⟨b, off, ha, hlt, hc⟩
  · exact Or.inl h
  · refine Or.inr ⟨b, off, ha, hlt, fun i hi => ?_⟩
    rw [hb.cell (p := ⟨b, off + i * 2, none⟩) hlt, hb.cell (p := ⟨b, off + i * 2 + 1, none⟩) hlt]; exact hc i hi

/-- what a round of the loop keeps: what lay below n₀, and all below N but the block rc -/
def KpQ (n₀ N rc : Nat) (W W' : World) : Prop := RowKit.Below n₀ W W' ∧ ∀ k, k < N → k ≠ rc → W'.heap[k]? = W.heap[k]?

theorem KpQ.trans {n₀ N rc : Nat} {A B C : World} (h : KpQ n₀ N rc A B) (k : KpQ n₀ N rc B C) : KpQ n₀ N rc A C := ⟨h.1.trans k.1, fun i hi hn => (k.2 i hi hn).trans (h.2 i hi hn)⟩
theorem KpQ.grew {n₀ N rc : Nat} {A B : World} (h : Grew A B) (h1 : n₀ ≤ A.heap.size) (h2 : N ≤ A.heap.size) : KpQ n₀ N rc A B := ⟨h.below.mono h1, fun i hi _ => h.below.block i (by omega)⟩

theorem Grew.grownBy {A B : World} (h : Grew A B) : A.grownBy B none := by
  have hb := h.below
  exact ⟨hb.os, hb.tape, hb.output, hb.size, fun k hk _ => hb.block k hk⟩

/-- the pairs that are compared -/
def cmpPairs (na : Int) (xs : List (Int × Int)) (nb : Int) (ys : List (Int × Int)) : List (Int × Int) := (na, evalL [] nb ys) :: xs.map fun p => (p.2, gAdd p.1 ys)

theorem oneWay {e : Ending} {P Q : Prop} (h : (e = .returned (.bool true) ∧ P) ∨ (e = .returned (.bool false) ∧ Q)) : ∃ b : Bool, e = .returned (.bool b) ∧ Hid (if b then P else Q) := by
  rcases h with ⟨h, p⟩ | ⟨h, q⟩
  · exact ⟨true, h, by unfold Hid; simpa using p⟩
  · exact ⟨false, h, by unfold Hid; simpa using q⟩

theorem cmp_take {na nb : Int} {xs ys : List (Int × Int)} {k : Nat} {x y : Int} (h : xs[k]? = some (x, y)) : (cmpPairs na xs nb ys).take (k + 1 + 1) = (cmpPairs na xs nb ys).take (k + 1) ++ [(y, gAdd x ys)] := by
  obtain ⟨hk, e⟩ := List.getElem?_eq_some_iff.1 h
  have hl : k + 1 < (cmpPairs na xs nb ys).length := by simp [cmpPairs]; omega
  rw [List.take_succ_eq_append_getElem hl]
  simp [cmpPairs, e]

def encQ (x : Int × Int) : Array Value := #[.int .i64 x.1, .int .i64 x.2]

end Go.Proofs.Ytbgkeomlfdmkeaa

/- The contracts of level.compared, level.Leq and level.Same. -/
namespace Go.Proofs.Ytbgkeomlfdmkeaa
open Go.RowKit Go.Sort Go.Shelf Go.Lib
attribute [local go_sem] Oper.semAt_some

/-- what Leq answers -/
def leqB (na : Int) (xs : List (Int × Int)) (nb : Int) (ys : List (Int × Int)) : Bool := rightB na xs && rightB nb ys && (cmpPairs na xs nb ys).all fun p => decide (p.1 ≤ p.2)

theorem box3 {w : World} {o p q : Obj} : (((w.alloc o).alloc p).alloc q).heap[w.heap.size]? = some o ∧ (((w.alloc o).alloc p).alloc q).heap[w.heap.size + 1]? = some p ∧ (((w.alloc o).alloc p).alloc q).heap[w.heap.size + 2]? = some q :=
  ⟨alloc_old box_at q, alloc_old box_at1 q, by have := alloc_new ((w.alloc o).alloc p) q; simpa using this⟩

end Go.Proofs.Ytbgkeomlfdmkeaa

/- The contract of level.Leq. -/
namespace Go.Proofs.Ytbgkeomlfdmkeaa
open Go.RowKit Go.Sort Go.Shelf Go.Lib
attribute [local go_sem] Oper.semAt_some

def allLe (zs : List (Int × Int)) : Bool := zs.all fun p => decide (p.1 ≤ p.2)

theorem allLe_snoc (pre : List (Int × Int)) (x : Int × Int) : allLe (pre ++ [x]) = (allLe pre && decide (x.1 ≤ x.2)) := by simp [allLe, List.all_append]
theorem allLe_prefix {pre zs : List (Int × Int)} (h : pre <+: zs) (hn : allLe pre = false) : allLe zs = false := by
  obtain ⟨t, rfl⟩ := h
  simp only [allLe, List.all_append] at *
  rw [hn]; rfl

theorem leqB_eq (na nb : Int) (xs ys : List (Int × Int)) : leqB na xs nb ys = (rightB na xs && rightB nb ys && allLe (cmpPairs na xs nb ys)) := rfl

end Go.Proofs.Ytbgkeomlfdmkeaa

/- The examples of the document hold: alive answers true. -/
namespace Go.Proofs.Ytbgkeomlfdmkeaa
open Go.RowKit Go.Sort Go.Shelf Go.Lib

theorem tidy_one (p : Int × Int) : tidyL [p] = [p] := by simp [tidyL, srt, dd, ddStep]

theorem ex1 : normR 1 [(0, 2)] = (0, [(0, 2)], 0) := by
  simp [normR, canonR, tidy_one, rightB, inR, nOf]

theorem ex2 : substR 0 [(0, 1)] [(2, [(1, 0)])] = (3, [(1, 1)], 0) := by
  have h : sFold [(2, [(1, 0)])] 0 [(0, 1)] = (3, [(1, 1)]) := by decide
  unfold substR
  rw [if_pos (by decide), h]
  simp [canonR, tidy_one, rightB, inR, nOf]

theorem ex3 : leqB 0 [(0, 0)] 0 [(0, 1)] = true := by decide
theorem ex4 : leqB 0 [(0, 1)] 3 [(0, 0)] = false := by decide

theorem OR.one {B : Nat} {w : World} {v : Value} {x y : Int} (h : OR B w v [(x, y)]) : ∃ a cap, v = .slice a 1 cap ∧ SL w a [(x, y)] := by
  obtain ⟨a, cap, hv, hs, -⟩ := h.shape
  exact ⟨a, cap, hv, hs⟩

theorem LL.one {w : World} {b : Nat} {n : Int} {x y : Int} {a' : Option Addr} {c : Nat} {t : TypeId} (h : w.heap[b]? = some (.cells #[.int .i64 n, .slice a' 1 c] t (0, 0))) (hs : SL w a' [(x, y)]) : LL w (some ⟨b, 0, none⟩) [(n, [(x, y)])] := by
  obtain ⟨c0, c1, -, -, hl⟩ := cells2 h
  refine Or.inr ⟨b, 0, rfl, hl, fun i m xs hi => ?_⟩
  have h0 : i = 0 := by
    rcases Nat.eq_zero_or_pos i with h | h
    · exact h
    · rw [List.getElem?_eq_none (by simp; omega)] at hi; cases hi
  subst h0
  simp at hi
  obtain ⟨rfl, rfl⟩ := hi
  exact ⟨by simpa using c0, a', c, by simpa using c1, hs⟩

theorem Norm_ex (a : Option Addr) (cap : Nat) (w : World) (hS : SL w a [(0, 2)]) : Calls Try.prog 89 #[.agg #[.int .i64 1, .slice a 1 cap]] w fun e w' => ∃ a' cap', e = .returned (.tuple #[.agg #[.int .i64 0, .slice a' 1 cap'], .int .i64 0]) ∧ SL w' a' [(0, 2)] ∧ RowKit.Below w.heap.size w w' := by
  have h := Norm_any 1 [(0, 2)] a cap w hS (by simp)
  rw [ex1] at h
  refine Calls.mono h ?_
  rintro e w' ⟨v, he, hO, hb⟩
  obtain ⟨a', cap', rfl, hs⟩ := hO.one
  exact ⟨a', cap', he, hs, hb⟩

theorem Subst_ex (a la : Option Addr) (cap lcap : Nat) (w : World) (hS : SL w a [(0, 1)]) (hL : LL w la [(2, [(1, 0)])]) : Calls Try.prog 81 #[.agg #[.int .i64 0, .slice a 1 cap], .slice la 1 lcap] w fun e w' => ∃ a' cap', e = .returned (.tuple #[.agg #[.int .i64 3, .slice a' 1 cap'], .int .i64 0]) ∧ SL w' a' [(1, 1)] ∧ RowKit.Below w.heap.size w w' := by
  have h := Subst_any 0 [(0, 1)] a cap [(2, [(1, 0)])] la lcap w hS (by simp) hL (by simp) (by simp)
  rw [ex2] at h
  refine Calls.mono h ?_
  rintro e w' ⟨v, he, hO, hb⟩
  obtain ⟨a', cap', rfl, hs⟩ := hO.one
  exact ⟨a', cap', he, hs, hb⟩

theorem Exact_ex (n x y : Int) (a b : Option Addr) (ca cb : Nat) (w : World) (hA : SL w a [(x, y)]) (hB : SL w b [(x, y)]) : Calls Try.prog 54 #[.agg #[.int .i64 n, .slice a 1 ca], .agg #[.int .i64 n, .slice b 1 cb]] w fun e w' => e = .returned (.bool true) ∧ Grew w w' := by
  have h := Exact_any n n [(x, y)] [(x, y)] a b ca cb w hA hB (by simp) (by simp)
  rw [show exactB n [(x, y)] n [(x, y)] = true by simp [exactB]] at h
  exact h

end Go.Proofs.Ytbgkeomlfdmkeaa

/- slices.Grow is not in this cut. -/
/- The contract of slices.Concat at two slices of LVars. -/
namespace Go.Proofs.Ytbgkeomlfdmkeaa
open Go.RowKit Go.Sort Go.Shelf Go.Lib

theorem grownBy_refl (w : World) (r : Option Nat) : w.grownBy w r := ⟨rfl, rfl, rfl, Nat.le_refl _, fun _ _ _ => rfl⟩

/-- append(v, x...), v a slice of the call's own, x a slice of pairs -/
theorem wpList_app {w : World} {ops : Array Oper} {rest : List Oper} {o : Oper} {a : Act} {Q : Exit → Act → World → Prop} (hgd : o.guard = none) (s x : Operand) (ho : o.op = .call { callee := .builtin .append, args := #[s, x], argTypes := #[41, 41] })
    (B : Nat) (v : Value) (zs xs : List (Int × Int)) (a1 : Option Addr) (c1 : Nat) (hs : a.eval s = v) (hx : a.eval x = .slice a1 xs.length c1) (hO : OR B w v zs) (hS : SL w a1 xs) (hn : a1 = none → c1 = 0) (hl : zs.length + xs.length ≤ 4398046511104) (hB : B ≤ w.heap.size)
    (h : ∀ v' w', OR B w' v' (zs ++ xs) → w.grownBy w' v.ownBlock → wpList Try.prog ops Q rest (a.put o.dst v') w') : wpList Try.prog ops Q (o :: rest) a w := by
  obtain ⟨i0, hi, hz0, hz1, hz2⟩ := info_parts infoLVar
  cases a1 with
  | none =>
    have hxe : xs = [] := by
      rcases hS with h | ⟨b, off, ha, _⟩
      · exact h
      · cases ha
    subst hxe
    rw [hn rfl] at hx
    refine wpList_append_own_none hgd s x 41 ho B 89 i0 2 Try.underlying41 hi v zs.length (flat zs) hs hO hx ?_
    exact h v w (by simpa using hO) (grownBy_refl w _)
  | some ad =>
    have hnews : ∀ j u, (flat xs)[j]? = some u → w.cell? (ad.add j) = some u := by
      rcases hS with h | ⟨b, off, ha, hr⟩
      · subst h; intro j u hu; simp [flat] at hu
      · have ha' : ad = ⟨b, off, none⟩ := by simpa using ha
        subst ha'
        exact SL.flat (Or.inr ⟨b, off, rfl, hr⟩)
    refine wpList_append_own _ hgd s x 41 ho B 89 i0 _ 2 16 Try.underlying41 hi hz0 hz1 hz2 rfl (by decide) v zs.length (flat zs) hs hO ad xs.length c1 (flat xs) hx (flat_length xs) hnews (flat_one xs) (by simp [maxLen]; omega) (by omega) hB ?_
    intro v' w' hown hgr _
    exact h v' w' (by unfold OR; rw [flat_append, List.length_append]; exact hown) hgr

end Go.Proofs.Ytbgkeomlfdmkeaa

/- The contract of level.Max. -/
namespace Go.Proofs.Ytbgkeomlfdmkeaa
open Go.RowKit Go.Sort Go.Shelf Go.Lib

/-- what Max answers -/
def maxR (na : Int) (xs : List (Int × Int)) (nb : Int) (ys : List (Int × Int)) : Int × List (Int × Int) × Int :=
  if (rightB na xs && rightB nb ys) = true then canonR (max na nb) (xs ++ ys) else (0, [], 13)

theorem cell_set2 {w : World} {p : Addr} {b : Nat} {u v : Value} (h : p.block ≠ b) : ((w.setCell ⟨b, 0, none⟩ u).setCell ⟨b, 1, none⟩ v).cell? p = w.cell? p :=
  World.cell?_of_block (w := w) ((Below.heap_setCell _ _ _ _ h).trans (Below.heap_setCell _ _ _ _ h))

end Go.Proofs.Ytbgkeomlfdmkeaa

/- Plain facts on the greatest number of a list of pairs. -/
namespace Go.Proofs.Ytbgkeomlfdmkeaa

theorem fold_max_ge (f : Int × Int → Int) : ∀ (ys : List (Int × Int)) (m : Int), m ≤ ys.foldl (fun m p => max m (f p)) m ∧ (∀ p ∈ ys, f p ≤ ys.foldl (fun m p => max m (f p)) m) ∧ (ys.foldl (fun m p => max m (f p)) m = m ∨ ∃ p ∈ ys, ys.foldl (fun m p => max m (f p)) m = f p)
  | [], m => ⟨Int.le_refl _, by simp, .inl rfl⟩
  | q :: r, m => by
    obtain ⟨h1, h2, h3⟩ := fold_max_ge f r (max m (f q))
    simp only [List.foldl_cons]
    refine ⟨by omega, fun p hp => ?_, ?_⟩
    · rcases List.mem_cons.1 hp with rfl | hp
      · omega
      · exact h2 p hp
    · rcases h3 with h3 | ⟨p, hp, h3⟩
      · rcases Int.le_total (f q) m with h | h
        · left; omega
        · right; exact ⟨q, by simp, by omega⟩
      · right; exact ⟨p, by simp [hp], h3⟩

theorem evalL_nil (nb : Int) (ys : List (Int × Int)) : evalL [] nb ys = ys.foldl (fun m p => max m p.2) nb := by
  unfold evalL
  congr 1
  funext m p
  simp [valOf]
  omega

theorem gAdd_spec (v : Int) : ∀ (ys : List (Int × Int)) (m : Int), (-1 ≤ m) → (m ≤ ys.foldl (fun m p => if p.1 = v then max m p.2 else m) m) ∧ (∀ p ∈ ys, p.1 = v → p.2 ≤ ys.foldl (fun m p => if p.1 = v then max m p.2 else m) m) ∧ (ys.foldl (fun m p => if p.1 = v then max m p.2 else m) m = m ∨ ∃ p ∈ ys, p.1 = v ∧ ys.foldl (fun m p => if p.1 = v then max m p.2 else m) m = p.2)
  | [], m, _ => ⟨Int.le_refl _, by simp, .inl rfl⟩
  | q :: r, m, hm => by
    simp only [List.foldl_cons]
    by_cases hq : q.1 = v
    · rw [if_pos hq]
      obtain ⟨h1, h2, h3⟩ := gAdd_spec v r (max m q.2) (by omega)
      refine ⟨by omega, fun p hp hv => ?_, ?_⟩
      · rcases List.mem_cons.1 hp with rfl | hp
        · omega
        · exact h2 p hp hv
      · rcases h3 with h3 | ⟨p, hp, hv, h3⟩
        · rcases Int.le_total q.2 m with h | h
          · left; omega
          · right; exact ⟨q, by simp, hq, by omega⟩
        · right; exact ⟨p, by simp [hp], hv, h3⟩
    · rw [if_neg hq]
      obtain ⟨h1, h2, h3⟩ := gAdd_spec v r m hm
      refine ⟨h1, fun p hp hv => ?_, ?_⟩
      · rcases List.mem_cons.1 hp with rfl | hp
        · exact absurd hv hq
        · exact h2 p hp hv
      · rcases h3 with h3 | ⟨p, hp, hv, h3⟩
        · exact .inl h3
        · right; exact ⟨p, by simp [hp], hv, h3⟩

theorem le_gAdd {v y : Int} (hy : 0 ≤ y) (ys : List (Int × Int)) : y ≤ gAdd v ys ↔ ∃ q ∈ ys, q.1 = v ∧ y ≤ q.2 := by
  obtain ⟨_, h2, h3⟩ := gAdd_spec v ys (-1) (Int.le_refl _)
  unfold gAdd
  constructor
  · intro h
    rcases h3 with h3 | ⟨p, hp, hv, h3⟩
    · omega
    · exact ⟨p, hp, hv, by omega⟩
  · rintro ⟨q, hq, hv, h⟩
    have := h2 q hq hv; omega

theorem tidy_self {T : List (Int × Int)} (hT : T.Pairwise (fun p q => p.1 < q.1)) : tidyL T = T :=
  (tidyL_is T).unique ⟨hT, fun p => ⟨fun hp => ⟨hp, fun q hq hk => by rw [eq_of_key hT hq hp hk]; exact Int.le_refl _⟩, fun h => h.1⟩⟩
end Go.Proofs.Ytbgkeomlfdmkeaa

/- Plain facts: the code's comparison and the reference's are one. -/
namespace Go.Proofs.Ytbgkeomlfdmkeaa

theorem topL_eq (nb : Int) (ys : List (Int × Int)) : topL nb ys = ys.foldl (fun m p => max m p.2) nb := by
  unfold topL
  congr 1
  funext m p
  split <;> omega

theorem cov_iff {x y : Int} {ys : List (Int × Int)} : covered x y ys = true ↔ ∃ q ∈ ys, q.1 = x ∧ y ≤ q.2 := by
  unfold covered
  rw [List.any_eq_true]
  constructor
  · rintro ⟨q, hq, h⟩
    simp at h
    exact ⟨q, hq, h.1.symm, h.2⟩
  · rintro ⟨q, hq, h1, h2⟩
    exact ⟨q, hq, by simp [h1, h2]⟩

theorem ex_max {xs : List (Int × Int)} {q : Int × Int} (hq : q ∈ xs) : ∃ p ∈ tidyL xs, p.1 = q.1 ∧ q.2 ≤ p.2 := by
  obtain ⟨h1, h2, h3⟩ := dd_sorted (srt xs) (srt_pw xs)
  exact h3 q ((srt_perm xs).mem_iff.2 hq)

theorem tidy_mem {xs : List (Int × Int)} {p : Int × Int} (hp : p ∈ tidyL xs) : p ∈ xs := (((tidyL_is xs).2 p).1 hp).1

theorem top_tidy {nb : Int} {ys : List (Int × Int)} (h : rightB nb ys = true) : topL (nOf nb (tidyL ys)) (tidyL ys) = evalL [] nb ys := by
  rw [topL_eq, evalL_nil]
  have hn := right_n h
  obtain ⟨a1, a2, a3⟩ := fold_max_ge (fun p => p.2) (tidyL ys) (nOf nb (tidyL ys))
  obtain ⟨b1, b2, b3⟩ := fold_max_ge (fun p => p.2) ys nb
  have hle : (tidyL ys).foldl (fun m p => max m p.2) (nOf nb (tidyL ys)) ≤ ys.foldl (fun m p => max m p.2) nb := by
    rcases a3 with a3 | ⟨p, hp, a3⟩
    · rw [a3]; unfold nOf; split <;> omega
    · rw [a3]; exact b2 p (tidy_mem hp)
  have hge : ys.foldl (fun m p => max m p.2) nb ≤ (tidyL ys).foldl (fun m p => max m p.2) (nOf nb (tidyL ys)) := by
    rcases b3 with b3 | ⟨q, hq, b3⟩
    · rw [b3]
      unfold nOf at *
      split
      · rename_i hany
        rw [List.any_eq_true] at hany
        obtain ⟨p, hp, hge⟩ := hany
        simp at hge
        rw [if_pos (List.any_eq_true.2 ⟨p, hp, by simpa using hge⟩)] at a2
        have := a2 p hp; omega
      · rename_i hany
        rw [if_neg hany] at a1
        exact a1
    · rw [b3]
      obtain ⟨p, hp, _, hl⟩ := ex_max hq
      have := a2 p hp; omega
  omega

theorem leq_same (na nb : Int) (xs ys : List (Int × Int)) : leqB na xs nb ys = rleqB na xs nb ys := by
  rw [leqB_eq]
  unfold rleqB
  by_cases ha : rightB na xs = true
  · by_cases hb : rightB nb ys = true
    · rw [ha, hb]
      simp only [Bool.true_and]
      unfold rleq
      rw [top_tidy hb]
      have hpos : ∀ p ∈ xs, 0 ≤ p.2 := fun p hp => by
        obtain ⟨i, hi, e⟩ := List.getElem_of_mem hp
        have := right_at ha (k := i) (x := p.1) (y := p.2) (by simp [hi, e])
        omega
      have hcovx : ∀ p ∈ xs, (p.2 ≤ gAdd p.1 ys ↔ covered p.1 p.2 (tidyL ys) = true) := fun p hp => by
        rw [le_gAdd (hpos p hp), cov_iff]
        constructor
        · rintro ⟨q, hq, h1, h2⟩
          obtain ⟨r, hr, h3, h4⟩ := ex_max hq
          exact ⟨r, hr, by omega, by omega⟩
        · rintro ⟨q, hq, h1, h2⟩
          exact ⟨q, tidy_mem hq, h1, h2⟩
      obtain ⟨m1, m2, _⟩ := fold_max_ge (fun p => p.2) ys nb
      rw [Bool.eq_iff_iff]
      simp only [allLe, cmpPairs, List.all_cons, Bool.and_eq_true, decide_eq_true_eq, List.all_eq_true, List.mem_map, forall_exists_index, and_imp, forall_apply_eq_imp_iff₂]
      constructor
      · rintro ⟨h1, h2⟩
        refine ⟨?_, fun p hp => (hcovx p (tidy_mem hp)).1 (h2 p (tidy_mem hp))⟩
        have := (right_n ha).1
        unfold nOf; split <;> omega
      · rintro ⟨h1, h2⟩
        have hall : ∀ p ∈ xs, p.2 ≤ gAdd p.1 ys := fun p hp => by
          obtain ⟨r, hr, h3, h4⟩ := ex_max hp
          have h5 := cov_iff.1 (h2 r hr)
          obtain ⟨q, hq, h6, h7⟩ := h5
          exact (le_gAdd (hpos p hp) ys).2 ⟨q, tidy_mem hq, by omega, by omega⟩
        refine ⟨?_, hall⟩
        unfold nOf at h1
        split at h1
        · rename_i hany
          rw [List.any_eq_true] at hany
          obtain ⟨p, hp, hge⟩ := hany
          simp at hge
          obtain ⟨q, hq, h6, h7⟩ := cov_iff.1 (h2 p hp)
          have := m2 q (tidy_mem hq)
          rw [evalL_nil]
          omega
        · exact h1
    · simp [hb]
  · simp [ha]
end Go.Proofs.Ytbgkeomlfdmkeaa

/- Plain facts: the order of levels. -/
namespace Go.Proofs.Ytbgkeomlfdmkeaa

/-- at most, as a fact -/
def leP (na : Int) (xs : List (Int × Int)) (nb : Int) (ys : List (Int × Int)) : Prop :=
  (na ≤ nb ∨ ∃ q ∈ ys, na ≤ q.2) ∧ ∀ p ∈ xs, ∃ q ∈ ys, q.1 = p.1 ∧ p.2 ≤ q.2

theorem right_pos {n : Int} {xs : List (Int × Int)} (h : rightB n xs = true) : 0 ≤ n ∧ ∀ p ∈ xs, 0 ≤ p.2 := by
  refine ⟨(right_n h).1, fun p hp => ?_⟩
  obtain ⟨i, hi, e⟩ := List.getElem_of_mem hp
  have := right_at h (k := i) (x := p.1) (y := p.2) (by simp [hi, e])
  omega

theorem leq_iff {na nb : Int} {xs ys : List (Int × Int)} (ha : rightB na xs = true) (hb : rightB nb ys = true) : leqB na xs nb ys = true ↔ leP na xs nb ys := by
  rw [leqB_eq, ha, hb]
  simp only [Bool.true_and]
  simp only [allLe, cmpPairs, List.all_cons, Bool.and_eq_true, decide_eq_true_eq, List.all_eq_true, List.mem_map, forall_exists_index, and_imp, forall_apply_eq_imp_iff₂]
  rw [evalL_nil]
  obtain ⟨m1, m2, m3⟩ := fold_max_ge (fun p => p.2) ys nb
  unfold leP
  refine and_congr ⟨fun h => ?_, fun h => ?_⟩ ⟨fun h p hp => ?_, fun h p hp => ?_⟩
  · rcases m3 with m3 | ⟨q, hq, m3⟩
    · left; omega
    · right; exact ⟨q, hq, by omega⟩
  · rcases h with h | ⟨q, hq, h⟩
    · omega
    · have := m2 q hq; omega
  · exact (le_gAdd ((right_pos ha).2 p hp) _).1 (h p hp)
  · exact (le_gAdd ((right_pos ha).2 p hp) _).2 (h p hp)

theorem leP_refl (n : Int) (xs : List (Int × Int)) : leP n xs n xs := ⟨.inl (Int.le_refl _), fun p hp => ⟨p, hp, rfl, Int.le_refl _⟩⟩

theorem leP_trans {na nb nc : Int} {xs ys zs : List (Int × Int)} (h : leP na xs nb ys) (g : leP nb ys nc zs) : leP na xs nc zs := by
  refine ⟨?_, fun p hp => ?_⟩
  · rcases h.1 with h1 | ⟨q, hq, h1⟩
    · rcases g.1 with g1 | ⟨r, hr, g1⟩
      · left; omega
      · right; exact ⟨r, hr, by omega⟩
    · obtain ⟨r, hr, -, hle⟩ := g.2 q hq
      right; exact ⟨r, hr, by omega⟩
  · obtain ⟨q, hq, h1, h2⟩ := h.2 p hp
    obtain ⟨r, hr, h3, h4⟩ := g.2 q hq
    exact ⟨r, hr, by omega, by omega⟩

theorem leP_canon (n : Int) (xs : List (Int × Int)) : leP n xs (nOf n (tidyL xs)) (tidyL xs) := by
  refine ⟨?_, fun p hp => ?_⟩
  · unfold nOf
    split
    · rename_i hany
      rw [List.any_eq_true] at hany
      obtain ⟨p, hp, hge⟩ := hany
      right; exact ⟨p, hp, by simpa using hge⟩
    · left; exact Int.le_refl _
  · obtain ⟨q, hq, h1, h2⟩ := ex_max hp
    exact ⟨q, hq, h1, h2⟩

theorem canon_leP {n : Int} (hn : 0 ≤ n) (xs : List (Int × Int)) : leP (nOf n (tidyL xs)) (tidyL xs) n xs := by
  refine ⟨?_, fun p hp => ⟨p, tidy_mem hp, rfl, Int.le_refl _⟩⟩
  unfold nOf; split
  · left; omega
  · left; exact Int.le_refl _

theorem canonR_ok {n : Int} {xs : List (Int × Int)} (h : (canonR n xs).2.2 = 0) : rightB (canonR n xs).1 (canonR n xs).2.1 = true ∧ (canonR n xs).1 = nOf n (tidyL xs) ∧ (canonR n xs).2.1 = tidyL xs := by
  unfold canonR at *
  split
  · rename_i h'
    exact ⟨h', rfl, rfl⟩
  · rename_i h'
    rw [if_neg h'] at h
    simp at h

theorem canonR_err (n : Int) (xs : List (Int × Int)) : (canonR n xs).2.2 = 0 ∨ ((canonR n xs).2.2 = 13 ∧ (canonR n xs).1 = 0 ∧ (canonR n xs).2.1 = []) := by
  unfold canonR; split <;> simp

theorem maxR_eq {na nb : Int} {xs ys : List (Int × Int)} (ha : rightB na xs = true) (hb : rightB nb ys = true) : maxR na xs nb ys = canonR (max na nb) (xs ++ ys) := by
  unfold maxR; rw [ha, hb]; rfl

theorem sucR_eq {n : Int} {xs : List (Int × Int)} (h : rightB n xs = true) : sucR n xs 1 = canonR (n + 1) (rmap 1 xs) := by
  unfold sucR; rw [if_pos h]; rfl

theorem max_leqs {na nb : Int} {xs ys : List (Int × Int)} (ha : rightB na xs = true) (hb : rightB nb ys = true) (h : (maxR na xs nb ys).2.2 = 0) :
    rightB (maxR na xs nb ys).1 (maxR na xs nb ys).2.1 = true ∧ leqB na xs (maxR na xs nb ys).1 (maxR na xs nb ys).2.1 = true ∧ leqB nb ys (maxR na xs nb ys).1 (maxR na xs nb ys).2.1 = true ∧ leqB (maxR na xs nb ys).1 (maxR na xs nb ys).2.1 nb ys = leqB na xs nb ys := by
  rw [maxR_eq ha hb] at *
  obtain ⟨h1, h2, h3⟩ := canonR_ok h
  have hpa := (right_pos ha).1
  have hpb := (right_pos hb).1
  have hup : leP na xs (max na nb) (xs ++ ys) := ⟨.inl (by omega), fun p hp => ⟨p, by simp [hp], rfl, Int.le_refl _⟩⟩
  have hup2 : leP nb ys (max na nb) (xs ++ ys) := ⟨.inl (by omega), fun p hp => ⟨p, by simp [hp], rfl, Int.le_refl _⟩⟩
  refine ⟨h1, (leq_iff ha h1).2 ?_, (leq_iff hb h1).2 ?_, ?_⟩
  · rw [h2, h3]; exact leP_trans hup (leP_canon _ _)
  · rw [h2, h3]; exact leP_trans hup2 (leP_canon _ _)
  · rw [Bool.eq_iff_iff, leq_iff h1 hb, leq_iff ha hb]
    rw [h2, h3]
    constructor
    · intro hl; exact leP_trans hup (leP_trans (leP_canon _ _) hl)
    · intro hl
      refine leP_trans (canon_leP (by omega) _) ⟨?_, fun p hp => ?_⟩
      · rcases Int.le_total na nb with h | h
        · left; omega
        · rw [show max na nb = na by omega]; exact hl.1
      · rcases List.mem_append.1 hp with hp | hp
        · exact hl.2 p hp
        · exact ⟨p, hp, rfl, Int.le_refl _⟩

theorem rmap_mem {k : Int} {xs : List (Int × Int)} {p : Int × Int} : p ∈ rmap k xs ↔ ∃ q ∈ xs, p = (q.1, q.2 + k) := by
  unfold rmap
  simp only [List.mem_map]
  constructor
  · rintro ⟨q, hq, rfl⟩; exact ⟨q, hq, rfl⟩
  · rintro ⟨q, hq, rfl⟩; exact ⟨q, hq, rfl⟩

theorem suc_leqs {n : Int} {xs : List (Int × Int)} (ha : rightB n xs = true) (h : (sucR n xs 1).2.2 = 0) :
    rightB (sucR n xs 1).1 (sucR n xs 1).2.1 = true ∧ leqB n xs (sucR n xs 1).1 (sucR n xs 1).2.1 = true ∧ leqB (sucR n xs 1).1 (sucR n xs 1).2.1 n xs = false := by
  rw [sucR_eq ha] at *
  obtain ⟨h1, h2, h3⟩ := canonR_ok h
  have hp := (right_pos ha).1
  refine ⟨h1, (leq_iff ha h1).2 ?_, ?_⟩
  · rw [h2, h3]
    refine leP_trans ⟨.inl (by omega), fun p hp => ⟨(p.1, p.2 + 1), rmap_mem.2 ⟨p, hp, rfl⟩, rfl, by simp; omega⟩⟩ (leP_canon (n + 1) (rmap 1 xs))
  · rw [← Bool.not_eq_true, leq_iff h1 ha, h2, h3]
    intro hl
    have hl := leP_trans (leP_canon (n + 1) (rmap 1 xs)) hl
    obtain ⟨m1, m2, m3⟩ := fold_max_ge (fun p => p.2) xs n
    rcases m3 with m3 | ⟨q, hq, m3⟩
    · rcases hl.1 with h | ⟨q, hq, h⟩
      · omega
      · have := m2 q hq; omega
    · obtain ⟨r, hr, -, hle⟩ := hl.2 (q.1, q.2 + 1) (rmap_mem.2 ⟨q, hq, rfl⟩)
      have := m2 r hr
      simp at hle; omega

theorem leq_self {n : Int} {xs : List (Int × Int)} (h : rightB n xs = true) : leqB n xs n xs = true := (leq_iff h h).2 (leP_refl _ _)

theorem leq_on {na nb nc : Int} {xs ys zs : List (Int × Int)} (ha : rightB na xs = true) (hb : rightB nb ys = true) (hc : rightB nc zs = true) (h : leqB na xs nb ys = true) (g : leqB nb ys nc zs = true) : leqB na xs nc zs = true :=
  (leq_iff ha hc).2 (leP_trans ((leq_iff ha hb).1 h) ((leq_iff hb hc).1 g))
end Go.Proofs.Ytbgkeomlfdmkeaa
