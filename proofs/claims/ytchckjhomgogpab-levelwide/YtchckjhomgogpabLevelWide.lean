/- For every n and m: LevelWide answers true, and leaves its arguments as they were; no condition. -/
import Derived.Test.YtchckjhomgogpabRows
import Derived.Test.YtchckjhomgogpabAB
import Derived.Test.YtchckjhomgogpabMD
import Derived.ProofKit
import Derived.OpenShut
import Derived.Below
namespace Go.Proofs.Ytchckjhomgogpab
namespace levelWide
open Go.ChangeShapes Go.WideShapes Go.ChangeAt Go.RowKit Go.Sort

/-- k variables from s on -/
def idx (s : Int) (k : Nat) : List (Int × Int) := (List.range k).map fun (i : Nat) => (s + (i : Int), 0)

theorem idx_len (s : Int) (k : Nat) : (idx s k).length = k := by simp [idx]
theorem idx_succ (s : Int) (k : Nat) : idx s (k + 1) = idx s k ++ [(s + k, 0)] := by simp [idx, List.range_succ]
theorem idx_mem {s : Int} {k : Nat} {p : Int × Int} (h : p ∈ idx s k) : s ≤ p.1 ∧ p.1 < s + k ∧ p.2 = 0 := by
  simp [idx] at h
  obtain ⟨i, hi, rfl⟩ := h
  simp; omega
theorem idx_pw (s : Int) (k : Nat) : (idx s k).Pairwise (fun p q => p.1 < q.1) := by
  induction k with
  | zero => simp [idx]
  | succ k ih =>
    rw [idx_succ]
    exact List.pairwise_append.2 ⟨ih, by simp, fun x hx y hy => by simp at hy; subst hy; have := idx_mem hx; simp; omega⟩

theorem idx_right {s : Int} {k : Nat} (hs : 0 ≤ s) (h : s + k ≤ 1000) (hk : k ≤ 64) : rightB 0 (idx s k) = true := by
  simp only [rightB, Bool.and_eq_true, List.all_eq_true, decide_eq_true_eq, inR, idx_len]
  refine ⟨⟨hk, by omega⟩, fun p hp => ?_⟩
  have := idx_mem hp
  omega

theorem both_pw (n m : Nat) (hn : n ≤ 64) : (idx 0 n ++ idx 100 m).Pairwise (fun p q => p.1 < q.1) :=
  List.pairwise_append.2 ⟨idx_pw _ _, idx_pw _ _, fun x hx y hy => by have := idx_mem hx; have := idx_mem hy; omega⟩

theorem both_mem {n m : Nat} {p : Int × Int} (h : p ∈ idx 0 n ++ idx 100 m) : 0 ≤ p.1 ∧ p.1 < 100 + m + n ∧ p.2 = 0 := by
  rcases List.mem_append.1 h with h | h <;> (have := idx_mem h; omega)

theorem max_wide {n m : Nat} (hn : n ≤ 64) (hm : m ≤ 64) : maxR 0 (idx 0 n) 0 (idx 100 m) = if n + m ≤ 64 then (0, idx 0 n ++ idx 100 m, 0) else (0, [], 13) := by
  unfold maxR
  rw [idx_right (by omega) (by omega) hn, idx_right (by omega) (by omega) hm]
  simp only [Bool.and_self, if_true]
  unfold canonR
  rw [tidy_self (both_pw n m hn)]
  have hN : nOf (max 0 0) (idx 0 n ++ idx 100 m) = 0 := by unfold nOf; split <;> rfl
  rw [hN]
  by_cases h : n + m ≤ 64
  · have hr : rightB 0 (idx 0 n ++ idx 100 m) = true := by
      simp only [rightB, Bool.and_eq_true, List.all_eq_true, decide_eq_true_eq, inR, List.length_append, idx_len]
      exact ⟨⟨h, by omega⟩, fun p hp => by have := both_mem hp; omega⟩
    rw [if_pos hr, if_pos h]
  · have hr : rightB 0 (idx 0 n ++ idx 100 m) = false := by
      simp [rightB, idx_len]; omega
    rw [hr, if_neg h]; rfl

theorem leq_wide {n m : Nat} (_hn : n ≤ 64) (_hm : m ≤ 64) (h : n + m ≤ 64) {s : Int} {k : Nat} (hs : 0 ≤ s) (hk : k ≤ 64) (hk2 : s + k ≤ 1000) (hsub : ∀ p ∈ idx s k, p ∈ idx 0 n ++ idx 100 m) : leqB 0 (idx s k) 0 (idx 0 n ++ idx 100 m) = true := by
  have hr : rightB 0 (idx 0 n ++ idx 100 m) = true := by
    simp only [rightB, Bool.and_eq_true, List.all_eq_true, decide_eq_true_eq, inR, List.length_append, idx_len]
    exact ⟨⟨h, by omega⟩, fun p hp => by have := both_mem hp; omega⟩
  rw [leqB_eq, idx_right hs hk2 hk, hr]
  simp only [Bool.true_and]
  simp only [allLe, cmpPairs, List.all_cons, Bool.and_eq_true, decide_eq_true_eq, List.all_eq_true, List.mem_map, forall_exists_index, and_imp, forall_apply_eq_imp_iff₂]
  refine ⟨by rw [evalL_nil]; exact (fold_max_ge (fun p => p.2) _ 0).1, fun p hp => ?_⟩
  have hz := (idx_mem hp).2.2
  exact (le_gAdd (by omega) _).2 ⟨p, hsub p hp, rfl, Int.le_refl _⟩

theorem heap_set1 {w : World} {b : Nat} {u v x : Value} {t : TypeId} (h : w.heap[b]? = some (.cells #[u, v] t (0, 0))) : (w.setCell ⟨b, 1, none⟩ x).heap[b]? = some (.cells #[u, x] t (0, 0)) := by
  rw [setCell_eq]; show (w.heap.modify b _)[b]? = _
  rw [Array.getElem?_modify, if_pos rfl, h]; rfl

theorem cap0 {B : Nat} {w : World} {v : Value} {a : Option Addr} {n c : Nat} {xs : List (Int × Int)} (h : OR B w v xs) (hv : v = .slice a n c) (ha : a = none) : c = 0 := by
  subst ha
  rcases h.2 with ⟨h1, -⟩ | ⟨g, cap, cur, h1, -⟩
  · rw [hv] at h1; simp at h1; exact h1.2
  · rw [hv] at h1; simp at h1

theorem or_blocks {B : Nat} {w w' : World} {v : Value} {xs : List (Int × Int)} (h : OR B w v xs) (hb : ∀ b, B ≤ b → b < w.heap.size → w'.heap[b]? = w.heap[b]?) : OR B w' v xs := by
  refine ⟨h.1, ?_⟩
  rcases h.2 with h1 | ⟨g, cap, cur, h1, h2, h3, h4⟩
  · exact Or.inl h1
  · refine Or.inr ⟨g, cap, cur, h1, h2, ?_, h4⟩
    rw [hb g h2 (by rw [Array.getElem?_eq_some_iff] at h3; exact h3.1)]; exact h3

theorem grown_below {w w' : World} {B : Nat} {v : Value} {xs : List (Int × Int)} {o : Obj} (hO : OR B w v xs) (hz : B ≤ w.heap.size) (h : (w.alloc o).grownBy w' v.ownBlock) : RowKit.Below B w w' :=
  ((Below.refl B w).alloc hz o).grown h (by simp; omega) (fun k e => (World.ownsRow.lt hO k e).1)

set_option maxRecDepth 100000 in
set_option maxHeartbeats 4000000 in
theorem walk_in (n m : Int) (w : World) (hn0 : 0 ≤ n) (hn1 : n ≤ 64) (hm0 : 0 ≤ m) (hm1 : m ≤ 64) :
    Calls Try.prog 4 #[.int .i64 n, .int .i64 m] w fun e w' => e = .returned (.bool true) ∧ RowKit.Below w.heap.size w w' := by
  have mx := mixed
  go_enter Try.func4, Try.ntmps4
  go_wp2_with fail
  refine (alive_any w).mono ?_
  rintro e w1 ⟨rfl, hb1⟩
  have hz1 := hb1.size
  have HB1 := Hid.mk hb1
  clear hb1
  go_wp2
  obtain ⟨W2, hW2⟩ : ∃ W2, (w1.alloc (.cells #[.int .i64 0, .slice none 0 0] 25)).alloc (.cells #[.int .i64 0, .slice none 0 0] 25) = W2 := ⟨_, rfl⟩
  have hB2 : RowKit.Below w1.heap.size w1 W2 := by rw [← hW2]; exact (((Below.refl _ _).alloc (Nat.le_refl _) _).alloc (by simp) _)
  have hz2 : W2.heap.size = w1.heap.size + 2 := by rw [← hW2]; simp
  have h20 : W2.heap[w1.heap.size]? = some (.cells #[.int .i64 0, .slice none 0 0] 25 (0, 0)) := by rw [← hW2]; exact alloc_old (alloc_new _ _) _
  have h21 : W2.heap[w1.heap.size + 1]? = some (.cells #[.int .i64 0, .slice none 0 0] 25 (0, 0)) := by rw [← hW2]; exact box_at1
  go_loopw [8] (fun i wr => ∃ (k : Nat) (v : Value), (k : Int) ≤ n ∧ i = .int .i64 k ∧ RowKit.Below w1.heap.size w1 wr ∧ w1.heap.size + 2 ≤ wr.heap.size ∧ wr.heap[w1.heap.size]? = some (.cells #[.int .i64 0, v] 25 (0, 0)) ∧ wr.heap[w1.heap.size + 1]? = some (.cells #[.int .i64 0, .slice none 0 0] 25 (0, 0)) ∧ OR (w1.heap.size + 2) wr v (idx 0 k)) (fun i _ => (n - intOf i).toNat)
  case atStart => rw [hW2]; exact ⟨0, _, by omega, rfl, hB2, by omega, h20, h21, OR.nil _ _⟩
  case round =>
    obtain ⟨k, v, hk, rfl, hb, hsz, hh0, hh1, hO⟩ := hrel
    obtain ⟨q0, q1, q2, q3, q4⟩ := cells2 hh0
    have HH0 := Hid.mk hh0
    have HH1 := Hid.mk hh1
    have HO := Hid.mk hO
    have HB := Hid.mk hb
    clear hh0 hh1 hO hb hB2 h20 h21 hW2 hz2
    by_cases hlt : (k : Int) < n
    · go_wp2_with (at_builtin; refine wpList_app rfl _ _ rfl (w1.heap.size + 2) _ (idx 0 k) [((k : Int), 0)] (some ⟨wr.heap.size, 0, none⟩) 1 rfl rfl (HO.out.alloc _) (SL.one (alloc_new _ _)) (by simp) (by simp [idx_len]; omega) (by simp; omega) ?_; intro v3 w3 hO3 hg3; have hB3 := grown_below HO.out hsz hg3; obtain ⟨a3, c3, rfl, -, -⟩ := hO3.shape; obtain ⟨r0, r1, r2, r3, r4⟩ := cells2 ((hB3.block w1.heap.size (by omega)).trans HH0.out); have hz3 := hB3.size; have HO3 := Hid.mk hO3; have HB3 := Hid.mk hB3; clear hO3 hg3 hB3 q0 q1 q2 q3)
      refine ⟨⟨k + 1, _, by omega, by go_num, (HB.out.trans (HB3.out.mono (by omega))).setCell (p := ⟨w1.heap.size, 1, none⟩) (Nat.le_refl _) _, by simp; omega, heap_set1 ((HB3.out.block w1.heap.size (by omega)).trans HH0.out), ?_, ?_⟩, by simp [intOf]; omega⟩
      · rw [Below.heap_setCell _ _ _ _ (by simp)]; exact (HB3.out.block (w1.heap.size + 1) (by omega)).trans HH1.out
      · rw [idx_succ]; have := HO3.out.setBelow (a := ⟨w1.heap.size, 1, none⟩) (by simp) (.slice a3 (idx 0 k ++ [((k : Int), 0)]).length c3); simpa using this
    · have hkn : (k : Int) = n := by omega
      have HKN := Hid.mk hkn
      clear hkn
      go_wp2
      obtain ⟨W3, rfl⟩ : ∃ W, W = wr := ⟨_, rfl⟩
      obtain ⟨a1, c1, hv1, -, -⟩ := HO.out.shape
      have HN1 := Hid.mk (cap0 HO.out hv1)
      have hB4 : w1.heap.size + 1 < W3.heap.size := by omega
      go_loopw [9] (fun i w' => ∃ (j : Nat) (u : Value), (j : Int) ≤ m ∧ i = .int .i64 j ∧ RowKit.Below w1.heap.size w1 w' ∧ W3.heap.size ≤ w'.heap.size ∧ (∀ b, b < W3.heap.size → b ≠ w1.heap.size + 1 → w'.heap[b]? = W3.heap[b]?) ∧ w'.heap[w1.heap.size + 1]? = some (.cells #[.int .i64 0, u] 25 (0, 0)) ∧ OR W3.heap.size w' u (idx 100 j)) (fun i _ => (m - intOf i).toNat)
      case atStart => exact ⟨0, _, by omega, rfl, HB.out, Nat.le_refl _, fun _ _ _ => rfl, HH1.out, OR.nil _ _⟩
      case round =>
        obtain ⟨j, u, hj, rfl, hb, hsz2, hbl, hh1, hO2⟩ := hrel
        obtain ⟨s0, s1, s2, s3, s4⟩ := cells2 hh1
        have HBL := Hid.mk hbl
        have HH2 := Hid.mk hh1
        have HO2 := Hid.mk hO2
        have HB2 := Hid.mk hb
        clear hbl hh1 hO2 hb q0 q1 q2 q3
        by_cases hlt2 : (j : Int) < m
        · have HWR : Hid (IntKind.i64.wrap (100 + (j : Int)) = 100 + j) := by unfold Hid; rw [IntKind.wrap_i64]; omega
          go_wp2_with (at_builtin; refine wpList_app rfl _ _ rfl W3.heap.size _ (idx 100 j) [(100 + (j : Int), 0)] (some ⟨wr.heap.size, 0, none⟩) 1 rfl rfl (HO2.out.alloc _) (SL.one (alloc_new _ _)) (by simp) (by simp [idx_len]; omega) (by simp; omega) ?_; intro v3 w3 hO3 hg3; have hB3 := grown_below HO2.out hsz2 hg3; obtain ⟨a3, c3, rfl, -, -⟩ := hO3.shape; obtain ⟨r0, r1, r2, r3, r4⟩ := cells2 ((hB3.block (w1.heap.size + 1) (by omega)).trans HH2.out); have hz3 := hB3.size; have HO3 := Hid.mk hO3; have HB3 := Hid.mk hB3; clear hO3 hg3 hB3 s0 s1 s2 s3)
          refine ⟨⟨j + 1, _, by omega, by go_num, (HB2.out.trans (HB3.out.mono (by omega))).setCell (p := ⟨w1.heap.size + 1, 1, none⟩) (by simp) _, by simp; omega, fun b hb hb1 => ?_, heap_set1 ((HB3.out.block (w1.heap.size + 1) (by omega)).trans HH2.out), ?_⟩, by simp [intOf]; omega⟩
          · rw [Below.heap_setCell _ _ _ _ (by simp; omega)]; exact (HB3.out.block b hb).trans (HBL.out b hb hb1)
          · rw [idx_succ]; have := HO3.out.setBelow (a := ⟨w1.heap.size + 1, 1, none⟩) hB4 (.slice a3 (idx 100 j ++ [(100 + (j : Int), 0)]).length c3); simpa using this
        · have hjm : (j : Int) = m := by omega
          have HJM := Hid.mk hjm
          clear hjm
          have HH3 : Hid (wr.heap[w1.heap.size]? = some (.cells #[.int .i64 0, v] 25 (0, 0))) := (HBL.out w1.heap.size (by omega) (by omega)).trans HH0.out
          obtain ⟨t0, t1, t2, t3, t4⟩ := cells2 HH3.out
          have HO1 : Hid (OR (w1.heap.size + 2) wr v (idx 0 k)) := or_blocks HO.out (fun b hb hb2 => HBL.out b hb2 (by omega))
          obtain ⟨a2, c2, hv2, HS2, -⟩ := HO2.out.shape
          have HN2 := Hid.mk (cap0 HO2.out hv2)
          obtain ⟨a1', c1', hv1', HS1, -⟩ := HO1.out.shape
          rw [hv1] at hv1'
          obtain ⟨rfl, rfl⟩ : a1 = a1' ∧ c1 = c1' := by simp at hv1'; exact ⟨hv1'.1, hv1'.2⟩
          have HC := Max_any 0 0 (idx 0 k) (idx 100 j) a1 a2 c1 c2 wr HS1 HS2 (by rw [idx_len]; omega) (by rw [idx_len]; omega) HN1.out HN2.out
          rw [max_wide (by omega) (by omega)] at HC
          subst hv1 hv2
          clear hv1'
          by_cases hsum : k + j ≤ 64
          · rw [if_pos hsum] at HC
            have HLQ1 := leq_wide (n := k) (m := j) (by omega) (by omega) hsum (s := 0) (k := k) (by omega) (by omega) (by omega) (fun p hp => List.mem_append.2 (Or.inl hp))
            have HLQ2 := leq_wide (n := k) (m := j) (by omega) (by omega) hsum (s := 100) (k := j) (by omega) (by omega) (by omega) (fun p hp => List.mem_append.2 (Or.inr hp))
            have hlen : (idx 0 k ++ idx 100 j).length = k + j := by simp [idx_len]
            have HL1 : Hid ((idx 0 k).length = k) := idx_len _ _
            have HL2 : Hid ((idx 100 j).length = j) := idx_len _ _
            obtain rfl := HKN.out
            obtain rfl := HJM.out
            generalize idx 0 k ++ idx 100 j = zs at HC HLQ1 HLQ2 hlen
            go_wp2_with fail
            refine HC.mono ?_
            rintro e w4 ⟨v4, rfl, hO4, hb4⟩
            obtain ⟨a4, c4, hv4, hS4, -⟩ := hO4.shape
            subst hv4
            have hz4 := hb4.size
            have HB4 := Hid.mk (HB1.out.trans ((HB2.out.trans (hb4.mono (by omega))).mono hz1))
            obtain ⟨W5, hW5⟩ : ∃ W5, w4.alloc (.cells #[.int .i64 0, .slice a4 (k + j) c4] 25) = W5 := ⟨_, rfl⟩
            have hg5 : RowKit.Below w4.heap.size w4 W5 := by rw [← hW5]; exact ((Grew.refl _).alloc _).below
            have hz5 := hg5.size
            have HB5 := Hid.mk (HB4.out.trans (hg5.mono (by omega)))
            have hb45 : RowKit.Below wr.heap.size wr W5 := hb4.trans (hg5.mono hz4)
            have HL := Hid.mk (Leq_any 0 0 (idx 0 k) zs a1 a4 c1 c4 W5 (HS1.below hb45) (hS4.below hg5) (by rw [HL1.out]; omega) (by omega))
            have HM := fun (W : World) (h : RowKit.Below W5.heap.size W5 W) => Hid.mk (Leq_any 0 0 (idx 100 j) zs a2 a4 c2 c4 W (HS2.below (hb45.trans (h.mono (Nat.le_trans hz4 hz5)))) (hS4.below (hg5.trans (h.mono hz5))) (by rw [HL2.out]; omega) (by omega))
            simp only [HLQ1, hlen] at HL
            simp only [HLQ2, hlen] at HM
            obtain ⟨l0, l1, l2, l3, l4⟩ := cells2 ((hb45.block w1.heap.size (by omega)).trans HH3.out)
            have HX2 := Hid.mk ((hb45.block (w1.heap.size + 1) (by omega)).trans HH2.out)
            have hX4 : W5.heap[w4.heap.size]? = some (.cells #[.int .i64 0, .slice a4 (k + j) c4] 25 (0, 0)) := by rw [← hW5]; exact alloc_new _ _
            obtain ⟨x0, x1, x2, x3, x4⟩ := cells2 hX4
            have HX4 := Hid.mk hX4
            have HW5 := Hid.mk hW5
            clear HC hb4 hO4 hS4 HS1 HS2 t0 t1 t2 t3 s0 s1 s2 s3 hW5 hX4 hb45 hg5 HLQ1 HLQ2
            go_wp2_with fail
            rw [HW5.out]
            go_wp2_with (first | (go_at_call 8; refine (num_any _ _).mono ?_; rintro e ww ⟨rfl, hww⟩; have hww := hww.symm; subst hww) | fail)
            refine HL.out.mono ?_
            rintro e w6 ⟨rfl, hb6⟩
            have hz6 := hb6.size
            obtain ⟨y0, y1, y2, y3, y4⟩ := cells2 ((hb6.block (w1.heap.size + 1) (by omega)).trans HX2.out)
            obtain ⟨z0, z1, z2, z3, z4⟩ := cells2 ((hb6.block w4.heap.size x4).trans HX4.out)
            have HY := HM w6 hb6
            have HB6 := Hid.mk (HB5.out.trans (hb6.mono (by omega)))
            clear HL HM hb6 l0 l1 l2 l3 x0 x1 x2 x3
            go_wp2_with fail
            refine HY.out.mono ?_
            rintro e w7 ⟨rfl, hb7⟩
            go_wp2_with fail
            go_ret
            exact ⟨rfl, HB6.out.trans (hb7.mono (by omega))⟩
          · rw [if_neg hsum] at HC
            have hjk : 64 < n + m := by have := HKN.out; have := HJM.out; omega
            go_wp2_with fail
            refine HC.mono ?_
            rintro e w4 ⟨v4, rfl, hO4, hb4⟩
            obtain ⟨a4, c4, hv4, hS4, -⟩ := hO4.shape
            subst hv4
            have hz4 := hb4.size
            have HB4 := Hid.mk (HB1.out.trans ((HB2.out.trans (hb4.mono (by omega))).mono hz1))
            clear HC hb4 hO4 hS4 HS1 HS2 t0 t1 t2 t3 s0 s1 s2 s3
            go_wp2_with (go_at_call 8; refine (num_any _ _).mono ?_; rintro e ww ⟨rfl, hww⟩; have hww := hww.symm; subst hww)
            go_ret
            exact ⟨rfl, HB4.out.alloc (by omega) _⟩

set_option maxHeartbeats 2000000 in
theorem walk (n f : Int) (w : World) : Calls Try.prog 4 #[.int .i64 n, .int .i64 f] w fun e w' => e = .returned (.bool true) ∧ RowKit.Below w.heap.size w w' := by
  by_cases h : 0 ≤ n ∧ n ≤ 64 ∧ 0 ≤ f ∧ f ≤ 64
  · exact walk_in n f w h.1 h.2.1 h.2.2.1 h.2.2.2
  · rcases (show n < 0 ∨ (0 ≤ n ∧ 64 < n) ∨ (0 ≤ n ∧ n ≤ 64 ∧ f < 0) ∨ (0 ≤ n ∧ n ≤ 64 ∧ 0 ≤ f ∧ 64 < f) by omega) with h1 | ⟨h1, h2⟩ | ⟨h1, h2, h3⟩ | ⟨h1, h2, h3, h4⟩
    all_goals
      clear h
      go_enter Try.func4, Try.ntmps4
      go_wp2_with (go_at_call 5; refine (alive_any w).mono ?_; rintro e w1 ⟨rfl, hb1⟩)
      go_ret
      exact ⟨rfl, hb1⟩

theorem own : ownKnob Try.prog.godebug = none := by kernel_rfl

set_option maxRecDepth 100000 in
theorem lifted (os : Os) (started : os.Started) (H : Type) (enc : TypeId × Value → H) :
    ReturnsInHanded {} Try.checked os 4 .any (Rows.levelWideSpec.pre6 enc Try.prog Try.f4 Rows.levelWideRow.domain false) (Rows.levelWideSpec.post enc Try.prog Try.f4 false true false false) := by
  refine returnsInHanded_of_change (C := Try.checked) own started (by kernel_rfl) Try.func4
    (ChangeSpec.witness6 (enc := enc) (C := Try.checked) false ⟨#[], #[.int .i64 0, .int .i64 0], []⟩ 8 (by kernel_rfl) (by kernel_rfl) (by kernel_rfl) (by kernel_rfl)) ?_
  intro W base args ds gs before hval0 hW hcnd _
  have hval : ∀ (j : Nat) t v, Try.f4.params[j]? = some t → args[j]? = some v → Value.okWide Try.prog W .any base t v := hval0
  have hW' := hW
  obtain ⟨p, q, hA0, hV, rfl, hfz, hnd⟩ := hW
  have hA : DataW.TrodAll enc Try.prog W 0 (fun _ => true) true Try.f4.params.toList args.toList ds p := hA0
  rw [Try.params4] at hA hval
  obtain ⟨v0, v1, d0, d1, p0, p1, rfl, rfl, rfl, h0, h1⟩ := trodAll_two hA
  obtain ⟨rfl, rfl⟩ := trodVars_none hV
  obtain ⟨a0, rfl, rfl, rfl, w0⟩ := open_int Try.underlying3 (hval 0 3 v0 rfl rfl) h0
  obtain ⟨a1, rfl, rfl, rfl, w1⟩ := open_int Try.underlying3 (hval 1 3 v1 rfl rfl) h1
  clear hA0 hval0
  simp only [List.append_nil] at hW'
  refine (walk a0 a1 W).mono fun e W' ⟨he, bel⟩ => ?_
  subst he
  exact ⟨_, rfl, _, _, _, [], [], [], hW', trodAll_mk1 (shut_bool Try.underlying4 _), trodAll_mk2 (shut_int Try.underlying3 w0) (shut_int Try.underlying3 w1), rfl, bel.frame _, fun h => by cases h⟩

theorem over : Rows.levelWideRow.holds Try.pinned (OpenSpec.ofChange Rows.levelWideSpec) :=
  OpenClaim.holds_of_wide 4 Try.f4 rfl rfl rfl rfl rfl rfl rfl ⟨rfl, rfl, rfl, rfl, rfl⟩ rfl rfl rfl rfl rfl (by kernel_rfl) Try.func4 (by kernel_rfl)
    (of_decide_eq_true (by kernel_rfl)) (by unfold Func.isWrapper; first | (rw [if_pos (by decide +kernel)]; kernel_rfl) | (rw [if_neg (by decide +kernel)]; exact ⟨rfl, rfl⟩))
    (fun os started H enc _ => lifted os started H enc)

end levelWide

theorem levelWide_holds : Rows.LevelWideSaid := levelWide.over
#print axioms levelWide_holds
end Go.Proofs.Ytchckjhomgogpab
