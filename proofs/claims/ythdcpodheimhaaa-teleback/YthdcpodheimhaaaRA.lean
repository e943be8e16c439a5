/- The contracts of telamonlaw1.V and telamonref1.ExactLevel. -/
import Derived.Test.YthdcpodheimhaaaI
import Derived.Laws.StructEq
namespace Go.Proofs.Ythdcpodheimhaaa
open Go.RowKit Go.Sort Go.Shelf Go.Lib

theorem SL.one {w : World} {b : Nat} {x y : Int} {t : TypeId} (h : w.heap[b]? = some (.cells #[.int .i64 x, .int .i64 y] t (0, 0))) : SL w (some ⟨b, 0, none⟩) [(x, y)] := by
  obtain ⟨c0, c1, -, -, hl⟩ := cells2 h
  refine Or.inr ⟨b, 0, rfl, hl, fun i hi => ?_⟩
  have : i = 0 := by simp at hi; omega
  subst this
  exact ⟨by simpa using c0, by simpa using c1⟩

def exactB (na : Int) (xs : List (Int × Int)) (nb : Int) (ys : List (Int × Int)) : Bool := decide (na = nb) && decide (xs = ys)

theorem exact_len {na nb : Int} {xs ys : List (Int × Int)} (h : xs.length ≠ ys.length) : exactB na xs nb ys = false := by
  simp [exactB]; intro _ e; exact h (by rw [e])

theorem exact_at {na nb : Int} {xs ys : List (Int × Int)} {k : Nat} {p q : Int × Int} (h1 : xs[k]? = some p) (h2 : ys[k]? = some q) (h : p ≠ q) : exactB na xs nb ys = false := by
  simp [exactB]; intro _ e; rw [e, h2] at h1; exact h (by simpa using h1.symm)

theorem take_eq {xs ys : List (Int × Int)} {k : Nat} {p : Int × Int} (h1 : xs[k]? = some p) (h2 : ys[k]? = some p) (h : xs.take k = ys.take k) : xs.take (k + 1) = ys.take (k + 1) := by
  rw [List.take_add_one, List.take_add_one, h, h1, h2]

theorem run_neqLVar (x y x' y' : Int) (w : World) : Sem.run Try.prog (binOp .neq 80 (.agg #[.int .i64 x, .int .i64 y]) (.agg #[.int .i64 x', .int .i64 y'])) w = .ok (.bool (!(x == x' && y == y'))) w := by
  have u3 := Try.underlying3
  have a3 := Try.isAgg3
  have z3 := Try.sizeOf3
  have hS : Try.prog.underlying 80 = some (.struct (Try.prog.fieldsOf 80)) := by kernel_rfl
  have hp : Try.prog.stoodInHeld 80 = false := by kernel_rfl
  rw [run_neq_struct, show (10000 : Nat) = 9999 + 1 from rfl, run_equalIn_agg w 9999 80 _ _ hS hp]
  simp only [Program.fieldsOf, Try.underlying80]
  go_simp
  by_cases h1 : x = x' <;> by_cases h2 : y = y' <;> simp [h1, h2]

theorem run_guardLVar (op : BinOp) (a b : Operand) (p q : Array Value) (w : World) : Sem.run Try.prog (eqGuard op 80 a b (.agg p) (.agg q)) w = .ok () w := run_eqGuard_agg w op 80 a b p q (by kernel_rfl)

set_option maxHeartbeats 2000000 in
theorem Exact_any (na nb : Int) (xs ys : List (Int × Int)) (aa ab : Option Addr) (ca cb : Nat) (w : World) (hSa : SL w aa xs) (hSb : SL w ab ys) (hxn : xs.length ≤ 4398046511104) (_hyn : ys.length ≤ 4398046511104) :
    Calls Try.prog 29 #[.agg #[.int .i64 na, .slice aa xs.length ca], .agg #[.int .i64 nb, .slice ab ys.length cb]] w fun e w' => e = .returned (.bool (exactB na xs nb ys)) ∧ Grew w w' := by
  obtain ⟨W0, hW0⟩ : ∃ W0, (w.alloc (.cells #[.int .i64 na, .slice aa xs.length ca] 59)).alloc (.cells #[.int .i64 nb, .slice ab ys.length cb] 59) = W0 := ⟨_, rfl⟩
  have HA : Hid (Grew w W0) := by rw [← hW0]; exact ((Grew.refl w).alloc _).alloc _
  have HB0 : Hid (W0.heap[w.heap.size]? = some (.cells #[.int .i64 na, .slice aa xs.length ca] 59 (0, 0))) := by rw [← hW0]; exact box_at
  have HB1 : Hid (W0.heap[w.heap.size + 1]? = some (.cells #[.int .i64 nb, .slice ab ys.length cb] 59 (0, 0))) := by rw [← hW0]; exact box_at1
  have HSZ : Hid (W0.heap.size = w.heap.size + 2) := by unfold Hid; rw [← hW0]; simp
  have HW0 := Hid.mk hW0
  have HSa := Hid.mk hSa
  have HSb := Hid.mk hSb
  have mx := mixed
  clear hW0 hSa hSb
  by_cases hN : na = nb
  · subst hN
    by_cases hL : xs.length = ys.length
    · have hL' : ((xs.length : Int) != (ys.length : Int)) = false := by simp [hL]
      have HL := Hid.mk hL
      clear hL
      go_enter Try.func29, Try.ntmps29
      go_wp2
      rw [HW0.out]
      go_loopw [5] (fun i wr => ∃ k : Nat, k ≤ xs.length ∧ i = .int .i64 k ∧ Grew W0 wr ∧ xs.take k = ys.take k) (fun i _ => xs.length - (intOf i).toNat)
      case atStart => exact ⟨0, Nat.zero_le _, rfl, Grew.refl _, rfl⟩
      case round =>
        obtain ⟨k, hk, rfl, hb, htk⟩ := hrel
        have HT := Hid.mk htk
        clear htk
        obtain ⟨a0, a1, -, -, -⟩ := cells2 ((hb.below.block w.heap.size (by rw [HSZ.out]; omega)).trans HB0.out)
        obtain ⟨b0, b1, -, -, -⟩ := cells2 ((hb.below.block (w.heap.size + 1) (by rw [HSZ.out]; omega)).trans HB1.out)
        have hgw := HA.out.trans hb
        by_cases hlt : k < xs.length
        · obtain ⟨b, off, x, y, rfl, hbl, hc0, hc1, hxy⟩ := (HSa.out.below hgw.below).at hlt
          obtain ⟨b', off', x', y', rfl, hbl', hc0', hc1', hxy'⟩ := (HSb.out.below hgw.below).at (k := k) (by rw [← HL.out]; exact hlt)
          have z1 : (k : Int) < (xs.length : Int) := by omega
          have z2 : (k : Int) < (ys.length : Int) := by have := HL.out; omega
          have hq := fun W => run_neqLVar x y x' y' W
          have hgu := run_guardLVar
          by_cases he : x = x' ∧ y = y'
          · have hb1 : (x == x' && y == y') = true := by simp [he.1, he.2]
            simp only [hb1] at hq
            have HX : Hid (xs[k]? = some (x', y')) := by have := hxy.out; rwa [he.1, he.2] at this
            clear he hb1
            go_wp2_with fail
            go_quiet (fail)
            go_wp2
            refine ⟨⟨k + 1, hlt, by go_num, hb.drewN _, take_eq HX.out hxy'.out HT.out⟩, by simp [intOf]; omega⟩
          · have hb1 : (x == x' && y == y') = false := by rw [Bool.eq_false_iff]; simpa using he
            simp only [hb1] at hq
            have HE : Hid (exactB na xs na ys = false) := exact_at hxy.out hxy'.out (by simpa using he)
            clear he hb1
            go_wp2_with fail
            go_quiet (fail)
            go_wp2
            go_ret
            exact ⟨by rw [HE.out]; rfl, (HA.out.trans hb).drewN _⟩
        · have HE : Hid (exactB na xs na ys = true) := by
            have h1 : xs.take k = xs := List.take_of_length_le (by omega)
            have h2 : ys.take k = ys := List.take_of_length_le (by have := HL.out; omega)
            have h3 := HT.out
            rw [h1, h2] at h3
            unfold Hid; simp [exactB, h3]
          go_wp2
          go_ret
          exact ⟨by rw [HE.out]; rfl, HA.out.trans hb⟩
    · have hL' : ((xs.length : Int) != (ys.length : Int)) = true := by simp; omega
      have HE : Hid (exactB na xs na ys = false) := exact_len hL
      clear hL
      go_enter Try.func29, Try.ntmps29
      go_wp2
      go_ret
      exact ⟨by rw [HE.out]; rfl, by have := HA.out; rwa [← HW0.out] at this⟩
  · have hN' : (na != nb) = true := by simp [hN]
    have HE : Hid (exactB na xs nb ys = false) := by unfold Hid; simp [exactB, hN]
    clear hN
    go_enter Try.func29, Try.ntmps29
    go_wp2
    go_ret
    exact ⟨by rw [HE.out]; rfl, by have := HA.out; rwa [← HW0.out] at this⟩
end Go.Proofs.Ythdcpodheimhaaa

/- The contract of telamonref1.right. -/
namespace Go.Proofs.Ythdcpodheimhaaa
open Go.RowKit Go.Sort

theorem inR_no {x : Int} (h : inR x = false) : x < 0 ∨ 1000 < x := by simp [inR] at h; omega
theorem inR_yes {x : Int} (h : inR x = true) : 0 ≤ x ∧ x ≤ 1000 := by simpa [inR] using h

set_option maxHeartbeats 2000000 in
theorem rright_any (n : Int) (xs : List (Int × Int)) (a : Option Addr) (cap : Nat) (w : World) (hS : SL w a xs) (hn : xs.length ≤ 35184372088832) :
    Calls Try.prog 60 #[.agg #[.int .i64 n, .slice a xs.length cap]] w fun e w' => e = .returned (.bool (rightB n xs)) ∧ Grew w w' := by
  have HS := Hid.mk hS
  clear hS
  by_cases hlen : xs.length ≤ 64
  · cases hN : inR n
    · have HE : Hid (rightB n xs = false) := by unfold Hid; simp [rightB, hN]
      rcases inR_no hN with h | h
      all_goals
        clear hN
        go_enter Try.func60, Try.ntmps60
        go_wp2
        go_ret
        exact ⟨by rw [HE.out]; rfl, (Grew.refl _).alloc _⟩
    · obtain ⟨hn0, hn1⟩ := inR_yes hN
      have HN := Hid.mk hN
      clear hN
      go_enter Try.func60, Try.ntmps60
      go_wp2
      go_loopw [3] (fun i wr => ∃ k : Nat, k ≤ xs.length ∧ i = .int .i64 k ∧ Grew (w.alloc (.cells #[.int .i64 n, .slice a xs.length cap] 59)) wr ∧ (xs.take k).all (fun p => inR p.1 && inR p.2) = true) (fun i _ => xs.length - (intOf i).toNat)
      case atStart => exact ⟨0, Nat.zero_le _, rfl, Grew.refl _, by simp⟩
      case round =>
        obtain ⟨k, hk, rfl, hb, hall⟩ := hrel
        have HA := Hid.mk hall
        clear hall
        obtain ⟨q0, q1, -, -, q4⟩ := cells2 ((hb.below.block w.heap.size (by simp)).trans (alloc_new _ _))
        have hgw : Grew w wr := ((Grew.refl w).alloc _).trans hb
        by_cases hlt : k < xs.length
        · obtain ⟨b, off, x, y, rfl, hbl, hc0, hc1, hxy⟩ := (HS.out.below hgw.below).at hlt
          cases hx : inR x && inR y
          · have HE : Hid (rightB n xs = false) := by unfold Hid; simp [rightB, all_no (p := fun p => inR p.1 && inR p.2) hxy.out hx]
            have hbad : x < 0 ∨ 1000 < x ∨ (0 ≤ x ∧ x ≤ 1000 ∧ y < 0) ∨ (0 ≤ x ∧ x ≤ 1000 ∧ 1000 < y) := by
              simp [inR] at hx; omega
            clear hx
            rcases hbad with h | h | ⟨h0, h1, h⟩ | ⟨h0, h1, h⟩
            all_goals
              go_wp2
              go_ret
              exact ⟨by rw [HE.out]; rfl, hgw.alloc _⟩
          · have H1 := Hid.mk hx
            obtain ⟨h1, h2⟩ : (0 ≤ x ∧ x ≤ 1000) ∧ (0 ≤ y ∧ y ≤ 1000) := by simpa [inR] using hx
            obtain ⟨h10, h11⟩ := h1
            obtain ⟨h20, h21⟩ := h2
            clear hx
            go_wp2
            refine ⟨⟨k + 1, hlt, by go_num, hb.alloc _, by rw [take_all hxy.out, HA.out]; simpa using H1.out⟩, by simp [intOf]; omega⟩
        · go_wp2
          go_ret
          have hk' : k = xs.length := by omega
          subst hk'
          have hA := HA.out
          rw [List.take_length] at hA
          exact ⟨by simp only [rightB, HN.out, hA]; simp [hlen], hgw⟩
  · have HE : Hid (rightB n xs = false) := by unfold Hid; simp [rightB, hlen]
    rcases (show n < 0 ∨ 1000 < n ∨ (0 ≤ n ∧ n ≤ 1000) by omega) with h | h | ⟨h0, h1⟩
    all_goals
      go_enter Try.func60, Try.ntmps60
      go_wp2
      go_ret
      exact ⟨by rw [HE.out]; rfl, (Grew.refl _).alloc _⟩
end Go.Proofs.Ythdcpodheimhaaa
