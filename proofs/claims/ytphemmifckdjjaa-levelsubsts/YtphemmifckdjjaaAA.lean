/- The contract of slices.Concat at two slices of LVars. -/
import Derived.Test.YtphemmifckdjjaaY
import Derived.Test.YtphemmifckdjjaaS2
namespace Go.Proofs.Ytphemmifckdjjaa
open Go.RowKit Go.Sort Go.Shelf Go.Lib

theorem Grow_none (w : World) : Calls Try.prog 48 #[.slice none 0 0, .int .i64 0] w fun e w' => e = .returned (.slice none 0 0) ∧ w' = w :=
  Any8.slices_Grow_room Try.growL none 0 0 0 w (by omega) (by omega) (by omega) (by omega)

theorem Grow_some (n : Nat) (w : World) (h0 : 0 < n) (hn : n ≤ 4398046511104) : Calls Try.prog 48 #[.slice none 0 0, .int .i64 (n : Int)] w fun e w' => ∃ c, e = .returned (.slice (some ⟨w.heap.size, 0, none⟩) 0 c) ∧ OR w.heap.size w' (.slice (some ⟨w.heap.size, 0, none⟩) 0 c) [] ∧ Grew w w' := by
  obtain ⟨i0, hi, hz0, hz1, hz2⟩ := info_parts infoLVar
  refine Calls.mono (Any8.slices_Grow_grow Try.growL i0 (.agg #[.int .i64 0, .int .i64 0]) hi hz0 (by rw [hz1]; decide) none 0 0 n [] w (Nat.le_refl _) (by omega) (by rw [hz2]; omega) (by omega) (by simp) (fun _ => rfl) (fun a h => by cases h)) ?_
  rintro e w' ⟨rfl, rfl⟩
  refine ⟨_, rfl, ?_, ((Grew.refl w).drew).alloc _⟩
  refine ⟨by simp [flat], Or.inr ⟨w.heap.size, _, _, rfl, Nat.le_refl _, alloc_new _ _, Nat.zero_le _, grownCap_le_maxLen _ _ _ _ (by simp [maxLen]; omega), ?_, by simp [flat]⟩⟩
  have hg := grownCap_ge w (0 + n) 0 32
  simp only [Array.size_append, size_zeroCells, Value.cells]
  show (([] : List Value).toArray.size + (0 + n - 0) * 2) + (grownCap w (0 + n) 0 32 - (0 + n)) * 2 = grownCap w (0 + n) 0 32 * 2
  simp only [List.size_toArray, List.length_nil]
  omega

theorem Grow_any (l m : Nat) (w : World) (hl : l ≤ 1000) (hm : m ≤ 1000) : Calls Try.prog 48 #[.slice none 0 0, .int .i64 ((l : Int) + (m : Int))] w fun e w' => ∃ a c, e = .returned (.slice a 0 c) ∧ OR w.heap.size w' (.slice a 0 c) [] ∧ Grew w w' := by
  rcases Nat.eq_zero_or_pos (l + m) with h | h
  · have : (l : Int) + (m : Int) = 0 := by omega
    rw [this]
    exact (Grow_none w).mono fun e w' ⟨he, hw⟩ => ⟨_, _, he, OR.nil _ _, by rw [hw]; exact Grew.refl _⟩
  · have : (l : Int) + (m : Int) = ((l + m : Nat) : Int) := by omega
    rw [this]
    exact (Grow_some (l + m) w h (by omega)).mono fun e w' ⟨c, he, hO, hg⟩ => ⟨_, c, he, hO, hg⟩

theorem grownBy_refl (w : World) (r : Option Nat) : w.grownBy w r := ⟨rfl, rfl, rfl, Nat.le_refl _, fun _ _ _ => rfl⟩

/-- append(v, x...), v a slice of the call's own, x a slice of pairs -/
theorem wpList_app {w : World} {ops : Array Oper} {rest : List Oper} {o : Oper} {a : Act} {Q : Exit → Act → World → Prop} (hgd : o.guard = none) (s x : Operand) (ho : o.op = .call { callee := .builtin .append, args := #[s, x], argTypes := #[22, 22] })
    (B : Nat) (v : Value) (zs xs : List (Int × Int)) (a1 : Option Addr) (c1 : Nat) (hs : a.eval s = v) (hx : a.eval x = .slice a1 xs.length c1) (hO : OR B w v zs) (hS : SL w a1 xs) (hn : a1 = none → c1 = 0) (hl : zs.length + xs.length ≤ 4398046511104) (hB : B ≤ w.heap.size)
    (h : ∀ v' w', OR B w' v' (zs ++ xs) → w.grownBy w' v.ownBlock → wpList Try.prog ops Q rest (a.put o.dst v') w') : wpList Try.prog ops Q (o :: rest) a w := by
  obtain ⟨i0, hi, hz0, hz1, hz2⟩ := info_parts infoLVar
  cases a1 with
  | none =>
    have hxe : xs = [] := by
      rcases hS with h | ⟨b, off, ha, _⟩
      · exact h
      · cases ha
    subst hxe
    rw [hn rfl] at hx
    refine wpList_append_own_none hgd s x 22 ho B 32 i0 2 Try.underlying22 hi v zs.length (flat zs) hs hO hx ?_
    exact h v w (by simpa using hO) (grownBy_refl w _)
  | some ad =>
    have hnews : ∀ j u, (flat xs)[j]? = some u → w.cell? (ad.add j) = some u := by
      rcases hS with h | ⟨b, off, ha, hr⟩
      · subst h; intro j u hu; simp [flat] at hu
      · have ha' : ad = ⟨b, off, none⟩ := by simpa using ha
        subst ha'
        exact SL.flat (Or.inr ⟨b, off, rfl, hr⟩)
    refine wpList_append_own _ hgd s x 22 ho B 32 i0 _ 2 16 Try.underlying22 hi hz0 hz1 hz2 rfl (by decide) v zs.length (flat zs) hs hO ad xs.length c1 (flat xs) hx (flat_length xs) hnews (flat_one xs) (by simp [maxLen]; omega) (by omega) hB ?_
    intro v' w' hown hgr _
    exact h v' w' (by unfold OR; rw [flat_append, List.length_append]; exact hown) hgr

set_option maxRecDepth 100000 in
set_option maxHeartbeats 4000000 in
theorem Concat_any (B : Nat) (xs ys : List (Int × Int)) (a1 a2 : Option Addr) (c1 c2 : Nat) (w : World) (t : TypeId) (hB : w.heap[B]? = some (.cells #[.slice a1 xs.length c1, .slice a2 ys.length c2] t (0, 0))) (hS1 : SL w a1 xs) (hS2 : SL w a2 ys) (hn1 : a1 = none → c1 = 0) (hn2 : a2 = none → c2 = 0) (hl1 : xs.length ≤ 1000) (hl2 : ys.length ≤ 1000) :
    Calls Try.prog 38 #[.slice (some ⟨B, 0, none⟩) 2 2] w fun e w' => ∃ v, e = .returned v ∧ OR w.heap.size w' v (xs ++ ys) ∧ RowKit.Below w.heap.size w w' := by
  obtain ⟨i0, hi, hz0, hz1, hz2⟩ := info_parts infoLVar
  obtain ⟨b0, b1, -, -, b4⟩ := cells2 hB
  have HB := Hid.mk hB
  have H1 := Hid.mk hS1
  have H2 := Hid.mk hS2
  have N1 := Hid.mk hn1
  have N2 := Hid.mk hn2
  clear hB hS1 hS2 hn1 hn2
  go_enter Try.func38, Try.ntmps38
  go_wp2
  refine wp_loop_rounds 3 ?_
  rw [rounds_succ]
  go_wp2
  rw [rounds_succ]
  go_wp2
  rw [rounds_succ]
  go_wp2_with fail
  refine (Grow_any _ _ _ hl1 hl2).mono ?_
  rintro e w1 ⟨av, cv, rfl, hO, hg⟩
  have hz := hg.below.size
  have HO := Hid.mk hO
  have HG := Hid.mk hg
  have HS1 := Hid.mk (H1.out.below hg.below)
  have q0 := (hg.below.cell (p := ⟨B, 0, none⟩) b4).trans b0
  have q1 := (hg.below.cell (p := ⟨B, 1, none⟩) b4).trans b1
  clear hO hg b0 b1
  go_wp2
  refine wp_loop_rounds 3 ?_
  rw [rounds_succ]
  go_wp2_with (at_builtin; refine wpList_app rfl _ _ rfl w.heap.size _ [] xs a1 c1 rfl rfl HO.out HS1.out N1.out (by simp; omega) hz ?_; intro v2 w2 hO2 hgr2; have hB2 : RowKit.Below w.heap.size w1 w2 := (Below.refl _ _).grown hgr2 hz (fun k e => (World.ownsRow.lt HO.out k e).1); have hz2 := hB2.size; have r1 := (hB2.cell (p := ⟨B, 1, none⟩) b4).trans q1; have HO2 := Hid.mk hO2; have HB2 := Hid.mk (HG.out.below.trans hB2); clear hO2 hgr2 hB2 q0 q1)
  rw [rounds_succ]
  have HS2 := Hid.mk (H2.out.below HB2.out)
  go_wp2_with (at_builtin; refine wpList_app rfl _ _ rfl w.heap.size _ ([] ++ xs) ys a2 c2 rfl rfl HO2.out HS2.out N2.out (by simp; omega) (by omega) ?_; intro v3 w3 hO3 hgr3; have hB3 : RowKit.Below w.heap.size w2 w3 := (Below.refl _ _).grown hgr3 (by omega) (fun k e => (World.ownsRow.lt HO2.out k e).1); have HO3 := Hid.mk hO3; have HB3 := Hid.mk (HB2.out.trans hB3); clear hO3 hgr3 hB3)
  rw [rounds_succ]
  go_wp2
  go_ret
  exact ⟨_, rfl, HO3.out, HB3.out⟩
end Go.Proofs.Ytphemmifckdjjaa
