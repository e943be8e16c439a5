/- The contracts of the two closures of level.gathered and of keyAndValue. -/
import Derived.Test.YtbgkeomlfdmkeaaB
import Derived.Deep.QuietTactic
import Derived.BigQuiet
namespace Go.Proofs.Ytbgkeomlfdmkeaa
open Go.RowKit Go.Sort

/-- cmp.Compare at ints -/
def cmpI (a b : Int) : Int := if a < b then -1 else if b < a then 1 else 0

set_option maxHeartbeats 400000 in
theorem Compare_any (a b : Int) (w : World) : Calls Try.prog 103 #[.int .i64 a, .int .i64 b] w fun e w' => e = .returned (.int .i64 (cmpI a b)) ∧ w' = w := by
  by_cases h1 : a < b
  · go_enter Try.func103, Try.ntmps103
    go_wp2
    go_ret
    exact ⟨by simp [cmpI, h1], rfl⟩
  · by_cases h2 : b < a
    all_goals
      go_enter Try.func103, Try.ntmps103
      go_wp2
      go_ret
      exact ⟨ret_int (by unfold cmpI; by_cases c1 : a < b <;> by_cases c2 : b < a <;> simp [c1, c2] <;> omega), rfl⟩

set_option maxHeartbeats 400000 in
theorem keyAndValue_any (x y : Int) (w : World) : Calls Try.prog 99 #[.agg #[.int .i64 x, .int .i64 y]] w fun e w' => e = .returned (.tuple #[.int .i64 x, .int .i64 y]) ∧ ∃ q, w' = (w.alloc (.cells #[.int .i64 x, .int .i64 y] 89)).drewN q := by
  go_enter Try.func99, Try.ntmps99
  go_wp2
  go_quiet (fail)
  go_wp2
  go_ret2
  exact ⟨rfl, _, rfl⟩
theorem cell3 {w : World} {p : Addr} {v : Value} (hp : p.block < w.heap.size) (h : w.cell? p = some v) : ∀ o1 o2 o3, (((w.alloc o1).alloc o2).alloc o3).cell? p = some v := fun o1 o2 o3 => by
  rw [((((Below.refl w.heap.size w).alloc (Nat.le_refl _) o1).alloc (by simp) o2).alloc (by simp; omega) o3).cell hp]; exact h
theorem cell4 {w : World} {p : Addr} {v : Value} (hp : p.block < w.heap.size) (h : w.cell? p = some v) : ∀ o1 o2 o3 o4, ((((w.alloc o1).alloc o2).alloc o3).alloc o4).cell? p = some v := fun o1 o2 o3 o4 => by
  rw [(((((Below.refl w.heap.size w).alloc (Nat.le_refl _) o1).alloc (by simp) o2).alloc (by simp; omega) o3).alloc (by simp; omega) o4).cell hp]; exact h

/-- the order by which pairs are sorted: by rising key, the greatest value first -/
def cmpP (x y : Int × Int) : Int := if x.1 = y.1 then cmpI y.2 x.2 else cmpI x.1 y.1

set_option maxHeartbeats 800000 in
theorem gathered1_any (x1 x2 y1 y2 : Int) (fb : Nat) (w : World) (hfb : fb < w.heap.size) (hc : w.cell? ⟨fb, 0, none⟩ = some (.func (.func 99) #[] #[])) :
    Calls Try.prog 102 #[.agg #[.int .i64 x1, .int .i64 x2], .agg #[.int .i64 y1, .int .i64 y2], .pointer (some ⟨fb, 0, none⟩)] w fun e w' => e = .returned (.int .i64 (cmpP (x1, x2) (y1, y2))) ∧ Grew w w' := by
  by_cases h : x1 = y1
  · have hb : (x1 != y1) = false := by simp [h]
    have HE : Hid (cmpP (x1, x2) (y1, y2) = cmpI y2 x2) := by unfold Hid cmpP; rw [if_pos h]
    clear h
    have hc3 := cell3 (p := ⟨fb, 0, none⟩) hfb hc
    go_enter Try.func102, Try.ntmps102
    go_wp2_with (first | (go_at_call 99; refine (keyAndValue_any _ _ _).mono ?_; rintro e w' ⟨rfl, q, rfl⟩) | (go_at_call 103; refine (Compare_any _ _ _).mono ?_; rintro e w' ⟨rfl, rfl⟩))
    go_ret
    exact ⟨ret_int HE.out.symm, by repeat (first | exact Grew.refl _ | refine Grew.drewN ?_ _ | refine Grew.alloc ?_ _)⟩
  · have hb : (x1 != y1) = true := by simp [h]
    have HE : Hid (cmpP (x1, x2) (y1, y2) = cmpI x1 y1) := by unfold Hid cmpP; rw [if_neg h]
    clear h
    have hc3 := cell3 (p := ⟨fb, 0, none⟩) hfb hc
    go_enter Try.func102, Try.ntmps102
    go_wp2_with (first | (go_at_call 99; refine (keyAndValue_any _ _ _).mono ?_; rintro e w' ⟨rfl, q, rfl⟩) | (go_at_call 103; refine (Compare_any _ _ _).mono ?_; rintro e w' ⟨rfl, rfl⟩))
    go_ret
    exact ⟨ret_int HE.out.symm, by repeat (first | exact Grew.refl _ | refine Grew.drewN ?_ _ | refine Grew.alloc ?_ _)⟩

set_option maxHeartbeats 800000 in
theorem gathered2_any (x1 x2 y1 y2 : Int) (fb : Nat) (w : World) (hfb : fb < w.heap.size) (hc : w.cell? ⟨fb, 0, none⟩ = some (.func (.func 99) #[] #[])) :
    Calls Try.prog 105 #[.agg #[.int .i64 x1, .int .i64 x2], .agg #[.int .i64 y1, .int .i64 y2], .pointer (some ⟨fb, 0, none⟩)] w fun e w' => e = .returned (.bool (x1 == y1)) ∧ Grew w w' := by
  have hc3 := cell3 (p := ⟨fb, 0, none⟩) hfb hc
  go_enter Try.func105, Try.ntmps105
  go_wp2_with (first | (go_at_call 99; refine (keyAndValue_any _ _ _).mono ?_; rintro e w' ⟨rfl, q, rfl⟩))
  go_ret
  exact ⟨rfl, by repeat (first | exact Grew.refl _ | refine Grew.drewN ?_ _ | refine Grew.alloc ?_ _)⟩
end Go.Proofs.Ytbgkeomlfdmkeaa
