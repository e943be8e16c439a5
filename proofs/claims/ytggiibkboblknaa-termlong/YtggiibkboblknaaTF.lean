/- The contracts of telamonref1.Binds, telamonref1.kids and telamonref1.free. -/
import Derived.Test.YtggiibkboblknaaTE
namespace Go.Proofs.Ytggiibkboblknaa
open Go.RowKit Go.Sort

/-- does a form bind a variable in its second kid? -/
def bindsB (f : Int) : Bool := f == 3 || f == 4 || f == 6

set_option maxHeartbeats 800000 in
theorem Binds_any (f : Int) (w : World) : Calls Try.prog 65 #[.int .i64 f] w fun e w' => e = .returned (.bool (bindsB f)) ∧ w' = w := by
  rcases (show f = 3 ∨ f = 4 ∨ f = 6 ∨ (f ≠ 3 ∧ f ≠ 4 ∧ f ≠ 6) by omega) with h | h | h | ⟨h1, h2, h3⟩
  · subst h
    go_enter Try.func65, Try.ntmps65
    go_wp2
    go_ret
    exact ⟨rfl, rfl⟩
  · subst h
    go_enter Try.func65, Try.ntmps65
    go_wp2
    go_ret
    exact ⟨rfl, rfl⟩
  · subst h
    go_enter Try.func65, Try.ntmps65
    go_wp2
    go_ret
    exact ⟨rfl, rfl⟩
  · have e1 : (f == 3) = false := by simp [h1]
    have e2 : (f == 4) = false := by simp [h2]
    have e3 : (f == 6) = false := by simp [h3]
    have HE : Hid (bindsB f = false) := by unfold Hid bindsB; rw [e1, e2, e3]; rfl
    clear h1 h2 h3
    go_enter Try.func65, Try.ntmps65
    go_wp2
    go_ret
    exact ⟨by rw [HE.out]; rfl, rfl⟩

/-- how many kids a form has; -1: it is none -/
def kidsR (f : Int) : Int := if f = 1 ∨ f = 2 ∨ f = 10 ∨ f = 11 then 0 else if f = 8 ∨ f = 9 then 1 else if f = 3 ∨ f = 4 ∨ f = 5 ∨ f = 6 then 2 else if f = 7 then 3 else -1

set_option maxHeartbeats 2000000 in
theorem kids_any (f : Int) (w : World) : Calls Try.prog 63 #[.int .i64 f] w fun e w' => e = .returned (.int .i64 (kidsR f)) ∧ w' = w := by
  by_cases hin : 1 ≤ f ∧ f ≤ 11
  · obtain ⟨k, rfl⟩ := Int.eq_ofNat_of_zero_le (show 0 ≤ f by omega)
    have hk : k = 1 ∨ k = 2 ∨ k = 3 ∨ k = 4 ∨ k = 5 ∨ k = 6 ∨ k = 7 ∨ k = 8 ∨ k = 9 ∨ k = 10 ∨ k = 11 := by omega
    clear hin
    rcases hk with rfl | rfl | rfl | rfl | rfl | rfl | rfl | rfl | rfl | rfl | rfl
    all_goals
      go_enter Try.func63, Try.ntmps63
      go_wp2
      go_ret
      exact ⟨rfl, rfl⟩
  · have HE : Hid (kidsR f = -1) := by unfold Hid kidsR; rw [if_neg (by omega), if_neg (by omega), if_neg (by omega), if_neg (by omega)]
    have e : ∀ k : Int, 1 ≤ k → k ≤ 11 → (f == k) = false := fun k h1 h2 => by simp; omega
    have e1 := e 1 (by decide) (by decide)
    have e2 := e 2 (by decide) (by decide)
    have e3 := e 3 (by decide) (by decide)
    have e4 := e 4 (by decide) (by decide)
    have e5 := e 5 (by decide) (by decide)
    have e6 := e 6 (by decide) (by decide)
    have e7 := e 7 (by decide) (by decide)
    have e8 := e 8 (by decide) (by decide)
    have e9 := e 9 (by decide) (by decide)
    have e10 := e 10 (by decide) (by decide)
    have e11 := e 11 (by decide) (by decide)
    clear e hin
    go_enter Try.func63, Try.ntmps63
    go_wp2
    go_ret
    exact ⟨by rw [HE.out]; rfl, rfl⟩
end Go.Proofs.Ytggiibkboblknaa
