/- The contract of telamonref1.right. -/
import Derived.Test.YtbgkeomlfdmkeaaX
namespace Go.Proofs.Ytbgkeomlfdmkeaa
open Go.RowKit Go.Sort

theorem inR_no {x : Int} (h : inR x = false) : x < 0 ∨ 1000 < x := by simp [inR] at h; omega
theorem inR_yes {x : Int} (h : inR x = true) : 0 ≤ x ∧ x ≤ 1000 := by simpa [inR] using h

set_option maxHeartbeats 2000000 in
theorem rright_any (n : Int) (xs : List (Int × Int)) (a : Option Addr) (cap : Nat) (w : World) (hS : SL w a xs) (hn : xs.length ≤ 35184372088832) :
    Calls Try.prog 82 #[.agg #[.int .i64 n, .slice a xs.length cap]] w fun e w' => e = .returned (.bool (rightB n xs)) ∧ Grew w w' := by
  have HS := Hid.mk hS
  clear hS
  by_cases hlen : xs.length ≤ 64
  · cases hN : inR n
    · have HE : Hid (rightB n xs = false) := by unfold Hid; simp [rightB, hN]
      rcases inR_no hN with h | h
      all_goals
        clear hN
        go_enter Try.func82, Try.ntmps82
        go_wp2
        go_ret
        exact ⟨by rw [HE.out]; rfl, (Grew.refl _).alloc _⟩
    · obtain ⟨hn0, hn1⟩ := inR_yes hN
      have HN := Hid.mk hN
      clear hN
      go_enter Try.func82, Try.ntmps82
      go_wp2
      go_loopw [3] (fun i wr => ∃ k : Nat, k ≤ xs.length ∧ i = .int .i64 k ∧ Grew (w.alloc (.cells #[.int .i64 n, .slice a xs.length cap] 43)) wr ∧ (xs.take k).all (fun p => inR p.1 && inR p.2) = true) (fun i _ => xs.length - (intOf i).toNat)
      case atStart => exact ⟨0, Nat.zero_le _, rfl, Grew.refl _, by simp⟩
      case round =>
        obtain ⟨k, hk, rfl, hb, hall⟩ := hrel
        have HA := Hid.mk hall
        clear hall
        obtain ⟨q0, q1, -, -, q4⟩ := cells2 ((hb.below.block w.heap.size (by simp)).trans (alloc_new _ _))
        have hgw : Grew w wr := ((Grew.refl w).alloc _).trans hb
        by_cases hlt : k < xs.length
        · obtain ⟨b, off, x, y, rfl, hbl, hc0, hc1, hxy⟩ := (HS.out.below hgw.below).at hlt
          cases hx : inR x && inR y
          · have HE : Hid (rightB n xs = false) := by unfold Hid; simp [rightB, all_no (p := fun p => inR p.1 && inR p.2) hxy.out hx]
            have hbad : x < 0 ∨ 1000 < x ∨ (0 ≤ x ∧ x ≤ 1000 ∧ y < 0) ∨ (0 ≤ x ∧ x ≤ 1000 ∧ 1000 < y) := by
              simp [inR] at hx; omega
            clear hx
            rcases hbad with h | h | ⟨h0, h1, h⟩ | ⟨h0, h1, h⟩
            all_goals
              go_wp2
              go_ret
              exact ⟨by rw [HE.out]; rfl, hgw.alloc _⟩
          · have H1 := Hid.mk hx
            obtain ⟨h1, h2⟩ : (0 ≤ x ∧ x ≤ 1000) ∧ (0 ≤ y ∧ y ≤ 1000) := by simpa [inR] using hx
            obtain ⟨h10, h11⟩ := h1
            obtain ⟨h20, h21⟩ := h2
            clear hx
            go_wp2
            refine ⟨⟨k + 1, hlt, by go_num, hb.alloc _, by rw [take_all hxy.out, HA.out]; simpa using H1.out⟩, by simp [intOf]; omega⟩
        · go_wp2
          go_ret
          have hk' : k = xs.length := by omega
          subst hk'
          have hA := HA.out
          rw [List.take_length] at hA
          exact ⟨by simp only [rightB, HN.out, hA]; simp [hlen], hgw⟩
  · have HE : Hid (rightB n xs = false) := by unfold Hid; simp [rightB, hlen]
    rcases (show n < 0 ∨ 1000 < n ∨ (0 ≤ n ∧ n ≤ 1000) by omega) with h | h | ⟨h0, h1⟩
    all_goals
      go_enter Try.func82, Try.ntmps82
      go_wp2
      go_ret
      exact ⟨by rw [HE.out]; rfl, (Grew.refl _).alloc _⟩
end Go.Proofs.Ytbgkeomlfdmkeaa
