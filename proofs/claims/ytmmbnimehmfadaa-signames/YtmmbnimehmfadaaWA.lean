/- The contract of term.cut. -/
import Derived.Test.YtmmbnimehmfadaaKP
import Derived.Deep.QuietTactic
import Derived.BigQuiet
import Derived.Deep.RegionHeld3
namespace Go.Proofs.Ytmmbnimehmfadaa
open Go.RowKit Go.Sort

/-- how many kids stand ahead of a binder -/
def cutN (f : Int) (len : Nat) : Nat := if bindsB f then min len 1 else len

theorem drewN_below {B : Nat} {a w : World} (h : RowKit.Below B a w) (q : Nat) : RowKit.Below B a (w.drewN q) := ⟨h.os, h.tape, h.output, h.size, h.block⟩

set_option maxRecDepth 100000 in
set_option maxHeartbeats 1000000 in
theorem cut_plain (f n : Int) (hd : Bool) (nm : ByteArray) (lv : Value) (len kc : Nat) (ka : Option Addr) (w : World) (hkn : ka = none → kc = 0) (hkc : len ≤ kc) (hkm : kc ≤ 9223372036854775807) (hf : bindsB f = false) :
    Calls Try.prog 55 #[.agg #[.int .i64 f, .int .i64 n, .bool hd, .string nm, lv, .slice ka len kc]] w fun e w' => e = .returned (.agg #[.slice ka len len, .slice ka 0 0]) ∧ RowKit.Below w.heap.size w w' := by
  obtain ⟨h3, h4, h6⟩ : (f == 3) = false ∧ (f == 4) = false ∧ (f == 6) = false := by
    simp [bindsB] at hf; exact ⟨by simpa using hf.1.1, by simpa using hf.1.2, by simpa using hf.2⟩
  clear hf
  cases ka with
  | none =>
    obtain rfl := hkn rfl
    obtain rfl : len = 0 := by omega
    go_enter Try.func55, Try.ntmps55
    go_wp2
    go_quiet (fail)
    go_wp2
    go_region
    rename_i K hK
    refine hK _ _ ?_
    go_wp2
    refine bodyPost_ret (v := .agg #[.slice none 0 0, .slice none 0 0]) (by simp [results, Try.results55, go_sem]) rfl ⟨rfl, ?_⟩
    exact ((drewN_below (((Below.refl _ _).alloc (Nat.le_refl _) _).alloc (by simp) _) _).setCell (by simp) _).setCell (by simp) _
  | some a =>
    go_enter Try.func55, Try.ntmps55
    go_wp2
    go_quiet (fail)
    go_wp2
    go_region
    rename_i K hK
    refine hK _ _ ?_
    go_wp2
    refine bodyPost_ret (v := .agg #[.slice (some a) len len, .slice (some a) 0 0]) (by simp [results, Try.results55, go_sem]) rfl ⟨rfl, ?_⟩
    exact ((drewN_below (((Below.refl _ _).alloc (Nat.le_refl _) _).alloc (by simp) _) _).setCell (by simp) _).setCell (by simp) _

set_option maxRecDepth 100000 in
set_option maxHeartbeats 1000000 in
theorem cut_binds (f n : Int) (hd : Bool) (nm : ByteArray) (lv : Value) (len kc : Nat) (ka : Option Addr) (w : World) (hkn : ka = none → kc = 0) (hkc : len ≤ kc) (hkm : kc ≤ 9223372036854775807) (hf : bindsB f = true) :
    Calls Try.prog 55 #[.agg #[.int .i64 f, .int .i64 n, .bool hd, .string nm, lv, .slice ka len kc]] w fun e w' => ∃ a2, e = .returned (.agg #[.slice ka (min len 1) (min len 1), .slice a2 (len - min len 1) (len - min len 1)]) ∧ (∀ b o, ka = some ⟨b, o, none⟩ → 1 < len → a2 = some ⟨b, o + 6, none⟩) ∧ RowKit.Below w.heap.size w w' := by
  have hf' : (f == 3) = true ∨ (f == 3) = false ∧ (f == 4) = true ∨ (f == 3) = false ∧ (f == 4) = false ∧ (f == 6) = true := by
    simp only [bindsB] at hf
    cases h3 : (f == 3) <;> cases h4 : (f == 4) <;> simp_all
  clear hf
  cases ka with
  | none =>
    obtain rfl := hkn rfl
    obtain rfl : len = 0 := by omega
    rcases hf' with h3 | ⟨h3, h4⟩ | ⟨h3, h4, h6⟩
    all_goals
      go_enter Try.func55, Try.ntmps55
      go_wp2
      go_quiet (fail)
      go_wp2
      go_region
      rename_i K hK
      refine hK _ _ ?_
      go_wp2
      refine bodyPost_ret (v := .agg #[.slice none 0 0, .slice none 0 0]) (by simp [results, Try.results55, go_sem]) rfl ⟨none, rfl, fun _ _ h => (by cases h), ?_⟩
      exact ((drewN_below (((Below.refl _ _).alloc (Nat.le_refl _) _).alloc (by simp) _) _).setCell (by simp) _).setCell (by simp) _
  | some a =>
    rcases Nat.eq_zero_or_pos len with rfl | hp
    · rcases hf' with h3 | ⟨h3, h4⟩ | ⟨h3, h4, h6⟩
      all_goals
        go_enter Try.func55, Try.ntmps55
        go_wp2
        go_quiet (fail)
        go_wp2
        go_region
        rename_i K hK
        refine hK _ _ ?_
        go_wp2
        refine bodyPost_ret (v := .agg #[.slice (some a) 0 0, .slice (some a) 0 0]) (by simp [results, Try.results55, go_sem]) rfl ⟨some a, rfl, fun _ _ _ h => absurd h (by omega), ?_⟩
        exact ((drewN_below (((Below.refl _ _).alloc (Nat.le_refl _) _).alloc (by simp) _) _).setCell (by simp) _).setCell (by simp) _
    · rcases (show len = 1 ∨ 1 < len by omega) with rfl | h1
      · rcases hf' with h3 | ⟨h3, h4⟩ | ⟨h3, h4, h6⟩
        all_goals
          go_enter Try.func55, Try.ntmps55
          go_wp2
          go_quiet (fail)
          go_wp2
          go_region
          rename_i K hK
          refine hK _ _ ?_
          go_wp2
          refine bodyPost_ret (v := .agg #[.slice (some a) 1 1, .slice (some a) 0 0]) (by simp [results, Try.results55, go_sem]) rfl ⟨some a, rfl, fun _ _ _ h => absurd h (by omega), ?_⟩
          exact ((drewN_below (((Below.refl _ _).alloc (Nat.le_refl _) _).alloc (by simp) _) _).setCell (by simp) _).setCell (by simp) _
      · have hi : (1 : Int) < (len : Int) := by omega
        have hm : min len 1 = 1 := by omega
        rw [hm]
        clear hm
        rcases hf' with h3 | ⟨h3, h4⟩ | ⟨h3, h4, h6⟩
        all_goals
          go_enter Try.func55, Try.ntmps55
          go_wp2
          go_quiet (fail)
          go_wp2
          go_region
          rename_i K hK
          refine hK _ _ ?_
          go_wp2
          refine bodyPost_ret (v := .agg #[.slice (some a) 1 1, .slice (some (a.add 6)) (len - 1) (len - 1)]) (by simp [results, Try.results55, go_sem]) rfl ⟨some (a.add 6), rfl, fun b o h _ => (by cases h; rfl), ?_⟩
          exact ((drewN_below (((Below.refl _ _).alloc (Nat.le_refl _) _).alloc (by simp) _) _).setCell (by simp) _).setCell (by simp) _

theorem cut_any (f n : Int) (hd : Bool) (nm : ByteArray) (lv : Value) (len kc : Nat) (ka : Option Addr) (w : World) (hkn : ka = none → kc = 0) (hkc : len ≤ kc) (hkm : kc ≤ 9223372036854775807) :
    Calls Try.prog 55 #[.agg #[.int .i64 f, .int .i64 n, .bool hd, .string nm, lv, .slice ka len kc]] w fun e w' => ∃ a2, e = .returned (.agg #[.slice ka (cutN f len) (cutN f len), .slice a2 (len - cutN f len) (len - cutN f len)]) ∧ (∀ b o, ka = some ⟨b, o, none⟩ → cutN f len < len → a2 = some ⟨b, o + cutN f len * 6, none⟩) ∧ RowKit.Below w.heap.size w w' := by
  cases hf : bindsB f
  · have e : cutN f len = len := by simp [cutN, hf]
    rw [e, Nat.sub_self]
    exact (cut_plain f n hd nm lv len kc ka w hkn hkc hkm hf).mono fun e w' ⟨h1, h2⟩ => ⟨ka, h1, fun _ _ _ h => absurd h (by omega), h2⟩
  · have e : cutN f len = min len 1 := by simp [cutN, hf]
    rw [e]
    refine (cut_binds f n hd nm lv len kc ka w hkn hkc hkm hf).mono fun e w' ⟨a2, h1, h2, h3⟩ => ⟨a2, h1, fun b o hk hl => ?_, h3⟩
    have h1' : 1 < len := by omega
    rw [h2 b o hk h1', show min len 1 = 1 by omega]
end Go.Proofs.Ytmmbnimehmfadaa
