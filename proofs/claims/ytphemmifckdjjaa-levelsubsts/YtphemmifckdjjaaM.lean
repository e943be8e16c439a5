/- The contracts of level.wrong and of slices.ContainsFunc with it. -/
import Derived.Test.YtphemmifckdjjaaL
namespace Go.Proofs.Ytphemmifckdjjaa
open Go.RowKit Go.Sort Go.Shelf Go.Lib

set_option maxHeartbeats 400000 in
theorem wrong_any (n : Int) (xs : List (Int × Int)) (a : Option Addr) (cap : Nat) (w : World) (hS : SL w a xs) (hn : xs.length ≤ 35184372088832) :
    Calls Try.prog 44 #[.agg #[.int .i64 n, .slice a xs.length cap]] w fun e w' => e = .returned (.bool (!rightB n xs)) ∧ Grew w w' := by
  have HR := right_any n xs a cap (w.alloc (.cells #[.int .i64 n, .slice a xs.length cap] 24)) (hS.below ((Grew.refl w).alloc _).below) hn
  go_enter Try.func44, Try.ntmps44
  go_wp2_with (go_at_call 33; refine HR.mono ?_; rintro e w1 ⟨rfl, hg⟩)
  go_ret
  exact ⟨rfl, ((Grew.refl _).alloc _).trans hg⟩

/-- A slice at address a holds the levels ls in world w. -/
def LL (w : World) (a : Option Addr) (ls : List (Int × List (Int × Int))) : Prop :=
  ls = [] ∨ ∃ b off, a = some ⟨b, off, none⟩ ∧ b < w.heap.size ∧ ∀ i n xs, ls[i]? = some (n, xs) → w.cell? ⟨b, off + i * 2, none⟩ = some (.int .i64 n) ∧ ∃ a' cap', w.cell? ⟨b, off + i * 2 + 1, none⟩ = some (.slice a' xs.length cap') ∧ SL w a' xs

theorem LL.below {w w' : World} {a : Option Addr} {ls : List (Int × List (Int × Int))} (h : LL w a ls) (hb : RowKit.Below w.heap.size w w') : LL w' a ls := by
  rcases h with h | ⟨b, off, ha, hlt, hc⟩
  · exact Or.inl h
  · refine Or.inr ⟨b, off, ha, Nat.lt_of_lt_of_le hlt hb.size, fun i n xs hi => ?_⟩
    obtain ⟨c0, a', cap', c1, hs⟩ := hc i n xs hi
    exact ⟨(hb.cell (p := ⟨b, off + i * 2, none⟩) hlt).trans c0, a', cap', (hb.cell (p := ⟨b, off + i * 2 + 1, none⟩) hlt).trans c1, hs.below hb⟩

theorem LL.at {w : World} {a : Option Addr} {ls : List (Int × List (Int × Int))} (h : LL w a ls) {k : Nat} (hk : k < ls.length) :
    ∃ b off n xs a' cap', a = some ⟨b, off, none⟩ ∧ b < w.heap.size ∧ w.cell? ⟨b, off + k * 2, none⟩ = some (.int .i64 n) ∧ w.cell? ⟨b, off + k * 2 + 1, none⟩ = some (.slice a' xs.length cap') ∧ SL w a' xs ∧ Hid (ls[k]? = some (n, xs)) := by
  rcases h with h | ⟨b, off, ha, hlt, hc⟩
  · subst h; simp at hk
  · have hx : ls[k]? = some (ls[k].1, ls[k].2) := by simp [hk]
    obtain ⟨c0, a', cap', c1, hs⟩ := hc k _ _ hx
    exact ⟨b, off, _, _, a', cap', ha, hlt, c0, c1, hs, hx⟩

def wrongL (l : Int × List (Int × Int)) : Bool := !rightB l.1 l.2

theorem take_any {α : Type} {p : α → Bool} {xs : List α} {k : Nat} {z : α} (h : xs[k]? = some z) : (xs.take (k + 1)).any p = ((xs.take k).any p || p z) := by
  obtain ⟨hk, rfl⟩ := List.getElem?_eq_some_iff.1 h
  rw [List.take_succ_eq_append_getElem hk, List.any_append]; simp

theorem any_yes {α : Type} {p : α → Bool} {xs : List α} {k : Nat} {z : α} (h : xs[k]? = some z) (h0 : p z = true) : xs.any p = true := by
  obtain ⟨hk, rfl⟩ := List.getElem?_eq_some_iff.1 h
  rw [List.any_eq_true]; exact ⟨xs[k], List.getElem_mem hk, h0⟩

set_option maxHeartbeats 800000 in
theorem IndexFunc_any (ls : List (Int × List (Int × Int))) (a : Option Addr) (cap : Nat) (w : World) (hS : LL w a ls) (hn : ls.length ≤ 35184372088832) (hx : ∀ l ∈ ls, l.2.length ≤ 4398046511104) :
    Calls Try.prog 52 #[.slice a ls.length cap, .func (.func 44) #[] #[]] w fun e w' => (∃ r : Int, e = .returned (.int .i64 r) ∧ decide (0 ≤ r) = ls.any wrongL) ∧ Grew w w' := by
  have HS := Hid.mk hS
  have HX := Hid.mk hx
  clear hS hx
  go_enter Try.func52, Try.ntmps52
  go_wp2
  go_loopw [8] (fun i wr => ∃ k : Nat, k ≤ ls.length ∧ i = .int .i64 k ∧ Grew w wr ∧ (ls.take k).any wrongL = false) (fun i _ => ls.length - (intOf i).toNat)
  case atStart => exact ⟨0, Nat.zero_le _, rfl, Grew.refl _, by simp⟩
  case round =>
    obtain ⟨k, hk, rfl, hb, hall⟩ := hrel
    have HA := Hid.mk hall
    clear hall
    by_cases hlt : k < ls.length
    · obtain ⟨b, off, n, xs, a', cap', rfl, hbl, hc0, hc1, hS1, hl⟩ := (HS.out.below hb.below).at hlt
      have hbb := hb.below.size
      have HW := wrong_any n xs a' cap' wr hS1 (by have := HX.out (n, xs) (List.mem_of_getElem? hl.out); simp only at this; omega)
      clear hS1
      cases h0 : wrongL (n, xs)
      · have h0' : (!rightB n xs) = false := h0
        rw [h0'] at HW
        have H0 := Hid.mk h0
        clear h0 h0'
        go_wp2_with (go_at_call 44; refine HW.mono ?_; rintro e w1 ⟨rfl, hg⟩)
        refine ⟨⟨k + 1, hlt, by go_num, hb.trans hg, ?_⟩, by simp [intOf]; omega⟩
        rw [take_any hl.out, HA.out, H0.out]; rfl
      · have h0' : (!rightB n xs) = true := h0
        rw [h0'] at HW
        have H0 := Hid.mk h0
        clear h0 h0'
        go_wp2_with (go_at_call 44; refine HW.mono ?_; rintro e w1 ⟨rfl, hg⟩)
        go_ret
        exact ⟨⟨_, rfl, by rw [any_yes hl.out H0.out]; simp⟩, hb.trans hg⟩
    · go_wp2
      go_ret
      have hk' : k = ls.length := by omega
      subst hk'
      have hA := HA.out
      rw [List.take_length] at hA
      exact ⟨⟨_, rfl, by rw [hA]; simp⟩, hb⟩

set_option maxHeartbeats 400000 in
theorem ContainsFunc_any (ls : List (Int × List (Int × Int))) (a : Option Addr) (cap : Nat) (w : World) (hS : LL w a ls) (hn : ls.length ≤ 35184372088832) (hx : ∀ l ∈ ls, l.2.length ≤ 4398046511104) :
    Calls Try.prog 43 #[.slice a ls.length cap, .func (.func 44) #[] #[]] w fun e w' => e = .returned (.bool (ls.any wrongL)) ∧ Grew w w' := by
  have HI := IndexFunc_any ls a cap w hS hn hx
  clear hS hx
  go_enter Try.func43, Try.ntmps43
  go_wp2_with (go_at_call 52; refine HI.mono ?_; rintro e w1 ⟨⟨r, rfl, hr⟩, hg⟩; have HR := Hid.mk hr; clear hr)
  go_ret
  exact ⟨by rw [← HR.out]; rfl, hg⟩
end Go.Proofs.Ytphemmifckdjjaa
