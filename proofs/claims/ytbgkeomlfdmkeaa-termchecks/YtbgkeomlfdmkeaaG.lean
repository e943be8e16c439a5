/- The contracts of level.gathered, level.canonical and level.Norm. -/
import Derived.Test.YtbgkeomlfdmkeaaF
import Derived.Laws.AppendOwnNone
namespace Go.Proofs.Ytbgkeomlfdmkeaa
open Go.RowKit Go.Sort Go.Shelf Go.Lib

theorem infoLVar : (Try.prog.info? 89).map (fun i => (i.zero, i.size, i.bytes)) = some (some (.agg #[.int .i64 0, .int .i64 0]), 2, 16) := by kernel_rfl

theorem SL.flat {w : World} {b off : Nat} {xs : List (Int × Int)} (h : SL w (some ⟨b, off, none⟩) xs) : ∀ j u, (flat xs)[j]? = some u → w.cell? ((⟨b, off, none⟩ : Addr).add j) = some u := by
  intro j u hu
  have hj : j < xs.length * 2 := by
    rcases Nat.lt_or_ge j (xs.length * 2) with h | h
    · exact h
    · rw [List.getElem?_eq_none (by rw [flat_length]; exact h)] at hu; cases hu
  have hk : j / 2 < xs.length := by omega
  obtain ⟨b', off', x, y, ha, -, c0, c1, hx⟩ := h.at hk
  simp at ha
  obtain ⟨rfl, rfl⟩ := ha
  obtain ⟨f0, f1⟩ := flat_get xs (j / 2) x y hx.out
  have hadd : (⟨b, off, none⟩ : Addr).add j = ⟨b, off + j, none⟩ := by simp [Addr.add]
  rw [hadd]
  rcases Nat.mod_two_eq_zero_or_one j with h | h
  · rw [show (Go.Proofs.Ytbgkeomlfdmkeaa.flat xs)[j]? = (Go.Proofs.Ytbgkeomlfdmkeaa.flat xs)[j / 2 * 2]? from congrArg (fun i => (Go.Proofs.Ytbgkeomlfdmkeaa.flat xs)[i]?) (by omega), f0] at hu
    rw [show off + j = off + j / 2 * 2 by omega, c0]; exact hu
  · rw [show (Go.Proofs.Ytbgkeomlfdmkeaa.flat xs)[j]? = (Go.Proofs.Ytbgkeomlfdmkeaa.flat xs)[j / 2 * 2 + 1]? from congrArg (fun i => (Go.Proofs.Ytbgkeomlfdmkeaa.flat xs)[i]?) (by omega), f1] at hu
    rw [show off + j = off + j / 2 * 2 + 1 by omega, c1]; exact hu

theorem SortFunc_none (a : Option Addr) (cap : Nat) (fv : Value) (w : World) : Calls Try.prog 101 #[.slice a 0 cap, fv] w fun e w' => e = .returned (.tuple #[]) ∧ w' = w :=
  AnyF.slices_SortFunc_none Try.sortL a cap fv w

set_option maxHeartbeats 400000 in
theorem CompactFunc_none (a : Option Addr) (cap : Nat) (fv : Value) (w : World) : Calls Try.prog 104 #[.slice a 0 cap, fv] w fun e w' => e = .returned (.slice a 0 cap) ∧ w' = w := by
  go_enter Try.func104, Try.ntmps104
  go_wp2
  go_ret
  exact ⟨rfl, rfl⟩

set_option maxHeartbeats 800000 in
theorem gathered_none (a : Option Addr) (cap : Nat) (w : World) :
    Calls Try.prog 98 #[.slice a 0 cap, .func (.func 99) #[] #[]] w fun e w' => e = .returned (.slice none 0 0) ∧ Grew w w' := by
  cases a with
  | none =>
    go_enter Try.func98, Try.ntmps98
    go_wp2_with (first | (go_at_call 101; refine (SortFunc_none _ _ _ _).mono ?_; rintro e w' ⟨rfl, rfl⟩) | (go_at_call 104; refine (CompactFunc_none _ _ _ _).mono ?_; rintro e w' ⟨rfl, rfl⟩))
    go_ret
    exact ⟨rfl, (Grew.refl _).alloc _⟩
  | some ad =>
    go_enter Try.func98, Try.ntmps98
    go_wp2_with (first | (go_at_call 101; refine (SortFunc_none _ _ _ _).mono ?_; rintro e w' ⟨rfl, rfl⟩) | (go_at_call 104; refine (CompactFunc_none _ _ _ _).mono ?_; rintro e w' ⟨rfl, rfl⟩))
    go_ret
    exact ⟨rfl, (Grew.refl _).alloc _⟩

theorem app_new {B : Nat} {W w1 : World} {v' : Value} {xs : List (Int × Int)} (h : w1.ownsRow B 89 2 v' (([] : List (Int × Int)).length + xs.length) (flat [] ++ flat xs)) (hg : W.grownBy w1 none) (hx : 0 < xs.length) :
    ∃ g cap', v' = .slice (some ⟨g, 0, none⟩) xs.length cap' ∧ OR B w1 (.slice (some ⟨g, 0, none⟩) xs.length cap') xs ∧ RowKit.Below W.heap.size W w1 := by
  have h' : w1.ownsRow B 89 2 v' xs.length (flat xs) := by simpa [flat] using h
  rcases h'.2 with ⟨_, hn⟩ | ⟨g, cap', cur, rfl, r⟩
  · omega
  · exact ⟨g, cap', rfl, h', (Below.refl _ _).grown hg (Nat.le_refl _) (fun k e => by cases e)⟩

theorem srt_len (xs : List (Int × Int)) : (srt xs).length = xs.length := (srt_perm xs).length_eq

set_option maxHeartbeats 800000 in
theorem gathered_some (b off cap : Nat) (xs : List (Int × Int)) (w : World) (hx : 0 < xs.length) (hS : SL w (some ⟨b, off, none⟩) xs) (hn : xs.length ≤ 4398046511104) :
    Calls Try.prog 98 #[.slice (some ⟨b, off, none⟩) xs.length cap, .func (.func 99) #[] #[]] w fun e w' => ∃ v, e = .returned v ∧ OR w.heap.size w' v (dd (srt xs)) ∧ RowKit.Below w.heap.size w w' := by
  obtain ⟨i0, hi, hz0, hz1, hz2⟩ := info_parts infoLVar
  have hl := flat_length xs
  have hfl := (hS.below ((Grew.refl w).alloc (.cells #[.func (.func 99) #[] #[]] 116)).below).flat
  have hone := flat_one xs
  have h0 : OR (w.heap.size + 1) (w.alloc (.cells #[.func (.func 99) #[] #[]] 116)) (.slice none 0 0) [] := OR.nil _ _
  have HSo := fun (g cap' : Nat) (W : World) h1 h2 h3 => SortFunc_any (w.heap.size + 1) g w.heap.size cap' xs W h1 (Nat.lt_succ_self _) h2 h3 (by omega)
  have HCo := fun (g cap' : Nat) (W : World) h1 h2 h3 => CompactFunc_any (w.heap.size + 1) g w.heap.size cap' (srt xs) W h1 (Nat.lt_succ_self _) h2 h3 (by rw [srt_len]; omega)
  rw [srt_len] at HCo
  have hc0 : (w.alloc (.cells #[.func (.func 99) #[] #[]] 116)).cell? ⟨w.heap.size, 0, none⟩ = some (.func (.func 99) #[] #[]) := by simp
  have HC0 := Hid.mk hc0
  clear hS hc0
  go_enter Try.func98, Try.ntmps98
  go_wp2_with (first | (at_builtin; refine wpList_append_own _ rfl _ _ 41 rfl (w.heap.size + 1) 89 i0 (.agg #[.int .i64 0, .int .i64 0]) 2 16 Try.underlying41 hi hz0 hz1 hz2 rfl (by decide) _ _ _ rfl h0 ⟨b, off, none⟩ xs.length cap (flat xs) rfl hl hfl hone (by simp [maxLen]; omega) (by simp; omega) (by simp) ?_; intro v' w1 hown' hgrow _; obtain ⟨g, cap', rfl, hO, hB⟩ := app_new hown' hgrow hx; clear hown' hgrow hfl hone hl h0; have hc1 := (hB.cell (p := ⟨w.heap.size, 0, none⟩) (by simp)).trans HC0.out; have hz := hB.size))
  refine (HSo g cap' w1 hO (by simpa using hz) hc1).mono ?_
  rintro e w2 ⟨rfl, hO2, hB2⟩
  have hc2 := (hB2.cell (p := ⟨w.heap.size, 0, none⟩) (Nat.lt_succ_self _)).trans hc1
  have hz2 := hB2.size
  go_wp2_with fail
  refine (HCo g cap' w2 hO2 (by simp at hz; omega) hc2).mono ?_
  rintro e w3 ⟨rfl, hO3, hB3⟩
  go_wp2
  go_ret
  refine ⟨_, rfl, hO3.mono (Nat.le_succ _), ?_⟩
  have hA : RowKit.Below w.heap.size w (w.alloc (.cells #[.func (.func 99) #[] #[]] 116)) := (Below.refl _ _).alloc (Nat.le_refl _) _
  exact ((hA.trans (hB.mono (by simp))).trans (hB2.mono (Nat.le_succ _))).trans (hB3.mono (Nat.le_succ _))

/-- what gathered answers -/
def tidyL (xs : List (Int × Int)) : List (Int × Int) := dd (srt xs)

theorem tidyL_nil : tidyL [] = [] := by simp [tidyL, srt, dd]

theorem tidyL_le (xs : List (Int × Int)) : (tidyL xs).length ≤ xs.length := by
  have := dd_le (srt xs); rw [srt_len] at this; exact this

theorem gathered_any (a : Option Addr) (cap : Nat) (xs : List (Int × Int)) (w : World) (hS : SL w a xs) (hn : xs.length ≤ 4398046511104) :
    Calls Try.prog 98 #[.slice a xs.length cap, .func (.func 99) #[] #[]] w fun e w' => ∃ v, e = .returned v ∧ OR w.heap.size w' v (tidyL xs) ∧ RowKit.Below w.heap.size w w' := by
  rcases Nat.eq_zero_or_pos xs.length with h | h
  · have : xs = [] := List.length_eq_zero_iff.1 h
    subst this
    exact (gathered_none a cap w).mono fun e w' ⟨he, hg⟩ => ⟨_, he, by rw [tidyL_nil]; exact OR.nil _ _, hg.below⟩
  · have hS' := hS
    rcases hS with h0 | ⟨b, off, rfl, -⟩
    · subst h0; simp at h
    · exact gathered_some b off cap xs w h hS' hn
end Go.Proofs.Ytbgkeomlfdmkeaa
