/- The contract of slices.SortFunc with the first closure of level.gathered. -/
import Derived.Test.YtmmbnimehmfadaaE
import Derived.Test.YtmmbnimehmfadaaS
import Derived.Laws.AppendOwnNone
namespace Go.Proofs.Ytmmbnimehmfadaa
open Go.RowKit Go.Sort Go.Shelf Go.Lib

def encP (p : Int × Int) : List Value := [.int .i64 p.1, .int .i64 p.2]

theorem lt_iff (x y : Int × Int) : ltOf cmpP x y = true ↔ (x.1 < y.1 ∨ (x.1 = y.1 ∧ y.2 < x.2)) := by
  unfold ltOf cmpP cmpI
  rw [decide_eq_true_iff]
  by_cases h : x.1 = y.1
  · rw [if_pos h]; split
    · omega
    · split <;> omega
  · rw [if_neg h]; split
    · omega
    · split <;> omega

theorem lt_false (x y : Int × Int) : ltOf cmpP x y = false ↔ ¬ (x.1 < y.1 ∨ (x.1 = y.1 ∧ y.2 < x.2)) := by
  rw [← lt_iff]; simp

theorem swoP : SWO (ltOf cmpP) where
  irrefl x := by rw [lt_false]; omega
  trans x y z h1 h2 := by rw [lt_iff] at *; omega
  ntrans x y z h1 h2 := by rw [lt_false] at *; omega

theorem totP (x y : Int × Int) (h1 : ltOf cmpP x y = false) (h2 : ltOf cmpP y x = false) : x = y := by
  rw [lt_false] at *; exact Prod.ext (by omega) (by omega)

/-- the pairs, sorted -/
def srt (xs : List (Int × Int)) : List (Int × Int) := xs.mergeSort fun x y => !ltOf cmpP y x

theorem srt_perm (xs : List (Int × Int)) : (srt xs).Perm xs := List.mergeSort_perm _ _

theorem flatK_get (xs : List (Int × Int)) (j : Nat) (hj : j < xs.length * 2) : (flat xs)[j]? = some (flatK encP 2 xs.toArray)[j]! := by
  rw [get_flatK encP 2 xs.toArray j (by simpa using hj)]
  have hk : j / 2 < xs.length := by omega
  have hx : xs[j / 2]? = some (xs[j / 2].1, xs[j / 2].2) := by simp [hk]
  obtain ⟨f0, f1⟩ := flat_get xs (j / 2) _ _ hx
  have hg : xs.toArray[j / 2]! = xs[j / 2] := by simp [hk]
  rw [hg]
  rcases Nat.mod_two_eq_zero_or_one j with h | h
  · rw [h, show (flat xs)[j]? = (flat xs)[j / 2 * 2]? from congrArg (fun i => (flat xs)[i]?) (by omega), f0]; rfl
  · rw [h, show (flat xs)[j]? = (flat xs)[j / 2 * 2 + 1]? from congrArg (fun i => (flat xs)[i]?) (by omega), f1]; rfl

theorem OR.holdsK {B g cap : Nat} {w : World} {xs : List (Int × Int)} (h : OR B w (.slice (some ⟨g, 0, none⟩) xs.length cap) xs) : HoldsK encP 2 w g 0 xs.toArray := by
  intro j hj
  rw [size_flatK] at hj
  simp at hj
  rw [Nat.zero_add]
  exact ⟨by rw [World.ownsRow.cellAt h j (by omega)]; exact flatK_get xs j hj, World.ownsRow.frozenAt h j⟩

theorem OR.sorted {B g cap n : Nat} {w : World} {xs ys : List (Int × Int)} {os : Array Obj} (h : OR B w (.slice (some ⟨g, 0, none⟩) xs.length cap) xs) (hl : ys.length = xs.length) :
    OR B (sortWorldK encP 2 w g 0 n ys.toArray os) (.slice (some ⟨g, 0, none⟩) ys.length cap) ys := by
  have hH := h.holdsK
  obtain ⟨-, hgw, -, -, hcap⟩ := h.lt
  simp only at hgw
  have hh : HoldsK encP 2 (sortWorldK encP 2 w g 0 n ys.toArray os) g 0 ys.toArray := SWK.holds ⟨n, os, rfl⟩ hgw hH (by simp [hl])
  rcases h.2 with ⟨hv, _⟩ | ⟨g', cap', cur, hv, hg, hhp, hc, hm, hs, ht⟩
  · simp at hv
  · simp at hv
    obtain ⟨rfl, rfl⟩ := hv
    have hp : (sortWorldK encP 2 w g 0 n ys.toArray os).heap[g]? = some (.cells (putCells id 0 (flatK encP 2 ys.toArray) cur) 122 (0, 0)) := by
      unfold sortWorldK
      rw [heap_grow_old _ _ (by rw [size_putRowK]; exact hgw)]
      show (w.heap.modify g _)[g]? = _
      rw [Array.getElem?_modify, if_pos rfl, hhp]
      rfl
    have hsz : (putCells id 0 (flatK encP 2 ys.toArray) cur).size = cur.size := by simp [putCells]
    refine ⟨by rw [flat_length], Or.inr ⟨g, cap, _, rfl, hg, hp, by rw [hl]; exact hc, hm, by rw [hsz]; exact hs, ?_⟩⟩
    generalize putCells id 0 (flatK encP 2 ys.toArray) cur = cur' at hp hsz
    apply List.ext_getElem?
    intro j
    by_cases hj : j < ys.length * 2
    · rw [List.getElem?_take, if_pos hj, flatK_get ys j hj]
      have := (hh j (by rw [size_flatK]; simpa using hj)).1
      rw [Nat.zero_add, cell_of_row _ g j cur' _ (0, 0) hp] at this
      simpa using this
    · rw [List.getElem?_take, if_neg hj, List.getElem?_eq_none (by rw [flat_length]; omega)]

theorem below_sorted {B g n : Nat} {w : World} {d : Array (Int × Int)} {os : Array Obj} (hg : B ≤ g) (hB : B ≤ w.heap.size) : RowKit.Below B w (sortWorldK encP 2 w g 0 n d os) := by
  refine ⟨rfl, rfl, rfl, size_sortWorldK_c encP 2 w g 0 n d os, fun k hk => ?_⟩
  unfold sortWorldK
  rw [heap_grow_old _ _ (by rw [size_putRowK]; show k < w.heap.size; omega)]
  show (w.heap.modify g _)[k]? = _
  rw [Array.getElem?_modify, if_neg (by omega)]

theorem SortFunc_any (B g fb cap : Nat) (xs : List (Int × Int)) (w : World) (hO : OR B w (.slice (some ⟨g, 0, none⟩) xs.length cap) xs) (hfb : fb < B) (hfw : B ≤ w.heap.size) (hf : w.cell? ⟨fb, 0, none⟩ = some (.func (.func 77) #[] #[])) (hn : xs.length ≤ 35184372088832) :
    Calls Try.prog 78 #[.slice (some ⟨g, 0, none⟩) xs.length cap, .func (.func 79) #[] #[.pointer (some ⟨fb, 0, none⟩)]] w fun e w' =>
      e = .returned (.tuple #[]) ∧ OR B w' (.slice (some ⟨g, 0, none⟩) xs.length cap) (srt xs) ∧ RowKit.Below B w w' := by
  obtain ⟨hgB, hgw, -, -, hcap⟩ := hO.lt
  simp only at hgB hgw
  have eg : ∀ args w, (callFunc 79 args).run Try.prog w = .ok (.enter 79 args) w := enters_of Try.func79 (by kernel_rfl) rfl
  have hcmp : CmpLays Try.prog 79 #[.pointer (some ⟨fb, 0, none⟩)] encP 2 cmpP g 0 xs.toArray.size w := by
    intro m os dk hs x y
    refine (gathered1_any x.1 x.2 y.1 y.2 fb (sortWorldK encP 2 w g 0 m dk os) ?_ ?_).mono fun e w' ⟨he, hg⟩ => ⟨he, hg⟩
    · exact Nat.lt_of_lt_of_le (by omega) (size_sortWorldK_c encP 2 w g 0 m dk os)
    · rw [(below_sorted (w := w) (d := dk) (n := m) (os := os) hgB hfw).cell (p := ⟨fb, 0, none⟩) hfb]; exact hf
  have hcon := AnyQ.slices_SortFunc_total Try.sortL 2 Try.isAgg122 Try.sizeOf122 encP (fun _ => rfl) (fun x v hv => by simp [encP] at hv; rcases hv with rfl | rfl <;> rfl) cmpP swoP 79 #[.pointer (some ⟨fb, 0, none⟩)] g 0 cap xs.toArray w eg hcmp hO.holdsK hgw (by simp; omega) totP
  have e1 : xs.toArray.size = xs.length := by simp
  rw [e1] at hcon
  refine Calls.mono hcon ?_
  rintro e w' ⟨rfl, n, os, rfl⟩
  have hl : (srt xs).length = xs.length := (srt_perm xs).length_eq
  have := OR.sorted (n := n) (os := os) (ys := srt xs) hO hl
  rw [hl] at this
  exact ⟨rfl, this, below_sorted hgB hfw⟩
end Go.Proofs.Ytmmbnimehmfadaa

/- The contracts of level.gathered, level.canonical and level.Norm. -/
namespace Go.Proofs.Ytmmbnimehmfadaa
open Go.RowKit Go.Sort Go.Shelf Go.Lib

theorem infoLVar : (Try.prog.info? 122).map (fun i => (i.zero, i.size, i.bytes)) = some (some (.agg #[.int .i64 0, .int .i64 0]), 2, 16) := by kernel_rfl

theorem SL.flat {w : World} {b off : Nat} {xs : List (Int × Int)} (h : SL w (some ⟨b, off, none⟩) xs) : ∀ j u, (flat xs)[j]? = some u → w.cell? ((⟨b, off, none⟩ : Addr).add j) = some u := by
  intro j u hu
  have hj : j < xs.length * 2 := by
    rcases Nat.lt_or_ge j (xs.length * 2) with h | h
    · exact h
    · rw [List.getElem?_eq_none (by rw [flat_length]; exact h)] at hu; cases hu
  have hk : j / 2 < xs.length := by omega
  obtain ⟨b', off', x, y, ha, -, c0, c1, hx⟩ := h.at hk
  simp at ha
  obtain ⟨rfl, rfl⟩ := ha
  obtain ⟨f0, f1⟩ := flat_get xs (j / 2) x y hx.out
  have hadd : (⟨b, off, none⟩ : Addr).add j = ⟨b, off + j, none⟩ := by simp [Addr.add]
  rw [hadd]
  rcases Nat.mod_two_eq_zero_or_one j with h | h
  · rw [show (Go.Proofs.Ytmmbnimehmfadaa.flat xs)[j]? = (Go.Proofs.Ytmmbnimehmfadaa.flat xs)[j / 2 * 2]? from congrArg (fun i => (Go.Proofs.Ytmmbnimehmfadaa.flat xs)[i]?) (by omega), f0] at hu
    rw [show off + j = off + j / 2 * 2 by omega, c0]; exact hu
  · rw [show (Go.Proofs.Ytmmbnimehmfadaa.flat xs)[j]? = (Go.Proofs.Ytmmbnimehmfadaa.flat xs)[j / 2 * 2 + 1]? from congrArg (fun i => (Go.Proofs.Ytmmbnimehmfadaa.flat xs)[i]?) (by omega), f1] at hu
    rw [show off + j = off + j / 2 * 2 + 1 by omega, c1]; exact hu

theorem SortFunc_none (a : Option Addr) (cap : Nat) (fv : Value) (w : World) : Calls Try.prog 78 #[.slice a 0 cap, fv] w fun e w' => e = .returned (.tuple #[]) ∧ w' = w :=
  AnyF.slices_SortFunc_none Try.sortL a cap fv w

set_option maxHeartbeats 400000 in
theorem CompactFunc_none (a : Option Addr) (cap : Nat) (fv : Value) (w : World) : Calls Try.prog 81 #[.slice a 0 cap, fv] w fun e w' => e = .returned (.slice a 0 cap) ∧ w' = w := by
  go_enter Try.func81, Try.ntmps81
  go_wp2
  go_ret
  exact ⟨rfl, rfl⟩

set_option maxHeartbeats 800000 in
theorem gathered_none (a : Option Addr) (cap : Nat) (w : World) :
    Calls Try.prog 76 #[.slice a 0 cap, .func (.func 77) #[] #[]] w fun e w' => e = .returned (.slice none 0 0) ∧ Grew w w' := by
  cases a with
  | none =>
    go_enter Try.func76, Try.ntmps76
    go_wp2_with (first | (go_at_call 78; refine (SortFunc_none _ _ _ _).mono ?_; rintro e w' ⟨rfl, rfl⟩) | (go_at_call 81; refine (CompactFunc_none _ _ _ _).mono ?_; rintro e w' ⟨rfl, rfl⟩))
    go_ret
    exact ⟨rfl, (Grew.refl _).alloc _⟩
  | some ad =>
    go_enter Try.func76, Try.ntmps76
    go_wp2_with (first | (go_at_call 78; refine (SortFunc_none _ _ _ _).mono ?_; rintro e w' ⟨rfl, rfl⟩) | (go_at_call 81; refine (CompactFunc_none _ _ _ _).mono ?_; rintro e w' ⟨rfl, rfl⟩))
    go_ret
    exact ⟨rfl, (Grew.refl _).alloc _⟩

theorem app_new {B : Nat} {W w1 : World} {v' : Value} {xs : List (Int × Int)} (h : w1.ownsRow B 122 2 v' (([] : List (Int × Int)).length + xs.length) (flat [] ++ flat xs)) (hg : W.grownBy w1 none) (hx : 0 < xs.length) :
    ∃ g cap', v' = .slice (some ⟨g, 0, none⟩) xs.length cap' ∧ OR B w1 (.slice (some ⟨g, 0, none⟩) xs.length cap') xs ∧ RowKit.Below W.heap.size W w1 := by
  have h' : w1.ownsRow B 122 2 v' xs.length (flat xs) := by simpa [flat] using h
  rcases h'.2 with ⟨_, hn⟩ | ⟨g, cap', cur, rfl, r⟩
  · omega
  · exact ⟨g, cap', rfl, h', (Below.refl _ _).grown hg (Nat.le_refl _) (fun k e => by cases e)⟩

theorem srt_len (xs : List (Int × Int)) : (srt xs).length = xs.length := (srt_perm xs).length_eq

set_option maxHeartbeats 800000 in
theorem gathered_some (b off cap : Nat) (xs : List (Int × Int)) (w : World) (hx : 0 < xs.length) (hS : SL w (some ⟨b, off, none⟩) xs) (hn : xs.length ≤ 4398046511104) :
    Calls Try.prog 76 #[.slice (some ⟨b, off, none⟩) xs.length cap, .func (.func 77) #[] #[]] w fun e w' => ∃ v, e = .returned v ∧ OR w.heap.size w' v (dd (srt xs)) ∧ RowKit.Below w.heap.size w w' := by
  obtain ⟨i0, hi, hz0, hz1, hz2⟩ := info_parts infoLVar
  have hl := flat_length xs
  have hfl := (hS.below ((Grew.refl w).alloc (.cells #[.func (.func 77) #[] #[]] 132)).below).flat
  have hone := flat_one xs
  have h0 : OR (w.heap.size + 1) (w.alloc (.cells #[.func (.func 77) #[] #[]] 132)) (.slice none 0 0) [] := OR.nil _ _
  have HSo := fun (g cap' : Nat) (W : World) h1 h2 h3 => SortFunc_any (w.heap.size + 1) g w.heap.size cap' xs W h1 (Nat.lt_succ_self _) h2 h3 (by omega)
  have HCo := fun (g cap' : Nat) (W : World) h1 h2 h3 => CompactFunc_any (w.heap.size + 1) g w.heap.size cap' (srt xs) W h1 (Nat.lt_succ_self _) h2 h3 (by rw [srt_len]; omega)
  rw [srt_len] at HCo
  have hc0 : (w.alloc (.cells #[.func (.func 77) #[] #[]] 132)).cell? ⟨w.heap.size, 0, none⟩ = some (.func (.func 77) #[] #[]) := by simp
  have HC0 := Hid.mk hc0
  clear hS hc0
  go_enter Try.func76, Try.ntmps76
  go_wp2_with (first | (at_builtin; refine wpList_append_own _ rfl _ _ 45 rfl (w.heap.size + 1) 122 i0 (.agg #[.int .i64 0, .int .i64 0]) 2 16 Try.underlying45 hi hz0 hz1 hz2 rfl (by decide) _ _ _ rfl h0 ⟨b, off, none⟩ xs.length cap (flat xs) rfl hl hfl hone (by simp [maxLen]; omega) (by simp; omega) (by simp) ?_; intro v' w1 hown' hgrow _; obtain ⟨g, cap', rfl, hO, hB⟩ := app_new hown' hgrow hx; clear hown' hgrow hfl hone hl h0; have hc1 := (hB.cell (p := ⟨w.heap.size, 0, none⟩) (by simp)).trans HC0.out; have hz := hB.size))
  refine (HSo g cap' w1 hO (by simpa using hz) hc1).mono ?_
  rintro e w2 ⟨rfl, hO2, hB2⟩
  have hc2 := (hB2.cell (p := ⟨w.heap.size, 0, none⟩) (Nat.lt_succ_self _)).trans hc1
  have hz2 := hB2.size
  go_wp2_with fail
  refine (HCo g cap' w2 hO2 (by simp at hz; omega) hc2).mono ?_
  rintro e w3 ⟨rfl, hO3, hB3⟩
  go_wp2
  go_ret
  refine ⟨_, rfl, hO3.mono (Nat.le_succ _), ?_⟩
  have hA : RowKit.Below w.heap.size w (w.alloc (.cells #[.func (.func 77) #[] #[]] 132)) := (Below.refl _ _).alloc (Nat.le_refl _) _
  exact ((hA.trans (hB.mono (by simp))).trans (hB2.mono (Nat.le_succ _))).trans (hB3.mono (Nat.le_succ _))

/-- what gathered answers -/
def tidyL (xs : List (Int × Int)) : List (Int × Int) := dd (srt xs)

theorem tidyL_nil : tidyL [] = [] := by simp [tidyL, srt, dd]

theorem tidyL_le (xs : List (Int × Int)) : (tidyL xs).length ≤ xs.length := by
  have := dd_le (srt xs); rw [srt_len] at this; exact this

theorem gathered_any (a : Option Addr) (cap : Nat) (xs : List (Int × Int)) (w : World) (hS : SL w a xs) (hn : xs.length ≤ 4398046511104) :
    Calls Try.prog 76 #[.slice a xs.length cap, .func (.func 77) #[] #[]] w fun e w' => ∃ v, e = .returned v ∧ OR w.heap.size w' v (tidyL xs) ∧ RowKit.Below w.heap.size w w' := by
  rcases Nat.eq_zero_or_pos xs.length with h | h
  · have : xs = [] := List.length_eq_zero_iff.1 h
    subst this
    exact (gathered_none a cap w).mono fun e w' ⟨he, hg⟩ => ⟨_, he, by rw [tidyL_nil]; exact OR.nil _ _, hg.below⟩
  · have hS' := hS
    rcases hS with h0 | ⟨b, off, rfl, -⟩
    · subst h0; simp at h
    · exact gathered_some b off cap xs w h hS' hn
end Go.Proofs.Ytmmbnimehmfadaa
