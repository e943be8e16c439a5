/- The contract of slices.SortFunc with the first closure of level.gathered. -/
import Derived.Test.YtbgkeomlfdmkeaaE
import Derived.Test.YtbgkeomlfdmkeaaS
namespace Go.Proofs.Ytbgkeomlfdmkeaa
open Go.RowKit Go.Sort Go.Shelf Go.Lib

def encP (p : Int × Int) : List Value := [.int .i64 p.1, .int .i64 p.2]

theorem lt_iff (x y : Int × Int) : ltOf cmpP x y = true ↔ (x.1 < y.1 ∨ (x.1 = y.1 ∧ y.2 < x.2)) := by
  unfold ltOf cmpP cmpI
  rw [decide_eq_true_iff]
  by_cases h : x.1 = y.1
  · rw [if_pos h]; split
    · omega
    · split <;> omega
  · rw [if_neg h]; split
    · omega
    · split <;> omega

theorem lt_false (x y : Int × Int) : ltOf cmpP x y = false ↔ ¬ (x.1 < y.1 ∨ (x.1 = y.1 ∧ y.2 < x.2)) := by
  rw [← lt_iff]; simp

theorem swoP : SWO (ltOf cmpP) where
  irrefl x := by rw [lt_false]; omega
  trans x y z h1 h2 := by rw [lt_iff] at *; omega
  ntrans x y z h1 h2 := by rw [lt_false] at *; omega

theorem totP (x y : Int × Int) (h1 : ltOf cmpP x y = false) (h2 : ltOf cmpP y x = false) : x = y := by
  rw [lt_false] at *; exact Prod.ext (by omega) (by omega)

/-- the pairs, sorted -/
def srt (xs : List (Int × Int)) : List (Int × Int) := xs.mergeSort fun x y => !ltOf cmpP y x

theorem srt_perm (xs : List (Int × Int)) : (srt xs).Perm xs := List.mergeSort_perm _ _

theorem srt_pw (xs : List (Int × Int)) : (srt xs).Pairwise fun x y => x.1 < y.1 ∨ (x.1 = y.1 ∧ y.2 ≤ x.2) := by
  have h := List.pairwise_mergeSort (le := fun x y => !ltOf cmpP y x) (fun a b c h1 h2 => by simp [lt_false] at *; omega) (fun a b => by simp [lt_false]; omega) xs
  refine h.imp fun {a b} h => ?_
  simp [lt_false] at h
  omega

theorem flatK_get (xs : List (Int × Int)) (j : Nat) (hj : j < xs.length * 2) : (flat xs)[j]? = some (flatK encP 2 xs.toArray)[j]! := by
  rw [get_flatK encP 2 xs.toArray j (by simpa using hj)]
  have hk : j / 2 < xs.length := by omega
  have hx : xs[j / 2]? = some (xs[j / 2].1, xs[j / 2].2) := by simp [hk]
  obtain ⟨f0, f1⟩ := flat_get xs (j / 2) _ _ hx
  have hg : xs.toArray[j / 2]! = xs[j / 2] := by simp [hk]
  rw [hg]
  rcases Nat.mod_two_eq_zero_or_one j with h | h
  · rw [h, show (flat xs)[j]? = (flat xs)[j / 2 * 2]? from congrArg (fun i => (flat xs)[i]?) (by omega), f0]; rfl
  · rw [h, show (flat xs)[j]? = (flat xs)[j / 2 * 2 + 1]? from congrArg (fun i => (flat xs)[i]?) (by omega), f1]; rfl

theorem OR.holdsK {B g cap : Nat} {w : World} {xs : List (Int × Int)} (h : OR B w (.slice (some ⟨g, 0, none⟩) xs.length cap) xs) : HoldsK encP 2 w g 0 xs.toArray := by
  intro j hj
  rw [size_flatK] at hj
  simp at hj
  rw [Nat.zero_add]
  exact ⟨by rw [World.ownsRow.cellAt h j (by omega)]; exact flatK_get xs j hj, World.ownsRow.frozenAt h j⟩

theorem OR.sorted {B g cap n : Nat} {w : World} {xs ys : List (Int × Int)} {os : Array Obj} (h : OR B w (.slice (some ⟨g, 0, none⟩) xs.length cap) xs) (hl : ys.length = xs.length) :
    OR B (sortWorldK encP 2 w g 0 n ys.toArray os) (.slice (some ⟨g, 0, none⟩) ys.length cap) ys := by
  have hH := h.holdsK
  obtain ⟨-, hgw, -, -, hcap⟩ := h.lt
  simp only at hgw
  have hh : HoldsK encP 2 (sortWorldK encP 2 w g 0 n ys.toArray os) g 0 ys.toArray := SWK.holds ⟨n, os, rfl⟩ hgw hH (by simp [hl])
  rcases h.2 with ⟨hv, _⟩ | ⟨g', cap', cur, hv, hg, hhp, hc, hm, hs, ht⟩
  · simp at hv
  · simp at hv
    obtain ⟨rfl, rfl⟩ := hv
    have hp : (sortWorldK encP 2 w g 0 n ys.toArray os).heap[g]? = some (.cells (putCells id 0 (flatK encP 2 ys.toArray) cur) 89 (0, 0)) := by
      unfold sortWorldK
      rw [heap_grow_old _ _ (by rw [size_putRowK]; exact hgw)]
      show (w.heap.modify g _)[g]? = _
      rw [Array.getElem?_modify, if_pos rfl, hhp]
      rfl
    have hsz : (putCells id 0 (flatK encP 2 ys.toArray) cur).size = cur.size := by simp [putCells]
    refine ⟨by rw [flat_length], Or.inr ⟨g, cap, _, rfl, hg, hp, by rw [hl]; exact hc, hm, by rw [hsz]; exact hs, ?_⟩⟩
    generalize putCells id 0 (flatK encP 2 ys.toArray) cur = cur' at hp hsz
    apply List.ext_getElem?
    intro j
    by_cases hj : j < ys.length * 2
    · rw [List.getElem?_take, if_pos hj, flatK_get ys j hj]
      have := (hh j (by rw [size_flatK]; simpa using hj)).1
      rw [Nat.zero_add, cell_of_row _ g j cur' _ (0, 0) hp] at this
      simpa using this
    · rw [List.getElem?_take, if_neg hj, List.getElem?_eq_none (by rw [flat_length]; omega)]

theorem below_sorted {B g n : Nat} {w : World} {d : Array (Int × Int)} {os : Array Obj} (hg : B ≤ g) (hB : B ≤ w.heap.size) : RowKit.Below B w (sortWorldK encP 2 w g 0 n d os) := by
  refine ⟨rfl, rfl, rfl, size_sortWorldK_c encP 2 w g 0 n d os, fun k hk => ?_⟩
  unfold sortWorldK
  rw [heap_grow_old _ _ (by rw [size_putRowK]; show k < w.heap.size; omega)]
  show (w.heap.modify g _)[k]? = _
  rw [Array.getElem?_modify, if_neg (by omega)]

theorem SortFunc_any (B g fb cap : Nat) (xs : List (Int × Int)) (w : World) (hO : OR B w (.slice (some ⟨g, 0, none⟩) xs.length cap) xs) (hfb : fb < B) (hfw : B ≤ w.heap.size) (hf : w.cell? ⟨fb, 0, none⟩ = some (.func (.func 99) #[] #[])) (hn : xs.length ≤ 35184372088832) :
    Calls Try.prog 101 #[.slice (some ⟨g, 0, none⟩) xs.length cap, .func (.func 102) #[] #[.pointer (some ⟨fb, 0, none⟩)]] w fun e w' =>
      e = .returned (.tuple #[]) ∧ OR B w' (.slice (some ⟨g, 0, none⟩) xs.length cap) (srt xs) ∧ RowKit.Below B w w' := by
  obtain ⟨hgB, hgw, -, -, hcap⟩ := hO.lt
  simp only at hgB hgw
  have eg : ∀ args w, (callFunc 102 args).run Try.prog w = .ok (.enter 102 args) w := enters_of Try.func102 (by kernel_rfl) rfl
  have hcmp : CmpLays Try.prog 102 #[.pointer (some ⟨fb, 0, none⟩)] encP 2 cmpP g 0 xs.toArray.size w := by
    intro m os dk hs x y
    refine (gathered1_any x.1 x.2 y.1 y.2 fb (sortWorldK encP 2 w g 0 m dk os) ?_ ?_).mono fun e w' ⟨he, hg⟩ => ⟨he, hg⟩
    · exact Nat.lt_of_lt_of_le (by omega) (size_sortWorldK_c encP 2 w g 0 m dk os)
    · rw [(below_sorted (w := w) (d := dk) (n := m) (os := os) hgB hfw).cell (p := ⟨fb, 0, none⟩) hfb]; exact hf
  have hcon := AnyQ.slices_SortFunc_total Try.sortL 2 Try.isAgg89 Try.sizeOf89 encP (fun _ => rfl) (fun x v hv => by simp [encP] at hv; rcases hv with rfl | rfl <;> rfl) cmpP swoP 102 #[.pointer (some ⟨fb, 0, none⟩)] g 0 cap xs.toArray w eg hcmp hO.holdsK hgw (by simp; omega) totP
  have e1 : xs.toArray.size = xs.length := by simp
  rw [e1] at hcon
  refine Calls.mono hcon ?_
  rintro e w' ⟨rfl, n, os, rfl⟩
  have hl : (srt xs).length = xs.length := (srt_perm xs).length_eq
  have := OR.sorted (n := n) (os := os) (ys := srt xs) hO hl
  rw [hl] at this
  exact ⟨rfl, this, below_sorted hgB hfw⟩
end Go.Proofs.Ytbgkeomlfdmkeaa
