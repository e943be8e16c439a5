/- The contracts of level.value, level.Eval, level.greatestAdd and level.Bound. -/
import Derived.Test.YtmmbnimehmfadaaA
import Derived.Deep.QuietTactic
import Derived.BigQuiet
namespace Go.Proofs.Ytmmbnimehmfadaa
open Go.RowKit Go.Sort

theorem ret_int {k : IntKind} {a b : Int} (h : a = b) : Ending.returned (.int k a) = .returned (.int k b) := by rw [h]

theorem right_n {n : Int} {xs : List (Int × Int)} (h : rightB n xs = true) : 0 ≤ n ∧ n ≤ 1000 ∧ xs.length ≤ 64 := by
  simp only [rightB, Bool.and_eq_true, inR, decide_eq_true_eq] at h; omega

end Go.Proofs.Ytmmbnimehmfadaa

/- The contracts of the two closures of level.gathered and of keyAndValue. -/
namespace Go.Proofs.Ytmmbnimehmfadaa
open Go.RowKit Go.Sort

/-- cmp.Compare at ints -/
def cmpI (a b : Int) : Int := if a < b then -1 else if b < a then 1 else 0

set_option maxHeartbeats 400000 in
theorem Compare_any (a b : Int) (w : World) : Calls Try.prog 80 #[.int .i64 a, .int .i64 b] w fun e w' => e = .returned (.int .i64 (cmpI a b)) ∧ w' = w := by
  by_cases h1 : a < b
  · go_enter Try.func80, Try.ntmps80
    go_wp2
    go_ret
    exact ⟨by simp [cmpI, h1], rfl⟩
  · by_cases h2 : b < a
    all_goals
      go_enter Try.func80, Try.ntmps80
      go_wp2
      go_ret
      exact ⟨ret_int (by unfold cmpI; by_cases c1 : a < b <;> by_cases c2 : b < a <;> simp [c1, c2] <;> omega), rfl⟩

set_option maxHeartbeats 400000 in
theorem keyAndValue_any (x y : Int) (w : World) : Calls Try.prog 77 #[.agg #[.int .i64 x, .int .i64 y]] w fun e w' => e = .returned (.tuple #[.int .i64 x, .int .i64 y]) ∧ ∃ q, w' = (w.alloc (.cells #[.int .i64 x, .int .i64 y] 122)).drewN q := by
  go_enter Try.func77, Try.ntmps77
  go_wp2
  go_quiet (fail)
  go_wp2
  go_ret2
  exact ⟨rfl, _, rfl⟩
theorem cell3 {w : World} {p : Addr} {v : Value} (hp : p.block < w.heap.size) (h : w.cell? p = some v) : ∀ o1 o2 o3, (((w.alloc o1).alloc o2).alloc o3).cell? p = some v := fun o1 o2 o3 => by
  rw [((((Below.refl w.heap.size w).alloc (Nat.le_refl _) o1).alloc (by simp) o2).alloc (by simp; omega) o3).cell hp]; exact h
/-- the order by which pairs are sorted: by rising key, the greatest value first -/
def cmpP (x y : Int × Int) : Int := if x.1 = y.1 then cmpI y.2 x.2 else cmpI x.1 y.1

set_option maxHeartbeats 800000 in
theorem gathered1_any (x1 x2 y1 y2 : Int) (fb : Nat) (w : World) (hfb : fb < w.heap.size) (hc : w.cell? ⟨fb, 0, none⟩ = some (.func (.func 77) #[] #[])) :
    Calls Try.prog 79 #[.agg #[.int .i64 x1, .int .i64 x2], .agg #[.int .i64 y1, .int .i64 y2], .pointer (some ⟨fb, 0, none⟩)] w fun e w' => e = .returned (.int .i64 (cmpP (x1, x2) (y1, y2))) ∧ Grew w w' := by
  by_cases h : x1 = y1
  · have hb : (x1 != y1) = false := by simp [h]
    have HE : Hid (cmpP (x1, x2) (y1, y2) = cmpI y2 x2) := by unfold Hid cmpP; rw [if_pos h]
    clear h
    have hc3 := cell3 (p := ⟨fb, 0, none⟩) hfb hc
    go_enter Try.func79, Try.ntmps79
    go_wp2_with (first | (go_at_call 77; refine (keyAndValue_any _ _ _).mono ?_; rintro e w' ⟨rfl, q, rfl⟩) | (go_at_call 80; refine (Compare_any _ _ _).mono ?_; rintro e w' ⟨rfl, rfl⟩))
    go_ret
    exact ⟨ret_int HE.out.symm, by repeat (first | exact Grew.refl _ | refine Grew.drewN ?_ _ | refine Grew.alloc ?_ _)⟩
  · have hb : (x1 != y1) = true := by simp [h]
    have HE : Hid (cmpP (x1, x2) (y1, y2) = cmpI x1 y1) := by unfold Hid cmpP; rw [if_neg h]
    clear h
    have hc3 := cell3 (p := ⟨fb, 0, none⟩) hfb hc
    go_enter Try.func79, Try.ntmps79
    go_wp2_with (first | (go_at_call 77; refine (keyAndValue_any _ _ _).mono ?_; rintro e w' ⟨rfl, q, rfl⟩) | (go_at_call 80; refine (Compare_any _ _ _).mono ?_; rintro e w' ⟨rfl, rfl⟩))
    go_ret
    exact ⟨ret_int HE.out.symm, by repeat (first | exact Grew.refl _ | refine Grew.drewN ?_ _ | refine Grew.alloc ?_ _)⟩

set_option maxHeartbeats 800000 in
theorem gathered2_any (x1 x2 y1 y2 : Int) (fb : Nat) (w : World) (hfb : fb < w.heap.size) (hc : w.cell? ⟨fb, 0, none⟩ = some (.func (.func 77) #[] #[])) :
    Calls Try.prog 82 #[.agg #[.int .i64 x1, .int .i64 x2], .agg #[.int .i64 y1, .int .i64 y2], .pointer (some ⟨fb, 0, none⟩)] w fun e w' => e = .returned (.bool (x1 == y1)) ∧ Grew w w' := by
  have hc3 := cell3 (p := ⟨fb, 0, none⟩) hfb hc
  go_enter Try.func82, Try.ntmps82
  go_wp2_with (first | (go_at_call 77; refine (keyAndValue_any _ _ _).mono ?_; rintro e w' ⟨rfl, q, rfl⟩))
  go_ret
  exact ⟨rfl, by repeat (first | exact Grew.refl _ | refine Grew.drewN ?_ _ | refine Grew.alloc ?_ _)⟩
end Go.Proofs.Ytmmbnimehmfadaa

/- Slices of pairs in memory of the call's own. -/
namespace Go.Proofs.Ytmmbnimehmfadaa
open Go.RowKit Go.Sort

/-- the cells of a list of pairs -/
def flat : List (Int × Int) → List Value
  | [] => []
  | p :: r => .int .i64 p.1 :: .int .i64 p.2 :: flat r

theorem flat_length : ∀ xs : List (Int × Int), (flat xs).length = xs.length * 2
  | [] => rfl
  | _ :: r => by simp [flat, flat_length r]; omega

theorem flat_get : ∀ (xs : List (Int × Int)) (k : Nat) (x y : Int), xs[k]? = some (x, y) → (flat xs)[k * 2]? = some (.int .i64 x) ∧ (flat xs)[k * 2 + 1]? = some (.int .i64 y)
  | [], _, _, _, h => by simp at h
  | p :: r, 0, x, y, h => by simp at h; subst h; simp [flat]
  | p :: r, k + 1, x, y, h => by
    have := flat_get r k x y (by simpa using h)
    rw [show (k + 1) * 2 = k * 2 + 1 + 1 by omega]
    simpa [flat] using this

theorem flat_set : ∀ (xs : List (Int × Int)) (k : Nat) (x y : Int), ((flat xs).set (k * 2) (.int .i64 x)).set (k * 2 + 1) (.int .i64 y) = flat (xs.set k (x, y))
  | [], _, _, _ => by simp [flat]
  | p :: r, 0, x, y => by simp [flat]
  | p :: r, k + 1, x, y => by
    rw [show (k + 1) * 2 = k * 2 + 1 + 1 by omega]
    simp [flat, flat_set r k x y]

theorem flat_take : ∀ (xs : List (Int × Int)) (k : Nat), (flat xs).take (k * 2) = flat (xs.take k)
  | [], _ => by simp [flat]
  | p :: r, 0 => by simp [flat]
  | p :: r, k + 1 => by
    rw [show (k + 1) * 2 = k * 2 + 1 + 1 by omega]
    simp [flat, flat_take r k]

theorem flat_one (xs : List (Int × Int)) : ∀ u ∈ flat xs, u.oneCell' = true := by
  induction xs with
  | nil => simp [flat]
  | cons p r ih => intro u hu; simp [flat] at hu; rcases hu with rfl | rfl | hu; rfl; rfl; exact ih u hu

/-- The slice value v holds the pairs xs, in a block of its own from B on. -/
def OR (B : Nat) (w : World) (v : Value) (xs : List (Int × Int)) : Prop := w.ownsRow B 122 2 v xs.length (flat xs)

theorem OR.nil (B : Nat) (w : World) : OR B w (.slice none 0 0) [] := World.ownsRow_nil _ _ _ _

theorem OR.mono {B B' : Nat} {w : World} {v : Value} {xs : List (Int × Int)} (h : OR B w v xs) (hB : B' ≤ B) : OR B' w v xs := by
  obtain ⟨h1, h2⟩ := h
  refine ⟨h1, ?_⟩
  rcases h2 with h2 | ⟨g, cap, cur, hv, hg, r⟩
  · exact Or.inl h2
  · exact Or.inr ⟨g, cap, cur, hv, Nat.le_trans hB hg, r⟩

theorem OR.shape {B : Nat} {w : World} {v : Value} {xs : List (Int × Int)} (h : OR B w v xs) : ∃ a cap, v = .slice a xs.length cap ∧ SL w a xs ∧ xs.length ≤ 9223372036854775807 := by
  rcases h.2 with ⟨hv, hn⟩ | ⟨g, cap, cur, hv, hg, hh, hc, hm, hs, ht⟩
  · have : xs = [] := List.length_eq_zero_iff.1 hn
    subst this
    exact ⟨none, 0, hv, Or.inl rfl, by simp⟩
  · refine ⟨_, cap, hv, Or.inr ⟨g, 0, rfl, (Array.getElem?_eq_some_iff.1 hh).1, fun i hi => ?_⟩, by unfold maxLen at hm; omega⟩
    have hx : xs[i]? = some (xs[i]?.getD (0, 0)) := by simp [hi]
    obtain ⟨f0, f1⟩ := flat_get xs i _ _ hx
    subst hv
    rw [← World.ownsRow.cellAt h (i * 2) (by omega)] at f0
    rw [← World.ownsRow.cellAt h (i * 2 + 1) (by omega)] at f1
    exact ⟨by rw [Nat.zero_add]; exact f0, by rw [Nat.zero_add]; exact f1⟩

theorem OR.below {B : Nat} {w w' : World} {v : Value} {xs : List (Int × Int)} (h : OR B w v xs) (hb : Below w.heap.size w w') : OR B w' v xs := by
  obtain ⟨h1, h2⟩ := h
  refine ⟨h1, ?_⟩
  rcases h2 with h2 | ⟨g, cap, cur, hv, hg, hh, r⟩
  · exact Or.inl h2
  · exact Or.inr ⟨g, cap, cur, hv, hg, (hb.block g (Array.getElem?_eq_some_iff.1 hh).1).trans hh, r⟩

theorem OR.lt {B : Nat} {w : World} {a : Addr} {n cap : Nat} {xs : List (Int × Int)} (h : OR B w (.slice (some a) n cap) xs) : B ≤ a.block ∧ a.block < w.heap.size ∧ a.off = 0 ∧ n = xs.length ∧ n ≤ cap := by
  rcases h.2 with ⟨hv, _⟩ | ⟨g, cap', cur, hv, hg, hh, hc, _⟩
  · simp at hv
  · simp at hv
    obtain ⟨rfl, rfl, rfl⟩ := hv
    exact ⟨hg, (Array.getElem?_eq_some_iff.1 hh).1, rfl, rfl, hc⟩

/-- an element, with its two cells, which are not frozen -/
theorem OR.at {B : Nat} {w : World} {g cap : Nat} {xs : List (Int × Int)} (h : OR B w (.slice (some ⟨g, 0, none⟩) xs.length cap) xs) {k : Nat} (hk : k < xs.length) :
    ∃ x y, w.cell? ⟨g, k * 2, none⟩ = some (.int .i64 x) ∧ w.cell? ⟨g, k * 2 + 1, none⟩ = some (.int .i64 y) ∧ w.frozen? ⟨g, k * 2, none⟩ = false ∧ w.frozen? ⟨g, k * 2 + 1, none⟩ = false ∧ Hid (xs[k]? = some (x, y)) := by
  have hx : xs[k]? = some (xs[k]?.getD (0, 0)) := by simp [hk]
  obtain ⟨f0, f1⟩ := flat_get xs k _ _ hx
  rw [← World.ownsRow.cellAt h (k * 2) (by omega)] at f0
  rw [← World.ownsRow.cellAt h (k * 2 + 1) (by omega)] at f1
  exact ⟨_, _, f0, f1, World.ownsRow.frozenAt h _, World.ownsRow.frozenAt h _, hx⟩

/-- a store of a pair -/
theorem OR.set {B : Nat} {w : World} {g cap : Nat} {xs : List (Int × Int)} (h : OR B w (.slice (some ⟨g, 0, none⟩) xs.length cap) xs) (k : Nat) (x y : Int) :
    OR B ((w.setCell ⟨g, k * 2, none⟩ (.int .i64 x)).setCell ⟨g, k * 2 + 1, none⟩ (.int .i64 y)) (.slice (some ⟨g, 0, none⟩) (xs.set k (x, y)).length cap) (xs.set k (x, y)) := by
  have h1 := World.ownsRow.stored h (k * 2) (.int .i64 x)
  have h2 := World.ownsRow.stored h1.1 (k * 2 + 1) (.int .i64 y)
  rw [flat_set] at h2
  unfold OR
  simpa using h2.1

/-- a run of stores into a list -/
def setL : List Value → Nat → List Value → List Value
  | l, _, [] => l
  | l, o, v :: r => setL (l.set o v) (o + 1) r

theorem setL_take : ∀ (vs l : List Value) (o m : Nat), m ≤ o → (setL l o vs).take m = l.take m
  | [], _, _, _, _ => rfl
  | v :: r, l, o, m, h => by rw [setL, setL_take r _ (o + 1) m (by omega), List.take_set_of_le h]

theorem owns_setCells {B g cap n : Nat} {e : TypeId} {size : Nat} : ∀ (vs : List Value) (o : Nat) (w : World) (xs : List Value), w.ownsRow B e size (.slice (some ⟨g, 0, none⟩) n cap) n xs → (w.setCells g o vs).ownsRow B e size (.slice (some ⟨g, 0, none⟩) n cap) n (setL xs o vs)
  | [], _, _, _, h => h
  | v :: r, o, w, xs, h => by
    rw [World.setCells, setL]
    exact owns_setCells r (o + 1) _ _ (World.ownsRow.stored h o v).1

theorem below_setCells {B g : Nat} {a : World} : ∀ (vs : List Value) (o : Nat) (w : World), Below B a w → B ≤ g → Below B a (w.setCells g o vs)
  | [], _, _, h, _ => h
  | v :: r, o, w, h, hg => by
    rw [World.setCells]
    exact below_setCells r (o + 1) _ (h.setCell (p := ⟨g, o, none⟩) hg v) hg

theorem OR.cut {B g cap k : Nat} {w : World} {xs : List (Int × Int)} {l : List Value} (h : w.ownsRow B 122 2 (.slice (some ⟨g, 0, none⟩) xs.length cap) xs.length l) (hl : l.take (k * 2) = flat (xs.take k)) (hk : k ≤ xs.length) :
    OR B w (.slice (some ⟨g, 0, none⟩) (xs.take k).length cap) (xs.take k) := by
  rcases h.2 with ⟨hv, _⟩ | ⟨g', cap', cur, hv, hg, hh, hc, hm, hs, ht⟩
  · simp at hv
  · simp at hv
    obtain ⟨rfl, rfl⟩ := hv
    have e : (xs.take k).length = k := by simp; omega
    refine ⟨by rw [flat_length], Or.inr ⟨g, cap, cur, rfl, hg, hh, by rw [e]; omega, hm, hs, ?_⟩⟩
    rw [e, ← hl, ← ht, List.take_take, Nat.min_eq_left (by omega)]

theorem cells2 {w : World} {b : Nat} {u v : Value} {t : TypeId} (h : w.heap[b]? = some (.cells #[u, v] t (0, 0))) :
    w.cell? ⟨b, 0, none⟩ = some u ∧ w.cell? ⟨b, 1, none⟩ = some v ∧ w.frozen? ⟨b, 0, none⟩ = false ∧ w.frozen? ⟨b, 1, none⟩ = false ∧ b < w.heap.size :=
  ⟨by rw [cell_of_row _ b 0 _ _ _ h]; rfl, by rw [cell_of_row _ b 1 _ _ _ h]; rfl, by simp [World.frozen?, h], by simp [World.frozen?, h], (Array.getElem?_eq_some_iff.1 h).1⟩

theorem heap_set0 {w : World} {b : Nat} {u v x : Value} {t : TypeId} (h : w.heap[b]? = some (.cells #[u, v] t (0, 0))) : (w.setCell ⟨b, 0, none⟩ x).heap[b]? = some (.cells #[x, v] t (0, 0)) := by
  rw [setCell_eq]; show (w.heap.modify b _)[b]? = _
  rw [Array.getElem?_modify, if_pos rfl, h]; rfl

theorem alloc_new (w : World) (o : Obj) : (w.alloc o).heap[w.heap.size]? = some o := by
  show (w.heap.push o)[w.heap.size]? = _
  simp

theorem alloc_old {w : World} {b : Nat} {o : Obj} (h : w.heap[b]? = some o) (p : Obj) : (w.alloc p).heap[b]? = some o :=
  (Below.heap_alloc w p b (Array.getElem?_eq_some_iff.1 h).1).trans h

theorem box_at {w : World} {o p : Obj} : ((w.alloc o).alloc p).heap[w.heap.size]? = some o := alloc_old (alloc_new w o) p

theorem box_at1 {w : World} {o p : Obj} : ((w.alloc o).alloc p).heap[w.heap.size + 1]? = some p := by have := alloc_new (w.alloc o) p; simpa using this

/-- A slice at address a holds the levels ls in world w. -/
def LL (w : World) (a : Option Addr) (ls : List (Int × List (Int × Int))) : Prop :=
  ls = [] ∨ ∃ b off, a = some ⟨b, off, none⟩ ∧ b < w.heap.size ∧ ∀ i n xs, ls[i]? = some (n, xs) → w.cell? ⟨b, off + i * 2, none⟩ = some (.int .i64 n) ∧ ∃ a' cap', w.cell? ⟨b, off + i * 2 + 1, none⟩ = some (.slice a' xs.length cap') ∧ SL w a' xs

theorem LL.below {w w' : World} {a : Option Addr} {ls : List (Int × List (Int × Int))} (h : LL w a ls) (hb : RowKit.Below w.heap.size w w') : LL w' a ls := by
  rcases h with h | ⟨b, off, ha, hlt, hc⟩
  · exact Or.inl h
  · refine Or.inr ⟨b, off, ha, Nat.lt_of_lt_of_le hlt hb.size, fun i n xs hi => ?_⟩
    obtain ⟨c0, a', cap', c1, hs⟩ := hc i n xs hi
    exact ⟨(hb.cell (p := ⟨b, off + i * 2, none⟩) hlt).trans c0, a', cap', (hb.cell (p := ⟨b, off + i * 2 + 1, none⟩) hlt).trans c1, hs.below hb⟩

theorem LL.at {w : World} {a : Option Addr} {ls : List (Int × List (Int × Int))} (h : LL w a ls) {k : Nat} (hk : k < ls.length) :
    ∃ b off n xs a' cap', a = some ⟨b, off, none⟩ ∧ b < w.heap.size ∧ w.cell? ⟨b, off + k * 2, none⟩ = some (.int .i64 n) ∧ w.cell? ⟨b, off + k * 2 + 1, none⟩ = some (.slice a' xs.length cap') ∧ SL w a' xs ∧ Hid (ls[k]? = some (n, xs)) := by
  rcases h with h | ⟨b, off, ha, hlt, hc⟩
  · subst h; simp at hk
  · have hx : ls[k]? = some (ls[k].1, ls[k].2) := by simp [hk]
    obtain ⟨c0, a', cap', c1, hs⟩ := hc k _ _ hx
    exact ⟨b, off, _, _, a', cap', ha, hlt, c0, c1, hs, hx⟩

theorem take_any {α : Type} {p : α → Bool} {xs : List α} {k : Nat} {z : α} (h : xs[k]? = some z) : (xs.take (k + 1)).any p = ((xs.take k).any p || p z) := by
  obtain ⟨hk, rfl⟩ := List.getElem?_eq_some_iff.1 h
  rw [List.take_succ_eq_append_getElem hk, List.any_append]; simp

theorem any_yes {α : Type} {p : α → Bool} {xs : List α} {k : Nat} {z : α} (h : xs[k]? = some z) (h0 : p z = true) : xs.any p = true := by
  obtain ⟨hk, rfl⟩ := List.getElem?_eq_some_iff.1 h
  rw [List.any_eq_true]; exact ⟨xs[k], List.getElem_mem hk, h0⟩
end Go.Proofs.Ytmmbnimehmfadaa
