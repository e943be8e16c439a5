/- The contracts of level.value, level.Eval, level.greatestAdd and level.Bound. -/
import Derived.Test.YtbgkeomlfdmkeaaA
namespace Go.Proofs.Ytbgkeomlfdmkeaa
open Go.RowKit Go.Sort

/-- A slice at address a holds the numbers vs in world w. -/
def IL (w : World) (a : Option Addr) (vs : List Int) : Prop :=
  vs = [] ∨ ∃ b off, a = some ⟨b, off, none⟩ ∧ b < w.heap.size ∧ ∀ i, i < vs.length → w.cell? ⟨b, off + i, none⟩ = some (.int .i64 (vs[i]?.getD 0))

theorem IL.below {w w' : World} {a : Option Addr} {xs : List Int} (h : IL w a xs) (hb : Below w.heap.size w w') : IL w' a xs := by
  rcases h with h | ⟨b, off, ha, hlt, hc⟩
  · exact Or.inl h
  · refine Or.inr ⟨b, off, ha, Nat.lt_of_lt_of_le hlt hb.size, fun i hi => ?_⟩
    rw [hb.cell (p := ⟨b, off + i, none⟩) hlt]; exact hc i hi

theorem IL.at {w : World} {a : Option Addr} {xs : List Int} (h : IL w a xs) {k : Nat} (hk : k < xs.length) :
    ∃ b off x, a = some ⟨b, off, none⟩ ∧ b < w.heap.size ∧ w.cell? ⟨b, off + k, none⟩ = some (.int .i64 x) ∧ Hid (xs[k]? = some x) := by
  rcases h with h | ⟨b, off, ha, hlt, hc⟩
  · subst h; simp at hk
  · exact ⟨b, off, _, ha, hlt, hc k hk, by unfold Hid; simp [hk]⟩

/-- a variable's value: below 0 it is 0, above 2^62 it is 2^62 -/
def valOf (vs : List Int) (v : Nat) : Int := min (max (vs[v]?.getD 0) 0) 4611686018427387904

theorem ret_int {k : IntKind} {a b : Int} (h : a = b) : Ending.returned (.int k a) = .returned (.int k b) := by rw [h]

theorem valOf_bd (vs : List Int) (v : Nat) : 0 ≤ valOf vs v ∧ valOf vs v ≤ 4611686018427387904 := by unfold valOf; omega

/-- the number of a level that is right, by vs -/
def evalL (vs : List Int) (n : Int) (xs : List (Int × Int)) : Int := xs.foldl (fun m p => max m (valOf vs p.1.toNat + p.2)) n

theorem take_fold {β : Type} {f : β → Int × Int → β} {n : β} {xs : List (Int × Int)} {k : Nat} {z : Int × Int} (h : xs[k]? = some z) : (xs.take (k + 1)).foldl f n = f ((xs.take k).foldl f n) z := by
  obtain ⟨hk, rfl⟩ := List.getElem?_eq_some_iff.1 h
  rw [List.take_succ_eq_append_getElem hk, List.foldl_append]; simp

theorem right_at {n : Int} {xs : List (Int × Int)} (h : rightB n xs = true) {k : Nat} {x y : Int} (hk : xs[k]? = some (x, y)) : 0 ≤ x ∧ x ≤ 1000 ∧ 0 ≤ y ∧ y ≤ 1000 := by
  simp only [rightB, Bool.and_eq_true, List.all_eq_true, inR, decide_eq_true_eq] at h
  obtain ⟨hk, e⟩ := List.getElem?_eq_some_iff.1 hk
  have := h.2 (x, y) (e ▸ List.getElem_mem hk)
  simp at this; omega

theorem right_n {n : Int} {xs : List (Int × Int)} (h : rightB n xs = true) : 0 ≤ n ∧ n ≤ 1000 ∧ xs.length ≤ 64 := by
  simp only [rightB, Bool.and_eq_true, inR, decide_eq_true_eq] at h; omega

/-- the greatest Add of a variable, or -1 -/
def gAdd (v : Int) (xs : List (Int × Int)) : Int := xs.foldl (fun m p => if p.1 = v then max m p.2 else m) (-1)

/-- the least number above all Vars -/
def boundL (xs : List (Int × Int)) : Int := xs.foldl (fun m p => max m (p.1 + 1)) 0

set_option maxHeartbeats 800000 in
theorem Bound_any (n : Int) (xs : List (Int × Int)) (a : Option Addr) (cap : Nat) (w : World) (hS : SL w a xs) (hn : xs.length ≤ 35184372088832) :
    Calls Try.prog 80 #[.agg #[.int .i64 n, .slice a xs.length cap]] w fun e w' => e = .returned (.int .i64 (if rightB n xs then boundL xs else 0)) ∧ Grew w w' := by
  have HS := Hid.mk hS
  clear hS
  have HR := fun (W : World) (h : SL W a xs) => right_any n xs a cap W h hn
  cases hr : rightB n xs
  · simp only [hr] at HR
    go_enter Try.func80, Try.ntmps80
    go_wp2_with (first | (go_at_call 91; refine (HR _ (HS.out.below ((Grew.refl _).alloc _).below)).mono ?_; rintro e w' ⟨rfl, hb⟩))
    go_ret
    exact ⟨rfl, ((Grew.refl _).alloc _).trans hb⟩
  · simp only [hr] at HR
    obtain ⟨hn0, hn1, hl64⟩ := right_n hr
    have HRt := Hid.mk hr
    clear hr
    go_enter Try.func80, Try.ntmps80
    go_wp2_with (first | (go_at_call 91; refine (HR _ (HS.out.below ((Grew.refl _).alloc _).below)).mono ?_; rintro e w1 ⟨rfl, hb1⟩; obtain ⟨hc1, hf1⟩ := bcell hb1.below; have HB1 : Hid (Grew w w1) := ((Grew.refl _).alloc _).trans hb1; clear HR hb1))
    clear hc1 hf1
    go_loopw [3, 12] (fun m i wr => ∃ k : Nat, k ≤ xs.length ∧ i = .int .i64 k ∧ Grew w wr ∧ m = .int .i64 (boundL (xs.take k))) (fun _ i _ => xs.length - (intOf i).toNat)
    case atStart => exact ⟨0, Nat.zero_le _, rfl, HB1.out, rfl⟩
    case round =>
      clear HB1
      obtain ⟨k, hk, rfl, hb, rfl⟩ := hrel
      by_cases hlt : k < xs.length
      · obtain ⟨b, off, x, y, rfl, hbl, hc0, hc1, hxy⟩ := (HS.out.below hb.below).at hlt
        have hbb := hb.below.size
        obtain ⟨hx0, hx1, hy0, hy1⟩ := right_at HRt.out hxy.out
        have HE : Hid (boundL (xs.take (k + 1)) = max (boundL (xs.take k)) (x + 1)) := by unfold Hid boundL; rw [take_fold hxy.out]
        generalize boundL (xs.take k) = m at *
        go_wp2
        all_goals
          refine ⟨⟨k + 1, hlt, by go_num, hb.alloc _, ?_⟩, by simp [intOf]; omega⟩
          rw [HE.out]
          exact congrArg (Value.int .i64) (by omega)
      · go_wp2
        go_ret
        have hk' : k = xs.length := by omega
        subst hk'
        rw [List.take_length]
        exact ⟨by simp, hb⟩
end Go.Proofs.Ytbgkeomlfdmkeaa
