/- Plain facts on lists of pairs: what is kept of runs of one key. -/
import Derived.RowKit
namespace Go.Proofs.Ytmmbnimehmfadaa

/-- one step: p is kept, if the last kept one has another key -/
def ddStep (acc : List (Int × Int)) (p : Int × Int) : List (Int × Int) := if acc.getLast?.map (·.1) = some p.1 then acc else acc ++ [p]

/-- of each run of one key the first -/
def dd (xs : List (Int × Int)) : List (Int × Int) := xs.foldl ddStep []

theorem dd_snoc (xs : List (Int × Int)) (p : Int × Int) : dd (xs ++ [p]) = ddStep (dd xs) p := by simp [dd, List.foldl_append]

theorem dd_last (xs : List (Int × Int)) (p : Int × Int) : (dd (xs ++ [p])).getLast?.map (·.1) = some p.1 := by
  rw [dd_snoc]; unfold ddStep; split
  · assumption
  · simp

theorem dd_same (xs : List (Int × Int)) (q p : Int × Int) (h : p.1 = q.1) : dd (xs ++ [q] ++ [p]) = dd (xs ++ [q]) := by
  rw [dd_snoc _ p]; unfold ddStep; rw [if_pos (by rw [dd_last, h])]

theorem dd_other (xs : List (Int × Int)) (q p : Int × Int) (h : p.1 ≠ q.1) : dd (xs ++ [q] ++ [p]) = dd (xs ++ [q]) ++ [p] := by
  rw [dd_snoc _ p]; unfold ddStep; rw [if_neg (by rw [dd_last]; simpa using Ne.symm h)]

theorem take_snoc2 {xs : List (Int × Int)} {k : Nat} {q p : Int × Int} (hq : xs[k]? = some q) (hp : xs[k + 1]? = some p) : xs.take (k + 2) = xs.take k ++ [q] ++ [p] ∧ xs.take (k + 1) = xs.take k ++ [q] := by
  obtain ⟨h1, rfl⟩ := List.getElem?_eq_some_iff.1 hq
  obtain ⟨h2, rfl⟩ := List.getElem?_eq_some_iff.1 hp
  exact ⟨by rw [List.take_succ_eq_append_getElem h2, List.take_succ_eq_append_getElem h1], by rw [List.take_succ_eq_append_getElem h1]⟩

theorem dd_take_same {xs : List (Int × Int)} {k : Nat} {q p : Int × Int} (hq : xs[k]? = some q) (hp : xs[k + 1]? = some p) (h : p.1 = q.1) : dd (xs.take (k + 2)) = dd (xs.take (k + 1)) := by
  obtain ⟨e1, e2⟩ := take_snoc2 hq hp; rw [e1, e2, dd_same _ _ _ h]
theorem dd_take_other {xs : List (Int × Int)} {k : Nat} {q p : Int × Int} (hq : xs[k]? = some q) (hp : xs[k + 1]? = some p) (h : p.1 ≠ q.1) : dd (xs.take (k + 2)) = dd (xs.take (k + 1)) ++ [p] := by
  obtain ⟨e1, e2⟩ := take_snoc2 hq hp; rw [e1, e2, dd_other _ _ _ h]

theorem dd_le (xs : List (Int × Int)) : (dd xs).length ≤ xs.length := by
  suffices h : ∀ (ys acc : List (Int × Int)), (ys.foldl ddStep acc).length ≤ acc.length + ys.length by simpa [dd] using h xs []
  intro ys
  induction ys with
  | nil => simp
  | cons p r ih => intro acc; have := ih (ddStep acc p); have h2 : (ddStep acc p).length ≤ acc.length + 1 := by unfold ddStep; split <;> simp
                   simp only [List.foldl_cons, List.length_cons]; omega

theorem dd_short {xs : List (Int × Int)} (h : xs.length < 2) : dd xs = xs := by
  match xs, h with
  | [], _ => rfl
  | [p], _ => simp [dd, ddStep]

theorem take_set_snoc {zs : List (Int × Int)} {kk : Nat} {p : Int × Int} (h : kk < zs.length) : (zs.set kk p).take (kk + 1) = zs.take kk ++ [p] := by
  rw [List.take_succ_eq_append_getElem (by simpa using h), List.take_set_of_le (Nat.le_refl _)]; simp

theorem drop_set {zs : List (Int × Int)} {kk m : Nat} {p : Int × Int} (h : kk < m) : (zs.set kk p).drop m = zs.drop m := by
  rw [List.drop_set]; simp [h]
end Go.Proofs.Ytmmbnimehmfadaa
