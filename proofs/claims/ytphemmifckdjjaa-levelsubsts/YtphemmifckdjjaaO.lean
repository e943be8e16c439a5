/- The contract of level.Subst. -/
import Derived.Test.YtphemmifckdjjaaM
namespace Go.Proofs.Ytphemmifckdjjaa
open Go.RowKit Go.Sort Go.Shelf Go.Lib

/-- one variable replaced -/
def sStep (ls : List (Int × List (Int × Int))) (acc : Int × List (Int × Int)) (p : Int × Int) : Int × List (Int × Int) :=
  (max acc.1 ((ls[p.1.toNat]?.getD (0, [])).1 + min p.2 1001), acc.2 ++ rmap (min p.2 1001) (ls[p.1.toNat]?.getD (0, [])).2)

def sFold (ls : List (Int × List (Int × Int))) (n : Int) (xs : List (Int × Int)) : Int × List (Int × Int) := xs.foldl (sStep ls) (n, [])

/-- what Subst answers -/
def substR (n : Int) (xs : List (Int × Int)) (ls : List (Int × List (Int × Int))) : Int × List (Int × Int) × Int :=
  if rightB n xs = true ∧ boundL xs ≤ ls.length ∧ ls.any wrongL = false then canonR (sFold ls n xs).1 (sFold ls n xs).2 else (0, [], 13)

theorem sFold_take {ls : List (Int × List (Int × Int))} {n : Int} {xs : List (Int × Int)} {j : Nat} {x y : Int} {an : Int} {axs : List (Int × Int)} (h : xs[j]? = some (x, y)) (hl : ls[x.toNat]? = some (an, axs)) :
    sFold ls n (xs.take (j + 1)) = (max (sFold ls n (xs.take j)).1 (an + min y 1001), (sFold ls n (xs.take j)).2 ++ rmap (min y 1001) axs) := by
  unfold sFold; rw [take_fold h]; simp [sStep, hl]

theorem bound_at {xs : List (Int × Int)} {j : Nat} {x y : Int} (h : xs[j]? = some (x, y)) : x + 1 ≤ boundL xs := by
  have mono : ∀ (ys : List (Int × Int)) (m : Int), m ≤ ys.foldl (fun m p => max m (p.1 + 1)) m := by
    intro ys
    induction ys with
    | nil => intro m; exact Int.le_refl _
    | cons p r ih => intro m; have := ih (max m (p.1 + 1)); simp only [List.foldl_cons]; omega
  obtain ⟨hj, e⟩ := List.getElem?_eq_some_iff.1 h
  have hs : boundL xs = (xs.drop (j + 1)).foldl (fun m p => max m (p.1 + 1)) (boundL (xs.take (j + 1))) := by
    unfold boundL; rw [← List.foldl_append, List.take_append_drop]
  have ht : boundL (xs.take (j + 1)) = max (boundL (xs.take j)) (x + 1) := by unfold boundL; rw [take_fold h]
  have := mono (xs.drop (j + 1)) (boundL (xs.take (j + 1)))
  rw [← hs] at this; omega

theorem right_of_any {ls : List (Int × List (Int × Int))} (h : ls.any wrongL = false) {k : Nat} {n : Int} {xs : List (Int × Int)} (hk : ls[k]? = some (n, xs)) : rightB n xs = true := by
  rw [List.any_eq_false] at h
  have := h _ (List.mem_of_getElem? hk)
  simpa [wrongL] using this

set_option maxHeartbeats 1000000 in
theorem Subst_no (n : Int) (xs : List (Int × Int)) (a : Option Addr) (cap : Nat) (ls : List (Int × List (Int × Int))) (la : Option Addr) (lcap : Nat) (w : World) (hS : SL w a xs) (hn : xs.length ≤ 4398046511104) (hLs : LL w la ls) (hln : ls.length ≤ 4398046511104) (hlx : ∀ l ∈ ls, l.2.length ≤ 4398046511104)
    (hno : ¬ (rightB n xs = true ∧ boundL xs ≤ ls.length ∧ ls.any wrongL = false)) :
    Calls Try.prog 30 #[.agg #[.int .i64 n, .slice a xs.length cap], .slice la ls.length lcap] w fun e w' => Res w w' e (0, [], 13) := by
  have hA : Grew w ((w.alloc (.cells #[.int .i64 n, .slice a xs.length cap] 24)).alloc (.cells #[.int .i64 0, .slice none 0 0] 24)) := ((Grew.refl w).alloc _).alloc _
  have HR := right_any n xs a cap _ (hS.below hA.below) (by omega)
  have HA := Hid.mk hA
  have HB := fun (W : World) (h : Grew w W) => Bound_any n xs a cap W (hS.below h.below) (by omega)
  have HF := fun (W : World) (h : Grew w W) => ContainsFunc_any ls la lcap W (hLs.below h.below) (by omega) hlx
  clear hS hLs hlx hA
  have fin : Hid (∀ w1 : World, Grew w w1 → RowKit.Below w.heap.size w ((w1.setCell ⟨w.heap.size + 1, 0, none⟩ (.int .i64 0)).setCell ⟨w.heap.size + 1, 1, none⟩ (.slice none 0 0))) := fun w1 hg => (hg.below.setCell (p := ⟨w.heap.size + 1, 0, none⟩) (Nat.le_succ _) _).setCell (p := ⟨w.heap.size + 1, 1, none⟩) (Nat.le_succ _) _
  cases hr : rightB n xs
  · rw [hr] at HR
    clear HB HF hno
    go_enter Try.func30, Try.ntmps30
    go_wp2_with (go_at_call 33; refine HR.mono ?_; rintro e w1 ⟨rfl, hg⟩; obtain ⟨p0, p1, p2, p3, p4⟩ := cells2 ((hg.below.block (w.heap.size + 1) (by simp)).trans box_at1))
    refine bodyPost_ret (v := .tuple #[.agg #[.int .i64 0, .slice none 0 0], .int .i64 13]) (by simp [results, Try.results30, go_sem, p0, p1]) rfl ⟨_, rfl, OR.nil _ _, fin.out _ (HA.out.trans hg)⟩
  · rw [hr] at HR
    simp only [hr, if_true] at HB
    by_cases hbd : boundL xs ≤ ls.length
    · have hw : ls.any wrongL = true := by
        rcases Bool.eq_false_or_eq_true (ls.any wrongL) with h | h
        · exact h
        · exact absurd ⟨hr, hbd, h⟩ hno
      rw [hw] at HF
      clear hno hw
      generalize boundL xs = bd at *
      go_enter Try.func30, Try.ntmps30
      go_wp2_with (first | (go_at_call 33; refine HR.mono ?_; rintro e w1 ⟨rfl, hg⟩; obtain ⟨r0, r1, r2, r3, r4⟩ := cells2 ((hg.below.block w.heap.size (by simp; omega)).trans box_at); have hR1 := (hg.below.block (w.heap.size + 1) (by simp)).trans box_at1; have hlt1 : w.heap.size + 1 < w1.heap.size := (Array.getElem?_eq_some_iff.1 hR1).1; have hgA := HA.out.trans hg) | (go_at_call 27; refine (HB _ hgA).mono ?_; rintro e w2 ⟨rfl, hg2⟩; have hgB := hgA.trans hg2; have hR2 := (hg2.below.block (w.heap.size + 1) hlt1).trans hR1; have hlt2 : w.heap.size + 1 < w2.heap.size := (Array.getElem?_eq_some_iff.1 hR2).1) | (go_at_call 43; refine (HF _ hgB).mono ?_; rintro e w3 ⟨rfl, hg3⟩; obtain ⟨p0, p1, p2, p3, p4⟩ := cells2 ((hg3.below.block (w.heap.size + 1) hlt2).trans hR2)))
      refine bodyPost_ret (v := .tuple #[.agg #[.int .i64 0, .slice none 0 0], .int .i64 13]) (by simp [results, Try.results30, go_sem, p0, p1]) rfl ⟨_, rfl, OR.nil _ _, fin.out _ (hgB.trans hg3)⟩
    · clear HF hno
      generalize boundL xs = bd at *
      go_enter Try.func30, Try.ntmps30
      go_wp2_with (first | (go_at_call 33; refine HR.mono ?_; rintro e w1 ⟨rfl, hg⟩; obtain ⟨r0, r1, r2, r3, r4⟩ := cells2 ((hg.below.block w.heap.size (by simp; omega)).trans box_at); have hR1 := (hg.below.block (w.heap.size + 1) (by simp)).trans box_at1; have hlt1 : w.heap.size + 1 < w1.heap.size := (Array.getElem?_eq_some_iff.1 hR1).1; have hgA := HA.out.trans hg) | (go_at_call 27; refine (HB _ hgA).mono ?_; rintro e w2 ⟨rfl, hg2⟩; obtain ⟨p0, p1, p2, p3, p4⟩ := cells2 ((hg2.below.block (w.heap.size + 1) hlt1).trans hR1); have hgB := hgA.trans hg2))
      refine bodyPost_ret (v := .tuple #[.agg #[.int .i64 0, .slice none 0 0], .int .i64 13]) (by simp [results, Try.results30, go_sem, p0, p1]) rfl ⟨_, rfl, OR.nil _ _, fin.out _ hgB⟩
end Go.Proofs.Ytphemmifckdjjaa
