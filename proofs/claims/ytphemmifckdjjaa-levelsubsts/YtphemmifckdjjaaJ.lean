/- The contracts of level.adding, of its closure, and of level.raised. -/
import Derived.Test.YtphemmifckdjjaaI
import Derived.Deep.RegionHeld3
import Derived.Deep.AppendLies
namespace Go.Proofs.Ytphemmifckdjjaa
open Go.RowKit Go.Sort Go.Shelf Go.Lib

set_option maxHeartbeats 400000 in
theorem adding_any (k : Int) (w : World) : Calls Try.prog 41 #[.int .i64 k] w fun e w' => e = .returned (.func (.func 51) #[] #[.pointer (some ⟨w.heap.size, 0, none⟩)]) ∧ w' = w.alloc (.cells #[.int .i64 (min k 1001)] 3) := by
  by_cases h : k ≤ 1001
  · have HE : Hid (min k 1001 = k) := by unfold Hid; omega
    go_enter Try.func41, Try.ntmps41
    go_wp2
    go_ret
    exact ⟨rfl, by rw [HE.out]⟩
  · have HE : Hid (min k 1001 = 1001) := by unfold Hid; omega
    go_enter Try.func41, Try.ntmps41
    go_wp2
    go_ret
    exact ⟨rfl, by rw [HE.out]⟩

set_option maxHeartbeats 400000 in
theorem adding1_any (x k : Int) (b : Nat) (w : World) (hc : w.cell? ⟨b, 0, none⟩ = some (.int .i64 k)) (h0 : 0 ≤ x) (h1 : x ≤ 4611686018427387904) (h2 : 0 ≤ k) (h3 : k ≤ 1001) :
    Calls Try.prog 51 #[.int .i64 x, .pointer (some ⟨b, 0, none⟩)] w fun e w' => e = .returned (.int .i64 (x + k)) ∧ w' = w := by
  go_enter Try.func51, Try.ntmps51
  go_wp2
  go_ret
  exact ⟨rfl, rfl⟩

/-- k added to each Add -/
def rmap (k : Int) (xs : List (Int × Int)) : List (Int × Int) := xs.map fun p => (p.1, p.2 + k)

theorem rmap_take {k : Int} {xs : List (Int × Int)} {j : Nat} {x y : Int} (h : xs[j]? = some (x, y)) : rmap k (xs.take (j + 1)) = rmap k (xs.take j) ++ [(x, y + k)] := by
  obtain ⟨hk, e⟩ := List.getElem?_eq_some_iff.1 h
  unfold rmap
  rw [List.take_succ_eq_append_getElem hk, e]; simp

theorem rmap_len (k : Int) (xs : List (Int × Int)) : (rmap k xs).length = xs.length := by simp [rmap]

set_option maxRecDepth 100000 in
set_option maxHeartbeats 2000000 in
theorem raised_any (n k : Int) (xs : List (Int × Int)) (a : Option Addr) (cap : Nat) (w : World) (hS : SL w a xs) (hr : rightB n xs = true) (hk0 : 0 ≤ k) :
    Calls Try.prog 37 #[.agg #[.int .i64 n, .slice a xs.length cap], .int .i64 k] w fun e w' => ∃ g cap', e = .returned (.tuple #[.int .i64 (n + min k 1001), .slice (some ⟨g, 0, none⟩) xs.length cap']) ∧ OR w.heap.size w' (.slice (some ⟨g, 0, none⟩) xs.length cap') (rmap (min k 1001) xs) ∧ RowKit.Below w.heap.size w w' := by
  obtain ⟨i0, hi, hz0, hz1, hz2⟩ := info_parts infoLVar
  obtain ⟨hn0, hn1, hl64⟩ := right_n hr
  have HRt := Hid.mk hr
  have HS := Hid.mk hS
  have HA := fun (W : World) => adding_any k W
  have hK0 : 0 ≤ min k 1001 := by omega
  have hK1 : min k 1001 ≤ 1001 := by omega
  generalize min k 1001 = K at *
  clear hr hS
  obtain ⟨Wm, hWm⟩ : ∃ Wm, (w.alloc (.cells #[.int .i64 n, .slice a xs.length cap] 24)).alloc (.cells #[.int .i64 K] 3) = Wm := ⟨_, rfl⟩
  have hsz : Wm.heap.size = w.heap.size + 2 := by rw [← hWm]; simp
  have HG : Hid (Grew w Wm) := by rw [← hWm]; exact ((Grew.refl w).alloc _).alloc _
  have HL : Hid (Wm.heap[w.heap.size]? = some (.cells #[.int .i64 n, .slice a xs.length cap] 24 (0, 0))) := by rw [← hWm]; exact box_at
  have HK : Hid (Wm.cell? ⟨w.heap.size + 1, 0, none⟩ = some (.int .i64 K)) := by unfold Hid; rw [cell_of_row _ (w.heap.size + 1) 0 _ _ _ (by rw [← hWm]; exact box_at1)]; rfl
  obtain ⟨l0, l1, -, -, -⟩ := cells2 HL.out
  have HSZ := Hid.mk hsz
  have HW := Hid.mk hWm
  clear hWm hsz
  go_enter Try.func37, Try.ntmps37
  go_wp2_with (first | (go_at_call 41; refine (HA _).mono ?_; rintro e w' ⟨rfl, rfl⟩; rw [HW.out]) | (at_make; refine wpList_make_own _ rfl _ _ 22 rfl Wm.heap.size 32 i0 _ 2 Try.underlying22 hi hz0 hz1 .i64 .i64 _ xs.length rfl rfl rfl (by rw [hz2]; omega) (by simp [maxLen]; omega) (Nat.le_refl _) ?_; intro w1 hown hgr; have HB1 : Hid (RowKit.Below Wm.heap.size Wm w1) := (Below.refl _ _).grown hgr (Nat.le_refl _) (fun k e => by cases e); obtain ⟨m0, m1, -, -, -⟩ := cells2 ((HB1.out.block w.heap.size (by rw [HSZ.out]; omega)).trans HL.out); have HO1 : Hid (OR Wm.heap.size w1 (.slice (some ⟨Wm.heap.size, 0, none⟩) 0 xs.length) []) := hown; clear hown hgr))
  go_loopw [7, 19] (fun v i wr => ∃ (j : Nat), j ≤ xs.length ∧ i = .int .i64 j ∧ RowKit.Below Wm.heap.size Wm wr ∧ OR Wm.heap.size wr v (rmap K (xs.take j)) ∧ ∃ g c, v = .slice (some ⟨g, 0, none⟩) j c) (fun _ i _ => xs.length - (intOf i).toNat)
  case atStart => exact ⟨0, Nat.zero_le _, rfl, HB1.out, HO1.out, _, _, rfl⟩
  case round =>
    clear HB1 HO1 m0 m1 l0 l1 HA
    obtain ⟨j, hj, rfl, hb, hO, gv, cv, rfl⟩ := hrel
    have hbb := hb.size
    have HO := Hid.mk hO
    by_cases hlt : j < xs.length
    · obtain ⟨b, off, x, y, rfl, hbl, hc0, hc1, hxy⟩ := (HS.out.below (HG.out.below.trans (hb.mono (by rw [HSZ.out]; omega)))).at hlt
      obtain ⟨hx0, hx1, hy0, hy1⟩ := right_at HRt.out hxy.out
      have hkc : wr.cell? ⟨w.heap.size + 1, 0, none⟩ = some (.int .i64 K) := (hb.cell (p := ⟨w.heap.size + 1, 0, none⟩) (by rw [HSZ.out]; simp)).trans HK.out
      have hkl : w.heap.size + 1 < wr.heap.size := by have := HSZ.out; omega
      clear hO
      have hra := rmap_take (k := K) hxy.out
      have hrl : (rmap K (xs.take j)).length = j := by rw [rmap_len]; simp; omega
      have HRA := Hid.mk hra
      have HRL := Hid.mk hrl
      clear hra hrl
      generalize rmap K (xs.take j) = ys at HO HRA HRL
      have hle : Wm.heap.size ≤ wr.heap.size := hbb
      have ag : Hid (∀ v, OR Wm.heap.size wr v ys → v.ownBlock ≠ some wr.heap.size ∧ v.ownBlock ≠ some (w.heap.size + 1)) := fun v h => ⟨fun e => by have := World.ownsRow.lt h _ e; omega, fun e => by have := World.ownsRow.lt h _ e; have := HSZ.out; omega⟩
      go_wp2_with fail
      go_region_held3 (fun w' => w'.cell? ⟨wr.heap.size, 0, none⟩ = some (.int .i64 x) ∧ w'.cell? ⟨wr.heap.size, 1, none⟩ = some (.int .i64 y) ∧ w'.cell? ⟨w.heap.size + 1, 0, none⟩ = some (.int .i64 K)) (first | go_keep | (go_split_ands; refine ⟨?_, ?_, ?_⟩; (rw [hgrow.cell_far _ (by simp; omega) (Ne.symm (ag.out _ HO.out).1)]; assumption); (rw [hgrow.cell_far _ (by simp; omega) (Ne.symm (ag.out _ HO.out).1)]; assumption); (rw [hgrow.cell_far _ (by simp; omega) (Ne.symm (ag.out _ HO.out).2)]; assumption)))
        (first | (refine step_append_lies _ (by rfl) _ _ _ (by rfl) Wm.heap.size 32 i0 _ 2 16 Try.underlying22 hi hz0 hz1 hz2 rfl (by omega) _ ys.length (flat ys) (by rfl) (((HO.out.alloc _).alloc _).drew) ⟨wr.heap.size + 1, 0, none⟩ 1 1 [.int .i64 x, .int .i64 (y + K)] (by rfl) (by rfl) (World.news_of_block (cs := #[.int .i64 x, .int .i64 (y + K)]) (t := 32) (fr := (0, 0)) box_at1) (by simp [Value.oneCell']) (by omega) (by rw [HRL.out]; simp [maxLen]; omega) (by rw [HRL.out]; omega) (by simp; omega) (wr.heap.size + 2) (by simp) ?_; intro gg cap1 w1 hown1 hgrow hat hlt1) | (go_at_call 51; refine (adding1_any y K (w.heap.size + 1) _ ?_ hy0 (by omega) hK0 hK1).mono ?_; (simp [*]); rintro e w' ⟨rfl, rfl⟩))
      go_wp2
      have hB2 : RowKit.Below Wm.heap.size Wm w1 := (((hb.alloc hbb _).alloc (by simp; omega) _).drew).grown hgrow (by simp; omega) (fun k e => (World.ownsRow.lt HO.out k e).1)
      refine ⟨⟨j + 1, hlt, by go_num, hB2, ?_, gg, cap1, by rw [HRL.out]⟩, by simp [intOf]; omega⟩
      rw [HRA.out]
      unfold OR
      rw [flat_append, List.length_append]
      exact hown1
    · have hj' : j = xs.length := by omega
      subst hj'
      rw [List.take_length] at HO
      obtain ⟨l0, l1, -, -, -⟩ := cells2 ((hb.block w.heap.size (by rw [HSZ.out]; omega)).trans HL.out)
      have hkc : wr.cell? ⟨w.heap.size + 1, 0, none⟩ = some (.int .i64 K) := (hb.cell (p := ⟨w.heap.size + 1, 0, none⟩) (by rw [HSZ.out]; simp)).trans HK.out
      clear hO
      go_wp2_with (go_at_call 51; refine (adding1_any n K (w.heap.size + 1) _ hkc hn0 (by omega) hK0 hK1).mono ?_; rintro e w' ⟨rfl, rfl⟩)
      go_ret2
      exact ⟨gv, cv, rfl, HO.out.mono (by rw [HSZ.out]; omega), HG.out.below.trans (hb.mono (by rw [HSZ.out]; omega))⟩
end Go.Proofs.Ytphemmifckdjjaa
