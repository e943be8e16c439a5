/- The contract of level.Suc. -/
import Derived.Test.YtbgkeomlfdmkeaaJ
namespace Go.Proofs.Ytbgkeomlfdmkeaa
open Go.RowKit Go.Sort Go.Shelf Go.Lib

/-- what Suc answers -/
def sucR (n : Int) (xs : List (Int × Int)) (k : Int) : Int × List (Int × Int) × Int :=
  if rightB n xs then (if k < 0 then (0, [], 1) else canonR (n + min k 1001) (rmap (min k 1001) xs)) else (0, [], 13)

end Go.Proofs.Ytbgkeomlfdmkeaa

/- The contracts of level.wrong and of slices.ContainsFunc with it. -/
namespace Go.Proofs.Ytbgkeomlfdmkeaa
open Go.RowKit Go.Sort Go.Shelf Go.Lib

set_option maxHeartbeats 400000 in
theorem wrong_any (n : Int) (xs : List (Int × Int)) (a : Option Addr) (cap : Nat) (w : World) (hS : SL w a xs) (hn : xs.length ≤ 35184372088832) :
    Calls Try.prog 92 #[.agg #[.int .i64 n, .slice a xs.length cap]] w fun e w' => e = .returned (.bool (!rightB n xs)) ∧ Grew w w' := by
  have HR := right_any n xs a cap (w.alloc (.cells #[.int .i64 n, .slice a xs.length cap] 43)) (hS.below ((Grew.refl w).alloc _).below) hn
  go_enter Try.func92, Try.ntmps92
  go_wp2_with (go_at_call 91; refine HR.mono ?_; rintro e w1 ⟨rfl, hg⟩)
  go_ret
  exact ⟨rfl, ((Grew.refl _).alloc _).trans hg⟩

def wrongL (l : Int × List (Int × Int)) : Bool := !rightB l.1 l.2

set_option maxHeartbeats 800000 in
theorem IndexFunc_any (ls : List (Int × List (Int × Int))) (a : Option Addr) (cap : Nat) (w : World) (hS : LL w a ls) (hn : ls.length ≤ 35184372088832) (hx : ∀ l ∈ ls, l.2.length ≤ 4398046511104) :
    Calls Try.prog 90 #[.slice a ls.length cap, .func (.func 92) #[] #[]] w fun e w' => (∃ r : Int, e = .returned (.int .i64 r) ∧ decide (0 ≤ r) = ls.any wrongL) ∧ Grew w w' := by
  have HS := Hid.mk hS
  have HX := Hid.mk hx
  clear hS hx
  go_enter Try.func90, Try.ntmps90
  go_wp2
  go_loopw [8] (fun i wr => ∃ k : Nat, k ≤ ls.length ∧ i = .int .i64 k ∧ Grew w wr ∧ (ls.take k).any wrongL = false) (fun i _ => ls.length - (intOf i).toNat)
  case atStart => exact ⟨0, Nat.zero_le _, rfl, Grew.refl _, by simp⟩
  case round =>
    obtain ⟨k, hk, rfl, hb, hall⟩ := hrel
    have HA := Hid.mk hall
    clear hall
    by_cases hlt : k < ls.length
    · obtain ⟨b, off, n, xs, a', cap', rfl, hbl, hc0, hc1, hS1, hl⟩ := (HS.out.below hb.below).at hlt
      have hbb := hb.below.size
      have HW := wrong_any n xs a' cap' wr hS1 (by have := HX.out (n, xs) (List.mem_of_getElem? hl.out); simp only at this; omega)
      clear hS1
      cases h0 : wrongL (n, xs)
      · have h0' : (!rightB n xs) = false := h0
        rw [h0'] at HW
        have H0 := Hid.mk h0
        clear h0 h0'
        go_wp2_with (go_at_call 92; refine HW.mono ?_; rintro e w1 ⟨rfl, hg⟩)
        refine ⟨⟨k + 1, hlt, by go_num, hb.trans hg, ?_⟩, by simp [intOf]; omega⟩
        rw [take_any hl.out, HA.out, H0.out]; rfl
      · have h0' : (!rightB n xs) = true := h0
        rw [h0'] at HW
        have H0 := Hid.mk h0
        clear h0 h0'
        go_wp2_with (go_at_call 92; refine HW.mono ?_; rintro e w1 ⟨rfl, hg⟩)
        go_ret
        exact ⟨⟨_, rfl, by rw [any_yes hl.out H0.out]; simp⟩, hb.trans hg⟩
    · go_wp2
      go_ret
      have hk' : k = ls.length := by omega
      subst hk'
      have hA := HA.out
      rw [List.take_length] at hA
      exact ⟨⟨_, rfl, by rw [hA]; simp⟩, hb⟩

set_option maxHeartbeats 400000 in
theorem ContainsFunc_any (ls : List (Int × List (Int × Int))) (a : Option Addr) (cap : Nat) (w : World) (hS : LL w a ls) (hn : ls.length ≤ 35184372088832) (hx : ∀ l ∈ ls, l.2.length ≤ 4398046511104) :
    Calls Try.prog 76 #[.slice a ls.length cap, .func (.func 92) #[] #[]] w fun e w' => e = .returned (.bool (ls.any wrongL)) ∧ Grew w w' := by
  have HI := IndexFunc_any ls a cap w hS hn hx
  clear hS hx
  go_enter Try.func76, Try.ntmps76
  go_wp2_with (go_at_call 90; refine HI.mono ?_; rintro e w1 ⟨⟨r, rfl, hr⟩, hg⟩; have HR := Hid.mk hr; clear hr)
  go_ret
  exact ⟨by rw [← HR.out]; rfl, hg⟩
end Go.Proofs.Ytbgkeomlfdmkeaa

/- The contract of level.Subst. -/
namespace Go.Proofs.Ytbgkeomlfdmkeaa
open Go.RowKit Go.Sort Go.Shelf Go.Lib

/-- one variable replaced -/
def sStep (ls : List (Int × List (Int × Int))) (acc : Int × List (Int × Int)) (p : Int × Int) : Int × List (Int × Int) :=
  (max acc.1 ((ls[p.1.toNat]?.getD (0, [])).1 + min p.2 1001), acc.2 ++ rmap (min p.2 1001) (ls[p.1.toNat]?.getD (0, [])).2)

def sFold (ls : List (Int × List (Int × Int))) (n : Int) (xs : List (Int × Int)) : Int × List (Int × Int) := xs.foldl (sStep ls) (n, [])

/-- what Subst answers -/
def substR (n : Int) (xs : List (Int × Int)) (ls : List (Int × List (Int × Int))) : Int × List (Int × Int) × Int :=
  if rightB n xs = true ∧ boundL xs ≤ ls.length ∧ ls.any wrongL = false then canonR (sFold ls n xs).1 (sFold ls n xs).2 else (0, [], 13)

theorem sFold_take {ls : List (Int × List (Int × Int))} {n : Int} {xs : List (Int × Int)} {j : Nat} {x y : Int} {an : Int} {axs : List (Int × Int)} (h : xs[j]? = some (x, y)) (hl : ls[x.toNat]? = some (an, axs)) :
    sFold ls n (xs.take (j + 1)) = (max (sFold ls n (xs.take j)).1 (an + min y 1001), (sFold ls n (xs.take j)).2 ++ rmap (min y 1001) axs) := by
  unfold sFold; rw [take_fold h]; simp [sStep, hl]

theorem bound_at {xs : List (Int × Int)} {j : Nat} {x y : Int} (h : xs[j]? = some (x, y)) : x + 1 ≤ boundL xs := by
  have mono : ∀ (ys : List (Int × Int)) (m : Int), m ≤ ys.foldl (fun m p => max m (p.1 + 1)) m := by
    intro ys
    induction ys with
    | nil => intro m; exact Int.le_refl _
    | cons p r ih => intro m; have := ih (max m (p.1 + 1)); simp only [List.foldl_cons]; omega
  obtain ⟨hj, e⟩ := List.getElem?_eq_some_iff.1 h
  have hs : boundL xs = (xs.drop (j + 1)).foldl (fun m p => max m (p.1 + 1)) (boundL (xs.take (j + 1))) := by
    unfold boundL; rw [← List.foldl_append, List.take_append_drop]
  have ht : boundL (xs.take (j + 1)) = max (boundL (xs.take j)) (x + 1) := by unfold boundL; rw [take_fold h]
  have := mono (xs.drop (j + 1)) (boundL (xs.take (j + 1)))
  rw [← hs] at this; omega

theorem right_of_any {ls : List (Int × List (Int × Int))} (h : ls.any wrongL = false) {k : Nat} {n : Int} {xs : List (Int × Int)} (hk : ls[k]? = some (n, xs)) : rightB n xs = true := by
  rw [List.any_eq_false] at h
  have := h _ (List.mem_of_getElem? hk)
  simpa [wrongL] using this

set_option maxHeartbeats 1000000 in
theorem Subst_no (n : Int) (xs : List (Int × Int)) (a : Option Addr) (cap : Nat) (ls : List (Int × List (Int × Int))) (la : Option Addr) (lcap : Nat) (w : World) (hS : SL w a xs) (hn : xs.length ≤ 4398046511104) (hLs : LL w la ls) (hln : ls.length ≤ 4398046511104) (hlx : ∀ l ∈ ls, l.2.length ≤ 4398046511104)
    (hno : ¬ (rightB n xs = true ∧ boundL xs ≤ ls.length ∧ ls.any wrongL = false)) :
    Calls Try.prog 81 #[.agg #[.int .i64 n, .slice a xs.length cap], .slice la ls.length lcap] w fun e w' => Res w w' e (0, [], 13) := by
  have hA : Grew w ((w.alloc (.cells #[.int .i64 n, .slice a xs.length cap] 43)).alloc (.cells #[.int .i64 0, .slice none 0 0] 43)) := ((Grew.refl w).alloc _).alloc _
  have HR := right_any n xs a cap _ (hS.below hA.below) (by omega)
  have HA := Hid.mk hA
  have HB := fun (W : World) (h : Grew w W) => Bound_any n xs a cap W (hS.below h.below) (by omega)
  have HF := fun (W : World) (h : Grew w W) => ContainsFunc_any ls la lcap W (hLs.below h.below) (by omega) hlx
  clear hS hLs hlx hA
  have fin : Hid (∀ w1 : World, Grew w w1 → RowKit.Below w.heap.size w ((w1.setCell ⟨w.heap.size + 1, 0, none⟩ (.int .i64 0)).setCell ⟨w.heap.size + 1, 1, none⟩ (.slice none 0 0))) := fun w1 hg => (hg.below.setCell (p := ⟨w.heap.size + 1, 0, none⟩) (Nat.le_succ _) _).setCell (p := ⟨w.heap.size + 1, 1, none⟩) (Nat.le_succ _) _
  cases hr : rightB n xs
  · rw [hr] at HR
    clear HB HF hno
    go_enter Try.func81, Try.ntmps81
    go_wp2_with (go_at_call 91; refine HR.mono ?_; rintro e w1 ⟨rfl, hg⟩; obtain ⟨p0, p1, p2, p3, p4⟩ := cells2 ((hg.below.block (w.heap.size + 1) (by simp)).trans box_at1))
    refine bodyPost_ret (v := .tuple #[.agg #[.int .i64 0, .slice none 0 0], .int .i64 13]) (by simp [results, Try.results81, go_sem, p0, p1]) rfl ⟨_, rfl, OR.nil _ _, fin.out _ (HA.out.trans hg)⟩
  · rw [hr] at HR
    simp only [hr, if_true] at HB
    by_cases hbd : boundL xs ≤ ls.length
    · have hw : ls.any wrongL = true := by
        rcases Bool.eq_false_or_eq_true (ls.any wrongL) with h | h
        · exact h
        · exact absurd ⟨hr, hbd, h⟩ hno
      rw [hw] at HF
      clear hno hw
      generalize boundL xs = bd at *
      go_enter Try.func81, Try.ntmps81
      go_wp2_with (first | (go_at_call 91; refine HR.mono ?_; rintro e w1 ⟨rfl, hg⟩; obtain ⟨r0, r1, r2, r3, r4⟩ := cells2 ((hg.below.block w.heap.size (by simp; omega)).trans box_at); have hR1 := (hg.below.block (w.heap.size + 1) (by simp)).trans box_at1; have hlt1 : w.heap.size + 1 < w1.heap.size := (Array.getElem?_eq_some_iff.1 hR1).1; have hgA := HA.out.trans hg) | (go_at_call 80; refine (HB _ hgA).mono ?_; rintro e w2 ⟨rfl, hg2⟩; have hgB := hgA.trans hg2; have hR2 := (hg2.below.block (w.heap.size + 1) hlt1).trans hR1; have hlt2 : w.heap.size + 1 < w2.heap.size := (Array.getElem?_eq_some_iff.1 hR2).1) | (go_at_call 76; refine (HF _ hgB).mono ?_; rintro e w3 ⟨rfl, hg3⟩; obtain ⟨p0, p1, p2, p3, p4⟩ := cells2 ((hg3.below.block (w.heap.size + 1) hlt2).trans hR2)))
      refine bodyPost_ret (v := .tuple #[.agg #[.int .i64 0, .slice none 0 0], .int .i64 13]) (by simp [results, Try.results81, go_sem, p0, p1]) rfl ⟨_, rfl, OR.nil _ _, fin.out _ (hgB.trans hg3)⟩
    · clear HF hno
      generalize boundL xs = bd at *
      go_enter Try.func81, Try.ntmps81
      go_wp2_with (first | (go_at_call 91; refine HR.mono ?_; rintro e w1 ⟨rfl, hg⟩; obtain ⟨r0, r1, r2, r3, r4⟩ := cells2 ((hg.below.block w.heap.size (by simp; omega)).trans box_at); have hR1 := (hg.below.block (w.heap.size + 1) (by simp)).trans box_at1; have hlt1 : w.heap.size + 1 < w1.heap.size := (Array.getElem?_eq_some_iff.1 hR1).1; have hgA := HA.out.trans hg) | (go_at_call 80; refine (HB _ hgA).mono ?_; rintro e w2 ⟨rfl, hg2⟩; obtain ⟨p0, p1, p2, p3, p4⟩ := cells2 ((hg2.below.block (w.heap.size + 1) hlt1).trans hR1); have hgB := hgA.trans hg2))
      refine bodyPost_ret (v := .tuple #[.agg #[.int .i64 0, .slice none 0 0], .int .i64 13]) (by simp [results, Try.results81, go_sem, p0, p1]) rfl ⟨_, rfl, OR.nil _ _, fin.out _ hgB⟩
end Go.Proofs.Ytbgkeomlfdmkeaa

/- The contract of level.Subst, where it answers a level. -/
namespace Go.Proofs.Ytbgkeomlfdmkeaa
open Go.RowKit Go.Sort Go.Shelf Go.Lib

theorem sFold_len {ls : List (Int × List (Int × Int))} (hw : ls.any wrongL = false) (n : Int) (xs : List (Int × Int)) : (sFold ls n xs).2.length ≤ xs.length * 64 := by
  suffices h : ∀ (ys : List (Int × Int)) (acc : Int × List (Int × Int)), (ys.foldl (sStep ls) acc).2.length ≤ acc.2.length + ys.length * 64 by simpa [sFold] using h xs (n, [])
  intro ys
  induction ys with
  | nil => intro acc; simp
  | cons p r ih =>
    intro acc
    have h1 := ih (sStep ls acc p)
    have h2 : (sStep ls acc p).2.length ≤ acc.2.length + 64 := by
      simp only [sStep, List.length_append, rmap_len]
      rcases hl : ls[p.1.toNat]? with _ | ⟨an, axs⟩
      · simp
      · have := right_n (right_of_any hw hl)
        simp; omega
    simp only [List.foldl_cons, List.length_cons]; omega

theorem OR.toSL {B g n cap : Nat} {w : World} {xs : List (Int × Int)} (h : OR B w (.slice (some ⟨g, 0, none⟩) n cap) xs) : SL w (some ⟨g, 0, none⟩) xs := by
  obtain ⟨a', c', hv, hs, -⟩ := h.shape
  simp at hv
  rw [hv.1]; exact hs

set_option maxRecDepth 100000 in
set_option maxHeartbeats 2000000 in
theorem Subst_yes (n : Int) (xs : List (Int × Int)) (a : Option Addr) (cap : Nat) (ls : List (Int × List (Int × Int))) (la : Option Addr) (lcap : Nat) (w : World) (hS : SL w a xs) (hLs : LL w la ls) (hln : ls.length ≤ 4398046511104) (hlx : ∀ l ∈ ls, l.2.length ≤ 4398046511104)
    (hr : rightB n xs = true) (hbd : boundL xs ≤ ls.length) (hw : ls.any wrongL = false) :
    Calls Try.prog 81 #[.agg #[.int .i64 n, .slice a xs.length cap], .slice la ls.length lcap] w fun e w' => Res w w' e (canonR (sFold ls n xs).1 (sFold ls n xs).2) := by
  obtain ⟨i0, hi, hz0, hz1, hz2⟩ := info_parts infoLVar
  obtain ⟨hn0, hn1, hl64⟩ := right_n hr
  obtain ⟨W0, hW0⟩ : ∃ W0, (w.alloc (.cells #[.int .i64 n, .slice a xs.length cap] 43)).alloc (.cells #[.int .i64 0, .slice none 0 0] 43) = W0 := ⟨_, rfl⟩
  have hA : Grew w W0 := by rw [← hW0]; exact ((Grew.refl w).alloc _).alloc _
  have hL0 : W0.heap[w.heap.size]? = some (.cells #[.int .i64 n, .slice a xs.length cap] 43 (0, 0)) := by rw [← hW0]; exact box_at
  have hR0 : W0.heap[w.heap.size + 1]? = some (.cells #[.int .i64 0, .slice none 0 0] 43 (0, 0)) := by rw [← hW0]; exact box_at1
  have hsz : W0.heap.size = w.heap.size + 2 := by rw [← hW0]; simp
  have HR := right_any n xs a cap W0 (hS.below hA.below) (by omega)
  rw [hr] at HR
  have HB := fun (W : World) (h : Grew w W) => Bound_any n xs a cap W (hS.below h.below) (by omega)
  simp only [hr, if_true] at HB
  have HF := fun (W : World) (h : Grew w W) => ContainsFunc_any ls la lcap W (hLs.below h.below) (by omega) hlx
  rw [hw] at HF
  have HBD : Hid (∀ (j : Nat) (x y : Int), xs[j]? = some (x, y) → x + 1 ≤ (ls.length : Int)) := fun j x y h => by have := bound_at h; omega
  have HLN : Hid (∀ j : Nat, j ≤ xs.length → (sFold ls n (xs.take j)).2.length ≤ 4096) := fun j hj => by have := sFold_len hw n (xs.take j); simp at this; omega
  have HCa := fun (a' : Option Addr) (cap' : Nat) (W : World) (h : SL W a' (sFold ls n xs).2) => canonical_any (sFold ls n xs).1 a' cap' (sFold ls n xs).2 W h (by have := HLN.out xs.length (Nat.le_refl _); rw [List.take_length] at this; omega)
  generalize canonR (sFold ls n xs).1 (sFold ls n xs).2 = C at HCa ⊢
  have HRt := Hid.mk hr
  have HW := Hid.mk hw
  have HS := Hid.mk hS
  have HLs := Hid.mk hLs
  have HA := Hid.mk hA
  have HW0 := Hid.mk hW0
  have HSZ := Hid.mk hsz
  have HL0 := Hid.mk hL0
  have HR0 := Hid.mk hR0
  generalize boundL xs = bd at *
  clear hr hw hS hLs hlx hA hW0 hsz hL0 hR0
  go_enter Try.func81, Try.ntmps81
  go_wp2_with (first | (go_at_call 91; rw [HW0.out]; refine HR.mono ?_; rintro e w1 ⟨rfl, hg⟩; obtain ⟨r0, r1, -, -, -⟩ := cells2 ((hg.below.block w.heap.size (by rw [HSZ.out]; omega)).trans HL0.out); have hgA := HA.out.trans hg; have hgW1 := hg) | (go_at_call 80; refine (HB _ hgA).mono ?_; rintro e w2 ⟨rfl, hg2⟩; have hgB := hgA.trans hg2; have hgW2 := hgW1.trans hg2) | (go_at_call 76; refine (HF _ hgB).mono ?_; rintro e w3 ⟨rfl, hg3⟩; have hgW3 := hgW2.trans hg3; obtain ⟨s0, s1, -, -, -⟩ := cells2 ((hgW3.below.block w.heap.size (by rw [HSZ.out]; omega)).trans HL0.out)))
  clear s0 s1 r0 r1 HB HF HR
  go_loopw [6, 7, 32] (fun m v i wr => ∃ j : Nat, j ≤ xs.length ∧ i = .int .i64 j ∧ RowKit.Below W0.heap.size W0 wr ∧ OR W0.heap.size wr v (sFold ls n (xs.take j)).2 ∧ m = .int .i64 (sFold ls n (xs.take j)).1) (fun _ _ i _ => xs.length - (intOf i).toNat)
  case atStart => exact ⟨0, Nat.zero_le _, rfl, hgW3.below, OR.nil _ _, rfl⟩
  case round =>
    clear hg hgA hgW1 hg2 hgB hgW2 hg3 hgW3
    obtain ⟨j, hj, rfl, hb, hO, rfl⟩ := hrel
    have hbb := hb.size
    have HO := Hid.mk hO
    clear hO
    have HGw : Hid (RowKit.Below w.heap.size w wr) := HA.out.below.trans (hb.mono (by rw [HSZ.out]; omega))
    by_cases hlt : j < xs.length
    · obtain ⟨b, off, x, y, rfl, hbl, hc0, hc1, hxy⟩ := (HS.out.below HGw.out).at hlt
      obtain ⟨hx0, hx1, hy0, hy1⟩ := right_at HRt.out hxy.out
      have hxl := HBD.out j x y hxy.out
      obtain ⟨vn, rfl⟩ := Int.eq_ofNat_of_zero_le hx0
      obtain ⟨ab, aoff, an, axs, a', cap', rfl, habl, ha0, ha1, hSa, hla⟩ := (HLs.out.below HGw.out).at (k := vn) (by omega)
      have hra := right_of_any HW.out hla.out
      obtain ⟨han0, han1, hax⟩ := right_n hra
      have HE := Hid.mk (sFold_take (n := n) hxy.out (by simpa using hla.out))
      have hln1 := HLN.out j hj
      have hln2 := HLN.out (j + 1) hlt
      have HLN2 := Hid.mk hln2
      have HSa := Hid.mk hSa
      have HRA := fun (W : World) (h : Grew wr W) => raised_any an y axs a' cap' W (HSa.out.below h.below) hra hy0
      have hK0 : 0 ≤ min y 1001 := by omega
      have hK1 : min y 1001 ≤ 1001 := by omega
      generalize min y 1001 = K at *
      generalize sFold ls n (xs.take j) = acc at *
      clear hSa hln2 hra
      have zv0 : (0 : Int) ≤ (vn : Int) := by omega
      have zv1 : (vn : Int) < (ls.length : Int) := by omega
      have hle : W0.heap.size ≤ wr.heap.size := hbb
      go_wp2_with fail
      go_region_held3 (fun w' => w'.cell? ⟨wr.heap.size, 0, none⟩ = some (.int .i64 vn) ∧ w'.cell? ⟨wr.heap.size, 1, none⟩ = some (.int .i64 y) ∧ w'.cell? ⟨ab, aoff + vn * 2, none⟩ = some (.int .i64 an) ∧ w'.cell? ⟨ab, aoff + vn * 2 + 1, none⟩ = some (.slice a' axs.length cap')) (first | go_keep | (go_split_ands; refine ⟨?_, ?_, ?_, ?_⟩ <;> (rw [hb2.cell (by first | (simp; done) | (simp; omega))]; assumption)))
        (first | (go_at_call 93; refine (HRA _ (by repeat (first | exact Grew.refl _ | refine Grew.drew ?_ | refine Grew.alloc ?_ _))).mono ?_; rintro e w2 ⟨g2, cap2, rfl, hO2, hb2⟩))
      have hBw : RowKit.Below W0.heap.size W0 w2 := (((hb.alloc hbb _).drew).trans (hb2.mono (by simp; omega)))
      have HO2 := Hid.mk ((HO.out.below (Grew.below (by repeat (first | exact Grew.refl _ | refine Grew.drew ?_ | refine Grew.alloc ?_ _)))).below hb2)
      have hfl := (OR.toSL hO2).flat
      have hl : (flat (rmap K axs)).length = axs.length * 2 := by rw [flat_length, rmap_len]
      have hone := flat_one (rmap K axs)
      have hsz2 := hBw.size
      have HBw := Hid.mk hBw
      clear hBw hO2 hb2 HRA ha0 ha1 hc0 hc1
      go_wp2_with (first | (at_builtin; refine wpList_append_own _ rfl _ _ 41 rfl W0.heap.size 89 i0 _ 2 16 Try.underlying41 hi hz0 hz1 hz2 rfl (by decide) _ acc.2.length (flat acc.2) rfl HO2.out ⟨g2, 0, none⟩ axs.length cap2 (flat (rmap K axs)) rfl hl hfl hone (by simp [maxLen]; omega) (by omega) (by omega) ?_; intro v' w4 hown' hgrow _))
      all_goals
        refine ⟨⟨j + 1, hlt, by go_num, HBw.out.grown hgrow (by omega) (fun k e => (World.ownsRow.lt HO2.out k e).1), ?_, ?_⟩, by simp [intOf]; omega⟩
        · rw [HE.out]
          unfold OR
          rw [flat_append, List.length_append, rmap_len]
          exact hown'
        · rw [HE.out]
          first | (exact congrArg (Value.int .i64) (by simp only; omega)) | done
    · have htk : xs.take j = xs := List.take_of_length_le (by omega)
      rw [htk] at HO ⊢
      clear htk
      generalize sFold ls n xs = acc at *
      obtain ⟨a2, cap2, hv2, hS2, -⟩ := HO.out.shape
      subst hv2
      have HCb := HCa a2 cap2 wr hS2
      have hR1 := (hb.block (w.heap.size + 1) (by rw [HSZ.out]; omega)).trans HR0.out
      have hltw : w.heap.size + 1 < wr.heap.size := (Array.getElem?_eq_some_iff.1 hR1).1
      clear hS2 HCa
      go_wp2_with (go_at_call 94; refine HCb.mono ?_; rintro e w3 ⟨v, rfl, hO3, hb3⟩; obtain ⟨a', cap', rfl, -⟩ := hO3.shape; obtain ⟨p0, p1, p2, p3, p4⟩ := cells2 ((hb3.block (w.heap.size + 1) hltw).trans hR1))
      refine bodyPost_ret (v := .tuple #[.agg #[.int .i64 C.1, .slice a' C.2.1.length cap'], .int .i64 C.2.2]) (by simp [results, Try.results81, go_sem, p0, p1]) rfl ⟨_, rfl, ?_, ?_⟩
      · exact OR.mono ((hO3.setBelow (a := ⟨w.heap.size + 1, 0, none⟩) hltw _).setBelow (a := ⟨w.heap.size + 1, 1, none⟩) hltw _) (by omega)
      · exact ((HGw.out.trans (hb3.mono (by omega))).setCell (p := ⟨w.heap.size + 1, 0, none⟩) (Nat.le_succ _) _).setCell (p := ⟨w.heap.size + 1, 1, none⟩) (Nat.le_succ _) _

theorem Subst_any (n : Int) (xs : List (Int × Int)) (a : Option Addr) (cap : Nat) (ls : List (Int × List (Int × Int))) (la : Option Addr) (lcap : Nat) (w : World) (hS : SL w a xs) (hn : xs.length ≤ 4398046511104) (hLs : LL w la ls) (hln : ls.length ≤ 4398046511104) (hlx : ∀ l ∈ ls, l.2.length ≤ 4398046511104) :
    Calls Try.prog 81 #[.agg #[.int .i64 n, .slice a xs.length cap], .slice la ls.length lcap] w fun e w' => Res w w' e (substR n xs ls) := by
  unfold substR
  by_cases h : rightB n xs = true ∧ boundL xs ≤ ls.length ∧ ls.any wrongL = false
  · rw [if_pos h]; exact Subst_yes n xs a cap ls la lcap w hS hLs hln hlx h.1 h.2.1 h.2.2
  · rw [if_neg h]; exact Subst_no n xs a cap ls la lcap w hS hn hLs hln hlx h
end Go.Proofs.Ytbgkeomlfdmkeaa
