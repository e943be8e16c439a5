/- The contracts of level.canonical and level.Norm. -/
import Derived.Test.YtbgkeomlfdmkeaaMU
import Derived.Deep.RegionHeld3
import Derived.Deep.AppendLies
namespace Go.Proofs.Ytbgkeomlfdmkeaa
open Go.RowKit Go.Sort Go.Shelf Go.Lib

/-- A level and a number are answered; the level's list lies in new memory; nothing old has turned. -/
def Res (w w' : World) (e : Ending) (r : Int × List (Int × Int) × Int) : Prop :=
  ∃ v, e = .returned (.tuple #[.agg #[.int .i64 r.1, v], .int .i64 r.2.2]) ∧ OR w.heap.size w' v r.2.1 ∧ RowKit.Below w.heap.size w w'

/-- N of the canonical level -/
def nOf (n : Int) (ys : List (Int × Int)) : Int := if ys.any (fun p => decide (n ≤ p.2)) then 0 else n

/-- what canonical answers -/
def canonR (n : Int) (xs : List (Int × Int)) : Int × List (Int × Int) × Int := if rightB (nOf n (tidyL xs)) (tidyL xs) then (nOf n (tidyL xs), tidyL xs, 0) else (0, [], 13)

theorem nOf_take {n : Int} {ys : List (Int × Int)} {k : Nat} {z : Int × Int} (h : ys[k]? = some z) : nOf n (ys.take (k + 1)) = if n ≤ z.2 then 0 else nOf n (ys.take k) := by
  obtain ⟨hk, rfl⟩ := List.getElem?_eq_some_iff.1 h
  unfold nOf
  rw [List.take_succ_eq_append_getElem hk, List.any_append]
  by_cases h : n ≤ ys[k].2
  · simp [h]
  · have : decide (n ≤ ys[k].2) = false := by simp; omega
    simp only [List.any_cons, List.any_nil, this, Bool.or_false, if_neg h]

theorem OR.setBelow {B : Nat} {w : World} {v : Value} {xs : List (Int × Int)} (h : OR B w v xs) {a : Addr} (ha : a.block < B) (u : Value) : OR B (w.setCell a u) v xs := ownsRow_setCell_below h ha u

set_option maxHeartbeats 2000000 in
theorem canonical_any (n : Int) (a : Option Addr) (cap : Nat) (xs : List (Int × Int)) (w : World) (hS : SL w a xs) (hn : xs.length ≤ 4398046511104) :
    Calls Try.prog 94 #[.int .i64 n, .slice a xs.length cap] w fun e w' => Res w w' e (canonR n xs) := by
  have hG := gathered_any a cap xs (w.alloc (.cells #[.int .i64 0, .slice none 0 0] 43)) (hS.below ((Grew.refl w).alloc _).below) hn
  have HL : (tidyL xs).length ≤ xs.length := tidyL_le xs
  have HC : Hid (canonR n xs = if rightB (nOf n (tidyL xs)) (tidyL xs) then (nOf n (tidyL xs), tidyL xs, 0) else (0, [], 13)) := rfl
  generalize canonR n xs = C at HC ⊢
  generalize tidyL xs = ys at hG HL HC ⊢
  clear hS
  go_enter Try.func94, Try.ntmps94
  go_wp2_with (go_at_call 98; refine hG.mono ?_; rintro e w1 ⟨v, rfl, hO, hB⟩; obtain ⟨a', cap', rfl, hS1, -⟩ := hO.shape)
  have hz := hB.size
  have hz' : w.heap.size + 1 ≤ w1.heap.size := by simpa using hz
  clear hG hz
  have HO := Hid.mk hO
  have HS1 := Hid.mk hS1
  have HB := Hid.mk hB
  clear hO hS1 hB
  go_loopw [16] (fun i wr => ∃ k : Nat, k ≤ ys.length ∧ i = .int .i64 k ∧ RowKit.Below w1.heap.size w1 wr ∧ wr.heap[w1.heap.size]? = some (.cells #[.int .i64 (nOf n (ys.take k)), .slice a' ys.length cap'] 43 (0, 0))) (fun i _ => ys.length - (intOf i).toNat)
  case atStart => exact ⟨0, Nat.zero_le _, rfl, (Below.refl _ _).alloc (Nat.le_refl _) _, by simp only [nOf, List.take_zero, List.any_nil]; exact alloc_new _ _⟩
  case round =>
    obtain ⟨k, hk, rfl, hb, hh⟩ := hrel
    obtain ⟨q0, q1, q2, q3, q4⟩ := cells2 hh
    have HH := Hid.mk hh
    clear hh
    have hbb := hb.size
    by_cases hlt : k < ys.length
    · obtain ⟨b, off, x, y, rfl, hbl, hc0, hc1, hxy⟩ := (HS1.out.below hb).at hlt
      have HE := Hid.mk (nOf_take (n := n) hxy.out)
      generalize nOf n (ys.take k) = m at *
      by_cases hge : n ≤ y
      · go_wp2
        refine ⟨⟨k + 1, hlt, by go_num, (hb.setCell (p := ⟨w1.heap.size, 0, none⟩) (Nat.le_refl _) _).alloc (by simpa using hbb) _, ?_⟩, by simp [intOf]; omega⟩
        rw [HE.out, if_pos hge]
        exact alloc_old (heap_set0 HH.out) _
      · go_wp2
        refine ⟨⟨k + 1, hlt, by go_num, hb.alloc hbb _, ?_⟩, by simp [intOf]; omega⟩
        rw [HE.out, if_neg (by simpa using hge)]
        exact alloc_old HH.out _
    · have hk' : k = ys.length := by omega
      subst hk'
      rw [List.take_length] at q0 HH
      have HR := right_any (nOf n ys) ys a' cap' wr (HS1.out.below hb) (by omega)
      have hR0 : w1.heap[w.heap.size]? = some (.cells #[.int .i64 0, .slice none 0 0] 43 (0, 0)) := (HB.out.block w.heap.size (by simp)).trans (alloc_new _ _)
      have hR1 := (hb.block w.heap.size (by omega)).trans hR0
      generalize nOf n ys = m at *
      have hbB : RowKit.Below w.heap.size w wr := (((Below.refl w.heap.size w).alloc (Nat.le_refl _) _).trans (HB.out.mono (by simp))).trans (hb.mono (by omega))
      have HOr := Hid.mk (HO.out.below hb)
      cases hr : rightB m ys
      · simp only [hr] at HR
        go_wp2_with (go_at_call 91; refine HR.mono ?_; rintro e w2 ⟨rfl, hg2⟩; obtain ⟨p0, p1, p2, p3, p4⟩ := cells2 ((hg2.below.block w.heap.size (by omega)).trans hR1))
        have hCe := HC.out
        rw [hr, if_neg (by simp)] at hCe
        subst hCe
        refine bodyPost_ret (v := .tuple #[.agg #[.int .i64 0, .slice none 0 0], .int .i64 13]) (by simp [results, Try.results94, go_sem, p0, p1]) rfl ⟨_, rfl, OR.nil _ _, ?_⟩
        exact ((hbB.trans (hg2.below.mono (by omega))).setCell (p := ⟨w.heap.size, 0, none⟩) (Nat.le_refl _) _).setCell (p := ⟨w.heap.size, 1, none⟩) (Nat.le_refl _) _
      · simp only [hr] at HR
        go_wp2_with (go_at_call 91; refine HR.mono ?_; rintro e w2 ⟨rfl, hg2⟩; obtain ⟨p0, p1, p2, p3, p4⟩ := cells2 ((hg2.below.block w.heap.size (by omega)).trans hR1); obtain ⟨r0, r1, r2, r3, r4⟩ := cells2 ((hg2.below.block w1.heap.size (by omega)).trans HH.out))
        have hCe := HC.out
        rw [hr, if_pos rfl] at hCe
        subst hCe
        refine bodyPost_ret (v := .tuple #[.agg #[.int .i64 m, .slice a' ys.length cap'], .int .i64 0]) (by simp [results, Try.results94, go_sem, p0, p1]) rfl ⟨_, rfl, ?_, ?_⟩
        · exact OR.mono (((HOr.out.below hg2.below).setBelow (a := ⟨w.heap.size, 0, none⟩) (by simp) _).setBelow (a := ⟨w.heap.size, 1, none⟩) (by simp) _) (by simp)
        · exact ((hbB.trans (hg2.below.mono (by omega))).setCell (p := ⟨w.heap.size, 0, none⟩) (Nat.le_refl _) _).setCell (p := ⟨w.heap.size, 1, none⟩) (Nat.le_refl _) _
end Go.Proofs.Ytbgkeomlfdmkeaa

/- The contracts of level.Norm, level.raised and level.Suc. -/
namespace Go.Proofs.Ytbgkeomlfdmkeaa
open Go.RowKit Go.Sort Go.Shelf Go.Lib

/-- what Norm answers -/
def normR (n : Int) (xs : List (Int × Int)) : Int × List (Int × Int) × Int := if rightB n xs then canonR n xs else (0, [], 13)

set_option maxHeartbeats 1000000 in
theorem Norm_any (n : Int) (xs : List (Int × Int)) (a : Option Addr) (cap : Nat) (w : World) (hS : SL w a xs) (hn : xs.length ≤ 4398046511104) :
    Calls Try.prog 89 #[.agg #[.int .i64 n, .slice a xs.length cap]] w fun e w' => Res w w' e (normR n xs) := by
  have HR := right_any n xs a cap ((w.alloc (.cells #[.int .i64 n, .slice a xs.length cap] 43)).alloc (.cells #[.int .i64 0, .slice none 0 0] 43)) (hS.below (((Grew.refl w).alloc _).alloc _).below) (by omega)
  have HC : Hid (normR n xs = if rightB n xs then canonR n xs else (0, [], 13)) := rfl
  have HCa := fun (W : World) (h : SL W a xs) => canonical_any n a cap xs W h hn
  generalize canonR n xs = C at HC HCa
  generalize normR n xs = D at HC ⊢
  have HS := Hid.mk hS
  clear hS
  have hA : Grew w ((w.alloc (.cells #[.int .i64 n, .slice a xs.length cap] 43)).alloc (.cells #[.int .i64 0, .slice none 0 0] 43)) := ((Grew.refl w).alloc _).alloc _
  have HA := Hid.mk hA
  clear hA
  cases hr : rightB n xs
  · rw [hr, if_neg (by simp)] at HC
    simp only [hr] at HR
    go_enter Try.func89, Try.ntmps89
    go_wp2_with (go_at_call 91; refine HR.mono ?_; rintro e w1 ⟨rfl, hg⟩; obtain ⟨p0, p1, p2, p3, p4⟩ := cells2 ((hg.below.block (w.heap.size + 1) (by simp)).trans box_at1))
    have hCe := HC.out
    subst hCe
    refine bodyPost_ret (v := .tuple #[.agg #[.int .i64 0, .slice none 0 0], .int .i64 13]) (by simp [results, Try.results89, go_sem, p0, p1]) rfl ⟨_, rfl, OR.nil _ _, ?_⟩
    exact ((HA.out.trans hg).below.setCell (p := ⟨w.heap.size + 1, 0, none⟩) (Nat.le_succ _) _).setCell (p := ⟨w.heap.size + 1, 1, none⟩) (Nat.le_succ _) _
  · rw [hr, if_pos rfl] at HC
    simp only [hr] at HR
    go_enter Try.func89, Try.ntmps89
    go_wp2_with (first | (go_at_call 91; refine HR.mono ?_; rintro e w1 ⟨rfl, hg⟩; obtain ⟨r0, r1, r2, r3, r4⟩ := cells2 ((hg.below.block w.heap.size (by simp; omega)).trans box_at); have hR1 := (hg.below.block (w.heap.size + 1) (by simp)).trans box_at1; have hlt1 : w.heap.size + 1 < w1.heap.size := (Array.getElem?_eq_some_iff.1 hR1).1) | (go_at_call 94; refine (HCa _ (by exact HS.out.below (HA.out.trans hg).below)).mono ?_; rintro e w2 ⟨v, rfl, hO, hb2⟩; obtain ⟨a', cap', rfl, -⟩ := hO.shape; obtain ⟨p0, p1, p2, p3, p4⟩ := cells2 ((hb2.block (w.heap.size + 1) hlt1).trans hR1)))
    have hCe := HC.out
    subst hCe
    refine bodyPost_ret (v := .tuple #[.agg #[.int .i64 D.1, .slice a' D.2.1.length cap'], .int .i64 D.2.2]) (by simp [results, Try.results89, go_sem, p0, p1]) rfl ⟨_, rfl, ?_, ?_⟩
    · exact OR.mono ((hO.setBelow (a := ⟨w.heap.size + 1, 0, none⟩) hlt1 _).setBelow (a := ⟨w.heap.size + 1, 1, none⟩) hlt1 _) (by omega)
    · exact (((HA.out.trans hg).below.trans (hb2.mono (by omega))).setCell (p := ⟨w.heap.size + 1, 0, none⟩) (Nat.le_succ _) _).setCell (p := ⟨w.heap.size + 1, 1, none⟩) (Nat.le_succ _) _
end Go.Proofs.Ytbgkeomlfdmkeaa

/- The contracts of level.adding, of its closure, and of level.raised. -/
namespace Go.Proofs.Ytbgkeomlfdmkeaa
open Go.RowKit Go.Sort Go.Shelf Go.Lib

set_option maxHeartbeats 400000 in
theorem adding_any (k : Int) (w : World) : Calls Try.prog 97 #[.int .i64 k] w fun e w' => e = .returned (.func (.func 100) #[] #[.pointer (some ⟨w.heap.size, 0, none⟩)]) ∧ w' = w.alloc (.cells #[.int .i64 (min k 1001)] 3) := by
  by_cases h : k ≤ 1001
  · have HE : Hid (min k 1001 = k) := by unfold Hid; omega
    go_enter Try.func97, Try.ntmps97
    go_wp2
    go_ret
    exact ⟨rfl, by rw [HE.out]⟩
  · have HE : Hid (min k 1001 = 1001) := by unfold Hid; omega
    go_enter Try.func97, Try.ntmps97
    go_wp2
    go_ret
    exact ⟨rfl, by rw [HE.out]⟩

set_option maxHeartbeats 400000 in
theorem adding1_any (x k : Int) (b : Nat) (w : World) (hc : w.cell? ⟨b, 0, none⟩ = some (.int .i64 k)) (h0 : 0 ≤ x) (h1 : x ≤ 4611686018427387904) (h2 : 0 ≤ k) (h3 : k ≤ 1001) :
    Calls Try.prog 100 #[.int .i64 x, .pointer (some ⟨b, 0, none⟩)] w fun e w' => e = .returned (.int .i64 (x + k)) ∧ w' = w := by
  go_enter Try.func100, Try.ntmps100
  go_wp2
  go_ret
  exact ⟨rfl, rfl⟩

/-- k added to each Add -/
def rmap (k : Int) (xs : List (Int × Int)) : List (Int × Int) := xs.map fun p => (p.1, p.2 + k)

theorem rmap_take {k : Int} {xs : List (Int × Int)} {j : Nat} {x y : Int} (h : xs[j]? = some (x, y)) : rmap k (xs.take (j + 1)) = rmap k (xs.take j) ++ [(x, y + k)] := by
  obtain ⟨hk, e⟩ := List.getElem?_eq_some_iff.1 h
  unfold rmap
  rw [List.take_succ_eq_append_getElem hk, e]; simp

theorem rmap_len (k : Int) (xs : List (Int × Int)) : (rmap k xs).length = xs.length := by simp [rmap]

set_option maxRecDepth 100000 in
set_option maxHeartbeats 2000000 in
theorem raised_any (n k : Int) (xs : List (Int × Int)) (a : Option Addr) (cap : Nat) (w : World) (hS : SL w a xs) (hr : rightB n xs = true) (hk0 : 0 ≤ k) :
    Calls Try.prog 93 #[.agg #[.int .i64 n, .slice a xs.length cap], .int .i64 k] w fun e w' => ∃ g cap', e = .returned (.tuple #[.int .i64 (n + min k 1001), .slice (some ⟨g, 0, none⟩) xs.length cap']) ∧ OR w.heap.size w' (.slice (some ⟨g, 0, none⟩) xs.length cap') (rmap (min k 1001) xs) ∧ RowKit.Below w.heap.size w w' := by
  obtain ⟨i0, hi, hz0, hz1, hz2⟩ := info_parts infoLVar
  obtain ⟨hn0, hn1, hl64⟩ := right_n hr
  have HRt := Hid.mk hr
  have HS := Hid.mk hS
  have HA := fun (W : World) => adding_any k W
  have hK0 : 0 ≤ min k 1001 := by omega
  have hK1 : min k 1001 ≤ 1001 := by omega
  generalize min k 1001 = K at *
  clear hr hS
  obtain ⟨Wm, hWm⟩ : ∃ Wm, (w.alloc (.cells #[.int .i64 n, .slice a xs.length cap] 43)).alloc (.cells #[.int .i64 K] 3) = Wm := ⟨_, rfl⟩
  have hsz : Wm.heap.size = w.heap.size + 2 := by rw [← hWm]; simp
  have HG : Hid (Grew w Wm) := by rw [← hWm]; exact ((Grew.refl w).alloc _).alloc _
  have HL : Hid (Wm.heap[w.heap.size]? = some (.cells #[.int .i64 n, .slice a xs.length cap] 43 (0, 0))) := by rw [← hWm]; exact box_at
  have HK : Hid (Wm.cell? ⟨w.heap.size + 1, 0, none⟩ = some (.int .i64 K)) := by unfold Hid; rw [cell_of_row _ (w.heap.size + 1) 0 _ _ _ (by rw [← hWm]; exact box_at1)]; rfl
  obtain ⟨l0, l1, -, -, -⟩ := cells2 HL.out
  have HSZ := Hid.mk hsz
  have HW := Hid.mk hWm
  clear hWm hsz
  go_enter Try.func93, Try.ntmps93
  go_wp2_with (first | (go_at_call 97; refine (HA _).mono ?_; rintro e w' ⟨rfl, rfl⟩; rw [HW.out]) | (at_make; refine wpList_make_own _ rfl _ _ 41 rfl Wm.heap.size 89 i0 _ 2 Try.underlying41 hi hz0 hz1 .i64 .i64 _ xs.length rfl rfl rfl (by rw [hz2]; omega) (by simp [maxLen]; omega) (Nat.le_refl _) ?_; intro w1 hown hgr; have HB1 : Hid (RowKit.Below Wm.heap.size Wm w1) := (Below.refl _ _).grown hgr (Nat.le_refl _) (fun k e => by cases e); obtain ⟨m0, m1, -, -, -⟩ := cells2 ((HB1.out.block w.heap.size (by rw [HSZ.out]; omega)).trans HL.out); have HO1 : Hid (OR Wm.heap.size w1 (.slice (some ⟨Wm.heap.size, 0, none⟩) 0 xs.length) []) := hown; clear hown hgr))
  go_loopw [7, 19] (fun v i wr => ∃ (j : Nat), j ≤ xs.length ∧ i = .int .i64 j ∧ RowKit.Below Wm.heap.size Wm wr ∧ OR Wm.heap.size wr v (rmap K (xs.take j)) ∧ ∃ g c, v = .slice (some ⟨g, 0, none⟩) j c) (fun _ i _ => xs.length - (intOf i).toNat)
  case atStart => exact ⟨0, Nat.zero_le _, rfl, HB1.out, HO1.out, _, _, rfl⟩
  case round =>
    clear HB1 HO1 m0 m1 l0 l1 HA
    obtain ⟨j, hj, rfl, hb, hO, gv, cv, rfl⟩ := hrel
    have hbb := hb.size
    have HO := Hid.mk hO
    by_cases hlt : j < xs.length
    · obtain ⟨b, off, x, y, rfl, hbl, hc0, hc1, hxy⟩ := (HS.out.below (HG.out.below.trans (hb.mono (by rw [HSZ.out]; omega)))).at hlt
      obtain ⟨hx0, hx1, hy0, hy1⟩ := right_at HRt.out hxy.out
      have hkc : wr.cell? ⟨w.heap.size + 1, 0, none⟩ = some (.int .i64 K) := (hb.cell (p := ⟨w.heap.size + 1, 0, none⟩) (by rw [HSZ.out]; simp)).trans HK.out
      have hkl : w.heap.size + 1 < wr.heap.size := by have := HSZ.out; omega
      clear hO
      have hra := rmap_take (k := K) hxy.out
      have hrl : (rmap K (xs.take j)).length = j := by rw [rmap_len]; simp; omega
      have HRA := Hid.mk hra
      have HRL := Hid.mk hrl
      clear hra hrl
      generalize rmap K (xs.take j) = ys at HO HRA HRL
      have hle : Wm.heap.size ≤ wr.heap.size := hbb
      have ag : Hid (∀ v, OR Wm.heap.size wr v ys → v.ownBlock ≠ some wr.heap.size ∧ v.ownBlock ≠ some (w.heap.size + 1)) := fun v h => ⟨fun e => by have := World.ownsRow.lt h _ e; omega, fun e => by have := World.ownsRow.lt h _ e; have := HSZ.out; omega⟩
      go_wp2_with fail
      go_region_held3 (fun w' => w'.cell? ⟨wr.heap.size, 0, none⟩ = some (.int .i64 x) ∧ w'.cell? ⟨wr.heap.size, 1, none⟩ = some (.int .i64 y) ∧ w'.cell? ⟨w.heap.size + 1, 0, none⟩ = some (.int .i64 K)) (first | go_keep | (go_split_ands; refine ⟨?_, ?_, ?_⟩; (rw [hgrow.cell_far _ (by simp; omega) (Ne.symm (ag.out _ HO.out).1)]; assumption); (rw [hgrow.cell_far _ (by simp; omega) (Ne.symm (ag.out _ HO.out).1)]; assumption); (rw [hgrow.cell_far _ (by simp; omega) (Ne.symm (ag.out _ HO.out).2)]; assumption)))
        (first | (refine step_append_lies _ (by rfl) _ _ _ (by rfl) Wm.heap.size 89 i0 _ 2 16 Try.underlying41 hi hz0 hz1 hz2 rfl (by omega) _ ys.length (flat ys) (by rfl) (((HO.out.alloc _).alloc _).drew) ⟨wr.heap.size + 1, 0, none⟩ 1 1 [.int .i64 x, .int .i64 (y + K)] (by rfl) (by rfl) (World.news_of_block (cs := #[.int .i64 x, .int .i64 (y + K)]) (t := 89) (fr := (0, 0)) box_at1) (by simp [Value.oneCell']) (by omega) (by rw [HRL.out]; simp [maxLen]; omega) (by rw [HRL.out]; omega) (by simp; omega) (wr.heap.size + 2) (by simp) ?_; intro gg cap1 w1 hown1 hgrow hat hlt1) | (go_at_call 100; refine (adding1_any y K (w.heap.size + 1) _ ?_ hy0 (by omega) hK0 hK1).mono ?_; (simp [*]); rintro e w' ⟨rfl, rfl⟩))
      go_wp2
      have hB2 : RowKit.Below Wm.heap.size Wm w1 := (((hb.alloc hbb _).alloc (by simp; omega) _).drew).grown hgrow (by simp; omega) (fun k e => (World.ownsRow.lt HO.out k e).1)
      refine ⟨⟨j + 1, hlt, by go_num, hB2, ?_, gg, cap1, by rw [HRL.out]⟩, by simp [intOf]; omega⟩
      rw [HRA.out]
      unfold OR
      rw [flat_append, List.length_append]
      exact hown1
    · have hj' : j = xs.length := by omega
      subst hj'
      rw [List.take_length] at HO
      obtain ⟨l0, l1, -, -, -⟩ := cells2 ((hb.block w.heap.size (by rw [HSZ.out]; omega)).trans HL.out)
      have hkc : wr.cell? ⟨w.heap.size + 1, 0, none⟩ = some (.int .i64 K) := (hb.cell (p := ⟨w.heap.size + 1, 0, none⟩) (by rw [HSZ.out]; simp)).trans HK.out
      clear hO
      go_wp2_with (go_at_call 100; refine (adding1_any n K (w.heap.size + 1) _ hkc hn0 (by omega) hK0 hK1).mono ?_; rintro e w' ⟨rfl, rfl⟩)
      go_ret2
      exact ⟨gv, cv, rfl, HO.out.mono (by rw [HSZ.out]; omega), HG.out.below.trans (hb.mono (by rw [HSZ.out]; omega))⟩
end Go.Proofs.Ytbgkeomlfdmkeaa
