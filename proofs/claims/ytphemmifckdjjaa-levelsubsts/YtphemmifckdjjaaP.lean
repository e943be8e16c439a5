/- The contract of level.Subst, where it answers a level. -/
import Derived.Test.YtphemmifckdjjaaO
namespace Go.Proofs.Ytphemmifckdjjaa
open Go.RowKit Go.Sort Go.Shelf Go.Lib

theorem sFold_len {ls : List (Int × List (Int × Int))} (hw : ls.any wrongL = false) (n : Int) (xs : List (Int × Int)) : (sFold ls n xs).2.length ≤ xs.length * 64 := by
  suffices h : ∀ (ys : List (Int × Int)) (acc : Int × List (Int × Int)), (ys.foldl (sStep ls) acc).2.length ≤ acc.2.length + ys.length * 64 by simpa [sFold] using h xs (n, [])
  intro ys
  induction ys with
  | nil => intro acc; simp
  | cons p r ih =>
    intro acc
    have h1 := ih (sStep ls acc p)
    have h2 : (sStep ls acc p).2.length ≤ acc.2.length + 64 := by
      simp only [sStep, List.length_append, rmap_len]
      rcases hl : ls[p.1.toNat]? with _ | ⟨an, axs⟩
      · simp
      · have := right_n (right_of_any hw hl)
        simp; omega
    simp only [List.foldl_cons, List.length_cons]; omega

theorem OR.toSL {B g n cap : Nat} {w : World} {xs : List (Int × Int)} (h : OR B w (.slice (some ⟨g, 0, none⟩) n cap) xs) : SL w (some ⟨g, 0, none⟩) xs := by
  obtain ⟨a', c', hv, hs, -⟩ := h.shape
  simp at hv
  rw [hv.1]; exact hs

set_option maxRecDepth 100000 in
set_option maxHeartbeats 2000000 in
theorem Subst_yes (n : Int) (xs : List (Int × Int)) (a : Option Addr) (cap : Nat) (ls : List (Int × List (Int × Int))) (la : Option Addr) (lcap : Nat) (w : World) (hS : SL w a xs) (hLs : LL w la ls) (hln : ls.length ≤ 4398046511104) (hlx : ∀ l ∈ ls, l.2.length ≤ 4398046511104)
    (hr : rightB n xs = true) (hbd : boundL xs ≤ ls.length) (hw : ls.any wrongL = false) :
    Calls Try.prog 30 #[.agg #[.int .i64 n, .slice a xs.length cap], .slice la ls.length lcap] w fun e w' => Res w w' e (canonR (sFold ls n xs).1 (sFold ls n xs).2) := by
  obtain ⟨i0, hi, hz0, hz1, hz2⟩ := info_parts infoLVar
  obtain ⟨hn0, hn1, hl64⟩ := right_n hr
  obtain ⟨W0, hW0⟩ : ∃ W0, (w.alloc (.cells #[.int .i64 n, .slice a xs.length cap] 24)).alloc (.cells #[.int .i64 0, .slice none 0 0] 24) = W0 := ⟨_, rfl⟩
  have hA : Grew w W0 := by rw [← hW0]; exact ((Grew.refl w).alloc _).alloc _
  have hL0 : W0.heap[w.heap.size]? = some (.cells #[.int .i64 n, .slice a xs.length cap] 24 (0, 0)) := by rw [← hW0]; exact box_at
  have hR0 : W0.heap[w.heap.size + 1]? = some (.cells #[.int .i64 0, .slice none 0 0] 24 (0, 0)) := by rw [← hW0]; exact box_at1
  have hsz : W0.heap.size = w.heap.size + 2 := by rw [← hW0]; simp
  have HR := right_any n xs a cap W0 (hS.below hA.below) (by omega)
  rw [hr] at HR
  have HB := fun (W : World) (h : Grew w W) => Bound_any n xs a cap W (hS.below h.below) (by omega)
  simp only [hr, if_true] at HB
  have HF := fun (W : World) (h : Grew w W) => ContainsFunc_any ls la lcap W (hLs.below h.below) (by omega) hlx
  rw [hw] at HF
  have HBD : Hid (∀ (j : Nat) (x y : Int), xs[j]? = some (x, y) → x + 1 ≤ (ls.length : Int)) := fun j x y h => by have := bound_at h; omega
  have HLN : Hid (∀ j : Nat, j ≤ xs.length → (sFold ls n (xs.take j)).2.length ≤ 4096) := fun j hj => by have := sFold_len hw n (xs.take j); simp at this; omega
  have HCa := fun (a' : Option Addr) (cap' : Nat) (W : World) (h : SL W a' (sFold ls n xs).2) => canonical_any (sFold ls n xs).1 a' cap' (sFold ls n xs).2 W h (by have := HLN.out xs.length (Nat.le_refl _); rw [List.take_length] at this; omega)
  generalize canonR (sFold ls n xs).1 (sFold ls n xs).2 = C at HCa ⊢
  have HRt := Hid.mk hr
  have HW := Hid.mk hw
  have HS := Hid.mk hS
  have HLs := Hid.mk hLs
  have HA := Hid.mk hA
  have HW0 := Hid.mk hW0
  have HSZ := Hid.mk hsz
  have HL0 := Hid.mk hL0
  have HR0 := Hid.mk hR0
  generalize boundL xs = bd at *
  clear hr hw hS hLs hlx hA hW0 hsz hL0 hR0
  go_enter Try.func30, Try.ntmps30
  go_wp2_with (first | (go_at_call 33; rw [HW0.out]; refine HR.mono ?_; rintro e w1 ⟨rfl, hg⟩; obtain ⟨r0, r1, -, -, -⟩ := cells2 ((hg.below.block w.heap.size (by rw [HSZ.out]; omega)).trans HL0.out); have hgA := HA.out.trans hg; have hgW1 := hg) | (go_at_call 27; refine (HB _ hgA).mono ?_; rintro e w2 ⟨rfl, hg2⟩; have hgB := hgA.trans hg2; have hgW2 := hgW1.trans hg2) | (go_at_call 43; refine (HF _ hgB).mono ?_; rintro e w3 ⟨rfl, hg3⟩; have hgW3 := hgW2.trans hg3; obtain ⟨s0, s1, -, -, -⟩ := cells2 ((hgW3.below.block w.heap.size (by rw [HSZ.out]; omega)).trans HL0.out)))
  clear s0 s1 r0 r1 HB HF HR
  go_loopw [6, 7, 32] (fun m v i wr => ∃ j : Nat, j ≤ xs.length ∧ i = .int .i64 j ∧ RowKit.Below W0.heap.size W0 wr ∧ OR W0.heap.size wr v (sFold ls n (xs.take j)).2 ∧ m = .int .i64 (sFold ls n (xs.take j)).1) (fun _ _ i _ => xs.length - (intOf i).toNat)
  case atStart => exact ⟨0, Nat.zero_le _, rfl, hgW3.below, OR.nil _ _, rfl⟩
  case round =>
    clear hg hgA hgW1 hg2 hgB hgW2 hg3 hgW3
    obtain ⟨j, hj, rfl, hb, hO, rfl⟩ := hrel
    have hbb := hb.size
    have HO := Hid.mk hO
    clear hO
    have HGw : Hid (RowKit.Below w.heap.size w wr) := HA.out.below.trans (hb.mono (by rw [HSZ.out]; omega))
    by_cases hlt : j < xs.length
    · obtain ⟨b, off, x, y, rfl, hbl, hc0, hc1, hxy⟩ := (HS.out.below HGw.out).at hlt
      obtain ⟨hx0, hx1, hy0, hy1⟩ := right_at HRt.out hxy.out
      have hxl := HBD.out j x y hxy.out
      obtain ⟨vn, rfl⟩ := Int.eq_ofNat_of_zero_le hx0
      obtain ⟨ab, aoff, an, axs, a', cap', rfl, habl, ha0, ha1, hSa, hla⟩ := (HLs.out.below HGw.out).at (k := vn) (by omega)
      have hra := right_of_any HW.out hla.out
      obtain ⟨han0, han1, hax⟩ := right_n hra
      have HE := Hid.mk (sFold_take (n := n) hxy.out (by simpa using hla.out))
      have hln1 := HLN.out j hj
      have hln2 := HLN.out (j + 1) hlt
      have HLN2 := Hid.mk hln2
      have HSa := Hid.mk hSa
      have HRA := fun (W : World) (h : Grew wr W) => raised_any an y axs a' cap' W (HSa.out.below h.below) hra hy0
      have hK0 : 0 ≤ min y 1001 := by omega
      have hK1 : min y 1001 ≤ 1001 := by omega
      generalize min y 1001 = K at *
      generalize sFold ls n (xs.take j) = acc at *
      clear hSa hln2 hra
      have zv0 : (0 : Int) ≤ (vn : Int) := by omega
      have zv1 : (vn : Int) < (ls.length : Int) := by omega
      have hle : W0.heap.size ≤ wr.heap.size := hbb
      go_wp2_with fail
      go_region_held3 (fun w' => w'.cell? ⟨wr.heap.size, 0, none⟩ = some (.int .i64 vn) ∧ w'.cell? ⟨wr.heap.size, 1, none⟩ = some (.int .i64 y) ∧ w'.cell? ⟨ab, aoff + vn * 2, none⟩ = some (.int .i64 an) ∧ w'.cell? ⟨ab, aoff + vn * 2 + 1, none⟩ = some (.slice a' axs.length cap')) (first | go_keep | (go_split_ands; refine ⟨?_, ?_, ?_, ?_⟩ <;> (rw [hb2.cell (by first | (simp; done) | (simp; omega))]; assumption)))
        (first | (go_at_call 37; refine (HRA _ (by repeat (first | exact Grew.refl _ | refine Grew.drew ?_ | refine Grew.alloc ?_ _))).mono ?_; rintro e w2 ⟨g2, cap2, rfl, hO2, hb2⟩))
      have hBw : RowKit.Below W0.heap.size W0 w2 := (((hb.alloc hbb _).drew).trans (hb2.mono (by simp; omega)))
      have HO2 := Hid.mk ((HO.out.below (Grew.below (by repeat (first | exact Grew.refl _ | refine Grew.drew ?_ | refine Grew.alloc ?_ _)))).below hb2)
      have hfl := (OR.toSL hO2).flat
      have hl : (flat (rmap K axs)).length = axs.length * 2 := by rw [flat_length, rmap_len]
      have hone := flat_one (rmap K axs)
      have hsz2 := hBw.size
      have HBw := Hid.mk hBw
      clear hBw hO2 hb2 HRA ha0 ha1 hc0 hc1
      go_wp2_with (first | (at_builtin; refine wpList_append_own _ rfl _ _ 22 rfl W0.heap.size 32 i0 _ 2 16 Try.underlying22 hi hz0 hz1 hz2 rfl (by decide) _ acc.2.length (flat acc.2) rfl HO2.out ⟨g2, 0, none⟩ axs.length cap2 (flat (rmap K axs)) rfl hl hfl hone (by simp [maxLen]; omega) (by omega) (by omega) ?_; intro v' w4 hown' hgrow _))
      all_goals
        refine ⟨⟨j + 1, hlt, by go_num, HBw.out.grown hgrow (by omega) (fun k e => (World.ownsRow.lt HO2.out k e).1), ?_, ?_⟩, by simp [intOf]; omega⟩
        · rw [HE.out]
          unfold OR
          rw [flat_append, List.length_append, rmap_len]
          exact hown'
        · rw [HE.out]
          first | (exact congrArg (Value.int .i64) (by simp only; omega)) | done
    · have htk : xs.take j = xs := List.take_of_length_le (by omega)
      rw [htk] at HO ⊢
      clear htk
      generalize sFold ls n xs = acc at *
      obtain ⟨a2, cap2, hv2, hS2, -⟩ := HO.out.shape
      subst hv2
      have HCb := HCa a2 cap2 wr hS2
      have hR1 := (hb.block (w.heap.size + 1) (by rw [HSZ.out]; omega)).trans HR0.out
      have hltw : w.heap.size + 1 < wr.heap.size := (Array.getElem?_eq_some_iff.1 hR1).1
      clear hS2 HCa
      go_wp2_with (go_at_call 34; refine HCb.mono ?_; rintro e w3 ⟨v, rfl, hO3, hb3⟩; obtain ⟨a', cap', rfl, -⟩ := hO3.shape; obtain ⟨p0, p1, p2, p3, p4⟩ := cells2 ((hb3.block (w.heap.size + 1) hltw).trans hR1))
      refine bodyPost_ret (v := .tuple #[.agg #[.int .i64 C.1, .slice a' C.2.1.length cap'], .int .i64 C.2.2]) (by simp [results, Try.results30, go_sem, p0, p1]) rfl ⟨_, rfl, ?_, ?_⟩
      · exact OR.mono ((hO3.setBelow (a := ⟨w.heap.size + 1, 0, none⟩) hltw _).setBelow (a := ⟨w.heap.size + 1, 1, none⟩) hltw _) (by omega)
      · exact ((HGw.out.trans (hb3.mono (by omega))).setCell (p := ⟨w.heap.size + 1, 0, none⟩) (Nat.le_succ _) _).setCell (p := ⟨w.heap.size + 1, 1, none⟩) (Nat.le_succ _) _

theorem Subst_any (n : Int) (xs : List (Int × Int)) (a : Option Addr) (cap : Nat) (ls : List (Int × List (Int × Int))) (la : Option Addr) (lcap : Nat) (w : World) (hS : SL w a xs) (hn : xs.length ≤ 4398046511104) (hLs : LL w la ls) (hln : ls.length ≤ 4398046511104) (hlx : ∀ l ∈ ls, l.2.length ≤ 4398046511104) :
    Calls Try.prog 30 #[.agg #[.int .i64 n, .slice a xs.length cap], .slice la ls.length lcap] w fun e w' => Res w w' e (substR n xs ls) := by
  unfold substR
  by_cases h : rightB n xs = true ∧ boundL xs ≤ ls.length ∧ ls.any wrongL = false
  · rw [if_pos h]; exact Subst_yes n xs a cap ls la lcap w hS hLs hln hlx h.1 h.2.1 h.2.2
  · rw [if_neg h]; exact Subst_no n xs a cap ls la lcap w hS hn hLs hln hlx h
end Go.Proofs.Ytphemmifckdjjaa
