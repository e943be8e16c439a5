/- The contract of telamonref1.Clean, form by form. -/
import Derived.Test.YtndjdeiccmhelaaGreatEK
import Derived.Test.YtndjdeiccmhelaaGreatFD
import Derived.Test.YtndjdeiccmhelaaGreatRL
import Derived.Test.YtndjdeiccmhelaaGreatWA
import Derived.RangeFuncNested
import Derived.OrdersIn
import Derived.Test.YtndjdeiccmhelaaGreatLC
import Derived.Test.YtndjdeiccmhelaaGreatKH
import Derived.Test.YtndjdeiccmhelaaGreatKI
namespace Go.Proofs.YtndjdeiccmhelaaGreat
open Go.RowKit Go.Sort

set_option maxRecDepth 100000 in
set_option maxHeartbeats 8000000 in
theorem Clean1 (n : Int) (hd : Bool) (nm : ByteArray) (ls : List LvT) (ks : List Tm) (ih : ∀ k ∈ ks, ∀ (v : Value) (w : World), smT 1000000 k → formedB k = true → TV w v k → Calls Tryz.prog 40 #[v] w fun e w' => ∃ v', e = .returned v' ∧ ShapeT v' ∧ TF w' (fun k => decide (k < w.heap.size)) v' (cleanT k) ∧ RowKit.Below w.heap.size w w') : ∀ (v : Value) (w : World), smT 1000000 (.mk 1 n hd nm ls ks) → formedB (.mk 1 n hd nm ls ks) = true → TV w v (.mk 1 n hd nm ls ks) → Calls Tryz.prog 40 #[v] w fun e w' => ∃ v', e = .returned v' ∧ ShapeT v' ∧ TF w' (fun k => decide (k < w.heap.size)) v' (cleanT (.mk 1 n hd nm ls ks)) ∧ RowKit.Below w.heap.size w w' := by
  intro v w hsm hfm hv
  obtain ⟨-, s1, s2, s3, s4⟩ := (smT_mk _ _ _ _ _ _ _).1 hsm
  obtain ⟨hkl, hkf⟩ := formed_len hfm
  have mx := mixed
  obtain ⟨i0, hi, iz0, iz1, iz2⟩ := info_parts infoTerm
  obtain ⟨l0, lh, lz0, lz1, lz2⟩ := info_parts infoLevel
  cases hv with
  | @mk _ _ _ _ _ _ la lc ka kc kb ko hl hln hlc hlm hkn hkc hkm hk kids =>
    have HL := Hid.mk hl
    have HK := Hid.mk hk
    have HKIDS := Hid.mk kids
    have HIH := Hid.mk ih
    have HS2 := Hid.mk s2
    have HS4 := Hid.mk s4
    have HKF := Hid.mk hkf
    clear hk kids ih hl hln hkn s2 s4 hsm hkf hfm
    have hk0 : ks = [] := List.length_eq_zero_iff.1 (by unfold kidsR at hkl; rw [if_pos (by omega)] at hkl; omega)
    subst hk0
    have HR : Hid (cleanT (.mk 1 n hd nm ls []) = .mk 1 n false { data := #[] } [] []) := by unfold Hid; rw [clean_mk]; rfl
    generalize cleanT (.mk 1 n hd nm ls []) = R at HR ⊢
    clear hkl
    obtain ⟨W1, hW1⟩ : ∃ W1, ((w.alloc (.cells #[.int .i64 1, .int .i64 n, .bool hd, .string nm, .slice la ls.length lc, .slice ka 0 kc] 38)).alloc (.cells #[.int .i64 0, .int .i64 0, .bool false, .string { data := #[] }, .slice none 0 0, .slice none 0 0] 38)).alloc (.cells #[.int .i64 1, .int .i64 n, .bool false, .string { data := #[] }, .slice none 0 0, .slice none 0 0] 38) = W1 := ⟨_, rfl⟩
    have HG1 : Hid (Grew w W1) := by unfold Hid; rw [← hW1]; exact (((Grew.refl w).alloc _).alloc _).alloc _
    have HX1 : Hid (W1.heap[w.heap.size]? = some (.cells #[.int .i64 1, .int .i64 n, .bool hd, .string nm, .slice la ls.length lc, .slice ka 0 kc] 38 (0, 0))) := by unfold Hid; rw [← hW1]; exact alloc_old box_at _
    have HY1 : Hid (W1.heap[w.heap.size + 1]? = some (.cells #[.int .i64 0, .int .i64 0, .bool false, .string { data := #[] }, .slice none 0 0, .slice none 0 0] 38 (0, 0))) := by unfold Hid; rw [← hW1]; exact on1
    have HZ1 : Hid (W1.heap[w.heap.size + 1 + 1]? = some (.cells #[.int .i64 1, .int .i64 n, .bool false, .string { data := #[] }, .slice none 0 0, .slice none 0 0] 38 (0, 0))) := by unfold Hid; rw [← hW1]; exact on2
    have hsz1 : W1.heap.size = w.heap.size + 1 + 1 + 1 := by rw [← hW1]; simp
    have HW1 := Hid.mk hW1
    clear hW1
    go_enter Tryz.func40, Tryz.ntmps40
    obtain ⟨y0, y1, y2, y3, y4, y5, y6⟩ := cells6 HY1.out
    have fy := frz HY1.out
    go_wp2
    rw [HW1.out]
    obtain ⟨x0, x1, x2, x3, x4, x5, x6⟩ := cells6 HX1.out
    obtain ⟨z0, z1, z2, z3, z4, z5, z6⟩ := cells6 HZ1.out
    refine wp_loop_rounds 1 ?_
    rw [rounds_succ]
    go_wp2
    refine bodyPost_ret (v := .agg #[.int .i64 1, .int .i64 n, .bool false, .string { data := #[] }, .slice none 0 0, .slice none 0 0]) (by simp [results, Tryz.results40, go_sem, y0, y1, y2, y3, y4, y5]) rfl ⟨_, rfl, ⟨_, _, _, _, _, _, _, _, _, _, rfl⟩, ?_, ?_⟩
    all_goals have KF := keep6 (P := fun k => k = w.heap.size + 1) (w := W1) (b := w.heap.size + 1) (a0 := .int .i64 1) (a1 := .int .i64 n) (a2 := .bool false) (a3 := .string { data := #[] }) (a4 := .slice none 0 0) (a5 := .slice none 0 0) rfl
    · rw [HR.out]
      refine TF.sub (P := fun k => decide (k < w.heap.size + 3)) ?_ (fun k hk => by simp at hk ⊢; omega)
      exact (RowF.nil _ (w.heap.size + 3) (fun k => decide (k < w.heap.size + 3))).done (fun k hk => by simp; omega) (f := 1) (n := n) (hd := false) (nm := { data := #[] }) (la := none) (lc := 0) (ls := []) (Or.inl rfl) (fun _ => rfl) (Nat.le_refl _) (by omega)
    · exact HG1.out.below.trans (KF.below (by omega) (fun k hk => by omega))

set_option maxRecDepth 100000 in
set_option maxHeartbeats 8000000 in
theorem Clean11 (n : Int) (hd : Bool) (nm : ByteArray) (ls : List LvT) (ks : List Tm) (ih : ∀ k ∈ ks, ∀ (v : Value) (w : World), smT 1000000 k → formedB k = true → TV w v k → Calls Tryz.prog 40 #[v] w fun e w' => ∃ v', e = .returned v' ∧ ShapeT v' ∧ TF w' (fun k => decide (k < w.heap.size)) v' (cleanT k) ∧ RowKit.Below w.heap.size w w') : ∀ (v : Value) (w : World), smT 1000000 (.mk 11 n hd nm ls ks) → formedB (.mk 11 n hd nm ls ks) = true → TV w v (.mk 11 n hd nm ls ks) → Calls Tryz.prog 40 #[v] w fun e w' => ∃ v', e = .returned v' ∧ ShapeT v' ∧ TF w' (fun k => decide (k < w.heap.size)) v' (cleanT (.mk 11 n hd nm ls ks)) ∧ RowKit.Below w.heap.size w w' := by
  intro v w hsm hfm hv
  obtain ⟨-, s1, s2, s3, s4⟩ := (smT_mk _ _ _ _ _ _ _).1 hsm
  obtain ⟨hkl, hkf⟩ := formed_len hfm
  have mx := mixed
  obtain ⟨i0, hi, iz0, iz1, iz2⟩ := info_parts infoTerm
  obtain ⟨l0, lh, lz0, lz1, lz2⟩ := info_parts infoLevel
  cases hv with
  | @mk _ _ _ _ _ _ la lc ka kc kb ko hl hln hlc hlm hkn hkc hkm hk kids =>
    have HL := Hid.mk hl
    have HK := Hid.mk hk
    have HKIDS := Hid.mk kids
    have HIH := Hid.mk ih
    have HS2 := Hid.mk s2
    have HS4 := Hid.mk s4
    have HKF := Hid.mk hkf
    clear hk kids ih hl hln hkn s2 s4 hsm hkf hfm
    have hk0 : ks = [] := List.length_eq_zero_iff.1 (by unfold kidsR at hkl; rw [if_pos (by omega)] at hkl; omega)
    subst hk0
    have HR : Hid (cleanT (.mk 11 n hd nm ls []) = .mk 11 n false { data := #[] } [] []) := by unfold Hid; rw [clean_mk]; rfl
    generalize cleanT (.mk 11 n hd nm ls []) = R at HR ⊢
    clear hkl
    obtain ⟨W1, hW1⟩ : ∃ W1, ((w.alloc (.cells #[.int .i64 11, .int .i64 n, .bool hd, .string nm, .slice la ls.length lc, .slice ka 0 kc] 38)).alloc (.cells #[.int .i64 0, .int .i64 0, .bool false, .string { data := #[] }, .slice none 0 0, .slice none 0 0] 38)).alloc (.cells #[.int .i64 11, .int .i64 n, .bool false, .string { data := #[] }, .slice none 0 0, .slice none 0 0] 38) = W1 := ⟨_, rfl⟩
    have HG1 : Hid (Grew w W1) := by unfold Hid; rw [← hW1]; exact (((Grew.refl w).alloc _).alloc _).alloc _
    have HX1 : Hid (W1.heap[w.heap.size]? = some (.cells #[.int .i64 11, .int .i64 n, .bool hd, .string nm, .slice la ls.length lc, .slice ka 0 kc] 38 (0, 0))) := by unfold Hid; rw [← hW1]; exact alloc_old box_at _
    have HY1 : Hid (W1.heap[w.heap.size + 1]? = some (.cells #[.int .i64 0, .int .i64 0, .bool false, .string { data := #[] }, .slice none 0 0, .slice none 0 0] 38 (0, 0))) := by unfold Hid; rw [← hW1]; exact on1
    have HZ1 : Hid (W1.heap[w.heap.size + 1 + 1]? = some (.cells #[.int .i64 11, .int .i64 n, .bool false, .string { data := #[] }, .slice none 0 0, .slice none 0 0] 38 (0, 0))) := by unfold Hid; rw [← hW1]; exact on2
    have hsz1 : W1.heap.size = w.heap.size + 1 + 1 + 1 := by rw [← hW1]; simp
    have HW1 := Hid.mk hW1
    clear hW1
    go_enter Tryz.func40, Tryz.ntmps40
    obtain ⟨y0, y1, y2, y3, y4, y5, y6⟩ := cells6 HY1.out
    have fy := frz HY1.out
    go_wp2
    rw [HW1.out]
    obtain ⟨x0, x1, x2, x3, x4, x5, x6⟩ := cells6 HX1.out
    obtain ⟨z0, z1, z2, z3, z4, z5, z6⟩ := cells6 HZ1.out
    refine wp_loop_rounds 1 ?_
    rw [rounds_succ]
    go_wp2
    refine bodyPost_ret (v := .agg #[.int .i64 11, .int .i64 n, .bool false, .string { data := #[] }, .slice none 0 0, .slice none 0 0]) (by simp [results, Tryz.results40, go_sem, y0, y1, y2, y3, y4, y5]) rfl ⟨_, rfl, ⟨_, _, _, _, _, _, _, _, _, _, rfl⟩, ?_, ?_⟩
    all_goals have KF := keep6 (P := fun k => k = w.heap.size + 1) (w := W1) (b := w.heap.size + 1) (a0 := .int .i64 11) (a1 := .int .i64 n) (a2 := .bool false) (a3 := .string { data := #[] }) (a4 := .slice none 0 0) (a5 := .slice none 0 0) rfl
    · rw [HR.out]
      refine TF.sub (P := fun k => decide (k < w.heap.size + 3)) ?_ (fun k hk => by simp at hk ⊢; omega)
      exact (RowF.nil _ (w.heap.size + 3) (fun k => decide (k < w.heap.size + 3))).done (fun k hk => by simp; omega) (f := 11) (n := n) (hd := false) (nm := { data := #[] }) (la := none) (lc := 0) (ls := []) (Or.inl rfl) (fun _ => rfl) (Nat.le_refl _) (by omega)
    · exact HG1.out.below.trans (KF.below (by omega) (fun k hk => by omega))

set_option maxRecDepth 100000 in
set_option maxHeartbeats 8000000 in
theorem Clean2 (n : Int) (hd : Bool) (nm : ByteArray) (ls : List LvT) (ks : List Tm) (ih : ∀ k ∈ ks, ∀ (v : Value) (w : World), smT 1000000 k → formedB k = true → TV w v k → Calls Tryz.prog 40 #[v] w fun e w' => ∃ v', e = .returned v' ∧ ShapeT v' ∧ TF w' (fun k => decide (k < w.heap.size)) v' (cleanT k) ∧ RowKit.Below w.heap.size w w') : ∀ (v : Value) (w : World), smT 1000000 (.mk 2 n hd nm ls ks) → formedB (.mk 2 n hd nm ls ks) = true → TV w v (.mk 2 n hd nm ls ks) → Calls Tryz.prog 40 #[v] w fun e w' => ∃ v', e = .returned v' ∧ ShapeT v' ∧ TF w' (fun k => decide (k < w.heap.size)) v' (cleanT (.mk 2 n hd nm ls ks)) ∧ RowKit.Below w.heap.size w w' := by
  intro v w hsm hfm hv
  obtain ⟨-, s1, s2, s3, s4⟩ := (smT_mk _ _ _ _ _ _ _).1 hsm
  obtain ⟨hkl, hkf⟩ := formed_len hfm
  have mx := mixed
  obtain ⟨i0, hi, iz0, iz1, iz2⟩ := info_parts infoTerm
  obtain ⟨l0, lh, lz0, lz1, lz2⟩ := info_parts infoLevel
  cases hv with
  | @mk _ _ _ _ _ _ la lc ka kc kb ko hl hln hlc hlm hkn hkc hkm hk kids =>
    have HL := Hid.mk hl
    have HK := Hid.mk hk
    have HKIDS := Hid.mk kids
    have HIH := Hid.mk ih
    have HS2 := Hid.mk s2
    have HS4 := Hid.mk s4
    have HKF := Hid.mk hkf
    clear hk kids ih hl hln hkn s2 s4 hsm hkf hfm
    have hk0 : ks = [] := List.length_eq_zero_iff.1 (by unfold kidsR at hkl; rw [if_pos (by omega)] at hkl; omega)
    subst hk0
    have HR : Hid (cleanT (.mk 2 n hd nm ls []) = .mk 2 0 false { data := #[] } ls []) := by unfold Hid; rw [clean_mk]; rfl
    generalize cleanT (.mk 2 n hd nm ls []) = R at HR ⊢
    clear hkl
    obtain ⟨W1, hW1⟩ : ∃ W1, ((w.alloc (.cells #[.int .i64 2, .int .i64 n, .bool hd, .string nm, .slice la ls.length lc, .slice ka 0 kc] 38)).alloc (.cells #[.int .i64 0, .int .i64 0, .bool false, .string { data := #[] }, .slice none 0 0, .slice none 0 0] 38)).alloc (.cells #[.int .i64 2, .int .i64 0, .bool false, .string { data := #[] }, .slice none 0 0, .slice none 0 0] 38) = W1 := ⟨_, rfl⟩
    have HG1 : Hid (Grew w W1) := by unfold Hid; rw [← hW1]; exact (((Grew.refl w).alloc _).alloc _).alloc _
    have HX1 : Hid (W1.heap[w.heap.size]? = some (.cells #[.int .i64 2, .int .i64 n, .bool hd, .string nm, .slice la ls.length lc, .slice ka 0 kc] 38 (0, 0))) := by unfold Hid; rw [← hW1]; exact alloc_old box_at _
    have HY1 : Hid (W1.heap[w.heap.size + 1]? = some (.cells #[.int .i64 0, .int .i64 0, .bool false, .string { data := #[] }, .slice none 0 0, .slice none 0 0] 38 (0, 0))) := by unfold Hid; rw [← hW1]; exact on1
    have HZ1 : Hid (W1.heap[w.heap.size + 1 + 1]? = some (.cells #[.int .i64 2, .int .i64 0, .bool false, .string { data := #[] }, .slice none 0 0, .slice none 0 0] 38 (0, 0))) := by unfold Hid; rw [← hW1]; exact on2
    have hsz1 : W1.heap.size = w.heap.size + 1 + 1 + 1 := by rw [← hW1]; simp
    have HW1 := Hid.mk hW1
    clear hW1
    go_enter Tryz.func40, Tryz.ntmps40
    go_wp2
    rw [HW1.out]
    go_loopw [4] (fun i wr => ∃ (j : Nat) (a : Option Addr) (cap : Nat), j ≤ ls.length ∧ i = .int .i64 j ∧ RowL wr (w.heap.size + 3) (fun k => decide (k < w.heap.size + 3)) a cap (ls.take j) ∧ wr.heap[w.heap.size + 1 + 1]? = some (.cells #[.int .i64 2, .int .i64 0, .bool false, .string { data := #[] }, .slice a j cap, .slice none 0 0] 38 (0, 0)) ∧ Kept (fun k => k = w.heap.size + 1 + 1 ∨ w.heap.size + 3 ≤ k) W1 wr) (fun i _ => ls.length - (intOf i).toNat)
    case atStart => exact ⟨0, none, 0, Nat.zero_le _, rfl, RowL.nil W1 _ _, HZ1.out, Kept.refl _ _⟩
    case round =>
      obtain ⟨j, a, cap, hj, rfl, hrow, hz, hbr⟩ := hrel
      have HROW := Hid.mk hrow
      have HZR := Hid.mk hz
      have HBR := Hid.mk hbr
      have hszr := hbr.size
      clear hrow hz hbr
      have hbx := (HBR.out.block w.heap.size (by omega) (by omega)).trans HX1.out
      obtain ⟨x0, x1, x2, x3, x4, x5, x6⟩ := cells6 hbx
      obtain ⟨z0, z1, z2, z3, z4, z5, z6⟩ := cells6 HZR.out
      have fz := frz HZR.out
      clear hbx
      by_cases hlt : j < ls.length
      · have hold : RowKit.Below w.heap.size w wr := HG1.out.below.trans (HBR.out.below (by omega) (fun k hk => by omega))
        obtain ⟨lb, lo, rfl, hlb, hlv⟩ : ∃ lb lo, la = some ⟨lb, lo, none⟩ ∧ lb < w.heap.size ∧ ∀ i n xs, ls[i]? = some (n, xs) → w.cell? ⟨lb, lo + i * 2, none⟩ = some (.int .i64 n) ∧ ∃ a' cap', w.cell? ⟨lb, lo + i * 2 + 1, none⟩ = some (.slice a' xs.length cap') ∧ SL w a' xs ∧ (a' = none → cap' = 0) := by
          rcases HL.out with h | ⟨b, off, h1, h2, h3⟩
          · rw [h] at hlt; simp at hlt
          · exact ⟨b, off, h1, h2, h3⟩
        obtain ⟨ln, lvs, hlj⟩ : ∃ ln lvs, ls[j] = (ln, lvs) := ⟨_, _, rfl⟩
        have hkt : ls[j]? = some (ln, lvs) := by rw [List.getElem?_eq_getElem hlt, hlj]
        obtain ⟨c0, va, vc, c1, hsl, hvn⟩ := hlv j ln lvs hkt
        have hvl := HS2.out (ln, lvs) (List.mem_of_getElem? hkt)
        simp only at hvl
        have HSL : Hid (SL wr.drew va lvs) := (hsl.below hold).below (Below.refl _ _).drew
        have c0 := (hold.cell (p := ⟨lb, lo + j * 2, none⟩) hlb).trans c0
        have c1 := (hold.cell (p := ⟨lb, lo + j * 2 + 1, none⟩) hlb).trans c1
        have HLJ : Hid ((ls.take j).length = j) := by unfold Hid; rw [List.length_take]; omega
        have HTK : Hid (ls.take (j + 1) = ls.take j ++ [(ln, lvs)]) := by unfold Hid; rw [List.take_succ_eq_append_getElem hlt, hlj]
        obtain ⟨xs, hown, hkv⟩ := HROW.out.go
        rw [HLJ.out] at hown
        have HRB : Hid (∀ k, ownB a k = true → w.heap.size + 3 ≤ k ∧ k < wr.heap.size) := fun k hk => rowG_block hown hk
        have hkr : lb < wr.heap.size := by omega
        have HOWN := Hid.mk hown
        have HKV := Hid.mk hkv
        have HXL : Hid (xs.length = (ls.take j).length * 2) := by unfold Hid; rw [HLJ.out, hown.1]
        have zj : (j : Int) < (ls.length : Int) := by omega
        have HCEL : Hid (∀ W : World, (∀ k, k < w.heap.size + 3 → W.heap[k]? = wr.heap[k]?) → W.cell? ⟨w.heap.size + 1 + 1, 4, none⟩ = some (.slice a j cap) ∧ W.cell? ⟨w.heap.size, 4, none⟩ = some (.slice (some ⟨lb, lo, none⟩) ls.length lc) ∧ W.cell? ⟨lb, lo + j * 2, none⟩ = some (.int .i64 ln) ∧ W.cell? ⟨lb, lo + j * 2 + 1, none⟩ = some (.slice va lvs.length vc)) := fun W h => by
          have hZ := h (w.heap.size + 1 + 1) (by omega)
          have hX := h w.heap.size (by omega)
          have hB := h lb (by omega)
          exact ⟨(World.cell?_of_block (a := ⟨w.heap.size + 1 + 1, 4, none⟩) hZ).trans z4, (World.cell?_of_block (a := ⟨w.heap.size, 4, none⟩) hX).trans x4, (World.cell?_of_block (a := ⟨lb, lo + j * 2, none⟩) hB).trans c0, (World.cell?_of_block (a := ⟨lb, lo + j * 2 + 1, none⟩) hB).trans c1⟩
        clear hkt hown hkv hold hlv hsl hlj
        generalize ls.take j = TS at *
        go_wp2_with fail
        refine wp_region_last (S := fun w' => w'.cell? ⟨w.heap.size + 1 + 1, 4, none⟩ = some (.slice a j cap) ∧ w'.cell? ⟨w.heap.size, 4, none⟩ = some (.slice (some ⟨lb, lo, none⟩) ls.length lc) ∧ w'.cell? ⟨lb, lo + j * 2, none⟩ = some (.int .i64 ln) ∧ w'.cell? ⟨lb, lo + j * 2 + 1, none⟩ = some (.slice va lvs.length vc)) 19 mx ?_ (fun hHeld => ?_)
        · (try dsimp only)
          exact HCEL.out _ (fun k _ => rfl)
        refine wpAnyL_take (i := 0) (v := ?_) rfl (by kernel_rfl) (by kernel_rfl) (by kernel_rfl) (by kernel_rfl) (fun _ _ _ h => h) (Or.inl ⟨by rfl, ?_⟩) (by assumption) ?_
        rotate_left
        · (intro w hSw; (try dsimp only at hSw); go_simp; (try with_reducible rfl))
        refine wpAnyL_take (i := 1) (v := ?_) rfl (by kernel_rfl) (by kernel_rfl) (by kernel_rfl) (by kernel_rfl) (fun _ _ _ h => h) (Or.inl ⟨by rfl, ?_⟩) (by assumption) ?_
        rotate_left
        · (intro w hSw; (try dsimp only at hSw); go_simp; (try with_reducible rfl))
        refine wpAnyL_take (i := 2) (v := ?_) rfl (by kernel_rfl) (by kernel_rfl) (by kernel_rfl) (by kernel_rfl) (fun _ _ _ h => h) (Or.inl ⟨by rfl, ?_⟩) (by assumption) ?_
        rotate_left
        · (intro w hSw; (try dsimp only at hSw); go_simp; (try with_reducible rfl))
        refine wpAnyL_take (i := 3) (v := ?_) rfl (by kernel_rfl) (by kernel_rfl) (by kernel_rfl) (by kernel_rfl) (fun _ _ _ h => h) (Or.inl ⟨by rfl, ?_⟩) (by assumption) ?_
        rotate_left
        · (intro w hSw; (try dsimp only at hSw); go_simp; (try with_reducible rfl))
        refine wpAnyL_take (i := 4) (v := ?_) rfl (by kernel_rfl) (by kernel_rfl) (by kernel_rfl) (by kernel_rfl) (fun _ _ _ h => h) (Or.inl ⟨by rfl, ?_⟩) (by assumption) ?_
        rotate_left
        · (intro w hSw; (try dsimp only at hSw); go_simp; (try with_reducible rfl))
        refine wpAnyL_take (i := 5) (v := ?_) rfl (by kernel_rfl) (by kernel_rfl) (by kernel_rfl) (by kernel_rfl) (fun _ _ _ h => h) (Or.inl ⟨by rfl, ?_⟩) (by assumption) ?_
        rotate_left
        · (intro w hSw; (try dsimp only at hSw); go_simp; (try with_reducible rfl))
        refine wpAnyL_take (i := 6) (v := ?_) rfl (by kernel_rfl) (by kernel_rfl) (by kernel_rfl) (by kernel_rfl) (fun _ _ _ h => h) (Or.inl ⟨by rfl, ?_⟩) (by assumption) ?_
        rotate_left
        · (intro w hSw; (try dsimp only at hSw); go_simp; (try with_reducible rfl))
        refine wpAnyL_take (i := 7) (v := ?_) rfl (by kernel_rfl) (by kernel_rfl) (by kernel_rfl) (by kernel_rfl) (fun _ _ _ h => h) (Or.inl ⟨by rfl, ?_⟩) (by assumption) ?_
        rotate_left
        · (intro w hSw; (try dsimp only at hSw); go_simp; (try with_reducible rfl))
        refine wpAnyL_take (i := 8) (v := ?_) rfl (by kernel_rfl) (by kernel_rfl) (by kernel_rfl) (by kernel_rfl) (fun _ _ _ h => h) (Or.inl ⟨by rfl, ?_⟩) (by assumption) ?_
        rotate_left
        · (intro w hSw; (try dsimp only at hSw); go_simp; (try with_reducible rfl))
        refine wpAnyL_take (i := 9) (v := ?_) rfl (by kernel_rfl) (by kernel_rfl) (by kernel_rfl) (by kernel_rfl) (fun _ _ _ h => h) (Or.inl ⟨by rfl, ?_⟩) (by assumption) ?_
        rotate_left
        · (intro w hSw; (try dsimp only at hSw); go_simp; (try with_reducible rfl))
        refine wpAnyL_take (i := 10) (v := ?_) rfl (by kernel_rfl) (by kernel_rfl) (by kernel_rfl) (by kernel_rfl) (fun _ _ _ h => h) (Or.inl ⟨by rfl, ?_⟩) (by assumption) ?_
        rotate_left
        · (intro w hSw; (try dsimp only at hSw); go_simp; (try with_reducible rfl))
        refine wpAnyL_take (i := 11) (v := ?_) rfl (by kernel_rfl) (by kernel_rfl) (by kernel_rfl) (by kernel_rfl) (fun _ _ _ h => h) (Or.inl ⟨by rfl, ?_⟩) (by assumption) ?_
        rotate_left
        · (intro w hSw; (try dsimp only at hSw); go_simp; (try with_reducible rfl))
        refine wpAnyL_take (i := 12) (v := ?_) rfl (by kernel_rfl) (by kernel_rfl) (by kernel_rfl) (by kernel_rfl) (fun _ _ _ h => h) (Or.inl ⟨by rfl, ?_⟩) (by assumption) ?_
        rotate_left
        · (intro w hSw; (try dsimp only at hSw); go_simp; (try with_reducible rfl))
        refine wpAnyL_take (i := 13) (v := ?_) rfl (by kernel_rfl) (by kernel_rfl) (by kernel_rfl) (by kernel_rfl) (fun _ _ _ h => h) (Or.inl ⟨by rfl, ?_⟩) (by assumption) ?_
        rotate_left
        · (intro w hSw; (try dsimp only at hSw); go_simp; (try with_reducible rfl))
        refine wpAnyL_one (i := 14) (by kernel_rfl) rfl (fun K hK => ?_)
        refine step_appV (by rfl) _ _ (by rfl) wr.heap.size lvs va vc (by kernel_rfl) (by kernel_rfl) HSL.out hvn (by omega) (Nat.le_refl _) ?_
        intro v5 w5 hO5 hg5
        have HB5 : Hid (RowKit.Below wr.heap.size wr w5) := ((Below.refl wr.heap.size wr).drew).grown hg5 (by simp) (fun k e => by cases e)
        have hsz5 := HB5.out.size
        obtain ⟨a5, c5, rfl, hS5, hn5⟩ := hO5.slF (P := fun k => decide (k < wr.heap.size)) (fun k hk => by simp; omega)
        have HS5 := Hid.mk hS5
        have HN5 := Hid.mk hn5
        clear hO5 hg5 hS5 hn5
        have HOWN6 : Hid ((w5.alloc (.cells #[.int .i64 ln, .slice a5 lvs.length c5] 105)).ownsRow (w.heap.size + 3) 105 2 (.slice a j cap) j xs) := (ownsG_block HOWN.out (fun g hg => HB5.out.block g (by subst hg; exact (World.ownsRow.lt HOWN.out g rfl).2))).alloc _
        have HNEWS := Hid.mk (World.news_of_block (cs := #[.int .i64 ln, .slice a5 lvs.length c5]) (t := 105) (fr := (0, 0)) (alloc_new w5 (.cells #[.int .i64 ln, .slice a5 lvs.length c5] 105)))
        refine hK.out _ _ ?_ (fun hHeld => ?_)
        · (try dsimp only)
          exact HCEL.out _ (fun k hk => HB5.out.block k (by omega))
        clear hK K
        refine wpAnyL_take (i := 15) (v := ?_) rfl (by kernel_rfl) (by kernel_rfl) (by kernel_rfl) (by kernel_rfl) (fun _ _ _ h => h) (Or.inl ⟨by rfl, ?_⟩) (by assumption) ?_
        rotate_left
        · (intro w hSw; (try dsimp only at hSw); go_simp; (try with_reducible rfl))
        refine wpAnyL_one (i := 16) (by kernel_rfl) rfl (fun K hK => ?_)
        go_simp
        refine hK.out _ _ ?_ (fun hHeld => ?_)
        · (try dsimp only)
          exact HCEL.out _ (fun k hk => (Below.heap_alloc _ _ k (by omega)).trans (HB5.out.block k (by omega)))
        clear hK K
        refine wpAnyL_one (i := 17) (by kernel_rfl) rfl (fun K hK => ?_)
        refine step_append_lies _ (by rfl) _ _ _ (by rfl) (w.heap.size + 3) 105 l0 _ 2 32 Tryz.underlying35 lh lz0 lz1 lz2 rfl (by decide) (.slice a j cap) j xs (by kernel_rfl) HOWN6.out ⟨w5.heap.size, 0, none⟩ 1 1 [.int .i64 ln, .slice a5 lvs.length c5] (by kernel_rfl) (by rfl) HNEWS.out (by simp [Value.oneCell']) (by omega) (by simp [maxLen]; omega) (by omega) (by simp; omega) (w5.heap.size + 1) (by simp) ?_
        intro g7 c7 W7 hown7 hgr7 hat7 hlt7
        have HOWN7 := Hid.mk hown7
        have HGR7 := Hid.mk hgr7
        have HAT7 := Hid.mk hat7
        have HBL7 : Hid (∀ k, k < w5.heap.size + 1 → ownB a k = false → W7.heap[k]? = (w5.alloc (.cells #[.int .i64 ln, .slice a5 lvs.length c5] 105)).heap[k]?) := fun k hk ho => hgr7.block k (by simpa using hk) (ownB_none ho)
        have HCE7 := Hid.mk (HCEL.out W7 (fun k hk => (HBL7.out k (by omega) (by cases ho : ownB a k with | false => rfl | true => exact absurd (HRB.out k ho).1 (by omega))).trans ((Below.heap_alloc _ _ k (by omega)).trans (HB5.out.block k (by omega)))))
        have HZ7 : Hid (W7.heap[w.heap.size + 1 + 1]? = some (.cells #[.int .i64 2, .int .i64 0, .bool false, .string { data := #[] }, .slice a j cap, .slice none 0 0] 38 (0, 0))) := (HBL7.out _ (by omega) (by cases ho : ownB a (w.heap.size + 1 + 1) with | false => rfl | true => exact absurd (HRB.out _ ho).1 (by omega))).trans ((Below.heap_alloc _ _ _ (by omega)).trans ((HB5.out.block _ (by omega)).trans HZR.out))
        have fz7 := frz HZ7.out
        have z75 := (cells6 HZ7.out).2.2.2.2.1
        clear hown7 hgr7 hat7
        refine hK.out _ _ ?_ (fun hHeld => ?_)
        · (try dsimp only)
          exact HCE7.out
        clear hK K
        refine wpAnyL_take (i := 18) (v := ?_) rfl (by kernel_rfl) (by kernel_rfl) (by kernel_rfl) (by kernel_rfl) (fun _ _ _ h => h) (Or.inl ⟨by rfl, ?_⟩) (by assumption) ?_
        rotate_left
        · (intro w hSw; (try dsimp only at hSw); go_simp; (try with_reducible rfl))
        refine wpAnyL_last (by kernel_rfl) rfl (by kernel_rfl) (fun K hK => ?_)
        go_simp
        refine hK.out _ _ ?_
        clear hK K
        go_wp2
        have KZ : Kept (fun k => k = w.heap.size + 1 + 1) W7 (W7.setCell ⟨w.heap.size + 1 + 1, 4, none⟩ (.slice (some ⟨g7, 0, none⟩) (j + 1) c7)) := (Kept.refl (fun k => k = w.heap.size + 1 + 1) W7).setCell (p := ⟨w.heap.size + 1 + 1, 4, none⟩) rfl _
        refine ⟨⟨j + 1, some ⟨g7, 0, none⟩, c7, hlt, by go_num, ?_, set4_heap HZ7.out, ?_⟩, by simp [intOf]; omega⟩
        · rw [HTK.out]
          refine RowL.move (w := W7) ?_ (fun k hk => by simp; omega) KZ.size (fun k h1 h2 => KZ.block k h1 (fun e => by subst e; exact absurd h2 (by simp)))
          refine RowL.snoc (w := w5.alloc (.cells #[.int .i64 ln, .slice a5 lvs.length c5] 105)) (a := a) (cap := cap) (xs := xs) (fun j' n' vs' hj' => ?_) HXL.out (by rw [HLJ.out]; exact HOWN7.out) (by rw [HLJ.out]; exact HGR7.out) (by rw [HLJ.out]; simpa using HAT7.out) HN5.out ?_
          · obtain ⟨d0, a', cap', d1, hn', hS'⟩ := HKV.out j' n' vs' hj'
            exact ⟨d0, a', cap', d1, hn', hS'.subF (by rw [maskB_size, maskB_size]; simp; omega) (maskB_keeps fun k h1 h2 => ⟨h2, (Below.heap_alloc _ _ k (by omega)).trans (HB5.out.block k h1)⟩)⟩
          · refine HS5.out.subF (by rw [maskB_size, maskB_size]; simp) (maskB_keeps fun k h1 h2 => ⟨?_, Below.heap_alloc _ _ k h1⟩)
            have h3 : wr.heap.size ≤ k := by simpa using h2
            cases ho : ownB a k with
            | false => simp; omega
            | true => exact absurd (HRB.out k ho).2 (by omega)
        · refine HBR.out.trans (((Kept.of_below HB5.out).alloc (.cells #[.int .i64 ln, .slice a5 lvs.length c5] 105)).trans (Kept.trans (b := W7) ⟨HGR7.out.os, HGR7.out.tape, HGR7.out.output, HGR7.out.size, fun k hk hn => HGR7.out.block k hk (fun e => ?_)⟩ (KZ.imp (fun k _ h => Or.inl h))))
          have := (World.ownsRow.lt HOWN.out k e.symm).1
          omega
      · obtain rfl : j = ls.length := by omega
        have hby := (HBR.out.block (w.heap.size + 1) (by omega) (by omega)).trans HY1.out
        obtain ⟨y0, y1, y2, y3, y4, y5, y6⟩ := cells6 hby
        have fy := frz hby
        clear hby
        have HT : Hid (R = .mk 2 0 false { data := #[] } (ls.take ls.length) []) := by unfold Hid; rw [HR.out, List.take_length]
        have HLJ : Hid ((ls.take ls.length).length = ls.length) := by unfold Hid; rw [List.length_take]; omega
        generalize ls.take ls.length = TS at *
        go_wp2
        refine wp_loop_rounds 1 ?_
        rw [rounds_succ]
        go_wp2
        refine bodyPost_ret (v := .agg #[.int .i64 2, .int .i64 0, .bool false, .string { data := #[] }, .slice a ls.length cap, .slice none 0 0]) (by simp [results, Tryz.results40, go_sem, y0, y1, y2, y3, y4, y5]) rfl ⟨_, rfl, ⟨_, _, _, _, _, _, _, _, _, _, rfl⟩, ?_, ?_⟩
        all_goals have KF := keep6 (P := fun k => k = w.heap.size + 1) (w := wr) (b := w.heap.size + 1) (a0 := .int .i64 2) (a1 := .int .i64 0) (a2 := .bool false) (a3 := .string { data := #[] }) (a4 := .slice a ls.length cap) (a5 := .slice none 0 0) rfl
        · rw [HT.out]
          have hrow := HROW.out.move (fun k hk => by simp; omega) KF.size (fun k h1 h2 => KF.block k h1 (fun e => by subst e; exact absurd h2 (by simp)))
          obtain ⟨q1, q2, q3, q4⟩ := hrow.ln (fun k hk => by simp; omega)
          have hd2 := (RowF.nil _ (w.heap.size + 3) (fun k => decide (k < w.heap.size + 3))).done (fun k hk => by simp; omega) (f := 2) (n := 0) (hd := false) (nm := { data := #[] }) q1 q2 q3 q4
          rw [HLJ.out] at hd2
          exact hd2.sub (fun k hk => by simp at hk ⊢; omega)
        · exact HG1.out.below.trans (Below.trans (HBR.out.below (by omega) (fun k hk => by omega)) (KF.below (by omega) (fun k hk => by omega)))

set_option maxRecDepth 100000 in
set_option maxHeartbeats 8000000 in
theorem Clean10 (n : Int) (hd : Bool) (nm : ByteArray) (ls : List LvT) (ks : List Tm) (ih : ∀ k ∈ ks, ∀ (v : Value) (w : World), smT 1000000 k → formedB k = true → TV w v k → Calls Tryz.prog 40 #[v] w fun e w' => ∃ v', e = .returned v' ∧ ShapeT v' ∧ TF w' (fun k => decide (k < w.heap.size)) v' (cleanT k) ∧ RowKit.Below w.heap.size w w') : ∀ (v : Value) (w : World), smT 1000000 (.mk 10 n hd nm ls ks) → formedB (.mk 10 n hd nm ls ks) = true → TV w v (.mk 10 n hd nm ls ks) → Calls Tryz.prog 40 #[v] w fun e w' => ∃ v', e = .returned v' ∧ ShapeT v' ∧ TF w' (fun k => decide (k < w.heap.size)) v' (cleanT (.mk 10 n hd nm ls ks)) ∧ RowKit.Below w.heap.size w w' := by
  intro v w hsm hfm hv
  obtain ⟨-, s1, s2, s3, s4⟩ := (smT_mk _ _ _ _ _ _ _).1 hsm
  obtain ⟨hkl, hkf⟩ := formed_len hfm
  have mx := mixed
  obtain ⟨i0, hi, iz0, iz1, iz2⟩ := info_parts infoTerm
  obtain ⟨l0, lh, lz0, lz1, lz2⟩ := info_parts infoLevel
  cases hv with
  | @mk _ _ _ _ _ _ la lc ka kc kb ko hl hln hlc hlm hkn hkc hkm hk kids =>
    have HL := Hid.mk hl
    have HK := Hid.mk hk
    have HKIDS := Hid.mk kids
    have HIH := Hid.mk ih
    have HS2 := Hid.mk s2
    have HS4 := Hid.mk s4
    have HKF := Hid.mk hkf
    clear hk kids ih hl hln hkn s2 s4 hsm hkf hfm
    have hk0 : ks = [] := List.length_eq_zero_iff.1 (by unfold kidsR at hkl; rw [if_pos (by omega)] at hkl; omega)
    subst hk0
    have HR : Hid (cleanT (.mk 10 n hd nm ls []) = .mk 10 0 false nm ls []) := by unfold Hid; rw [clean_mk]; rfl
    generalize cleanT (.mk 10 n hd nm ls []) = R at HR ⊢
    clear hkl
    obtain ⟨W1, hW1⟩ : ∃ W1, ((w.alloc (.cells #[.int .i64 10, .int .i64 n, .bool hd, .string nm, .slice la ls.length lc, .slice ka 0 kc] 38)).alloc (.cells #[.int .i64 0, .int .i64 0, .bool false, .string { data := #[] }, .slice none 0 0, .slice none 0 0] 38)).alloc (.cells #[.int .i64 10, .int .i64 0, .bool false, .string nm, .slice none 0 0, .slice none 0 0] 38) = W1 := ⟨_, rfl⟩
    have HG1 : Hid (Grew w W1) := by unfold Hid; rw [← hW1]; exact (((Grew.refl w).alloc _).alloc _).alloc _
    have HX1 : Hid (W1.heap[w.heap.size]? = some (.cells #[.int .i64 10, .int .i64 n, .bool hd, .string nm, .slice la ls.length lc, .slice ka 0 kc] 38 (0, 0))) := by unfold Hid; rw [← hW1]; exact alloc_old box_at _
    have HY1 : Hid (W1.heap[w.heap.size + 1]? = some (.cells #[.int .i64 0, .int .i64 0, .bool false, .string { data := #[] }, .slice none 0 0, .slice none 0 0] 38 (0, 0))) := by unfold Hid; rw [← hW1]; exact on1
    have HZ1 : Hid (W1.heap[w.heap.size + 1 + 1]? = some (.cells #[.int .i64 10, .int .i64 0, .bool false, .string nm, .slice none 0 0, .slice none 0 0] 38 (0, 0))) := by unfold Hid; rw [← hW1]; exact on2
    have hsz1 : W1.heap.size = w.heap.size + 1 + 1 + 1 := by rw [← hW1]; simp
    have HW1 := Hid.mk hW1
    clear hW1
    go_enter Tryz.func40, Tryz.ntmps40
    go_wp2
    rw [HW1.out]
    go_loopw [4] (fun i wr => ∃ (j : Nat) (a : Option Addr) (cap : Nat), j ≤ ls.length ∧ i = .int .i64 j ∧ RowL wr (w.heap.size + 3) (fun k => decide (k < w.heap.size + 3)) a cap (ls.take j) ∧ wr.heap[w.heap.size + 1 + 1]? = some (.cells #[.int .i64 10, .int .i64 0, .bool false, .string nm, .slice a j cap, .slice none 0 0] 38 (0, 0)) ∧ Kept (fun k => k = w.heap.size + 1 + 1 ∨ w.heap.size + 3 ≤ k) W1 wr) (fun i _ => ls.length - (intOf i).toNat)
    case atStart => exact ⟨0, none, 0, Nat.zero_le _, rfl, RowL.nil W1 _ _, HZ1.out, Kept.refl _ _⟩
    case round =>
      obtain ⟨j, a, cap, hj, rfl, hrow, hz, hbr⟩ := hrel
      have HROW := Hid.mk hrow
      have HZR := Hid.mk hz
      have HBR := Hid.mk hbr
      have hszr := hbr.size
      clear hrow hz hbr
      have hbx := (HBR.out.block w.heap.size (by omega) (by omega)).trans HX1.out
      obtain ⟨x0, x1, x2, x3, x4, x5, x6⟩ := cells6 hbx
      obtain ⟨z0, z1, z2, z3, z4, z5, z6⟩ := cells6 HZR.out
      have fz := frz HZR.out
      clear hbx
      by_cases hlt : j < ls.length
      · have hold : RowKit.Below w.heap.size w wr := HG1.out.below.trans (HBR.out.below (by omega) (fun k hk => by omega))
        obtain ⟨lb, lo, rfl, hlb, hlv⟩ : ∃ lb lo, la = some ⟨lb, lo, none⟩ ∧ lb < w.heap.size ∧ ∀ i n xs, ls[i]? = some (n, xs) → w.cell? ⟨lb, lo + i * 2, none⟩ = some (.int .i64 n) ∧ ∃ a' cap', w.cell? ⟨lb, lo + i * 2 + 1, none⟩ = some (.slice a' xs.length cap') ∧ SL w a' xs ∧ (a' = none → cap' = 0) := by
          rcases HL.out with h | ⟨b, off, h1, h2, h3⟩
          · rw [h] at hlt; simp at hlt
          · exact ⟨b, off, h1, h2, h3⟩
        obtain ⟨ln, lvs, hlj⟩ : ∃ ln lvs, ls[j] = (ln, lvs) := ⟨_, _, rfl⟩
        have hkt : ls[j]? = some (ln, lvs) := by rw [List.getElem?_eq_getElem hlt, hlj]
        obtain ⟨c0, va, vc, c1, hsl, hvn⟩ := hlv j ln lvs hkt
        have hvl := HS2.out (ln, lvs) (List.mem_of_getElem? hkt)
        simp only at hvl
        have HSL : Hid (SL wr.drew va lvs) := (hsl.below hold).below (Below.refl _ _).drew
        have c0 := (hold.cell (p := ⟨lb, lo + j * 2, none⟩) hlb).trans c0
        have c1 := (hold.cell (p := ⟨lb, lo + j * 2 + 1, none⟩) hlb).trans c1
        have HLJ : Hid ((ls.take j).length = j) := by unfold Hid; rw [List.length_take]; omega
        have HTK : Hid (ls.take (j + 1) = ls.take j ++ [(ln, lvs)]) := by unfold Hid; rw [List.take_succ_eq_append_getElem hlt, hlj]
        obtain ⟨xs, hown, hkv⟩ := HROW.out.go
        rw [HLJ.out] at hown
        have HRB : Hid (∀ k, ownB a k = true → w.heap.size + 3 ≤ k ∧ k < wr.heap.size) := fun k hk => rowG_block hown hk
        have hkr : lb < wr.heap.size := by omega
        have HOWN := Hid.mk hown
        have HKV := Hid.mk hkv
        have HXL : Hid (xs.length = (ls.take j).length * 2) := by unfold Hid; rw [HLJ.out, hown.1]
        have zj : (j : Int) < (ls.length : Int) := by omega
        have HCEL : Hid (∀ W : World, (∀ k, k < w.heap.size + 3 → W.heap[k]? = wr.heap[k]?) → W.cell? ⟨w.heap.size + 1 + 1, 4, none⟩ = some (.slice a j cap) ∧ W.cell? ⟨w.heap.size, 4, none⟩ = some (.slice (some ⟨lb, lo, none⟩) ls.length lc) ∧ W.cell? ⟨lb, lo + j * 2, none⟩ = some (.int .i64 ln) ∧ W.cell? ⟨lb, lo + j * 2 + 1, none⟩ = some (.slice va lvs.length vc)) := fun W h => by
          have hZ := h (w.heap.size + 1 + 1) (by omega)
          have hX := h w.heap.size (by omega)
          have hB := h lb (by omega)
          exact ⟨(World.cell?_of_block (a := ⟨w.heap.size + 1 + 1, 4, none⟩) hZ).trans z4, (World.cell?_of_block (a := ⟨w.heap.size, 4, none⟩) hX).trans x4, (World.cell?_of_block (a := ⟨lb, lo + j * 2, none⟩) hB).trans c0, (World.cell?_of_block (a := ⟨lb, lo + j * 2 + 1, none⟩) hB).trans c1⟩
        clear hkt hown hkv hold hlv hsl hlj
        generalize ls.take j = TS at *
        go_wp2_with fail
        refine wp_region_last (S := fun w' => w'.cell? ⟨w.heap.size + 1 + 1, 4, none⟩ = some (.slice a j cap) ∧ w'.cell? ⟨w.heap.size, 4, none⟩ = some (.slice (some ⟨lb, lo, none⟩) ls.length lc) ∧ w'.cell? ⟨lb, lo + j * 2, none⟩ = some (.int .i64 ln) ∧ w'.cell? ⟨lb, lo + j * 2 + 1, none⟩ = some (.slice va lvs.length vc)) 19 mx ?_ (fun hHeld => ?_)
        · (try dsimp only)
          exact HCEL.out _ (fun k _ => rfl)
        refine wpAnyL_take (i := 0) (v := ?_) rfl (by kernel_rfl) (by kernel_rfl) (by kernel_rfl) (by kernel_rfl) (fun _ _ _ h => h) (Or.inl ⟨by rfl, ?_⟩) (by assumption) ?_
        rotate_left
        · (intro w hSw; (try dsimp only at hSw); go_simp; (try with_reducible rfl))
        refine wpAnyL_take (i := 1) (v := ?_) rfl (by kernel_rfl) (by kernel_rfl) (by kernel_rfl) (by kernel_rfl) (fun _ _ _ h => h) (Or.inl ⟨by rfl, ?_⟩) (by assumption) ?_
        rotate_left
        · (intro w hSw; (try dsimp only at hSw); go_simp; (try with_reducible rfl))
        refine wpAnyL_take (i := 2) (v := ?_) rfl (by kernel_rfl) (by kernel_rfl) (by kernel_rfl) (by kernel_rfl) (fun _ _ _ h => h) (Or.inl ⟨by rfl, ?_⟩) (by assumption) ?_
        rotate_left
        · (intro w hSw; (try dsimp only at hSw); go_simp; (try with_reducible rfl))
        refine wpAnyL_take (i := 3) (v := ?_) rfl (by kernel_rfl) (by kernel_rfl) (by kernel_rfl) (by kernel_rfl) (fun _ _ _ h => h) (Or.inl ⟨by rfl, ?_⟩) (by assumption) ?_
        rotate_left
        · (intro w hSw; (try dsimp only at hSw); go_simp; (try with_reducible rfl))
        refine wpAnyL_take (i := 4) (v := ?_) rfl (by kernel_rfl) (by kernel_rfl) (by kernel_rfl) (by kernel_rfl) (fun _ _ _ h => h) (Or.inl ⟨by rfl, ?_⟩) (by assumption) ?_
        rotate_left
        · (intro w hSw; (try dsimp only at hSw); go_simp; (try with_reducible rfl))
        refine wpAnyL_take (i := 5) (v := ?_) rfl (by kernel_rfl) (by kernel_rfl) (by kernel_rfl) (by kernel_rfl) (fun _ _ _ h => h) (Or.inl ⟨by rfl, ?_⟩) (by assumption) ?_
        rotate_left
        · (intro w hSw; (try dsimp only at hSw); go_simp; (try with_reducible rfl))
        refine wpAnyL_take (i := 6) (v := ?_) rfl (by kernel_rfl) (by kernel_rfl) (by kernel_rfl) (by kernel_rfl) (fun _ _ _ h => h) (Or.inl ⟨by rfl, ?_⟩) (by assumption) ?_
        rotate_left
        · (intro w hSw; (try dsimp only at hSw); go_simp; (try with_reducible rfl))
        refine wpAnyL_take (i := 7) (v := ?_) rfl (by kernel_rfl) (by kernel_rfl) (by kernel_rfl) (by kernel_rfl) (fun _ _ _ h => h) (Or.inl ⟨by rfl, ?_⟩) (by assumption) ?_
        rotate_left
        · (intro w hSw; (try dsimp only at hSw); go_simp; (try with_reducible rfl))
        refine wpAnyL_take (i := 8) (v := ?_) rfl (by kernel_rfl) (by kernel_rfl) (by kernel_rfl) (by kernel_rfl) (fun _ _ _ h => h) (Or.inl ⟨by rfl, ?_⟩) (by assumption) ?_
        rotate_left
        · (intro w hSw; (try dsimp only at hSw); go_simp; (try with_reducible rfl))
        refine wpAnyL_take (i := 9) (v := ?_) rfl (by kernel_rfl) (by kernel_rfl) (by kernel_rfl) (by kernel_rfl) (fun _ _ _ h => h) (Or.inl ⟨by rfl, ?_⟩) (by assumption) ?_
        rotate_left
        · (intro w hSw; (try dsimp only at hSw); go_simp; (try with_reducible rfl))
        refine wpAnyL_take (i := 10) (v := ?_) rfl (by kernel_rfl) (by kernel_rfl) (by kernel_rfl) (by kernel_rfl) (fun _ _ _ h => h) (Or.inl ⟨by rfl, ?_⟩) (by assumption) ?_
        rotate_left
        · (intro w hSw; (try dsimp only at hSw); go_simp; (try with_reducible rfl))
        refine wpAnyL_take (i := 11) (v := ?_) rfl (by kernel_rfl) (by kernel_rfl) (by kernel_rfl) (by kernel_rfl) (fun _ _ _ h => h) (Or.inl ⟨by rfl, ?_⟩) (by assumption) ?_
        rotate_left
        · (intro w hSw; (try dsimp only at hSw); go_simp; (try with_reducible rfl))
        refine wpAnyL_take (i := 12) (v := ?_) rfl (by kernel_rfl) (by kernel_rfl) (by kernel_rfl) (by kernel_rfl) (fun _ _ _ h => h) (Or.inl ⟨by rfl, ?_⟩) (by assumption) ?_
        rotate_left
        · (intro w hSw; (try dsimp only at hSw); go_simp; (try with_reducible rfl))
        refine wpAnyL_take (i := 13) (v := ?_) rfl (by kernel_rfl) (by kernel_rfl) (by kernel_rfl) (by kernel_rfl) (fun _ _ _ h => h) (Or.inl ⟨by rfl, ?_⟩) (by assumption) ?_
        rotate_left
        · (intro w hSw; (try dsimp only at hSw); go_simp; (try with_reducible rfl))
        refine wpAnyL_one (i := 14) (by kernel_rfl) rfl (fun K hK => ?_)
        refine step_appV (by rfl) _ _ (by rfl) wr.heap.size lvs va vc (by kernel_rfl) (by kernel_rfl) HSL.out hvn (by omega) (Nat.le_refl _) ?_
        intro v5 w5 hO5 hg5
        have HB5 : Hid (RowKit.Below wr.heap.size wr w5) := ((Below.refl wr.heap.size wr).drew).grown hg5 (by simp) (fun k e => by cases e)
        have hsz5 := HB5.out.size
        obtain ⟨a5, c5, rfl, hS5, hn5⟩ := hO5.slF (P := fun k => decide (k < wr.heap.size)) (fun k hk => by simp; omega)
        have HS5 := Hid.mk hS5
        have HN5 := Hid.mk hn5
        clear hO5 hg5 hS5 hn5
        have HOWN6 : Hid ((w5.alloc (.cells #[.int .i64 ln, .slice a5 lvs.length c5] 105)).ownsRow (w.heap.size + 3) 105 2 (.slice a j cap) j xs) := (ownsG_block HOWN.out (fun g hg => HB5.out.block g (by subst hg; exact (World.ownsRow.lt HOWN.out g rfl).2))).alloc _
        have HNEWS := Hid.mk (World.news_of_block (cs := #[.int .i64 ln, .slice a5 lvs.length c5]) (t := 105) (fr := (0, 0)) (alloc_new w5 (.cells #[.int .i64 ln, .slice a5 lvs.length c5] 105)))
        refine hK.out _ _ ?_ (fun hHeld => ?_)
        · (try dsimp only)
          exact HCEL.out _ (fun k hk => HB5.out.block k (by omega))
        clear hK K
        refine wpAnyL_take (i := 15) (v := ?_) rfl (by kernel_rfl) (by kernel_rfl) (by kernel_rfl) (by kernel_rfl) (fun _ _ _ h => h) (Or.inl ⟨by rfl, ?_⟩) (by assumption) ?_
        rotate_left
        · (intro w hSw; (try dsimp only at hSw); go_simp; (try with_reducible rfl))
        refine wpAnyL_one (i := 16) (by kernel_rfl) rfl (fun K hK => ?_)
        go_simp
        refine hK.out _ _ ?_ (fun hHeld => ?_)
        · (try dsimp only)
          exact HCEL.out _ (fun k hk => (Below.heap_alloc _ _ k (by omega)).trans (HB5.out.block k (by omega)))
        clear hK K
        refine wpAnyL_one (i := 17) (by kernel_rfl) rfl (fun K hK => ?_)
        refine step_append_lies _ (by rfl) _ _ _ (by rfl) (w.heap.size + 3) 105 l0 _ 2 32 Tryz.underlying35 lh lz0 lz1 lz2 rfl (by decide) (.slice a j cap) j xs (by kernel_rfl) HOWN6.out ⟨w5.heap.size, 0, none⟩ 1 1 [.int .i64 ln, .slice a5 lvs.length c5] (by kernel_rfl) (by rfl) HNEWS.out (by simp [Value.oneCell']) (by omega) (by simp [maxLen]; omega) (by omega) (by simp; omega) (w5.heap.size + 1) (by simp) ?_
        intro g7 c7 W7 hown7 hgr7 hat7 hlt7
        have HOWN7 := Hid.mk hown7
        have HGR7 := Hid.mk hgr7
        have HAT7 := Hid.mk hat7
        have HBL7 : Hid (∀ k, k < w5.heap.size + 1 → ownB a k = false → W7.heap[k]? = (w5.alloc (.cells #[.int .i64 ln, .slice a5 lvs.length c5] 105)).heap[k]?) := fun k hk ho => hgr7.block k (by simpa using hk) (ownB_none ho)
        have HCE7 := Hid.mk (HCEL.out W7 (fun k hk => (HBL7.out k (by omega) (by cases ho : ownB a k with | false => rfl | true => exact absurd (HRB.out k ho).1 (by omega))).trans ((Below.heap_alloc _ _ k (by omega)).trans (HB5.out.block k (by omega)))))
        have HZ7 : Hid (W7.heap[w.heap.size + 1 + 1]? = some (.cells #[.int .i64 10, .int .i64 0, .bool false, .string nm, .slice a j cap, .slice none 0 0] 38 (0, 0))) := (HBL7.out _ (by omega) (by cases ho : ownB a (w.heap.size + 1 + 1) with | false => rfl | true => exact absurd (HRB.out _ ho).1 (by omega))).trans ((Below.heap_alloc _ _ _ (by omega)).trans ((HB5.out.block _ (by omega)).trans HZR.out))
        have fz7 := frz HZ7.out
        have z75 := (cells6 HZ7.out).2.2.2.2.1
        clear hown7 hgr7 hat7
        refine hK.out _ _ ?_ (fun hHeld => ?_)
        · (try dsimp only)
          exact HCE7.out
        clear hK K
        refine wpAnyL_take (i := 18) (v := ?_) rfl (by kernel_rfl) (by kernel_rfl) (by kernel_rfl) (by kernel_rfl) (fun _ _ _ h => h) (Or.inl ⟨by rfl, ?_⟩) (by assumption) ?_
        rotate_left
        · (intro w hSw; (try dsimp only at hSw); go_simp; (try with_reducible rfl))
        refine wpAnyL_last (by kernel_rfl) rfl (by kernel_rfl) (fun K hK => ?_)
        go_simp
        refine hK.out _ _ ?_
        clear hK K
        go_wp2
        have KZ : Kept (fun k => k = w.heap.size + 1 + 1) W7 (W7.setCell ⟨w.heap.size + 1 + 1, 4, none⟩ (.slice (some ⟨g7, 0, none⟩) (j + 1) c7)) := (Kept.refl (fun k => k = w.heap.size + 1 + 1) W7).setCell (p := ⟨w.heap.size + 1 + 1, 4, none⟩) rfl _
        refine ⟨⟨j + 1, some ⟨g7, 0, none⟩, c7, hlt, by go_num, ?_, set4_heap HZ7.out, ?_⟩, by simp [intOf]; omega⟩
        · rw [HTK.out]
          refine RowL.move (w := W7) ?_ (fun k hk => by simp; omega) KZ.size (fun k h1 h2 => KZ.block k h1 (fun e => by subst e; exact absurd h2 (by simp)))
          refine RowL.snoc (w := w5.alloc (.cells #[.int .i64 ln, .slice a5 lvs.length c5] 105)) (a := a) (cap := cap) (xs := xs) (fun j' n' vs' hj' => ?_) HXL.out (by rw [HLJ.out]; exact HOWN7.out) (by rw [HLJ.out]; exact HGR7.out) (by rw [HLJ.out]; simpa using HAT7.out) HN5.out ?_
          · obtain ⟨d0, a', cap', d1, hn', hS'⟩ := HKV.out j' n' vs' hj'
            exact ⟨d0, a', cap', d1, hn', hS'.subF (by rw [maskB_size, maskB_size]; simp; omega) (maskB_keeps fun k h1 h2 => ⟨h2, (Below.heap_alloc _ _ k (by omega)).trans (HB5.out.block k h1)⟩)⟩
          · refine HS5.out.subF (by rw [maskB_size, maskB_size]; simp) (maskB_keeps fun k h1 h2 => ⟨?_, Below.heap_alloc _ _ k h1⟩)
            have h3 : wr.heap.size ≤ k := by simpa using h2
            cases ho : ownB a k with
            | false => simp; omega
            | true => exact absurd (HRB.out k ho).2 (by omega)
        · refine HBR.out.trans (((Kept.of_below HB5.out).alloc (.cells #[.int .i64 ln, .slice a5 lvs.length c5] 105)).trans (Kept.trans (b := W7) ⟨HGR7.out.os, HGR7.out.tape, HGR7.out.output, HGR7.out.size, fun k hk hn => HGR7.out.block k hk (fun e => ?_)⟩ (KZ.imp (fun k _ h => Or.inl h))))
          have := (World.ownsRow.lt HOWN.out k e.symm).1
          omega
      · obtain rfl : j = ls.length := by omega
        have hby := (HBR.out.block (w.heap.size + 1) (by omega) (by omega)).trans HY1.out
        obtain ⟨y0, y1, y2, y3, y4, y5, y6⟩ := cells6 hby
        have fy := frz hby
        clear hby
        have HT : Hid (R = .mk 10 0 false nm (ls.take ls.length) []) := by unfold Hid; rw [HR.out, List.take_length]
        have HLJ : Hid ((ls.take ls.length).length = ls.length) := by unfold Hid; rw [List.length_take]; omega
        generalize ls.take ls.length = TS at *
        go_wp2
        refine wp_loop_rounds 1 ?_
        rw [rounds_succ]
        go_wp2
        refine bodyPost_ret (v := .agg #[.int .i64 10, .int .i64 0, .bool false, .string nm, .slice a ls.length cap, .slice none 0 0]) (by simp [results, Tryz.results40, go_sem, y0, y1, y2, y3, y4, y5]) rfl ⟨_, rfl, ⟨_, _, _, _, _, _, _, _, _, _, rfl⟩, ?_, ?_⟩
        all_goals have KF := keep6 (P := fun k => k = w.heap.size + 1) (w := wr) (b := w.heap.size + 1) (a0 := .int .i64 10) (a1 := .int .i64 0) (a2 := .bool false) (a3 := .string nm) (a4 := .slice a ls.length cap) (a5 := .slice none 0 0) rfl
        · rw [HT.out]
          have hrow := HROW.out.move (fun k hk => by simp; omega) KF.size (fun k h1 h2 => KF.block k h1 (fun e => by subst e; exact absurd h2 (by simp)))
          obtain ⟨q1, q2, q3, q4⟩ := hrow.ln (fun k hk => by simp; omega)
          have hd2 := (RowF.nil _ (w.heap.size + 3) (fun k => decide (k < w.heap.size + 3))).done (fun k hk => by simp; omega) (f := 10) (n := 0) (hd := false) (nm := nm) q1 q2 q3 q4
          rw [HLJ.out] at hd2
          exact hd2.sub (fun k hk => by simp at hk ⊢; omega)
        · exact HG1.out.below.trans (Below.trans (HBR.out.below (by omega) (fun k hk => by omega)) (KF.below (by omega) (fun k hk => by omega)))
end Go.Proofs.YtndjdeiccmhelaaGreat

/- The contract of telamonref1.Clean, form by form. -/
namespace Go.Proofs.YtndjdeiccmhelaaGreat
open Go.RowKit Go.Sort

theorem Clean_any (t : Tm) : ∀ (v : Value) (w : World), smT 1000000 t → formedB t = true → TV w v t → Calls Tryz.prog 40 #[v] w fun e w' => ∃ v', e = .returned v' ∧ ShapeT v' ∧ TF w' (fun k => decide (k < w.heap.size)) v' (cleanT t) ∧ RowKit.Below w.heap.size w w' := by
  refine Tm.ind (P := fun t => ∀ (v : Value) (w : World), smT 1000000 t → formedB t = true → TV w v t → Calls Tryz.prog 40 #[v] w fun e w' => ∃ v', e = .returned v' ∧ ShapeT v' ∧ TF w' (fun k => decide (k < w.heap.size)) v' (cleanT t) ∧ RowKit.Below w.heap.size w w') ?_ t
  intro f n hd nm ls ks ih v w hsm hfm hv
  have hkl := (formed_len hfm).1
  by_cases h3 : f = 3
  · subst h3; exact Clean3 n hd nm ls ks ih v w hsm hfm hv
  by_cases h4 : f = 4
  · subst h4; exact Clean4 n hd nm ls ks ih v w hsm hfm hv
  by_cases h5 : f = 5
  · subst h5; exact Clean5 n hd nm ls ks ih v w hsm hfm hv
  by_cases h6 : f = 6
  · subst h6; exact Clean6 n hd nm ls ks ih v w hsm hfm hv
  by_cases h7 : f = 7
  · subst h7; exact Clean7 n hd nm ls ks ih v w hsm hfm hv
  by_cases h8 : f = 8
  · subst h8; exact Clean8 n hd nm ls ks ih v w hsm hfm hv
  by_cases h9 : f = 9
  · subst h9; exact Clean9 n hd nm ls ks ih v w hsm hfm hv
  by_cases h1 : f = 1
  · subst h1; exact Clean1 n hd nm ls ks ih v w hsm hfm hv
  by_cases h11 : f = 11
  · subst h11; exact Clean11 n hd nm ls ks ih v w hsm hfm hv
  by_cases h2 : f = 2
  · subst h2; exact Clean2 n hd nm ls ks ih v w hsm hfm hv
  by_cases h10 : f = 10
  · subst h10; exact Clean10 n hd nm ls ks ih v w hsm hfm hv
  exfalso
  unfold kidsR at hkl
  rw [if_neg (by omega), if_neg (by omega), if_neg (by omega), if_neg (by omega)] at hkl
  omega
end Go.Proofs.YtndjdeiccmhelaaGreat

/- A region that draws its order and some of whose operations are late: they wait for all others; a condition S holds behind every operation that is not late. -/
namespace Go.Proofs.YtndjdeiccmhelaaGreat
open Go.RowKit Go.Sort

section
variable {P : Program} {ops : Array Oper} {Q : Exit → Act → World → Prop} {md : Region.Mode} {S : World → Prop} {late : Nat → Bool}

/-- two operations may come up -/
theorem wpAnyM_two {i k : Nat} {fuel : Nat} {listed : Array Bool} {a : Act} {w : World} (hr : Region.ready md ops listed = [i, k]) (h : StepM P md ops Q S late fuel listed a w i) (h' : StepM P md ops Q S late fuel listed a w k) : wpAnyM P md ops Q S late (fuel + 1) listed a w := by
  refine ⟨fun h0 => ?_, fun j hj => ?_⟩
  · rw [hr] at h0; cases h0
  · rw [hr] at hj
    rcases List.mem_cons.1 hj with rfl | hj
    · obtain ⟨o, ho, h⟩ := h
      exact wpOp_step ho (fun K' hK => h K' (fun a w hS hW => hK a w ⟨hS, hW hS⟩))
    · obtain rfl : j = k := by simpa using hj
      obtain ⟨o, ho, h⟩ := h'
      exact wpOp_step ho (fun K' hK => h K' (fun a w hS hW => hK a w ⟨hS, hW hS⟩))

end
end Go.Proofs.YtndjdeiccmhelaaGreat

/- The contract of the reference's CleanDecl. -/
namespace Go.Proofs.YtndjdeiccmhelaaGreat
open Go.RowKit Go.Sort Go.Lib

def setB (c : Array Value) (o : Nat) : List Value → Array Value
  | [] => c
  | v :: vs => setB (c.setIfInBounds o v) (o + 1) vs

theorem setB_full : ∀ (vs : List Value) (o : Nat) (c : Array Value), c.size = o + vs.length → (setB c o vs).toList = c.toList.take o ++ vs
  | [], o, c, h => by
    rw [setB, List.append_nil, List.take_of_length_le (by simp at h; simp; omega)]
  | v :: vs, o, c, h => by
    simp only [List.length_cons] at h
    have ho : o < c.toList.length := by simp; omega
    rw [setB, setB_full vs (o + 1) _ (by rw [Array.size_setIfInBounds]; omega), Array.toList_setIfInBounds, List.take_succ_eq_append_getElem (by simpa using ho), List.getElem_set_self, List.take_set_of_le (Nat.le_refl _), List.append_assoc]
    rfl

theorem sets_blk {b : Nat} {t : TypeId} : ∀ (vs : List Value) (o : Nat) (c : Array Value) (w : World), w.heap[b]? = some (.cells c t (0, 0)) → (w.setCells b o vs).heap[b]? = some (.cells (setB c o vs) t (0, 0))
  | [], _, _, _, h => h
  | v :: vs, o, c, w, h => sets_blk vs (o + 1) (c.setIfInBounds o v) (w.setCell ⟨b, o, none⟩ v) (by
    rw [setCell_eq]; show (w.heap.modify b _)[b]? = _
    rw [Array.getElem?_modify, if_pos rfl, h]; rfl)

/-- a block that is written whole -/
theorem sets_whole {b : Nat} {t : TypeId} {w : World} {c c' : Array Value} (h : w.heap[b]? = some (.cells c t (0, 0))) (hs : c.size = c'.size) : (w.setCells b 0 c'.toList).heap[b]? = some (.cells c' t (0, 0)) := by
  rw [sets_blk _ 0 _ _ h]
  have h1 := setB_full c'.toList 0 c (by rw [hs]; simp)
  rw [List.take_zero, List.nil_append] at h1
  rw [show setB c 0 c'.toList = c' from Array.ext' h1]

theorem infoC2 : (Tryz.prog.info? 57).map (fun i => (i.zero, i.size, i.bytes)) = some (some (.agg #[.string { data := #[] }, .int .i64 0, .int .i64 0, .bool false, .string { data := #[] }, .slice none 0 0, .slice none 0 0]), 7, 104) := by kernel_rfl

/-- one element more behind a row of the call's own -/
theorem RowX.add {α : Type} {e : TypeId} {m : Nat} {E : World → (Nat → Bool) → List Value → α → Prop} (hE : Moves E) {w1 : World} {B cap : Nat} {P Q : Nat → Bool} {a : Option Addr} {ts : List α} {zs : List Value} {t : α} (h : RowX e m E w1 B P a cap ts) (hB : ∀ k, B ≤ k → P k = false) (hzl : zs.length = m) (hnew : E w1 Q zs t) (hQ : ∀ k, k < w1.heap.size → Q k = false → P k = false ∧ ownB a k = false) :
    ∃ xs : List Value, (w1.alloc (.cells zs.toArray e)).ownsRow B e m (.slice a ts.length cap) ts.length xs ∧ ∀ (g cap' : Nat) (w' : World), w'.ownsRow B e m (.slice (some ⟨g, 0, none⟩) (ts.length + 1) cap') (ts.length + 1) (xs ++ zs) → (w1.alloc (.cells zs.toArray e)).grownBy w' (Value.slice a ts.length cap).ownBlock → ((Value.slice a ts.length cap).ownBlock = some g ∨ g = (w1.alloc (.cells zs.toArray e)).heap.size) →
      RowX e m E w' B P (some ⟨g, 0, none⟩) cap' (ts ++ [t]) ∧ Kept (fun k => ownB a k = true) w1 w' := by
  have h1 : RowX e m E (w1.alloc (.cells zs.toArray e)) B P a cap ts := h.move hE hB (by simp) fun k hk _ => Below.heap_alloc _ _ _ hk
  obtain ⟨xss, hx1, hx2, hown, hkv⟩ := h1.go
  refine ⟨xss.flatten, hown, fun g cap' w' hown' hgr hat => ⟨?_, ?_⟩⟩
  · refine RowX.snoc hE (cap := cap) hx1 hx2 hkv hzl hown' hgr hat (hE _ _ _ _ _ _ hnew (by simp) fun k hk hq => ⟨?_, Below.heap_alloc _ _ _ hk⟩)
    obtain ⟨h2, h3⟩ := hQ k hk hq
    rw [h2, h3]; rfl
  · refine ⟨hgr.os, hgr.tape, hgr.output, by have := hgr.size; simp at this; omega, fun k hk hn => ?_⟩
    have ho : ownB a k = false := by
      cases ho : ownB a k
      · rfl
      · exact absurd ho hn
    exact (hgr.block k (by simp; omega) (ownB_none ho)).trans (Below.heap_alloc _ _ _ hk)

theorem ite_go {c : Prop} [Decidable c] {p q : Prop} (hc : c) (hp : p) : if c then p else q := by
  rw [if_pos hc]; exact hp

theorem below_sets {B b o : Nat} {w w2 : World} (h : RowKit.Below B w w2) (hb : B ≤ b) (vs : List Value) : RowKit.Below B w (w2.setCells b o vs) := by
  induction vs generalizing o w2 with
  | nil => exact h
  | cons v vs ih => exact ih (h.setCell (p := ⟨b, o, none⟩) hb v)

set_option maxRecDepth 100000 in
set_option maxHeartbeats 8000000 in
theorem CleanDecl_any (d : Dl) (v : Value) (w : World) (hv : DV w v d) (hok : okD d) (hsm : smD d) : Calls Tryz.prog 13 #[v] w fun e w' => ∃ zs : List Value, e = .returned (.agg zs.toArray) ∧ DV w' (.agg zs.toArray) (cleanD d) ∧ RowKit.Below w.heap.size w w' := by
  obtain ⟨t0, t1, t2, t3, t4, t5, t6, t7, t8, t9, v0, v1, v2, v3, v4, v5, v6, v7, v8, v9, ca, cc, rfl, htt, htv, hck⟩ := hv.go
  clear hv
  obtain ⟨kd, nm, lv, ty, val, pr, cs⟩ := d
  simp only at htt htv hck
  obtain ⟨W1, hW1⟩ : ∃ W1, (w.alloc (.cells #[.int .i64 kd, .string nm, .int .i64 lv, .int .i64 t0, .int .i64 t1, .bool t2, .string t3, .slice t4 t5 t6, .slice t7 t8 t9, .int .i64 v0, .int .i64 v1, .bool v2, .string v3, .slice v4 v5 v6, .slice v7 v8 v9, .int .i64 pr, .slice ca cs.length cc] 41)).alloc (.cells #[.int .i64 0, .string { data := #[] }, .int .i64 0, .int .i64 0, .int .i64 0, .bool false, .string { data := #[] }, .slice none 0 0, .slice none 0 0, .int .i64 0, .int .i64 0, .bool false, .string { data := #[] }, .slice none 0 0, .slice none 0 0, .int .i64 0, .slice none 0 0] 41) = W1 := ⟨_, rfl⟩
  have hb1 : RowKit.Below w.heap.size w W1 := by rw [← hW1]; exact ((Below.refl _ _).alloc (Nat.le_refl _) _).alloc (by simp) _
  have HA1 : Hid (W1.heap[w.heap.size]? = some (.cells #[.int .i64 kd, .string nm, .int .i64 lv, .int .i64 t0, .int .i64 t1, .bool t2, .string t3, .slice t4 t5 t6, .slice t7 t8 t9, .int .i64 v0, .int .i64 v1, .bool v2, .string v3, .slice v4 v5 v6, .slice v7 v8 v9, .int .i64 pr, .slice ca cs.length cc] 41 (0, 0))) := by unfold Hid; rw [← hW1]; exact box_at
  have HR1 : Hid (W1.heap[(w.heap.size + 1)]? = some (.cells #[.int .i64 0, .string { data := #[] }, .int .i64 0, .int .i64 0, .int .i64 0, .bool false, .string { data := #[] }, .slice none 0 0, .slice none 0 0, .int .i64 0, .int .i64 0, .bool false, .string { data := #[] }, .slice none 0 0, .slice none 0 0, .int .i64 0, .slice none 0 0] 41 (0, 0))) := by unfold Hid; rw [← hW1]; exact box_at1
  have hs1 : W1.heap.size = w.heap.size + 2 := by rw [← hW1]; simp
  have hs1a := Nat.le_of_eq hs1
  have hs1b := Nat.le_of_eq hs1.symm
  have HB1 := Hid.mk hb1
  have HTT := Hid.mk htt
  have HTV := Hid.mk htv
  have HCK := Hid.mk hck
  have HOK := Hid.mk hok
  have HSM := Hid.mk hsm
  have HW1 := Hid.mk hW1
  have HC1 : Hid (∀ W, RowKit.Below w.heap.size w W → Calls Tryz.prog 40 #[.agg #[.int .i64 t0, .int .i64 t1, .bool t2, .string t3, .slice t4 t5 t6, .slice t7 t8 t9]] W fun e w' => ∃ v', e = .returned v' ∧ ShapeT v' ∧ TF w' (fun k => decide (k < W.heap.size)) v' (cleanT ty) ∧ RowKit.Below W.heap.size W w') := fun W hW => Clean_any ty _ W hok.ty.1 hok.ty.2 (htt.on hW)
  have HSS : Hid (∀ W, RowKit.Below W1.heap.size W1 W → (W.cell? ⟨w.heap.size, 0, none⟩ = some (.int .i64 kd) ∧ W.cell? ⟨w.heap.size, 1, none⟩ = some (.string nm) ∧ W.cell? ⟨w.heap.size, 2, none⟩ = some (.int .i64 lv) ∧ W.cell? ⟨w.heap.size, 3, none⟩ = some (.int .i64 t0) ∧ W.cell? ⟨w.heap.size, 4, none⟩ = some (.int .i64 t1) ∧ W.cell? ⟨w.heap.size, 5, none⟩ = some (.bool t2) ∧ W.cell? ⟨w.heap.size, 6, none⟩ = some (.string t3) ∧ W.cell? ⟨w.heap.size, 7, none⟩ = some (.slice t4 t5 t6) ∧ W.cell? ⟨w.heap.size, 8, none⟩ = some (.slice t7 t8 t9))) := fun W hW => by
    obtain ⟨q0, q1, q2, q3, q4, q5, q6, q7, q8, q9, q10, q11, q12, q13, q14, q15, q16, q17⟩ := cells17 ((hW.block _ (heap_lt HA1.out)).trans HA1.out)
    exact ⟨q0, q1, q2, q3, q4, q5, q6, q7, q8⟩
  clear hb1 hW1 htt htv hck hok hsm hs1
  go_enter Tryz.func13, Tryz.ntmps13
  go_wp2_with fail
  rw [HW1.out]
  refine Code.wp_mono (Q := fun e a' W' => e = .normal ∧ ∃ (X : Nat) (x0 x1 : Int) (x2 : Bool) (x3 : ByteArray) (x4 : Option Addr) (x5 x6 : Nat) (x7 : Option Addr) (x8 x9 : Nat) (z5 z6 z7 z8 z9 z10 z11 z12 z13 z14 : Value), a' = { tmps := #[.agg #[.int .i64 kd, .string nm, .int .i64 lv, .int .i64 t0, .int .i64 t1, .bool t2, .string t3, .slice t4 t5 t6, .slice t7 t8 t9, .int .i64 v0, .int .i64 v1, .bool v2, .string v3, .slice v4 v5 v6, .slice v7 v8 v9, .int .i64 pr, .slice ca cs.length cc], .pointer (some ⟨w.heap.size, 0, none⟩), .pointer (some ⟨w.heap.size + 1, 0, none⟩), .pointer (some ⟨X, 0, none⟩), undef, z5, z6, z7, z8, z9, z10, z11, z12, z13, z14, undef, undef, undef, undef, undef, undef, undef, undef, undef, undef, undef, undef, undef, undef, undef, undef, undef, undef, undef, undef, undef, undef, undef, undef, undef, undef, undef, undef, undef, undef, undef, undef, undef, undef, undef, undef, undef, undef, undef, undef], defers := [] } ∧ W1.heap.size ≤ X ∧ W'.heap[X]? = some (.cells #[.int .i64 kd, .string nm, .int .i64 lv, .int .i64 x0, .int .i64 x1, .bool x2, .string x3, .slice x4 x5 x6, .slice x7 x8 x9, .int .i64 0, .int .i64 0, .bool false, .string { data := #[] }, .slice none 0 0, .slice none 0 0, .int .i64 0, .slice none 0 0] 41 (0, 0)) ∧ RowKit.Below W1.heap.size W1 W' ∧ TF W' (fun k => decide (k < W1.heap.size) || k == X) (.agg #[.int .i64 x0, .int .i64 x1, .bool x2, .string x3, .slice x4 x5 x6, .slice x7 x8 x9]) (cleanT ty)) (fun e a' W' hjoin => ?_) ?_
  rotate_left
  refine wp_region_late (S := fun w' => w'.cell? ⟨w.heap.size, 0, none⟩ = some (.int .i64 kd) ∧ w'.cell? ⟨w.heap.size, 1, none⟩ = some (.string nm) ∧ w'.cell? ⟨w.heap.size, 2, none⟩ = some (.int .i64 lv) ∧ w'.cell? ⟨w.heap.size, 3, none⟩ = some (.int .i64 t0) ∧ w'.cell? ⟨w.heap.size, 4, none⟩ = some (.int .i64 t1) ∧ w'.cell? ⟨w.heap.size, 5, none⟩ = some (.bool t2) ∧ w'.cell? ⟨w.heap.size, 6, none⟩ = some (.string t3) ∧ w'.cell? ⟨w.heap.size, 7, none⟩ = some (.slice t4 t5 t6) ∧ w'.cell? ⟨w.heap.size, 8, none⟩ = some (.slice t7 t8 t9)) (fun i => i == 11) (by kernel_rfl) ?_ (fun hHeld => ?_)
  · (try dsimp only)
    exact HSS.out _ (Below.refl _ _).drew
  refine wpAnyM_take (i := 0) (v := ?_) rfl (by kernel_rfl) (by kernel_rfl) (by kernel_rfl) (by kernel_rfl) (fun _ _ _ h => by cases h.1) (Or.inl ⟨by rfl, ?_⟩) (by assumption) ?_
  rotate_left
  · (intro w hSw; (try dsimp only at hSw); go_simp; (try with_reducible rfl))
  refine wpAnyM_take (i := 1) (v := ?_) rfl (by kernel_rfl) (by kernel_rfl) (by kernel_rfl) (by kernel_rfl) (fun _ _ _ h => by cases h.1) (Or.inl ⟨by rfl, ?_⟩) (by assumption) ?_
  rotate_left
  · (intro w hSw; (try dsimp only at hSw); go_simp; (try with_reducible rfl))
  refine wpAnyM_take (i := 2) (v := ?_) rfl (by kernel_rfl) (by kernel_rfl) (by kernel_rfl) (by kernel_rfl) (fun _ _ _ h => by cases h.1) (Or.inl ⟨by rfl, ?_⟩) (by assumption) ?_
  rotate_left
  · (intro w hSw; (try dsimp only at hSw); go_simp; (try with_reducible rfl))
  refine wpAnyM_take (i := 3) (v := ?_) rfl (by kernel_rfl) (by kernel_rfl) (by kernel_rfl) (by kernel_rfl) (fun _ _ _ h => by cases h.1) (Or.inl ⟨by rfl, ?_⟩) (by assumption) ?_
  rotate_left
  · (intro w hSw; (try dsimp only at hSw); go_simp; (try with_reducible rfl))
  refine wpAnyM_take (i := 4) (v := ?_) rfl (by kernel_rfl) (by kernel_rfl) (by kernel_rfl) (by kernel_rfl) (fun _ _ _ h => by cases h.1) (Or.inl ⟨by rfl, ?_⟩) (by assumption) ?_
  rotate_left
  · (intro w hSw; (try dsimp only at hSw); go_simp; (try with_reducible rfl))
  refine wpAnyM_take (i := 5) (v := ?_) rfl (by kernel_rfl) (by kernel_rfl) (by kernel_rfl) (by kernel_rfl) (fun _ _ _ h => by cases h.1) (Or.inl ⟨by rfl, ?_⟩) (by assumption) ?_
  rotate_left
  · (intro w hSw; (try dsimp only at hSw); go_simp; (try with_reducible rfl))
  refine wpAnyM_take (i := 6) (v := ?_) rfl (by kernel_rfl) (by kernel_rfl) (by kernel_rfl) (by kernel_rfl) (fun _ _ _ h => by cases h.1) (Or.inl ⟨by rfl, ?_⟩) (by assumption) ?_
  rotate_left
  · (intro w hSw; (try dsimp only at hSw); go_simp; (try with_reducible rfl))
  refine wpAnyM_take (i := 7) (v := ?_) rfl (by kernel_rfl) (by kernel_rfl) (by kernel_rfl) (by kernel_rfl) (fun _ _ _ h => by cases h.1) (Or.inl ⟨by rfl, ?_⟩) (by assumption) ?_
  rotate_left
  · (intro w hSw; (try dsimp only at hSw); go_simp; (try with_reducible rfl))
  refine wpAnyM_two (i := 8) (k := 10) (by kernel_rfl) ?_ ?_
  · refine ⟨_, rfl, fun K hK => ?_⟩
    go_simp
    go_at_call 40
    refine (HC1.out _ (HB1.out.trans ((Below.refl W1.heap.size W1).drew.mono (by omega)))).mono ?_
    rintro e w2 ⟨v', rfl, ⟨x0, x1, x2, x3, x4, x5, x6, x7, x8, x9, rfl⟩, htf, hb2⟩
    dsimp only
    refine hK.out _ _ (fun _ => ?_) (fun hHeld => ?_)
    · (try dsimp only)
      exact HSS.out _ ((Below.refl _ W1).drew.trans hb2)
    replace hHeld := hHeld rfl
    clear hK K
    refine wpAnyM_take (i := 9) (v := .agg #[.int .i64 kd, .string nm, .int .i64 lv, .int .i64 x0, .int .i64 x1, .bool x2, .string x3, .slice x4 x5 x6, .slice x7 x8 x9, .int .i64 0, .int .i64 0, .bool false, .string { data := #[] }, .slice none 0 0, .slice none 0 0, .int .i64 0, .slice none 0 0]) rfl (by kernel_rfl) (by kernel_rfl) (by kernel_rfl) (by kernel_rfl) (fun _ _ _ h => by cases h.1) (Or.inl ⟨by kernel_rfl, fun _ _ => by kernel_rfl⟩) (by assumption) ?_
    refine wpAnyM_one (i := 10) (by kernel_rfl) ?_
    refine ⟨_, rfl, fun K hK => ?_⟩
    go_simp
    refine hK.out _ _ (fun _ => ?_) (fun hHeld => ?_)
    · (try dsimp only)
      exact HSS.out _ (((Below.refl _ W1).drew.trans hb2).alloc (by have := hb2.size; simpa using this) _)
    replace hHeld := hHeld rfl
    clear hK K
    refine wpAnyM_one (i := 11) (by kernel_rfl) ?_
    refine ⟨_, rfl, fun K hK => ?_⟩
    have hsw2 := hb2.size
    have hsd : W1.drew.heap.size = W1.heap.size := rfl
    have hXX : W1.heap.size ≤ w2.heap.size := by omega
    have HXX := Hid.mk hXX
    have hBU : RowKit.Below W1.heap.size W1 (w2.alloc (.cells #[.int .i64 0, .string { data := #[] }, .int .i64 0, .int .i64 0, .int .i64 0, .bool false, .string { data := #[] }, .slice none 0 0, .slice none 0 0, .int .i64 0, .int .i64 0, .bool false, .string { data := #[] }, .slice none 0 0, .slice none 0 0, .int .i64 0, .slice none 0 0] 41)) := ((Below.refl _ W1).drew.trans hb2).alloc (by omega) _
    have hUX : (w2.alloc (.cells #[.int .i64 0, .string { data := #[] }, .int .i64 0, .int .i64 0, .int .i64 0, .bool false, .string { data := #[] }, .slice none 0 0, .slice none 0 0, .int .i64 0, .int .i64 0, .bool false, .string { data := #[] }, .slice none 0 0, .slice none 0 0, .int .i64 0, .slice none 0 0] 41)).heap[w2.heap.size]? = some (.cells #[.int .i64 0, .string { data := #[] }, .int .i64 0, .int .i64 0, .int .i64 0, .bool false, .string { data := #[] }, .slice none 0 0, .slice none 0 0, .int .i64 0, .int .i64 0, .bool false, .string { data := #[] }, .slice none 0 0, .slice none 0 0, .int .i64 0, .slice none 0 0] 41 (0, 0)) := alloc_new _ _
    have HTH : Hid ((w2.alloc (.cells #[.int .i64 0, .string { data := #[] }, .int .i64 0, .int .i64 0, .int .i64 0, .bool false, .string { data := #[] }, .slice none 0 0, .slice none 0 0, .int .i64 0, .int .i64 0, .bool false, .string { data := #[] }, .slice none 0 0, .slice none 0 0, .int .i64 0, .slice none 0 0] 41)).there w2.heap.size 0 (#[.int .i64 kd, .string nm, .int .i64 lv, .int .i64 x0, .int .i64 x1, .bool x2, .string x3, .slice x4 x5 x6, .slice x7 x8 x9, .int .i64 0, .int .i64 0, .bool false, .string { data := #[] }, .slice none 0 0, .slice none 0 0, .int .i64 0, .slice none 0 0] : Array Value).size) := there_of (n := 17) hUX rfl 0 17 (Nat.le_refl 17)
    have HSI : Hid ((Tryz.prog.info? 41).map (·.size) = some (#[.int .i64 kd, .string nm, .int .i64 lv, .int .i64 x0, .int .i64 x1, .bool x2, .string x3, .slice x4 x5 x6, .slice x7 x8 x9, .int .i64 0, .int .i64 0, .bool false, .string { data := #[] }, .slice none 0 0, .slice none 0 0, .int .i64 0, .slice none 0 0] : Array Value).size) := by unfold Hid; kernel_rfl
    have HONE : Hid (((#[.int .i64 kd, .string nm, .int .i64 lv, .int .i64 x0, .int .i64 x1, .bool x2, .string x3, .slice x4 x5 x6, .slice x7 x8 x9, .int .i64 0, .int .i64 0, .bool false, .string { data := #[] }, .slice none 0 0, .slice none 0 0, .int .i64 0, .slice none 0 0] : Array Value)).all (·.oneCell') = true) := by unfold Hid; simp [Value.oneCell']
    have HBX : Hid (((w2.alloc (.cells #[.int .i64 0, .string { data := #[] }, .int .i64 0, .int .i64 0, .int .i64 0, .bool false, .string { data := #[] }, .slice none 0 0, .slice none 0 0, .int .i64 0, .int .i64 0, .bool false, .string { data := #[] }, .slice none 0 0, .slice none 0 0, .int .i64 0, .slice none 0 0] 41)).setCells w2.heap.size 0 (#[.int .i64 kd, .string nm, .int .i64 lv, .int .i64 x0, .int .i64 x1, .bool x2, .string x3, .slice x4 x5 x6, .slice x7 x8 x9, .int .i64 0, .int .i64 0, .bool false, .string { data := #[] }, .slice none 0 0, .slice none 0 0, .int .i64 0, .slice none 0 0] : Array Value).toList).heap[w2.heap.size]? = some (.cells #[.int .i64 kd, .string nm, .int .i64 lv, .int .i64 x0, .int .i64 x1, .bool x2, .string x3, .slice x4 x5 x6, .slice x7 x8 x9, .int .i64 0, .int .i64 0, .bool false, .string { data := #[] }, .slice none 0 0, .slice none 0 0, .int .i64 0, .slice none 0 0] 41 (0, 0))) := sets_whole hUX rfl
    have HBE : Hid (RowKit.Below W1.heap.size W1 ((w2.alloc (.cells #[.int .i64 0, .string { data := #[] }, .int .i64 0, .int .i64 0, .int .i64 0, .bool false, .string { data := #[] }, .slice none 0 0, .slice none 0 0, .int .i64 0, .int .i64 0, .bool false, .string { data := #[] }, .slice none 0 0, .slice none 0 0, .int .i64 0, .slice none 0 0] 41)).setCells w2.heap.size 0 (#[.int .i64 kd, .string nm, .int .i64 lv, .int .i64 x0, .int .i64 x1, .bool x2, .string x3, .slice x4 x5 x6, .slice x7 x8 x9, .int .i64 0, .int .i64 0, .bool false, .string { data := #[] }, .slice none 0 0, .slice none 0 0, .int .i64 0, .slice none 0 0] : Array Value).toList)) := below_sets hBU hXX _
    have HTX : Hid (TF ((w2.alloc (.cells #[.int .i64 0, .string { data := #[] }, .int .i64 0, .int .i64 0, .int .i64 0, .bool false, .string { data := #[] }, .slice none 0 0, .slice none 0 0, .int .i64 0, .int .i64 0, .bool false, .string { data := #[] }, .slice none 0 0, .slice none 0 0, .int .i64 0, .slice none 0 0] 41)).setCells w2.heap.size 0 (#[.int .i64 kd, .string nm, .int .i64 lv, .int .i64 x0, .int .i64 x1, .bool x2, .string x3, .slice x4 x5 x6, .slice x7 x8 x9, .int .i64 0, .int .i64 0, .bool false, .string { data := #[] }, .slice none 0 0, .slice none 0 0, .int .i64 0, .slice none 0 0] : Array Value).toList) (fun k => decide (k < W1.heap.size) || k == w2.heap.size) (.agg #[.int .i64 x0, .int .i64 x1, .bool x2, .string x3, .slice x4 x5 x6, .slice x7 x8 x9]) (cleanT ty)) := by
      refine htf.move (by rw [(sets_heap _ _ _ _).1]; simp) fun k h1 h2 => ?_
      have h3 : W1.heap.size ≤ k := by have := of_decide_eq_false h2; omega
      refine ⟨by simp; omega, ((sets_heap _ _ _ _).2 k (by omega)).trans ?_⟩
      exact Below.heap_alloc _ _ _ h1
    clear hBU hUX htf hb2
    refine ite_go (by kernel_rfl) ?_
    refine wp_store_mid 41 (.tmp 3) (.tmp 14) rfl w2.heap.size 0 #[.int .i64 kd, .string nm, .int .i64 lv, .int .i64 x0, .int .i64 x1, .bool x2, .string x3, .slice x4 x5 x6, .slice x7 x8 x9, .int .i64 0, .int .i64 0, .bool false, .string { data := #[] }, .slice none 0 0, .slice none 0 0, .int .i64 0, .slice none 0 0] (by kernel_rfl) (by kernel_rfl) HTH.out HSI.out HONE.out (hK.out _ _ (fun h => by cases h) (fun _ => ?_))
    clear hK K
    refine wpAnyM_done (by kernel_rfl) ?_ _
    exact ⟨rfl, w2.heap.size, x0, x1, x2, x3, x4, x5, x6, x7, x8, x9, _, _, _, _, _, _, _, _, _, _, rfl, HXX.out, HBX.out, HBE.out, HTX.out⟩
  · refine ⟨_, rfl, fun K hK => ?_⟩
    go_simp
    refine hK.out _ _ (fun _ => ?_) (fun hHeld => ?_)
    · (try dsimp only)
      exact HSS.out _ ((Below.refl _ W1).drew.alloc (Nat.le_refl _) _)
    replace hHeld := hHeld rfl
    clear hK K
    refine wpAnyM_one (i := 8) (by kernel_rfl) ?_
    refine ⟨_, rfl, fun K hK => ?_⟩
    go_simp
    go_at_call 40
    refine (HC1.out _ (HB1.out.trans (((Below.refl W1.heap.size W1).drew.alloc (Nat.le_refl _) _).mono (by omega)))).mono ?_
    rintro e w2 ⟨v', rfl, ⟨x0, x1, x2, x3, x4, x5, x6, x7, x8, x9, rfl⟩, htf, hb2⟩
    have hsd : W1.drew.heap.size = W1.heap.size := rfl
    have hsa : (W1.drew.alloc (.cells #[.int .i64 0, .string { data := #[] }, .int .i64 0, .int .i64 0, .int .i64 0, .bool false, .string { data := #[] }, .slice none 0 0, .slice none 0 0, .int .i64 0, .int .i64 0, .bool false, .string { data := #[] }, .slice none 0 0, .slice none 0 0, .int .i64 0, .slice none 0 0] 41)).heap.size = W1.heap.size + 1 := by simp [hsd]
    have hsw2 := hb2.size
    dsimp only
    refine hK.out _ _ (fun _ => ?_) (fun hHeld => ?_)
    · (try dsimp only)
      exact HSS.out _ (((Below.refl W1.heap.size W1).drew.alloc (Nat.le_refl _) _).trans (hb2.mono (by omega)))
    replace hHeld := hHeld rfl
    clear hK K
    refine wpAnyM_take (i := 9) (v := .agg #[.int .i64 kd, .string nm, .int .i64 lv, .int .i64 x0, .int .i64 x1, .bool x2, .string x3, .slice x4 x5 x6, .slice x7 x8 x9, .int .i64 0, .int .i64 0, .bool false, .string { data := #[] }, .slice none 0 0, .slice none 0 0, .int .i64 0, .slice none 0 0]) rfl (by kernel_rfl) (by kernel_rfl) (by kernel_rfl) (by kernel_rfl) (fun _ _ _ h => by cases h.1) (Or.inl ⟨by kernel_rfl, fun _ _ => by kernel_rfl⟩) (by assumption) ?_
    refine wpAnyM_one (i := 11) (by kernel_rfl) ?_
    refine ⟨_, rfl, fun K hK => ?_⟩
    have hXX : W1.heap.size ≤ W1.heap.size := by omega
    have HXX := Hid.mk hXX
    have hBU : RowKit.Below W1.heap.size W1 w2 := ((Below.refl W1.heap.size W1).drew.alloc (Nat.le_refl _) _).trans (hb2.mono (by omega))
    have hUX : w2.heap[W1.heap.size]? = some (.cells #[.int .i64 0, .string { data := #[] }, .int .i64 0, .int .i64 0, .int .i64 0, .bool false, .string { data := #[] }, .slice none 0 0, .slice none 0 0, .int .i64 0, .int .i64 0, .bool false, .string { data := #[] }, .slice none 0 0, .slice none 0 0, .int .i64 0, .slice none 0 0] 41 (0, 0)) := (hb2.block _ (by omega)).trans (alloc_new _ _)
    have HTH : Hid (w2.there W1.heap.size 0 (#[.int .i64 kd, .string nm, .int .i64 lv, .int .i64 x0, .int .i64 x1, .bool x2, .string x3, .slice x4 x5 x6, .slice x7 x8 x9, .int .i64 0, .int .i64 0, .bool false, .string { data := #[] }, .slice none 0 0, .slice none 0 0, .int .i64 0, .slice none 0 0] : Array Value).size) := there_of (n := 17) hUX rfl 0 17 (Nat.le_refl 17)
    have HSI : Hid ((Tryz.prog.info? 41).map (·.size) = some (#[.int .i64 kd, .string nm, .int .i64 lv, .int .i64 x0, .int .i64 x1, .bool x2, .string x3, .slice x4 x5 x6, .slice x7 x8 x9, .int .i64 0, .int .i64 0, .bool false, .string { data := #[] }, .slice none 0 0, .slice none 0 0, .int .i64 0, .slice none 0 0] : Array Value).size) := by unfold Hid; kernel_rfl
    have HONE : Hid (((#[.int .i64 kd, .string nm, .int .i64 lv, .int .i64 x0, .int .i64 x1, .bool x2, .string x3, .slice x4 x5 x6, .slice x7 x8 x9, .int .i64 0, .int .i64 0, .bool false, .string { data := #[] }, .slice none 0 0, .slice none 0 0, .int .i64 0, .slice none 0 0] : Array Value)).all (·.oneCell') = true) := by unfold Hid; simp [Value.oneCell']
    have HBX : Hid ((w2.setCells W1.heap.size 0 (#[.int .i64 kd, .string nm, .int .i64 lv, .int .i64 x0, .int .i64 x1, .bool x2, .string x3, .slice x4 x5 x6, .slice x7 x8 x9, .int .i64 0, .int .i64 0, .bool false, .string { data := #[] }, .slice none 0 0, .slice none 0 0, .int .i64 0, .slice none 0 0] : Array Value).toList).heap[W1.heap.size]? = some (.cells #[.int .i64 kd, .string nm, .int .i64 lv, .int .i64 x0, .int .i64 x1, .bool x2, .string x3, .slice x4 x5 x6, .slice x7 x8 x9, .int .i64 0, .int .i64 0, .bool false, .string { data := #[] }, .slice none 0 0, .slice none 0 0, .int .i64 0, .slice none 0 0] 41 (0, 0))) := sets_whole hUX rfl
    have HBE : Hid (RowKit.Below W1.heap.size W1 (w2.setCells W1.heap.size 0 (#[.int .i64 kd, .string nm, .int .i64 lv, .int .i64 x0, .int .i64 x1, .bool x2, .string x3, .slice x4 x5 x6, .slice x7 x8 x9, .int .i64 0, .int .i64 0, .bool false, .string { data := #[] }, .slice none 0 0, .slice none 0 0, .int .i64 0, .slice none 0 0] : Array Value).toList)) := below_sets hBU hXX _
    have HTX : Hid (TF (w2.setCells W1.heap.size 0 (#[.int .i64 kd, .string nm, .int .i64 lv, .int .i64 x0, .int .i64 x1, .bool x2, .string x3, .slice x4 x5 x6, .slice x7 x8 x9, .int .i64 0, .int .i64 0, .bool false, .string { data := #[] }, .slice none 0 0, .slice none 0 0, .int .i64 0, .slice none 0 0] : Array Value).toList) (fun k => decide (k < W1.heap.size) || k == W1.heap.size) (.agg #[.int .i64 x0, .int .i64 x1, .bool x2, .string x3, .slice x4 x5 x6, .slice x7 x8 x9]) (cleanT ty)) := by
      refine htf.move (by rw [(sets_heap _ _ _ _).1]; exact Nat.le_refl _) fun k h1 h2 => ?_
      have h3 : W1.heap.size + 1 ≤ k := by have := of_decide_eq_false h2; omega
      exact ⟨by simp; omega, (sets_heap _ _ _ _).2 k (by omega)⟩
    clear hBU hUX htf hb2
    refine ite_go (by kernel_rfl) ?_
    refine wp_store_mid 41 (.tmp 3) (.tmp 14) rfl W1.heap.size 0 #[.int .i64 kd, .string nm, .int .i64 lv, .int .i64 x0, .int .i64 x1, .bool x2, .string x3, .slice x4 x5 x6, .slice x7 x8 x9, .int .i64 0, .int .i64 0, .bool false, .string { data := #[] }, .slice none 0 0, .slice none 0 0, .int .i64 0, .slice none 0 0] (by kernel_rfl) (by kernel_rfl) HTH.out HSI.out HONE.out (hK.out _ _ (fun h => by cases h) (fun _ => ?_))
    clear hK K
    refine wpAnyM_done (by kernel_rfl) ?_ _
    exact ⟨rfl, W1.heap.size, x0, x1, x2, x3, x4, x5, x6, x7, x8, x9, _, _, _, _, _, _, _, _, _, _, rfl, HXX.out, HBX.out, HBE.out, HTX.out⟩
  obtain ⟨rfl, X, x0, x1, x2, x3, x4, x5, x6, x7, x8, x9, z5, z6, z7, z8, z9, z10, z11, z12, z13, z14, rfl, hX1, hXb, hb2, htf⟩ := hjoin
  have HX2 := Hid.mk hXb
  have HTF := Hid.mk htf
  have HB12 := Hid.mk hb2
  obtain ⟨W2, rfl⟩ : ∃ W, W = W' := ⟨_, rfl⟩
  have hs2 := hb2.size
  have hXl := heap_lt hXb
  have HB2 : Hid (RowKit.Below w.heap.size w W2) := HB1.out.trans (hb2.mono (by omega))
  have HA2 : Hid (W2.heap[w.heap.size]? = some (.cells #[.int .i64 kd, .string nm, .int .i64 lv, .int .i64 t0, .int .i64 t1, .bool t2, .string t3, .slice t4 t5 t6, .slice t7 t8 t9, .int .i64 v0, .int .i64 v1, .bool v2, .string v3, .slice v4 v5 v6, .slice v7 v8 v9, .int .i64 pr, .slice ca cs.length cc] 41 (0, 0))) := (hb2.block _ (heap_lt HA1.out)).trans HA1.out
  have HR2 : Hid (W2.heap[(w.heap.size + 1)]? = some (.cells #[.int .i64 0, .string { data := #[] }, .int .i64 0, .int .i64 0, .int .i64 0, .bool false, .string { data := #[] }, .slice none 0 0, .slice none 0 0, .int .i64 0, .int .i64 0, .bool false, .string { data := #[] }, .slice none 0 0, .slice none 0 0, .int .i64 0, .slice none 0 0] 41 (0, 0))) := (hb2.block _ (heap_lt HR1.out)).trans HR1.out
  obtain ⟨q0, q1, q2, q3, q4, q5, q6, q7, q8, q9, q10, q11, q12, q13, q14, q15, q16, q17⟩ := cells17 HA2.out
  clear hXb htf hb2 HSS HC1 HA1 HR1
  dsimp only
  by_cases hk2 : kd = 2
  · subst hk2
    have HC2 := Clean_any val (.agg #[.int .i64 v0, .int .i64 v1, .bool v2, .string v3, .slice v4 v5 v6, .slice v7 v8 v9]) W2 (HOK.out.val rfl).1 (HOK.out.val rfl).2 (HTV.out.on HB2.out)
    go_wp2_with fail
    refine HC2.mono ?_
    rintro e w3 ⟨v', rfl, ⟨y0, y1, y2, y3, y4, y5, y6, y7, y8, y9, rfl⟩, hty, hb3⟩
    have hs3 := hb3.size
    have HTY := Hid.mk hty
    have hX3 := (hb3.block _ (heap_lt HX2.out)).trans HX2.out
    obtain ⟨W4, hW4⟩ : ∃ W4, w3.setCells X 9 (#[.int .i64 y0, .int .i64 y1, .bool y2, .string y3, .slice y4 y5 y6, .slice y7 y8 y9] : Array Value).toList = W4 := ⟨_, rfl⟩
    have HT4 : Hid (w3.there X 9 (#[.int .i64 y0, .int .i64 y1, .bool y2, .string y3, .slice y4 y5 y6, .slice y7 y8 y9] : Array Value).size) := there_of (n := 17) hX3 rfl 9 6 (by decide)
    have HS4 : Hid ((Tryz.prog.info? 38).map (·.size) = some (#[.int .i64 y0, .int .i64 y1, .bool y2, .string y3, .slice y4 y5 y6, .slice y7 y8 y9] : Array Value).size) := by unfold Hid; kernel_rfl
    have HO4 : Hid (((#[.int .i64 y0, .int .i64 y1, .bool y2, .string y3, .slice y4 y5 y6, .slice y7 y8 y9] : Array Value)).all (·.oneCell') = true) := by unfold Hid; simp [Value.oneCell']
    have HXF : Hid (W4.heap[X]? = some (.cells #[.int .i64 2, .string nm, .int .i64 lv, .int .i64 x0, .int .i64 x1, .bool x2, .string x3, .slice x4 x5 x6, .slice x7 x8 x9, .int .i64 y0, .int .i64 y1, .bool y2, .string y3, .slice y4 y5 y6, .slice y7 y8 y9, .int .i64 0, .slice none 0 0] 41 (0, 0))) := by unfold Hid; rw [← hW4]; exact sets_blk _ 9 _ _ hX3
    have hw4 := sets_heap X (#[.int .i64 y0, .int .i64 y1, .bool y2, .string y3, .slice y4 y5 y6, .slice y7 y8 y9] : Array Value).toList 9 w3
    have HBF : Hid (RowKit.Below w.heap.size w W4) := by unfold Hid; rw [← hW4]; exact below_sets (HB2.out.trans (hb3.mono HB2.out.size)) (by omega) _
    rw [hW4] at hw4
    have hs4a := Nat.le_of_eq hw4.1
    have hs4b := Nat.le_of_eq hw4.1.symm
    have HW4s := Hid.mk hw4.2
    have HRF : Hid (W4.heap[(w.heap.size + 1)]? = some (.cells #[.int .i64 0, .string { data := #[] }, .int .i64 0, .int .i64 0, .int .i64 0, .bool false, .string { data := #[] }, .slice none 0 0, .slice none 0 0, .int .i64 0, .int .i64 0, .bool false, .string { data := #[] }, .slice none 0 0, .slice none 0 0, .int .i64 0, .slice none 0 0] 41 (0, 0))) := (hw4.2 _ (by omega)).trans ((hb3.block _ (heap_lt HR2.out)).trans HR2.out)
    have HW4 := Hid.mk hW4
    have HB3 := Hid.mk hb3
    have hA4 := (hw4.2 w.heap.size (by omega)).trans ((hb3.block _ (heap_lt HA2.out)).trans HA2.out)
    clear q0 q1 q2 q3 q4 q5 q6 q7 q8 q9 q10 q11 q12 q13 q14 q15 q16 q17
    obtain ⟨q0, q1, q2, q3, q4, q5, q6, q7, q8, q9, q10, q11, q12, q13, q14, q15, q16, q17⟩ := cells17 hA4
    clear hty hb3 hX3 hw4 hW4 HC2 hA4

    obtain ⟨zs, hzs⟩ : ∃ zs : List Value, zs = [.int .i64 2, .string nm, .int .i64 lv, .int .i64 x0, .int .i64 x1, .bool x2, .string x3, .slice x4 x5 x6, .slice x7 x8 x9, .int .i64 y0, .int .i64 y1, .bool y2, .string y3, .slice y4 y5 y6, .slice y7 y8 y9, .int .i64 0, .slice none 0 0] := ⟨_, rfl⟩
    have hzl : zs.length = 17 := by rw [hzs]; rfl
    have hzt : zs.toArray.size = 17 := by rw [List.size_toArray]; exact hzl
    have HONZ : Hid (∀ v ∈ zs, v.oneCell' = true) := by unfold Hid; rw [hzs]; simp [Value.oneCell']
    have HON2 : Hid (zs.toArray.all (·.oneCell') = true) := all_oneCell_toArray HONZ.out
    have HRG : Hid (W4.rangeAt X 0 zs) := by unfold Hid; rw [hzs]; exact range_of (pre := []) (post := []) HXF.out (List.append_nil _).symm rfl
    have HSZ : Hid ((Tryz.prog.info? 41).map (·.size) = some zs.length) := by unfold Hid; rw [hzl]; kernel_rfl
    have HSB : Hid ((Tryz.prog.info? 41).map (·.size) = some zs.toArray.size) := by unfold Hid; rw [hzt]; kernel_rfl
    have HTH : Hid (W4.there (w.heap.size + 1) 0 zs.toArray.size) := by unfold Hid; rw [hzt]; exact there_of HRF.out rfl 0 17 (Nat.le_refl 17)
    have HRS : Hid ((W4.setCells (w.heap.size + 1) 0 zs).rangeAt (w.heap.size + 1) 0 zs) := World.rangeAt_setCells_same _ _ _ _ (by rw [hzl]; exact there_of HRF.out rfl 0 17 (Nat.le_refl 17))
    have hsf := HBF.out.size
    have hcl : cleanD ⟨2, nm, lv, ty, val, pr, cs⟩ = ⟨2, nm, lv, cleanT ty, cleanT val, 0, []⟩ := by unfold cleanD; simp
    have HCL := Hid.mk hcl
    have HZS := Hid.mk hzs
    clear hzs hcl
    go_wp2_with (first | (refine wpList_store_mid rfl 38 _ _ rfl X 9 #[.int .i64 y0, .int .i64 y1, .bool y2, .string y3, .slice y4 y5 y6, .slice y7 y8 y9] rfl rfl HT4.out HS4.out HO4.out ?_; rw [HW4.out]) | (refine wpList_load_mid rfl 41 _ rfl X 0 rfl zs _ HRG.out Tryz.underlying41 rfl HSZ.out ?_) | (refine wpList_store_mid rfl 41 _ _ rfl (w.heap.size + 1) 0 zs.toArray rfl rfl HTH.out HSB.out HON2.out ?_))
    have hres := run_loadVar_mid (P := Tryz.prog) _ (w.heap.size + 1) 0 41 zs _ HRS.out Tryz.underlying41 rfl HSZ.out
    have hsF := (sets_heap (w.heap.size + 1) zs 0 W4).1
    have hbF := (sets_heap (w.heap.size + 1) zs 0 W4).2
    refine bodyPost_ret (v := .agg zs.toArray) (results_cell (s := 2) (t := 41) Tryz.results13 rfl hres) rfl ⟨zs, rfl, ?_, below_sets HBF.out (by omega) _⟩
    rw [HCL.out]
    exact ⟨⟨x0, x1, x2, x3, x4, x5, x6, x7, x8, x9, y0, y1, y2, y3, y4, y5, y6, y7, y8, y9, none, 0, by rw [HZS.out]; rfl, (HTF.out.move (Q := fun _ => false) (by omega) fun k h1 h2 => ⟨rfl, (hbF k (by simp at h2; omega)).trans ((HW4s.out k (by simp at h2; omega)).trans (HB3.out.block k h1))⟩).tv, (HTY.out.move (Q := fun _ => false) (by omega) fun k h1 h2 => ⟨rfl, (hbF k (by simp at h2; omega)).trans (HW4s.out k (by simp at h2; omega))⟩).tv, Or.inl rfl⟩⟩
  by_cases hk3 : kd = 3
  · subst hk3
    obtain ⟨i0, hi, iz0, iz1, iz2⟩ := info_parts infoC2
    obtain ⟨p1, p2, p3, p4⟩ := HOK.out.fam rfl
    simp only at p3 p4
    have HCALL := Hid.mk p4
    clear p4
    obtain ⟨W3, hW3⟩ : ∃ W3, W2.setCell ⟨X, 15, none⟩ (.int .i64 pr) = W3 := ⟨_, rfl⟩
    have hX3 : (W2.setCells X 15 [.int .i64 pr]).heap[X]? = some (.cells #[.int .i64 3, .string nm, .int .i64 lv, .int .i64 x0, .int .i64 x1, .bool x2, .string x3, .slice x4 x5 x6, .slice x7 x8 x9, .int .i64 0, .int .i64 0, .bool false, .string { data := #[] }, .slice none 0 0, .slice none 0 0, .int .i64 pr, .slice none 0 0] 41 (0, 0)) := sets_blk _ 15 _ _ HX2.out
    have hw3 := sets_heap X [.int .i64 pr] 15 W2
    have hb3 : RowKit.Below w.heap.size w (W2.setCells X 15 [.int .i64 pr]) := below_sets HB2.out (by omega) _
    rw [show W2.setCells X 15 [.int .i64 pr] = W3 from hW3] at hX3 hw3 hb3
    have hs3a := Nat.le_of_eq hw3.1
    have hs3b := Nat.le_of_eq hw3.1.symm
    have HX3 := Hid.mk hX3
    have HB3 := Hid.mk hb3
    have HW3s := Hid.mk hw3.2
    have HA3 : Hid (W3.heap[w.heap.size]? = some (.cells #[.int .i64 3, .string nm, .int .i64 lv, .int .i64 t0, .int .i64 t1, .bool t2, .string t3, .slice t4 t5 t6, .slice t7 t8 t9, .int .i64 v0, .int .i64 v1, .bool v2, .string v3, .slice v4 v5 v6, .slice v7 v8 v9, .int .i64 pr, .slice ca cs.length cc] 41 (0, 0))) := (hw3.2 _ (by omega)).trans HA2.out
    have HR3 : Hid (W3.heap[(w.heap.size + 1)]? = some (.cells #[.int .i64 0, .string { data := #[] }, .int .i64 0, .int .i64 0, .int .i64 0, .bool false, .string { data := #[] }, .slice none 0 0, .slice none 0 0, .int .i64 0, .int .i64 0, .bool false, .string { data := #[] }, .slice none 0 0, .slice none 0 0, .int .i64 0, .slice none 0 0] 41 (0, 0))) := (hw3.2 _ (by omega)).trans HR2.out
    obtain ⟨-, -, -, -, -, -, -, -, -, -, -, -, -, -, -, x15, x16, -⟩ := cells17 HX2.out
    have xz : ∀ o, W2.frozen? ⟨X, o, none⟩ = false := fun o => by have := HX2.out; simp [World.frozen?, this]
    have HW3 := Hid.mk hW3
    clear hX3 hw3 hb3 hW3
    go_wp2_with (rw [HW3.out])
    clear q0 q1 q2 q3 q4 q5 q6 q7 q8 q9 q10 q11 q12 q13 q14 q15 q16 q17 x15 x16 xz
    go_loopw [4] (fun i wr => ∃ (j : Nat) (da : Option Addr) (dc : Nat), j ≤ cs.length ∧ i = .int .i64 j ∧ wr.heap[X]? = some (.cells #[.int .i64 3, .string nm, .int .i64 lv, .int .i64 x0, .int .i64 x1, .bool x2, .string x3, .slice x4 x5 x6, .slice x7 x8 x9, .int .i64 0, .int .i64 0, .bool false, .string { data := #[] }, .slice none 0 0, .slice none 0 0, .int .i64 pr, .slice da j dc] 41 (0, 0)) ∧ RowX 57 7 EC wr W3.heap.size (oldB W3) da dc ((cs.take j).map cleanC) ∧ Kept (fun k => k = X) W3 wr) (fun i _ => cs.length - (intOf i).toNat)
    case atStart => exact ⟨0, none, 0, Nat.zero_le _, rfl, HX3.out, RowX.nil _ _ _ _ _ _, Kept.refl _ _⟩
    case round =>
      obtain ⟨j, da, dc, hj, rfl, hXi, hrowi, hki⟩ := hrel
      have HXI := Hid.mk hXi
      have HROWI := Hid.mk hrowi
      have HKI := Hid.mk hki
      have hsi := hki.size
      have HBI : Hid (RowKit.Below w.heap.size w wr) := HB3.out.trans (hki.below HB3.out.size fun k hk => by omega)
      have HAI : Hid (wr.heap[w.heap.size]? = some (.cells #[.int .i64 3, .string nm, .int .i64 lv, .int .i64 t0, .int .i64 t1, .bool t2, .string t3, .slice t4 t5 t6, .slice t7 t8 t9, .int .i64 v0, .int .i64 v1, .bool v2, .string v3, .slice v4 v5 v6, .slice v7 v8 v9, .int .i64 pr, .slice ca cs.length cc] 41 (0, 0))) := (hki.block _ (heap_lt HA3.out) (by omega)).trans HA3.out
      have HLJ : Hid (((cs.take j).map cleanC).length = j) := by unfold Hid; rw [List.length_map, List.length_take]; omega
      have HRBI : Hid (∀ k, ownB da k = true → W3.heap.size ≤ k ∧ k < wr.heap.size) := fun k hk => by
        obtain ⟨ys, -, -, hown0, -⟩ := hrowi.go
        exact ownsX_lt hown0 hk
      obtain ⟨q0, q1, q2, q3, q4, q5, q6, q7, q8, q9, q10, q11, q12, q13, q14, q15, q16, q17⟩ := cells17 HAI.out
      clear hXi hrowi hki
      by_cases hjl : j < cs.length
      · obtain ⟨xb, xo, rfl, hxb, hxc⟩ := HCK.out.resolve_left (by intro e; rw [e] at hjl; simp at hjl)
        have hcj := hxc j _ (List.getElem?_eq_getElem hjl)
        have hokc := HCALL.out _ (List.getElem_mem hjl)
        have HTKC : Hid ((cs.take (j + 1)).map cleanC = (cs.take j).map cleanC ++ [cleanC cs[j]]) := by unfold Hid; rw [List.take_succ_eq_append_getElem hjl, List.map_append]; rfl
        generalize cs[j] = cj at *
        obtain ⟨cn, cty⟩ := cj
        simp only at hcj hokc
        obtain ⟨hc0, hct⟩ := hcj
        obtain ⟨m0, m1, m2, m3, m4, m5, m6, m7, m8, m9, e0, e1, e2, e3, e4, e5, hctv⟩ := hct.valE
        have HCEL : Hid (∀ W : World, (∀ k, k < W3.heap.size → W.heap[k]? = wr.heap[k]?) → (W.cell? ⟨X, 16, none⟩ = some (.slice da j dc) ∧ W.cell? ⟨w.heap.size, 16, none⟩ = some (.slice (some ⟨xb, xo, none⟩) cs.length cc) ∧ W.cell? ⟨xb, xo + j * 7, none⟩ = some (.string cn) ∧ W.cell? ⟨xb, xo + j * 7 + 1, none⟩ = some (.int .i64 m0) ∧ W.cell? ⟨xb, xo + j * 7 + 1 + 1, none⟩ = some (.int .i64 m1) ∧ W.cell? ⟨xb, xo + j * 7 + 1 + 2, none⟩ = some (.bool m2) ∧ W.cell? ⟨xb, xo + j * 7 + 1 + 3, none⟩ = some (.string m3) ∧ W.cell? ⟨xb, xo + j * 7 + 1 + 4, none⟩ = some (.slice m4 m5 m6) ∧ W.cell? ⟨xb, xo + j * 7 + 1 + 5, none⟩ = some (.slice m7 m8 m9))) := fun W h => by
          obtain ⟨-, -, -, -, -, -, -, -, -, -, -, -, -, -, -, -, x16, -⟩ := cells17 ((h X (by omega)).trans HXI.out)
          obtain ⟨-, -, -, -, -, -, -, -, -, -, -, -, -, -, -, -, a16, -⟩ := cells17 ((h w.heap.size (by omega)).trans HAI.out)
          have hxw : xb < w.heap.size := hxb
          have hB : ∀ (o : Nat) (v : Value), w.cell? ⟨xb, o, none⟩ = some v → W.cell? ⟨xb, o, none⟩ = some v := fun o v hv => (World.cell?_of_block (a := ⟨xb, o, none⟩) (h xb (by omega))).trans ((HBI.out.cell (p := ⟨xb, o, none⟩) hxb).trans hv)
          exact ⟨x16, a16, hB _ _ hc0, hB _ _ e0, hB _ _ e1, hB _ _ e2, hB _ _ e3, hB _ _ e4, hB _ _ e5⟩
        have HC5 := Clean_any cty (.agg #[.int .i64 m0, .int .i64 m1, .bool m2, .string m3, .slice m4 m5 m6, .slice m7 m8 m9]) wr.drew hokc.2.2.1 hokc.2.2.2 (hctv.on (HBI.out.trans ((Below.refl _ wr).drew.mono HBI.out.size)))
        have hwd : wr.drew.heap.size = wr.heap.size := rfl
        rw [hwd] at HC5
        have zj : (j : Int) < (cs.length : Int) := by omega
        have HOKC := Hid.mk hokc
        clear hc0 hct e0 e1 e2 e3 e4 e5 hctv hokc hxc hwd
        go_wp2_with fail
        refine wp_region_last (S := fun w' => w'.cell? ⟨X, 16, none⟩ = some (.slice da j dc) ∧ w'.cell? ⟨w.heap.size, 16, none⟩ = some (.slice (some ⟨xb, xo, none⟩) cs.length cc) ∧ w'.cell? ⟨xb, xo + j * 7, none⟩ = some (.string cn) ∧ w'.cell? ⟨xb, xo + j * 7 + 1, none⟩ = some (.int .i64 m0) ∧ w'.cell? ⟨xb, xo + j * 7 + 1 + 1, none⟩ = some (.int .i64 m1) ∧ w'.cell? ⟨xb, xo + j * 7 + 1 + 2, none⟩ = some (.bool m2) ∧ w'.cell? ⟨xb, xo + j * 7 + 1 + 3, none⟩ = some (.string m3) ∧ w'.cell? ⟨xb, xo + j * 7 + 1 + 4, none⟩ = some (.slice m4 m5 m6) ∧ w'.cell? ⟨xb, xo + j * 7 + 1 + 5, none⟩ = some (.slice m7 m8 m9)) 19 (by kernel_rfl) ?_ (fun hHeld => ?_)
        · (try dsimp only)
          exact HCEL.out _ (fun k _ => rfl)
        refine wpAnyL_take (i := 0) (v := ?_) rfl (by kernel_rfl) (by kernel_rfl) (by kernel_rfl) (by kernel_rfl) (fun _ _ _ h => h) (Or.inl ⟨by rfl, ?_⟩) (by assumption) ?_
        rotate_left
        · (intro w hSw; (try dsimp only at hSw); go_simp; (try with_reducible rfl))
        refine wpAnyL_take (i := 1) (v := ?_) rfl (by kernel_rfl) (by kernel_rfl) (by kernel_rfl) (by kernel_rfl) (fun _ _ _ h => h) (Or.inl ⟨by rfl, ?_⟩) (by assumption) ?_
        rotate_left
        · (intro w hSw; (try dsimp only at hSw); go_simp; (try with_reducible rfl))
        refine wpAnyL_take (i := 2) (v := ?_) rfl (by kernel_rfl) (by kernel_rfl) (by kernel_rfl) (by kernel_rfl) (fun _ _ _ h => h) (Or.inl ⟨by rfl, ?_⟩) (by assumption) ?_
        rotate_left
        · (intro w hSw; (try dsimp only at hSw); go_simp; (try with_reducible rfl))
        refine wpAnyL_take (i := 3) (v := ?_) rfl (by kernel_rfl) (by kernel_rfl) (by kernel_rfl) (by kernel_rfl) (fun _ _ _ h => h) (Or.inl ⟨by rfl, ?_⟩) (by assumption) ?_
        rotate_left
        · (intro w hSw; (try dsimp only at hSw); go_simp; (try with_reducible rfl))
        refine wpAnyL_take (i := 4) (v := ?_) rfl (by kernel_rfl) (by kernel_rfl) (by kernel_rfl) (by kernel_rfl) (fun _ _ _ h => h) (Or.inl ⟨by rfl, ?_⟩) (by assumption) ?_
        rotate_left
        · (intro w hSw; (try dsimp only at hSw); go_simp; (try with_reducible rfl))
        refine wpAnyL_take (i := 5) (v := ?_) rfl (by kernel_rfl) (by kernel_rfl) (by kernel_rfl) (by kernel_rfl) (fun _ _ _ h => h) (Or.inl ⟨by rfl, ?_⟩) (by assumption) ?_
        rotate_left
        · (intro w hSw; (try dsimp only at hSw); go_simp; (try with_reducible rfl))
        refine wpAnyL_take (i := 6) (v := ?_) rfl (by kernel_rfl) (by kernel_rfl) (by kernel_rfl) (by kernel_rfl) (fun _ _ _ h => h) (Or.inl ⟨by rfl, ?_⟩) (by assumption) ?_
        rotate_left
        · (intro w hSw; (try dsimp only at hSw); go_simp; (try with_reducible rfl))
        refine wpAnyL_take (i := 7) (v := ?_) rfl (by kernel_rfl) (by kernel_rfl) (by kernel_rfl) (by kernel_rfl) (fun _ _ _ h => h) (Or.inl ⟨by rfl, ?_⟩) (by assumption) ?_
        rotate_left
        · (intro w hSw; (try dsimp only at hSw); go_simp; (try with_reducible rfl))
        refine wpAnyL_take (i := 8) (v := ?_) rfl (by kernel_rfl) (by kernel_rfl) (by kernel_rfl) (by kernel_rfl) (fun _ _ _ h => h) (Or.inl ⟨by rfl, ?_⟩) (by assumption) ?_
        rotate_left
        · (intro w hSw; (try dsimp only at hSw); go_simp; (try with_reducible rfl))
        refine wpAnyL_take (i := 9) (v := ?_) rfl (by kernel_rfl) (by kernel_rfl) (by kernel_rfl) (by kernel_rfl) (fun _ _ _ h => h) (Or.inl ⟨by rfl, ?_⟩) (by assumption) ?_
        rotate_left
        · (intro w hSw; (try dsimp only at hSw); go_simp; (try with_reducible rfl))
        refine wpAnyL_take (i := 10) (v := ?_) rfl (by kernel_rfl) (by kernel_rfl) (by kernel_rfl) (by kernel_rfl) (fun _ _ _ h => h) (Or.inl ⟨by rfl, ?_⟩) (by assumption) ?_
        rotate_left
        · (intro w hSw; (try dsimp only at hSw); go_simp; (try with_reducible rfl))
        refine wpAnyL_take (i := 11) (v := ?_) rfl (by kernel_rfl) (by kernel_rfl) (by kernel_rfl) (by kernel_rfl) (fun _ _ _ h => h) (Or.inl ⟨by rfl, ?_⟩) (by assumption) ?_
        rotate_left
        · (intro w hSw; (try dsimp only at hSw); go_simp; (try with_reducible rfl))
        refine wpAnyL_take (i := 12) (v := ?_) rfl (by kernel_rfl) (by kernel_rfl) (by kernel_rfl) (by kernel_rfl) (fun _ _ _ h => h) (Or.inl ⟨by rfl, ?_⟩) (by assumption) ?_
        rotate_left
        · (intro w hSw; (try dsimp only at hSw); go_simp; (try with_reducible rfl))
        refine wpAnyL_take (i := 13) (v := ?_) rfl (by kernel_rfl) (by kernel_rfl) (by kernel_rfl) (by kernel_rfl) (fun _ _ _ h => h) (Or.inl ⟨by rfl, ?_⟩) (by assumption) ?_
        rotate_left
        · (intro w hSw; (try dsimp only at hSw); go_simp; (try with_reducible rfl))
        refine wpAnyL_one (i := 14) (by kernel_rfl) rfl (fun K hK => ?_)
        go_simp
        go_at_call 40
        refine HC5.mono ?_
        rintro e w5 ⟨v', rfl, ⟨y0, y1, y2, y3, y4, y5, y6, y7, y8, y9, rfl⟩, htf5, hb5⟩
        have HB5 : Hid (RowKit.Below wr.heap.size wr w5) := (Below.refl _ _).drew.trans hb5
        have hsz5 := HB5.out.size
        obtain ⟨us, hus⟩ : ∃ us : List Value, us = [.string cn, .int .i64 y0, .int .i64 y1, .bool y2, .string y3, .slice y4 y5 y6, .slice y7 y8 y9] := ⟨_, rfl⟩
        have hul : us.length = 7 := by rw [hus]; rfl
        have HONU : Hid (∀ v ∈ us, v.oneCell' = true) := by unfold Hid; rw [hus]; simp [Value.oneCell']
        have hEC : EC w5 (fun k => decide (k < wr.heap.size)) us (cleanC (cn, cty)) := ⟨y0, y1, y2, y3, y4, y5, y6, y7, y8, y9, hus, htf5, smT_clean _ _ HOKC.out.2.2.1, by have := HOKC.out.2.1; simp only [cleanC]; omega⟩
        have hrw5 : RowX 57 7 EC w5 W3.heap.size (oldB W3) da dc ((cs.take j).map cleanC) := HROWI.out.move EC.moves (fun k hk => oldB_new hk) hsz5 fun k h1 _ => HB5.out.block k h1
        obtain ⟨xs8, hown8, hpush8⟩ := hrw5.add EC.moves (fun k hk => oldB_new hk) hul hEC (fun k h1 h2 => by
          have h3 : wr.heap.size ≤ k := by simpa using h2
          refine ⟨oldB_new (by omega), ?_⟩
          cases ho : ownB da k
          · rfl
          · have := (HRBI.out k ho).2; omega)
        rw [HLJ.out] at hown8 hpush8
        have HOWN8 := Hid.mk hown8
        have HPUSH := Hid.mk hpush8
        have HNEWS : Hid (∀ (j : Nat) (u : Value), us[j]? = some u → (w5.alloc (.cells us.toArray 57)).cell? ((⟨w5.heap.size, 0, none⟩ : Addr).add j) = some u) := World.news_of_block (cs := us.toArray) (t := 57) (fr := (0, 0)) (alloc_new w5 (.cells us.toArray 57))
        subst hus
        clear htf5 hb5 hEC hrw5 hown8 hpush8 HC5
        dsimp only
        refine hK.out _ _ ?_ (fun hHeld => ?_)
        · (try dsimp only)
          exact HCEL.out _ (fun k hk => HB5.out.block k (by omega))
        clear hK K
        refine wpAnyL_take (i := 15) (v := ?_) rfl (by kernel_rfl) (by kernel_rfl) (by kernel_rfl) (by kernel_rfl) (fun _ _ _ h => h) (Or.inl ⟨by rfl, ?_⟩) (by assumption) ?_
        rotate_left
        · (intro w hSw; (try dsimp only at hSw); go_simp; (try with_reducible rfl))
        refine wpAnyL_one (i := 16) (by kernel_rfl) rfl (fun K hK => ?_)
        go_simp
        refine hK.out _ _ ?_ (fun hHeld => ?_)
        · (try dsimp only)
          exact HCEL.out _ (fun k hk => (Below.heap_alloc _ _ k (by omega)).trans (HB5.out.block k (by omega)))
        clear hK K
        refine wpAnyL_one (i := 17) (by kernel_rfl) rfl (fun K hK => ?_)
        refine step_append_lies _ (by rfl) _ _ _ (by rfl) W3.heap.size 57 i0 _ 7 104 Tryz.underlying39 hi iz0 iz1 iz2 rfl (by decide) (.slice da j dc) j xs8 (by rfl) HOWN8.out ⟨w5.heap.size, 0, none⟩ 1 1 [.string cn, .int .i64 y0, .int .i64 y1, .bool y2, .string y3, .slice y4 y5 y6, .slice y7 y8 y9] (by rfl) (by rfl) HNEWS.out (by simp [Value.oneCell']) (by omega) (by simp [maxLen]; omega) (by omega) (by simp; omega) (w5.heap.size + 1) (by simp) ?_
        intro g7 c7 W7 hown7 hgr7 hat7 hlt7
        obtain ⟨hrow7, hk7⟩ := HPUSH.out g7 c7 W7 hown7 hgr7 (by simpa using hat7)
        have HROW7 := Hid.mk hrow7
        have HK7 := Hid.mk hk7
        have hs7 := hk7.size
        have hE7 : ∀ k, k < W3.heap.size → W7.heap[k]? = wr.heap[k]? := fun k hk => (hk7.block k (by omega) (fun ho => by have := (HRBI.out k ho).1; omega)).trans (HB5.out.block k (by omega))
        have hX7 := (hE7 X (by omega)).trans HXI.out
        have HX7 := Hid.mk hX7
        have HCE7 := Hid.mk (HCEL.out W7 hE7)
        obtain ⟨-, -, -, -, -, -, -, -, -, -, -, -, -, -, -, -, x16, -⟩ := cells17 hX7
        have xz : ∀ o, W7.frozen? ⟨X, o, none⟩ = false := fun o => by simp [World.frozen?, hX7]
        clear hown7 hgr7 hat7 hrow7 hk7 hX7 hE7 hlt7
        refine hK.out _ _ ?_ (fun hHeld => ?_)
        · (try dsimp only)
          exact HCE7.out
        clear hK K
        refine wpAnyL_take (i := 18) (v := ?_) rfl (by kernel_rfl) (by kernel_rfl) (by kernel_rfl) (by kernel_rfl) (fun _ _ _ h => h) (Or.inl ⟨by rfl, ?_⟩) (by assumption) ?_
        rotate_left
        · (intro w hSw; (try dsimp only at hSw); go_simp; (try with_reducible rfl))
        refine wpAnyL_last (by kernel_rfl) rfl (by kernel_rfl) (fun K hK => ?_)
        go_simp
        refine hK.out _ _ ?_
        clear hK K
        go_wp2
        have KZ : Kept (fun k => k = X) W7 (W7.setCell ⟨X, 16, none⟩ (.slice (some ⟨g7, 0, none⟩) (j + 1) c7)) := (Kept.refl (fun k => k = X) W7).setCell (p := ⟨X, 16, none⟩) rfl _
        refine ⟨⟨j + 1, some ⟨g7, 0, none⟩, c7, hjl, by go_num, sets_blk [.slice (some ⟨g7, 0, none⟩) (j + 1) c7] 16 _ _ HX7.out, ?_, ?_⟩, by simp [intOf]; omega⟩
        · rw [HTKC.out]
          exact HROW7.out.move EC.moves (fun k hk => oldB_new hk) KZ.size (fun k h1 h2 => KZ.block k h1 (by have := oldB_no h2; omega))
        · have h9 : Kept (fun k => k = X) W3 W7 := ⟨HK7.out.os.trans (HB5.out.os.trans HKI.out.os), HK7.out.tape.trans (HB5.out.tape.trans HKI.out.tape), HK7.out.output.trans (HB5.out.output.trans HKI.out.output), by omega, fun k hk hn => (HK7.out.block k (by omega) (fun ho => by have := (HRBI.out k ho).1; omega)).trans ((HB5.out.block k (by omega)).trans (HKI.out.block k hk hn))⟩
          exact h9.trans KZ
      · obtain rfl : j = cs.length := by omega
        have HXF := HXI
        have HRF : Hid (wr.heap[(w.heap.size + 1)]? = some (.cells #[.int .i64 0, .string { data := #[] }, .int .i64 0, .int .i64 0, .int .i64 0, .bool false, .string { data := #[] }, .slice none 0 0, .slice none 0 0, .int .i64 0, .int .i64 0, .bool false, .string { data := #[] }, .slice none 0 0, .slice none 0 0, .int .i64 0, .slice none 0 0] 41 (0, 0))) := (HKI.out.block _ (heap_lt HR3.out) (by omega)).trans HR3.out
        have HBF := HBI
        rw [List.take_length] at HROWI HLJ
        have HCKF : Hid (∀ W : World, wr.heap.size ≤ W.heap.size → (∀ k, W3.heap.size ≤ k → W.heap[k]? = wr.heap[k]?) → CK W da (cs.map cleanC)) := fun W h1 h2 => ((HROWI.out.ck (fun k hk => oldB_new hk)).subF (by rw [maskB_size]; exact h1) (fun p v hp => by
          obtain ⟨q1, q2⟩ := maskB_cell hp
          rw [World.cell?_of_block (a := p) (h2 p.block (by have := oldB_no q1; omega))]
          exact q2))
        obtain ⟨zs, hzs⟩ : ∃ zs : List Value, zs = [.int .i64 3, .string nm, .int .i64 lv, .int .i64 x0, .int .i64 x1, .bool x2, .string x3, .slice x4 x5 x6, .slice x7 x8 x9, .int .i64 0, .int .i64 0, .bool false, .string { data := #[] }, .slice none 0 0, .slice none 0 0, .int .i64 pr, .slice da cs.length dc] := ⟨_, rfl⟩
        have hzl : zs.length = 17 := by rw [hzs]; rfl
        have hzt : zs.toArray.size = 17 := by rw [List.size_toArray]; exact hzl
        have HONZ : Hid (∀ v ∈ zs, v.oneCell' = true) := by unfold Hid; rw [hzs]; simp [Value.oneCell']
        have HON2 : Hid (zs.toArray.all (·.oneCell') = true) := all_oneCell_toArray HONZ.out
        have HRG : Hid (wr.rangeAt X 0 zs) := by unfold Hid; rw [hzs]; exact range_of (pre := []) (post := []) HXF.out (List.append_nil _).symm rfl
        have HSZ : Hid ((Tryz.prog.info? 41).map (·.size) = some zs.length) := by unfold Hid; rw [hzl]; kernel_rfl
        have HSB : Hid ((Tryz.prog.info? 41).map (·.size) = some zs.toArray.size) := by unfold Hid; rw [hzt]; kernel_rfl
        have HTH : Hid (wr.there (w.heap.size + 1) 0 zs.toArray.size) := by unfold Hid; rw [hzt]; exact there_of HRF.out rfl 0 17 (Nat.le_refl 17)
        have HRS : Hid ((wr.setCells (w.heap.size + 1) 0 zs).rangeAt (w.heap.size + 1) 0 zs) := World.rangeAt_setCells_same _ _ _ _ (by rw [hzl]; exact there_of HRF.out rfl 0 17 (Nat.le_refl 17))
        have hsf := HBF.out.size
        have hcl : cleanD ⟨3, nm, lv, ty, val, pr, cs⟩ = ⟨3, nm, lv, cleanT ty, .mk 0 0 false { data := #[] } [] [], pr, cs.map cleanC⟩ := by unfold cleanD; simp
        have HCL := Hid.mk hcl
        have HZS := Hid.mk hzs
        clear hzs hcl
        go_wp2_with (first | (refine wpList_load_mid rfl 41 _ rfl X 0 rfl zs _ HRG.out Tryz.underlying41 rfl HSZ.out ?_) | (refine wpList_store_mid rfl 41 _ _ rfl (w.heap.size + 1) 0 zs.toArray rfl rfl HTH.out HSB.out HON2.out ?_))
        have hres := run_loadVar_mid (P := Tryz.prog) _ (w.heap.size + 1) 0 41 zs _ HRS.out Tryz.underlying41 rfl HSZ.out
        have hsF := (sets_heap (w.heap.size + 1) zs 0 wr).1
        have hbF := (sets_heap (w.heap.size + 1) zs 0 wr).2
        refine bodyPost_ret (v := .agg zs.toArray) (results_cell (s := 2) (t := 41) Tryz.results13 rfl hres) rfl ⟨zs, rfl, ?_, below_sets HBF.out (by omega) _⟩
        rw [HCL.out]
        exact ⟨⟨x0, x1, x2, x3, x4, x5, x6, x7, x8, x9, 0, 0, false, { data := #[] }, none, 0, 0, none, 0, 0, da, dc, by rw [HZS.out, ← HLJ.out], (HTF.out.move (Q := fun _ => false) (by omega) fun k h1 h2 => ⟨rfl, (hbF k (by simp at h2; omega)).trans ((HKI.out.block k (by omega) (by simp at h2; omega)).trans (HW3s.out k (by simp at h2; omega)))⟩).tv, (TF.leaf 0 0 false { data := #[] } : TF _ (fun _ => false) _ _).tv, by have := HCKF.out _ (Nat.le_of_eq hsF.symm) (fun k hk => hbF k (by omega)); exact this⟩⟩
  have g2 : (kd == 2) = false := by simpa using hk2
  have g3 : (kd == 3) = false := by simpa using hk3
  have HXF := HX2
  have HRF := HR2
  have HBF := HB2
  obtain ⟨zs, hzs⟩ : ∃ zs : List Value, zs = [.int .i64 kd, .string nm, .int .i64 lv, .int .i64 x0, .int .i64 x1, .bool x2, .string x3, .slice x4 x5 x6, .slice x7 x8 x9, .int .i64 0, .int .i64 0, .bool false, .string { data := #[] }, .slice none 0 0, .slice none 0 0, .int .i64 0, .slice none 0 0] := ⟨_, rfl⟩
  have hzl : zs.length = 17 := by rw [hzs]; rfl
  have hzt : zs.toArray.size = 17 := by rw [List.size_toArray]; exact hzl
  have HONZ : Hid (∀ v ∈ zs, v.oneCell' = true) := by unfold Hid; rw [hzs]; simp [Value.oneCell']
  have HON2 : Hid (zs.toArray.all (·.oneCell') = true) := all_oneCell_toArray HONZ.out
  have HRG : Hid (W2.rangeAt X 0 zs) := by unfold Hid; rw [hzs]; exact range_of (pre := []) (post := []) HXF.out (List.append_nil _).symm rfl
  have HSZ : Hid ((Tryz.prog.info? 41).map (·.size) = some zs.length) := by unfold Hid; rw [hzl]; kernel_rfl
  have HSB : Hid ((Tryz.prog.info? 41).map (·.size) = some zs.toArray.size) := by unfold Hid; rw [hzt]; kernel_rfl
  have HTH : Hid (W2.there (w.heap.size + 1) 0 zs.toArray.size) := by unfold Hid; rw [hzt]; exact there_of HRF.out rfl 0 17 (Nat.le_refl 17)
  have HRS : Hid ((W2.setCells (w.heap.size + 1) 0 zs).rangeAt (w.heap.size + 1) 0 zs) := World.rangeAt_setCells_same _ _ _ _ (by rw [hzl]; exact there_of HRF.out rfl 0 17 (Nat.le_refl 17))
  have hsf := HBF.out.size
  have hcl : cleanD ⟨kd, nm, lv, ty, val, pr, cs⟩ = ⟨kd, nm, lv, cleanT ty, .mk 0 0 false { data := #[] } [] [], 0, []⟩ := by unfold cleanD; rw [if_neg hk2, if_neg hk3, if_neg hk3]
  have HCL := Hid.mk hcl
  have HZS := Hid.mk hzs
  clear hzs hcl
  go_wp2_with (first | (refine wpList_load_mid rfl 41 _ rfl X 0 rfl zs _ HRG.out Tryz.underlying41 rfl HSZ.out ?_) | (refine wpList_store_mid rfl 41 _ _ rfl (w.heap.size + 1) 0 zs.toArray rfl rfl HTH.out HSB.out HON2.out ?_))
  have hres := run_loadVar_mid (P := Tryz.prog) _ (w.heap.size + 1) 0 41 zs _ HRS.out Tryz.underlying41 rfl HSZ.out
  have hsF := (sets_heap (w.heap.size + 1) zs 0 W2).1
  have hbF := (sets_heap (w.heap.size + 1) zs 0 W2).2
  refine bodyPost_ret (v := .agg zs.toArray) (results_cell (s := 2) (t := 41) Tryz.results13 rfl hres) rfl ⟨zs, rfl, ?_, below_sets HBF.out (by omega) _⟩
  rw [HCL.out]
  exact ⟨⟨x0, x1, x2, x3, x4, x5, x6, x7, x8, x9, 0, 0, false, { data := #[] }, none, 0, 0, none, 0, 0, none, 0, by rw [HZS.out]; rfl, (HTF.out.move (Q := fun _ => false) (by omega) fun k h1 h2 => ⟨rfl, (hbF k (by simp at h2; omega)).trans (rfl)⟩).tv, (TF.leaf 0 0 false { data := #[] } : TF _ (fun _ => false) _ _).tv, Or.inl rfl⟩⟩
end Go.Proofs.YtndjdeiccmhelaaGreat
