/- The contract of telamonref1.same at right terms. -/
import Derived.Test.YtbgkeomlfdmkeaaSB
import Derived.Test.YtbgkeomlfdmkeaaSC
import Derived.Test.YtbgkeomlfdmkeaaOH
namespace Go.Proofs.Ytbgkeomlfdmkeaa
open Go.RowKit Go.Sort

/-- levels that a right term has are canonical -/
theorem formed_canon {f n : Int} {hd : Bool} {nm : ByteArray} {ls : List LvT} {ks : List Tm} (h : formedB (.mk f n hd nm ls ks) = true) (hf : f = 2 ∨ f = 10) : ∀ l ∈ ls, canonB l = true := by
  rw [formedB_mk, Bool.and_eq_true] at h
  have h1 := h.1
  unfold judB at h1
  rw [Bool.and_eq_true] at h1
  have h2 := h1.2
  intro l hl
  rcases hf with rfl | rfl
  · simp [fieldsB] at h2
    cases ls with
    | nil => simp at hl
    | cons a r =>
      cases r with
      | nil => simp at hl; subst hl; simpa using h2
      | cons b r => simp at h2
  · simp [fieldsB] at h2
    exact h2.2 _ _ hl

theorem formed_len {f n : Int} {hd : Bool} {nm : ByteArray} {ls : List LvT} {ks : List Tm} (h : formedB (.mk f n hd nm ls ks) = true) : (ks.length : Int) = kidsR f ∧ ∀ k ∈ ks, formedB k = true := by
  rw [formedB_mk, Bool.and_eq_true, List.all_eq_true] at h
  have h1 := h.1
  unfold judB at h1
  rw [Bool.and_eq_true, decide_eq_true_eq] at h1
  exact ⟨h1.1, h.2⟩

set_option maxRecDepth 100000 in
set_option maxHeartbeats 16000000 in
theorem rsame_any (a : Tm) : ∀ (b : Tm) (va vb : Value) (w : World), smT 1000000 a → smT 1000000 b → formedB a = true → formedB b = true → TV w va a → TV w vb b → Calls Try.prog 58 #[va, vb, .bool true] w fun e w' => e = .returned (.bool (sameT a b)) ∧ RowKit.Below w.heap.size w w' := by
  refine Tm.ind (P := fun a => ∀ (b : Tm) (va vb : Value) (w : World), smT 1000000 a → smT 1000000 b → formedB a = true → formedB b = true → TV w va a → TV w vb b → Calls Try.prog 58 #[va, vb, .bool true] w fun e w' => e = .returned (.bool (sameT a b)) ∧ RowKit.Below w.heap.size w w') ?_ a
  intro f n hd nm ls ks ih b va vb w hsa hsb hfa hfb hva hvb
  have mx := mixed
  have hS : sameT (.mk f n hd nm ls ks) b = (fsameB (.mk f n hd nm ls ks) b && sameTs ks b.kids) := by rw [sameT]
  have HJ := Hid.mk hS
  generalize sameT (.mk f n hd nm ls ks) b = R at HJ ⊢
  clear hS
  cases hva with
  | @mk _ _ _ _ _ _ la lc ka kc kb ko hl hln hlc hlm hkn hkc hkm hk kids =>
  cases hvb with
  | @mk f' n' hd' nm' ls' ks' la' lc' ka' kc' kb' ko' hl' hln' hlc' hlm' hkn' hkc' hkm' hk' kids' =>
  have HJ : Hid (R = (fsameB (.mk f n hd nm ls ks) (.mk f' n' hd' nm' ls' ks') && sameTs ks ks')) := HJ.out
  obtain ⟨-, s1, s2, s3, s4⟩ := (smT_mk _ _ _ _ _ _ _).1 hsa
  obtain ⟨-, s1', s2', s3', s4'⟩ := (smT_mk _ _ _ _ _ _ _).1 hsb
  have HL := Hid.mk hl
  have HL' := Hid.mk hl'
  have HK := Hid.mk hk
  have HK' := Hid.mk hk'
  have HKIDS := Hid.mk kids
  have HKIDS' := Hid.mk kids'
  have HIH := Hid.mk ih
  have HS2 := Hid.mk s2
  have HS2' := Hid.mk s2'
  have HS4 := Hid.mk s4
  have HS4' := Hid.mk s4'
  have HFK := Hid.mk (formed_len hfa).2
  have HFK' := Hid.mk (formed_len hfb).2
  have HN1 := Hid.mk (formed_len hfa).1
  have HN2 := Hid.mk (formed_len hfb).1
  clear hl hl' hk hk' kids kids' ih s2 s2' s4 s4' hsa hsb hkn hkc hkm hkn' hkc' hkm' hln hlc hlm hln' hlc' hlm'
  by_cases hff : f = f'
  rotate_left
  · have HR : Hid (R = false) := by unfold Hid; rw [HJ.out]; simp [fsameB, Tm.form, hff]
    have hcb : (f == f') = false := by simpa using hff
    have hcn : (f != f') = true := by simpa using hff
    clear hff
    go_enter Try.func58, Try.ntmps58
    go_wp2
    go_ret
    exact ⟨by rw [HR.out]; rfl, ((Below.refl w.heap.size w).alloc (Nat.le_refl _) _).alloc (by simp) _⟩
  subst hff
  have hff : (f != f) = false := by simp
  have HLN : Hid (ks.length = ks'.length) := by have h1 := HN1.out; have h2 := HN2.out; unfold Hid; omega
  have hkk : ((ks.length : Int) != (ks'.length : Int)) = false := by simp [HLN.out]
  have HCN : Hid (f = 2 ∨ f = 10 → ∀ l ∈ ls, canonB l = true) := formed_canon hfa
  have HCN' : Hid (f = 2 ∨ f = 10 → ∀ l ∈ ls', canonB l = true) := formed_canon hfb
  clear hfa hfb
  obtain ⟨W0, hW0⟩ : ∃ W0, (w.alloc (.cells #[.int .i64 f, .int .i64 n, .bool hd, .string nm, .slice la ls.length lc, .slice ka ks.length kc] 25)).alloc (.cells #[.int .i64 f, .int .i64 n', .bool hd', .string nm', .slice la' ls'.length lc', .slice ka' ks'.length kc'] 25) = W0 := ⟨_, rfl⟩
  have HG0 : Hid (RowKit.Below w.heap.size w W0) := by unfold Hid; rw [← hW0]; exact ((Below.refl w.heap.size w).alloc (Nat.le_refl _) _).alloc (by simp) _
  have HX0 : Hid (W0.heap[w.heap.size]? = some (.cells #[.int .i64 f, .int .i64 n, .bool hd, .string nm, .slice la ls.length lc, .slice ka ks.length kc] 25 (0, 0))) := by unfold Hid; rw [← hW0]; exact box_at
  have HY0 : Hid (W0.heap[w.heap.size + 1]? = some (.cells #[.int .i64 f, .int .i64 n', .bool hd', .string nm', .slice la' ls'.length lc', .slice ka' ks'.length kc'] 25 (0, 0))) := by unfold Hid; rw [← hW0]; exact box_at1
  have HW0 := Hid.mk hW0
  clear hW0
  obtain ⟨x0, x1, x2, x3, x4, x5, x6⟩ := cells6 HX0.out
  obtain ⟨y0, y1, y2, y3, y4, y5, y6⟩ := cells6 HY0.out
  rcases form_cases f with rfl | rfl | rfl | rfl | rfl | rfl | rfl | rfl | rfl | rfl | rfl | hin
  · by_cases hc : n = n'
    · have HJ2 : Hid (R = sameTs ks ks') := by unfold Hid; rw [HJ.out]; simp [fsameB, Tm.form, Tm.n, hc]
      have hcb : (n == n') = true := by simpa using hc
      have hcn : (n != n') = false := by simp [hc]
      clear hc
      go_enter Try.func58, Try.ntmps58
      go_wp2
      rw [HW0.out]
      obtain ⟨W1, hW1⟩ : ∃ W1, W0 = W1 := ⟨_, rfl⟩
      have HXW := HX0
      have HYW := HY0
      have HGW := HG0
      rw [hW1] at HXW HYW HGW ⊢
      clear x0 x1 x2 x3 x4 x5 x6 y0 y1 y2 y3 y4 y5 y6
      go_loopw [9] (fun i wr => ∃ j : Nat, j ≤ ks.length ∧ i = .int .i64 j ∧ RowKit.Below W1.heap.size W1 wr ∧ (∀ (i : Nat) (k k' : Tm), i < j → ks[i]? = some k → ks'[i]? = some k' → sameT k k' = true)) (fun i _ => ks.length - (intOf i).toNat)
      case atStart => exact ⟨0, Nat.zero_le _, rfl, Below.refl _ _, fun i k k' h => absurd h (by omega)⟩
      case round =>
        obtain ⟨j, hj, rfl, hg, hall⟩ := hrel
        have HG := Hid.mk hg
        have HALL := Hid.mk hall
        clear hg hall
        obtain ⟨x0, x1, x2, x3, x4, x5, x6⟩ := cells6 ((HG.out.block w.heap.size (heap_lt HXW.out)).trans HXW.out)
        obtain ⟨y0, y1, y2, y3, y4, y5, y6⟩ := cells6 ((HG.out.block (w.heap.size + 1) (heap_lt HYW.out)).trans HYW.out)
        have HBR : Hid (RowKit.Below w.heap.size w wr) := HGW.out.trans (HG.out.mono HGW.out.size)
        by_cases hlt : j < ks.length
        · have hlt' : j < ks'.length := by rw [← HLN.out]; exact hlt
          obtain ⟨hka, hkb⟩ := HK.out (by intro e; rw [e] at hlt; simp at hlt)
          obtain ⟨hka', hkb'⟩ := HK'.out (by intro e; rw [e] at hlt'; simp at hlt')
          rw [hka] at x5
          rw [hka'] at y5
          have hkt : ks[j]? = some ks[j] := List.getElem?_eq_getElem hlt
          have hkt' : ks'[j]? = some ks'[j] := List.getElem?_eq_getElem hlt'
          have htc := (HKIDS.out j _ hkt).on HBR.out
          have htc' := (HKIDS'.out j _ hkt').on HBR.out
          obtain ⟨v0, v1, v2, v3, v4, v5, c0, c1, c2, c3, c4, c5, hv⟩ := htc.val
          obtain ⟨u0, u1, u2, u3, u4, u5, d0, d1, d2, d3, d4, d5, hu⟩ := htc'.val
          have HC := HIH.out ks[j] (List.getElem_mem hlt) ks'[j] _ _ wr.drew (HS4.out _ (List.getElem_mem hlt)) (HS4'.out _ (List.getElem_mem hlt')) (HFK.out _ (List.getElem_mem hlt)) (HFK'.out _ (List.getElem_mem hlt')) (hv.on (Below.refl _ _).drew) (hu.on (Below.refl _ _).drew)
          have HQ1 := Hid.mk hkt
          have HQ2 := Hid.mk hkt'
          have z1 : (j : Int) < (ks.length : Int) := by omega
          have z2 : (j : Int) < (ks'.length : Int) := by omega
          have hkr := htc.lt
          have hkr' := htc'.lt
          clear hkt hkt' htc htc' hv hu hka hka'
          generalize ks[j] = k at *
          generalize ks'[j] = k' at *
          obtain ⟨D, hD⟩ : ∃ D, sameT k k' = D := ⟨_, rfl⟩
          rw [hD] at HC
          have HD := Hid.mk hD
          clear hD
          have HCEL : Hid (∀ W : World, RowKit.Below wr.heap.size wr W → W.cell? ⟨w.heap.size, 5, none⟩ = some (.slice (some ⟨kb, ko, none⟩) ks.length kc) ∧ W.cell? ⟨w.heap.size + 1, 5, none⟩ = some (.slice (some ⟨kb', ko', none⟩) ks'.length kc') ∧ W.cell? ⟨kb, ko + j * 6, none⟩ = some (v0) ∧ W.cell? ⟨kb, ko + j * 6 + 1, none⟩ = some (v1) ∧ W.cell? ⟨kb, ko + j * 6 + 2, none⟩ = some (v2) ∧ W.cell? ⟨kb, ko + j * 6 + 3, none⟩ = some (v3) ∧ W.cell? ⟨kb, ko + j * 6 + 4, none⟩ = some (v4) ∧ W.cell? ⟨kb, ko + j * 6 + 5, none⟩ = some (v5) ∧ W.cell? ⟨kb', ko' + j * 6, none⟩ = some (u0) ∧ W.cell? ⟨kb', ko' + j * 6 + 1, none⟩ = some (u1) ∧ W.cell? ⟨kb', ko' + j * 6 + 2, none⟩ = some (u2) ∧ W.cell? ⟨kb', ko' + j * 6 + 3, none⟩ = some (u3) ∧ W.cell? ⟨kb', ko' + j * 6 + 4, none⟩ = some (u4) ∧ W.cell? ⟨kb', ko' + j * 6 + 5, none⟩ = some (u5)) := fun W h => ⟨(h.cell (p := ⟨w.heap.size, 5, none⟩) x6).trans x5, (h.cell (p := ⟨w.heap.size + 1, 5, none⟩) y6).trans y5, (h.cell (p := ⟨kb, ko + j * 6, none⟩) hkr).trans c0, (h.cell (p := ⟨kb, ko + j * 6 + 1, none⟩) hkr).trans c1, (h.cell (p := ⟨kb, ko + j * 6 + 2, none⟩) hkr).trans c2, (h.cell (p := ⟨kb, ko + j * 6 + 3, none⟩) hkr).trans c3, (h.cell (p := ⟨kb, ko + j * 6 + 4, none⟩) hkr).trans c4, (h.cell (p := ⟨kb, ko + j * 6 + 5, none⟩) hkr).trans c5, (h.cell (p := ⟨kb', ko' + j * 6, none⟩) hkr').trans d0, (h.cell (p := ⟨kb', ko' + j * 6 + 1, none⟩) hkr').trans d1, (h.cell (p := ⟨kb', ko' + j * 6 + 2, none⟩) hkr').trans d2, (h.cell (p := ⟨kb', ko' + j * 6 + 3, none⟩) hkr').trans d3, (h.cell (p := ⟨kb', ko' + j * 6 + 4, none⟩) hkr').trans d4, (h.cell (p := ⟨kb', ko' + j * 6 + 5, none⟩) hkr').trans d5⟩
          cases D
          · have HE : Hid (R = false) := by unfold Hid; rw [HJ2.out]; exact sameTs_at HQ1.out HQ2.out HD.out
            go_wp2_with fail
            go_region_held3 (fun w' => w'.cell? ⟨w.heap.size, 5, none⟩ = some (.slice (some ⟨kb, ko, none⟩) ks.length kc) ∧ w'.cell? ⟨w.heap.size + 1, 5, none⟩ = some (.slice (some ⟨kb', ko', none⟩) ks'.length kc') ∧ w'.cell? ⟨kb, ko + j * 6, none⟩ = some (v0) ∧ w'.cell? ⟨kb, ko + j * 6 + 1, none⟩ = some (v1) ∧ w'.cell? ⟨kb, ko + j * 6 + 2, none⟩ = some (v2) ∧ w'.cell? ⟨kb, ko + j * 6 + 3, none⟩ = some (v3) ∧ w'.cell? ⟨kb, ko + j * 6 + 4, none⟩ = some (v4) ∧ w'.cell? ⟨kb, ko + j * 6 + 5, none⟩ = some (v5) ∧ w'.cell? ⟨kb', ko' + j * 6, none⟩ = some (u0) ∧ w'.cell? ⟨kb', ko' + j * 6 + 1, none⟩ = some (u1) ∧ w'.cell? ⟨kb', ko' + j * 6 + 2, none⟩ = some (u2) ∧ w'.cell? ⟨kb', ko' + j * 6 + 3, none⟩ = some (u3) ∧ w'.cell? ⟨kb', ko' + j * 6 + 4, none⟩ = some (u4) ∧ w'.cell? ⟨kb', ko' + j * 6 + 5, none⟩ = some (u5)) (first | exact HCEL.out _ (Below.refl _ _).drew | exact HCEL.out _ hb5)
              (first | (go_at_call 58; refine HC.mono ?_; rintro e w5 ⟨rfl, hg5⟩; have hb5 : RowKit.Below wr.heap.size wr w5 := (Below.refl _ _).drew.trans (hg5.mono (Nat.le_refl _)); have HG5 : Hid (RowKit.Below wr.heap.size wr w5) := hb5; clear hg5))
            go_wp2
            go_ret
            exact ⟨by rw [HE.out]; rfl, HBR.out.trans (HG5.out.mono HBR.out.size)⟩
          · go_wp2_with fail
            go_region_held3 (fun w' => w'.cell? ⟨w.heap.size, 5, none⟩ = some (.slice (some ⟨kb, ko, none⟩) ks.length kc) ∧ w'.cell? ⟨w.heap.size + 1, 5, none⟩ = some (.slice (some ⟨kb', ko', none⟩) ks'.length kc') ∧ w'.cell? ⟨kb, ko + j * 6, none⟩ = some (v0) ∧ w'.cell? ⟨kb, ko + j * 6 + 1, none⟩ = some (v1) ∧ w'.cell? ⟨kb, ko + j * 6 + 2, none⟩ = some (v2) ∧ w'.cell? ⟨kb, ko + j * 6 + 3, none⟩ = some (v3) ∧ w'.cell? ⟨kb, ko + j * 6 + 4, none⟩ = some (v4) ∧ w'.cell? ⟨kb, ko + j * 6 + 5, none⟩ = some (v5) ∧ w'.cell? ⟨kb', ko' + j * 6, none⟩ = some (u0) ∧ w'.cell? ⟨kb', ko' + j * 6 + 1, none⟩ = some (u1) ∧ w'.cell? ⟨kb', ko' + j * 6 + 2, none⟩ = some (u2) ∧ w'.cell? ⟨kb', ko' + j * 6 + 3, none⟩ = some (u3) ∧ w'.cell? ⟨kb', ko' + j * 6 + 4, none⟩ = some (u4) ∧ w'.cell? ⟨kb', ko' + j * 6 + 5, none⟩ = some (u5)) (first | exact HCEL.out _ (Below.refl _ _).drew | exact HCEL.out _ hb5)
              (first | (go_at_call 58; refine HC.mono ?_; rintro e w5 ⟨rfl, hg5⟩; have hb5 : RowKit.Below wr.heap.size wr w5 := (Below.refl _ _).drew.trans (hg5.mono (Nat.le_refl _)); have HG5 : Hid (RowKit.Below wr.heap.size wr w5) := hb5; clear hg5))
            go_wp2
            refine ⟨⟨j + 1, hlt, by go_num, HG.out.trans (HG5.out.mono HG.out.size), fun i a a' hi h1 h2 => ?_⟩, by simp [intOf]; omega⟩
            by_cases hij : i = j
            · subst hij
              have e1 := HQ1.out
              have e2 := HQ2.out
              rw [e1] at h1
              rw [e2] at h2
              injection h1 with h1
              injection h2 with h2
              rw [← h1, ← h2]; exact HD.out
            · exact HALL.out i a a' (by omega) h1 h2
        · have HE : Hid (R = true) := by unfold Hid; rw [HJ2.out]; exact sameTs_all HLN.out (fun i k k' h1 h2 => HALL.out i k k' (by have := (List.getElem?_eq_some_iff.1 h1).1; omega) h1 h2)
          go_wp2
          go_ret
          exact ⟨by rw [HE.out]; rfl, HBR.out⟩
    · have HR : Hid (R = false) := by unfold Hid; rw [HJ.out]; simp [fsameB, Tm.form, Tm.n, hc]
      have hcb : (n == n') = false := by simpa using hc
      have hcn : (n != n') = true := by simpa using hc
      clear hc
      go_enter Try.func58, Try.ntmps58
      go_wp2
      go_ret
      exact ⟨by rw [HR.out]; rfl, by have := HG0.out; rwa [← HW0.out] at this⟩
  · have HCA : Hid (∀ l ∈ ls, canonB l = true) := HCN.out (by omega)
    have HCA' : Hid (∀ l ∈ ls', canonB l = true) := HCN'.out (by omega)
    have HDEC : Hid (R = (decide (ls = ls') && sameTs ks ks')) := by unfold Hid; rw [HJ.out]; simp [fsameB, Tm.form, Tm.levels]; congr 1
    by_cases hll : ls.length = ls'.length
    rotate_left
    · have HR : Hid (R = false) := by unfold Hid; rw [HDEC.out, lvs_len hll]; rfl
      have hlb : ((ls.length : Int) != (ls'.length : Int)) = true := by simp; omega
      clear hll
      go_enter Try.func58, Try.ntmps58
      go_wp2
      go_ret
      exact ⟨by rw [HR.out]; rfl, by have := HG0.out; rwa [← HW0.out] at this⟩
    have hlb : ((ls.length : Int) != (ls'.length : Int)) = false := by simp [hll]
    have HLL := Hid.mk hll
    clear hll
    go_enter Try.func58, Try.ntmps58
    go_wp2
    rw [HW0.out]
    obtain ⟨W1, hW1⟩ : ∃ W1, W0 = W1 := ⟨_, rfl⟩
    have HXW := HX0
    have HYW := HY0
    have HGW := HG0
    rw [hW1] at HXW HYW HGW ⊢
    clear x0 x1 x2 x3 x4 x5 x6 y0 y1 y2 y3 y4 y5 y6
    go_loopw [7] (fun i wr => ∃ j : Nat, j ≤ ls.length ∧ i = .int .i64 j ∧ RowKit.Below W1.heap.size W1 wr ∧ ls.take j = ls'.take j) (fun i _ => ls.length - (intOf i).toNat)
    case atStart => exact ⟨0, Nat.zero_le _, rfl, Below.refl _ _, rfl⟩
    case round =>
      obtain ⟨j, hj, rfl, hg, htk⟩ := hrel
      have HG := Hid.mk hg
      have HT := Hid.mk htk
      clear hg htk
      obtain ⟨x0, x1, x2, x3, x4, x5, x6⟩ := cells6 ((HG.out.block w.heap.size (heap_lt HXW.out)).trans HXW.out)
      obtain ⟨y0, y1, y2, y3, y4, y5, y6⟩ := cells6 ((HG.out.block (w.heap.size + 1) (heap_lt HYW.out)).trans HYW.out)
      have HBR : Hid (RowKit.Below w.heap.size w wr) := HGW.out.trans (HG.out.mono HGW.out.size)
      by_cases hlt : j < ls.length
      · have hlt' : j < ls'.length := by rw [← HLL.out]; exact hlt
        obtain ⟨b, off, a1, cap1, hla, hbl, c0, c1, hs1⟩ := (HL.out.below HBR.out).at hlt
        obtain ⟨b', off', a2, cap2, hla', hbl', d0, d1, hs2⟩ := (HL'.out.below HBR.out).at hlt'
        rw [hla] at x4
        rw [hla'] at y4
        have hln1 := HS2.out ls[j] (List.getElem_mem hlt)
        have hln2 := HS2'.out ls'[j] (List.getElem_mem hlt')
        have HC := rSameB_any ls[j].1 ls'[j].1 ls[j].2 ls'[j].2 a1 a2 cap1 cap2 wr.drew (hs1.below (Below.refl _ _).drew) (hs2.below (Below.refl _ _).drew) (by omega) (by omega)
        rw [canon_same (HCA.out _ (List.getElem_mem hlt)) (HCA'.out _ (List.getElem_mem hlt'))] at HC
        have HQ1 : Hid (ls[j]? = some ls[j]) := List.getElem?_eq_getElem hlt
        have HQ2 : Hid (ls'[j]? = some ls'[j]) := List.getElem?_eq_getElem hlt'
        have z1 : (j : Int) < (ls.length : Int) := by omega
        have z2 : (j : Int) < (ls'.length : Int) := by omega
        clear hs1 hs2 hln1 hln2 hla hla'
        generalize ls[j] = p at *
        generalize ls'[j] = q at *
        have HCEL : Hid (∀ W : World, RowKit.Below wr.heap.size wr W → W.cell? ⟨w.heap.size, 4, none⟩ = some (.slice (some ⟨b, off, none⟩) ls.length lc) ∧ W.cell? ⟨w.heap.size + 1, 4, none⟩ = some (.slice (some ⟨b', off', none⟩) ls'.length lc') ∧ W.cell? ⟨b, off + j * 2, none⟩ = some (.int .i64 p.1) ∧ W.cell? ⟨b, off + j * 2 + 1, none⟩ = some (.slice a1 p.2.length cap1) ∧ W.cell? ⟨b', off' + j * 2, none⟩ = some (.int .i64 q.1) ∧ W.cell? ⟨b', off' + j * 2 + 1, none⟩ = some (.slice a2 q.2.length cap2)) := fun W h => ⟨(h.cell (p := ⟨w.heap.size, 4, none⟩) x6).trans x4, (h.cell (p := ⟨w.heap.size + 1, 4, none⟩) y6).trans y4, (h.cell (p := ⟨b, off + j * 2, none⟩) hbl).trans c0, (h.cell (p := ⟨b, off + j * 2 + 1, none⟩) hbl).trans c1, (h.cell (p := ⟨b', off' + j * 2, none⟩) hbl').trans d0, (h.cell (p := ⟨b', off' + j * 2 + 1, none⟩) hbl').trans d1⟩
        by_cases he : p = q
        · have HE := Hid.mk he
          rw [show decide (p = q) = true by simpa using he] at HC
          clear he
          go_wp2_with fail
          go_region_held3 (fun w' => w'.cell? ⟨w.heap.size, 4, none⟩ = some (.slice (some ⟨b, off, none⟩) ls.length lc) ∧ w'.cell? ⟨w.heap.size + 1, 4, none⟩ = some (.slice (some ⟨b', off', none⟩) ls'.length lc') ∧ w'.cell? ⟨b, off + j * 2, none⟩ = some (.int .i64 p.1) ∧ w'.cell? ⟨b, off + j * 2 + 1, none⟩ = some (.slice a1 p.2.length cap1) ∧ w'.cell? ⟨b', off' + j * 2, none⟩ = some (.int .i64 q.1) ∧ w'.cell? ⟨b', off' + j * 2 + 1, none⟩ = some (.slice a2 q.2.length cap2)) (first | exact HCEL.out _ (Below.refl _ _).drew | exact HCEL.out _ hb5)
            (first | (go_at_call 73; refine HC.mono ?_; rintro e w5 ⟨rfl, hg5⟩; have hb5 : RowKit.Below wr.heap.size wr w5 := (Below.refl _ _).drew.trans (hg5.mono (Nat.le_refl _)); have HG5 : Hid (RowKit.Below wr.heap.size wr w5) := hb5; clear hg5))
          go_wp2
          refine ⟨⟨j + 1, hlt, by go_num, HG.out.trans (HG5.out.mono HG.out.size), lvs_take HQ1.out (by rw [HE.out]; exact HQ2.out) HT.out⟩, by simp [intOf]; omega⟩
        · have HE : Hid (R = false) := by unfold Hid; rw [HDEC.out, lvs_at HQ1.out HQ2.out he]; rfl
          rw [show decide (p = q) = false by simpa using he] at HC
          clear he
          go_wp2_with fail
          go_region_held3 (fun w' => w'.cell? ⟨w.heap.size, 4, none⟩ = some (.slice (some ⟨b, off, none⟩) ls.length lc) ∧ w'.cell? ⟨w.heap.size + 1, 4, none⟩ = some (.slice (some ⟨b', off', none⟩) ls'.length lc') ∧ w'.cell? ⟨b, off + j * 2, none⟩ = some (.int .i64 p.1) ∧ w'.cell? ⟨b, off + j * 2 + 1, none⟩ = some (.slice a1 p.2.length cap1) ∧ w'.cell? ⟨b', off' + j * 2, none⟩ = some (.int .i64 q.1) ∧ w'.cell? ⟨b', off' + j * 2 + 1, none⟩ = some (.slice a2 q.2.length cap2)) (first | exact HCEL.out _ (Below.refl _ _).drew | exact HCEL.out _ hb5)
            (first | (go_at_call 73; refine HC.mono ?_; rintro e w5 ⟨rfl, hg5⟩; have hb5 : RowKit.Below wr.heap.size wr w5 := (Below.refl _ _).drew.trans (hg5.mono (Nat.le_refl _)); have HG5 : Hid (RowKit.Below wr.heap.size wr w5) := hb5; clear hg5))
          go_wp2
          go_ret
          exact ⟨by rw [HE.out]; rfl, HBR.out.trans (HG5.out.mono HBR.out.size)⟩
      · have HJ2 : Hid (R = sameTs ks ks') := by
          have h1 : ls.take j = ls := List.take_of_length_le (by omega)
          have h2 : ls'.take j = ls' := List.take_of_length_le (by have := HLL.out; omega)
          have h3 := HT.out
          rw [h1, h2] at h3
          unfold Hid; rw [HDEC.out, show decide (ls = ls') = true by simpa using h3, Bool.true_and]
        have HXV := Hid.mk ((HG.out.block w.heap.size (heap_lt HXW.out)).trans HXW.out)
        have HYV := Hid.mk ((HG.out.block (w.heap.size + 1) (heap_lt HYW.out)).trans HYW.out)
        clear HXW HYW HGW HG HT hW1 HW0
        obtain ⟨W2, rfl⟩ : ∃ W, W = wr := ⟨_, rfl⟩
        have HXW := HXV
        have HYW := HYV
        have HGW := HBR
        clear HXV HYV HBR
        go_wp2
        clear x0 x1 x2 x3 x4 x5 x6 y0 y1 y2 y3 y4 y5 y6
        go_loopw [9] (fun i wr => ∃ j : Nat, j ≤ ks.length ∧ i = .int .i64 j ∧ RowKit.Below W2.heap.size W2 wr ∧ (∀ (i : Nat) (k k' : Tm), i < j → ks[i]? = some k → ks'[i]? = some k' → sameT k k' = true)) (fun i _ => ks.length - (intOf i).toNat)
        case atStart => exact ⟨0, Nat.zero_le _, rfl, Below.refl _ _, fun i k k' h => absurd h (by omega)⟩
        case round =>
          obtain ⟨j, hj, rfl, hg, hall⟩ := hrel
          have HG := Hid.mk hg
          have HALL := Hid.mk hall
          clear hg hall
          obtain ⟨x0, x1, x2, x3, x4, x5, x6⟩ := cells6 ((HG.out.block w.heap.size (heap_lt HXW.out)).trans HXW.out)
          obtain ⟨y0, y1, y2, y3, y4, y5, y6⟩ := cells6 ((HG.out.block (w.heap.size + 1) (heap_lt HYW.out)).trans HYW.out)
          have HBR : Hid (RowKit.Below w.heap.size w wr) := HGW.out.trans (HG.out.mono HGW.out.size)
          by_cases hlt : j < ks.length
          · have hlt' : j < ks'.length := by rw [← HLN.out]; exact hlt
            obtain ⟨hka, hkb⟩ := HK.out (by intro e; rw [e] at hlt; simp at hlt)
            obtain ⟨hka', hkb'⟩ := HK'.out (by intro e; rw [e] at hlt'; simp at hlt')
            rw [hka] at x5
            rw [hka'] at y5
            have hkt : ks[j]? = some ks[j] := List.getElem?_eq_getElem hlt
            have hkt' : ks'[j]? = some ks'[j] := List.getElem?_eq_getElem hlt'
            have htc := (HKIDS.out j _ hkt).on HBR.out
            have htc' := (HKIDS'.out j _ hkt').on HBR.out
            obtain ⟨v0, v1, v2, v3, v4, v5, c0, c1, c2, c3, c4, c5, hv⟩ := htc.val
            obtain ⟨u0, u1, u2, u3, u4, u5, d0, d1, d2, d3, d4, d5, hu⟩ := htc'.val
            have HC := HIH.out ks[j] (List.getElem_mem hlt) ks'[j] _ _ wr.drew (HS4.out _ (List.getElem_mem hlt)) (HS4'.out _ (List.getElem_mem hlt')) (HFK.out _ (List.getElem_mem hlt)) (HFK'.out _ (List.getElem_mem hlt')) (hv.on (Below.refl _ _).drew) (hu.on (Below.refl _ _).drew)
            have HQ1 := Hid.mk hkt
            have HQ2 := Hid.mk hkt'
            have z1 : (j : Int) < (ks.length : Int) := by omega
            have z2 : (j : Int) < (ks'.length : Int) := by omega
            have hkr := htc.lt
            have hkr' := htc'.lt
            clear hkt hkt' htc htc' hv hu hka hka'
            generalize ks[j] = k at *
            generalize ks'[j] = k' at *
            obtain ⟨D, hD⟩ : ∃ D, sameT k k' = D := ⟨_, rfl⟩
            rw [hD] at HC
            have HD := Hid.mk hD
            clear hD
            have HCEL : Hid (∀ W : World, RowKit.Below wr.heap.size wr W → W.cell? ⟨w.heap.size, 5, none⟩ = some (.slice (some ⟨kb, ko, none⟩) ks.length kc) ∧ W.cell? ⟨w.heap.size + 1, 5, none⟩ = some (.slice (some ⟨kb', ko', none⟩) ks'.length kc') ∧ W.cell? ⟨kb, ko + j * 6, none⟩ = some (v0) ∧ W.cell? ⟨kb, ko + j * 6 + 1, none⟩ = some (v1) ∧ W.cell? ⟨kb, ko + j * 6 + 2, none⟩ = some (v2) ∧ W.cell? ⟨kb, ko + j * 6 + 3, none⟩ = some (v3) ∧ W.cell? ⟨kb, ko + j * 6 + 4, none⟩ = some (v4) ∧ W.cell? ⟨kb, ko + j * 6 + 5, none⟩ = some (v5) ∧ W.cell? ⟨kb', ko' + j * 6, none⟩ = some (u0) ∧ W.cell? ⟨kb', ko' + j * 6 + 1, none⟩ = some (u1) ∧ W.cell? ⟨kb', ko' + j * 6 + 2, none⟩ = some (u2) ∧ W.cell? ⟨kb', ko' + j * 6 + 3, none⟩ = some (u3) ∧ W.cell? ⟨kb', ko' + j * 6 + 4, none⟩ = some (u4) ∧ W.cell? ⟨kb', ko' + j * 6 + 5, none⟩ = some (u5)) := fun W h => ⟨(h.cell (p := ⟨w.heap.size, 5, none⟩) x6).trans x5, (h.cell (p := ⟨w.heap.size + 1, 5, none⟩) y6).trans y5, (h.cell (p := ⟨kb, ko + j * 6, none⟩) hkr).trans c0, (h.cell (p := ⟨kb, ko + j * 6 + 1, none⟩) hkr).trans c1, (h.cell (p := ⟨kb, ko + j * 6 + 2, none⟩) hkr).trans c2, (h.cell (p := ⟨kb, ko + j * 6 + 3, none⟩) hkr).trans c3, (h.cell (p := ⟨kb, ko + j * 6 + 4, none⟩) hkr).trans c4, (h.cell (p := ⟨kb, ko + j * 6 + 5, none⟩) hkr).trans c5, (h.cell (p := ⟨kb', ko' + j * 6, none⟩) hkr').trans d0, (h.cell (p := ⟨kb', ko' + j * 6 + 1, none⟩) hkr').trans d1, (h.cell (p := ⟨kb', ko' + j * 6 + 2, none⟩) hkr').trans d2, (h.cell (p := ⟨kb', ko' + j * 6 + 3, none⟩) hkr').trans d3, (h.cell (p := ⟨kb', ko' + j * 6 + 4, none⟩) hkr').trans d4, (h.cell (p := ⟨kb', ko' + j * 6 + 5, none⟩) hkr').trans d5⟩
            cases D
            · have HE : Hid (R = false) := by unfold Hid; rw [HJ2.out]; exact sameTs_at HQ1.out HQ2.out HD.out
              go_wp2_with fail
              go_region_held3 (fun w' => w'.cell? ⟨w.heap.size, 5, none⟩ = some (.slice (some ⟨kb, ko, none⟩) ks.length kc) ∧ w'.cell? ⟨w.heap.size + 1, 5, none⟩ = some (.slice (some ⟨kb', ko', none⟩) ks'.length kc') ∧ w'.cell? ⟨kb, ko + j * 6, none⟩ = some (v0) ∧ w'.cell? ⟨kb, ko + j * 6 + 1, none⟩ = some (v1) ∧ w'.cell? ⟨kb, ko + j * 6 + 2, none⟩ = some (v2) ∧ w'.cell? ⟨kb, ko + j * 6 + 3, none⟩ = some (v3) ∧ w'.cell? ⟨kb, ko + j * 6 + 4, none⟩ = some (v4) ∧ w'.cell? ⟨kb, ko + j * 6 + 5, none⟩ = some (v5) ∧ w'.cell? ⟨kb', ko' + j * 6, none⟩ = some (u0) ∧ w'.cell? ⟨kb', ko' + j * 6 + 1, none⟩ = some (u1) ∧ w'.cell? ⟨kb', ko' + j * 6 + 2, none⟩ = some (u2) ∧ w'.cell? ⟨kb', ko' + j * 6 + 3, none⟩ = some (u3) ∧ w'.cell? ⟨kb', ko' + j * 6 + 4, none⟩ = some (u4) ∧ w'.cell? ⟨kb', ko' + j * 6 + 5, none⟩ = some (u5)) (first | exact HCEL.out _ (Below.refl _ _).drew | exact HCEL.out _ hb5)
                (first | (go_at_call 58; refine HC.mono ?_; rintro e w5 ⟨rfl, hg5⟩; have hb5 : RowKit.Below wr.heap.size wr w5 := (Below.refl _ _).drew.trans (hg5.mono (Nat.le_refl _)); have HG5 : Hid (RowKit.Below wr.heap.size wr w5) := hb5; clear hg5))
              go_wp2
              go_ret
              exact ⟨by rw [HE.out]; rfl, HBR.out.trans (HG5.out.mono HBR.out.size)⟩
            · go_wp2_with fail
              go_region_held3 (fun w' => w'.cell? ⟨w.heap.size, 5, none⟩ = some (.slice (some ⟨kb, ko, none⟩) ks.length kc) ∧ w'.cell? ⟨w.heap.size + 1, 5, none⟩ = some (.slice (some ⟨kb', ko', none⟩) ks'.length kc') ∧ w'.cell? ⟨kb, ko + j * 6, none⟩ = some (v0) ∧ w'.cell? ⟨kb, ko + j * 6 + 1, none⟩ = some (v1) ∧ w'.cell? ⟨kb, ko + j * 6 + 2, none⟩ = some (v2) ∧ w'.cell? ⟨kb, ko + j * 6 + 3, none⟩ = some (v3) ∧ w'.cell? ⟨kb, ko + j * 6 + 4, none⟩ = some (v4) ∧ w'.cell? ⟨kb, ko + j * 6 + 5, none⟩ = some (v5) ∧ w'.cell? ⟨kb', ko' + j * 6, none⟩ = some (u0) ∧ w'.cell? ⟨kb', ko' + j * 6 + 1, none⟩ = some (u1) ∧ w'.cell? ⟨kb', ko' + j * 6 + 2, none⟩ = some (u2) ∧ w'.cell? ⟨kb', ko' + j * 6 + 3, none⟩ = some (u3) ∧ w'.cell? ⟨kb', ko' + j * 6 + 4, none⟩ = some (u4) ∧ w'.cell? ⟨kb', ko' + j * 6 + 5, none⟩ = some (u5)) (first | exact HCEL.out _ (Below.refl _ _).drew | exact HCEL.out _ hb5)
                (first | (go_at_call 58; refine HC.mono ?_; rintro e w5 ⟨rfl, hg5⟩; have hb5 : RowKit.Below wr.heap.size wr w5 := (Below.refl _ _).drew.trans (hg5.mono (Nat.le_refl _)); have HG5 : Hid (RowKit.Below wr.heap.size wr w5) := hb5; clear hg5))
              go_wp2
              refine ⟨⟨j + 1, hlt, by go_num, HG.out.trans (HG5.out.mono HG.out.size), fun i a a' hi h1 h2 => ?_⟩, by simp [intOf]; omega⟩
              by_cases hij : i = j
              · subst hij
                have e1 := HQ1.out
                have e2 := HQ2.out
                rw [e1] at h1
                rw [e2] at h2
                injection h1 with h1
                injection h2 with h2
                rw [← h1, ← h2]; exact HD.out
              · exact HALL.out i a a' (by omega) h1 h2
          · have HE : Hid (R = true) := by unfold Hid; rw [HJ2.out]; exact sameTs_all HLN.out (fun i k k' h1 h2 => HALL.out i k k' (by have := (List.getElem?_eq_some_iff.1 h1).1; omega) h1 h2)
            go_wp2
            go_ret
            exact ⟨by rw [HE.out]; rfl, HBR.out⟩
  · by_cases hc : hd = hd'
    · have HJ2 : Hid (R = sameTs ks ks') := by unfold Hid; rw [HJ.out]; simp [fsameB, Tm.form, Tm.hid, hc]
      have hcb : (hd == hd') = true := by simpa using hc
      have hcn : (hd != hd') = false := by simp [hc]
      clear hc
      go_enter Try.func58, Try.ntmps58
      go_wp2
      rw [HW0.out]
      obtain ⟨W1, hW1⟩ : ∃ W1, W0 = W1 := ⟨_, rfl⟩
      have HXW := HX0
      have HYW := HY0
      have HGW := HG0
      rw [hW1] at HXW HYW HGW ⊢
      clear x0 x1 x2 x3 x4 x5 x6 y0 y1 y2 y3 y4 y5 y6
      go_loopw [9] (fun i wr => ∃ j : Nat, j ≤ ks.length ∧ i = .int .i64 j ∧ RowKit.Below W1.heap.size W1 wr ∧ (∀ (i : Nat) (k k' : Tm), i < j → ks[i]? = some k → ks'[i]? = some k' → sameT k k' = true)) (fun i _ => ks.length - (intOf i).toNat)
      case atStart => exact ⟨0, Nat.zero_le _, rfl, Below.refl _ _, fun i k k' h => absurd h (by omega)⟩
      case round =>
        obtain ⟨j, hj, rfl, hg, hall⟩ := hrel
        have HG := Hid.mk hg
        have HALL := Hid.mk hall
        clear hg hall
        obtain ⟨x0, x1, x2, x3, x4, x5, x6⟩ := cells6 ((HG.out.block w.heap.size (heap_lt HXW.out)).trans HXW.out)
        obtain ⟨y0, y1, y2, y3, y4, y5, y6⟩ := cells6 ((HG.out.block (w.heap.size + 1) (heap_lt HYW.out)).trans HYW.out)
        have HBR : Hid (RowKit.Below w.heap.size w wr) := HGW.out.trans (HG.out.mono HGW.out.size)
        by_cases hlt : j < ks.length
        · have hlt' : j < ks'.length := by rw [← HLN.out]; exact hlt
          obtain ⟨hka, hkb⟩ := HK.out (by intro e; rw [e] at hlt; simp at hlt)
          obtain ⟨hka', hkb'⟩ := HK'.out (by intro e; rw [e] at hlt'; simp at hlt')
          rw [hka] at x5
          rw [hka'] at y5
          have hkt : ks[j]? = some ks[j] := List.getElem?_eq_getElem hlt
          have hkt' : ks'[j]? = some ks'[j] := List.getElem?_eq_getElem hlt'
          have htc := (HKIDS.out j _ hkt).on HBR.out
          have htc' := (HKIDS'.out j _ hkt').on HBR.out
          obtain ⟨v0, v1, v2, v3, v4, v5, c0, c1, c2, c3, c4, c5, hv⟩ := htc.val
          obtain ⟨u0, u1, u2, u3, u4, u5, d0, d1, d2, d3, d4, d5, hu⟩ := htc'.val
          have HC := HIH.out ks[j] (List.getElem_mem hlt) ks'[j] _ _ wr.drew (HS4.out _ (List.getElem_mem hlt)) (HS4'.out _ (List.getElem_mem hlt')) (HFK.out _ (List.getElem_mem hlt)) (HFK'.out _ (List.getElem_mem hlt')) (hv.on (Below.refl _ _).drew) (hu.on (Below.refl _ _).drew)
          have HQ1 := Hid.mk hkt
          have HQ2 := Hid.mk hkt'
          have z1 : (j : Int) < (ks.length : Int) := by omega
          have z2 : (j : Int) < (ks'.length : Int) := by omega
          have hkr := htc.lt
          have hkr' := htc'.lt
          clear hkt hkt' htc htc' hv hu hka hka'
          generalize ks[j] = k at *
          generalize ks'[j] = k' at *
          obtain ⟨D, hD⟩ : ∃ D, sameT k k' = D := ⟨_, rfl⟩
          rw [hD] at HC
          have HD := Hid.mk hD
          clear hD
          have HCEL : Hid (∀ W : World, RowKit.Below wr.heap.size wr W → W.cell? ⟨w.heap.size, 5, none⟩ = some (.slice (some ⟨kb, ko, none⟩) ks.length kc) ∧ W.cell? ⟨w.heap.size + 1, 5, none⟩ = some (.slice (some ⟨kb', ko', none⟩) ks'.length kc') ∧ W.cell? ⟨kb, ko + j * 6, none⟩ = some (v0) ∧ W.cell? ⟨kb, ko + j * 6 + 1, none⟩ = some (v1) ∧ W.cell? ⟨kb, ko + j * 6 + 2, none⟩ = some (v2) ∧ W.cell? ⟨kb, ko + j * 6 + 3, none⟩ = some (v3) ∧ W.cell? ⟨kb, ko + j * 6 + 4, none⟩ = some (v4) ∧ W.cell? ⟨kb, ko + j * 6 + 5, none⟩ = some (v5) ∧ W.cell? ⟨kb', ko' + j * 6, none⟩ = some (u0) ∧ W.cell? ⟨kb', ko' + j * 6 + 1, none⟩ = some (u1) ∧ W.cell? ⟨kb', ko' + j * 6 + 2, none⟩ = some (u2) ∧ W.cell? ⟨kb', ko' + j * 6 + 3, none⟩ = some (u3) ∧ W.cell? ⟨kb', ko' + j * 6 + 4, none⟩ = some (u4) ∧ W.cell? ⟨kb', ko' + j * 6 + 5, none⟩ = some (u5)) := fun W h => ⟨(h.cell (p := ⟨w.heap.size, 5, none⟩) x6).trans x5, (h.cell (p := ⟨w.heap.size + 1, 5, none⟩) y6).trans y5, (h.cell (p := ⟨kb, ko + j * 6, none⟩) hkr).trans c0, (h.cell (p := ⟨kb, ko + j * 6 + 1, none⟩) hkr).trans c1, (h.cell (p := ⟨kb, ko + j * 6 + 2, none⟩) hkr).trans c2, (h.cell (p := ⟨kb, ko + j * 6 + 3, none⟩) hkr).trans c3, (h.cell (p := ⟨kb, ko + j * 6 + 4, none⟩) hkr).trans c4, (h.cell (p := ⟨kb, ko + j * 6 + 5, none⟩) hkr).trans c5, (h.cell (p := ⟨kb', ko' + j * 6, none⟩) hkr').trans d0, (h.cell (p := ⟨kb', ko' + j * 6 + 1, none⟩) hkr').trans d1, (h.cell (p := ⟨kb', ko' + j * 6 + 2, none⟩) hkr').trans d2, (h.cell (p := ⟨kb', ko' + j * 6 + 3, none⟩) hkr').trans d3, (h.cell (p := ⟨kb', ko' + j * 6 + 4, none⟩) hkr').trans d4, (h.cell (p := ⟨kb', ko' + j * 6 + 5, none⟩) hkr').trans d5⟩
          cases D
          · have HE : Hid (R = false) := by unfold Hid; rw [HJ2.out]; exact sameTs_at HQ1.out HQ2.out HD.out
            go_wp2_with fail
            go_region_held3 (fun w' => w'.cell? ⟨w.heap.size, 5, none⟩ = some (.slice (some ⟨kb, ko, none⟩) ks.length kc) ∧ w'.cell? ⟨w.heap.size + 1, 5, none⟩ = some (.slice (some ⟨kb', ko', none⟩) ks'.length kc') ∧ w'.cell? ⟨kb, ko + j * 6, none⟩ = some (v0) ∧ w'.cell? ⟨kb, ko + j * 6 + 1, none⟩ = some (v1) ∧ w'.cell? ⟨kb, ko + j * 6 + 2, none⟩ = some (v2) ∧ w'.cell? ⟨kb, ko + j * 6 + 3, none⟩ = some (v3) ∧ w'.cell? ⟨kb, ko + j * 6 + 4, none⟩ = some (v4) ∧ w'.cell? ⟨kb, ko + j * 6 + 5, none⟩ = some (v5) ∧ w'.cell? ⟨kb', ko' + j * 6, none⟩ = some (u0) ∧ w'.cell? ⟨kb', ko' + j * 6 + 1, none⟩ = some (u1) ∧ w'.cell? ⟨kb', ko' + j * 6 + 2, none⟩ = some (u2) ∧ w'.cell? ⟨kb', ko' + j * 6 + 3, none⟩ = some (u3) ∧ w'.cell? ⟨kb', ko' + j * 6 + 4, none⟩ = some (u4) ∧ w'.cell? ⟨kb', ko' + j * 6 + 5, none⟩ = some (u5)) (first | exact HCEL.out _ (Below.refl _ _).drew | exact HCEL.out _ hb5)
              (first | (go_at_call 58; refine HC.mono ?_; rintro e w5 ⟨rfl, hg5⟩; have hb5 : RowKit.Below wr.heap.size wr w5 := (Below.refl _ _).drew.trans (hg5.mono (Nat.le_refl _)); have HG5 : Hid (RowKit.Below wr.heap.size wr w5) := hb5; clear hg5))
            go_wp2
            go_ret
            exact ⟨by rw [HE.out]; rfl, HBR.out.trans (HG5.out.mono HBR.out.size)⟩
          · go_wp2_with fail
            go_region_held3 (fun w' => w'.cell? ⟨w.heap.size, 5, none⟩ = some (.slice (some ⟨kb, ko, none⟩) ks.length kc) ∧ w'.cell? ⟨w.heap.size + 1, 5, none⟩ = some (.slice (some ⟨kb', ko', none⟩) ks'.length kc') ∧ w'.cell? ⟨kb, ko + j * 6, none⟩ = some (v0) ∧ w'.cell? ⟨kb, ko + j * 6 + 1, none⟩ = some (v1) ∧ w'.cell? ⟨kb, ko + j * 6 + 2, none⟩ = some (v2) ∧ w'.cell? ⟨kb, ko + j * 6 + 3, none⟩ = some (v3) ∧ w'.cell? ⟨kb, ko + j * 6 + 4, none⟩ = some (v4) ∧ w'.cell? ⟨kb, ko + j * 6 + 5, none⟩ = some (v5) ∧ w'.cell? ⟨kb', ko' + j * 6, none⟩ = some (u0) ∧ w'.cell? ⟨kb', ko' + j * 6 + 1, none⟩ = some (u1) ∧ w'.cell? ⟨kb', ko' + j * 6 + 2, none⟩ = some (u2) ∧ w'.cell? ⟨kb', ko' + j * 6 + 3, none⟩ = some (u3) ∧ w'.cell? ⟨kb', ko' + j * 6 + 4, none⟩ = some (u4) ∧ w'.cell? ⟨kb', ko' + j * 6 + 5, none⟩ = some (u5)) (first | exact HCEL.out _ (Below.refl _ _).drew | exact HCEL.out _ hb5)
              (first | (go_at_call 58; refine HC.mono ?_; rintro e w5 ⟨rfl, hg5⟩; have hb5 : RowKit.Below wr.heap.size wr w5 := (Below.refl _ _).drew.trans (hg5.mono (Nat.le_refl _)); have HG5 : Hid (RowKit.Below wr.heap.size wr w5) := hb5; clear hg5))
            go_wp2
            refine ⟨⟨j + 1, hlt, by go_num, HG.out.trans (HG5.out.mono HG.out.size), fun i a a' hi h1 h2 => ?_⟩, by simp [intOf]; omega⟩
            by_cases hij : i = j
            · subst hij
              have e1 := HQ1.out
              have e2 := HQ2.out
              rw [e1] at h1
              rw [e2] at h2
              injection h1 with h1
              injection h2 with h2
              rw [← h1, ← h2]; exact HD.out
            · exact HALL.out i a a' (by omega) h1 h2
        · have HE : Hid (R = true) := by unfold Hid; rw [HJ2.out]; exact sameTs_all HLN.out (fun i k k' h1 h2 => HALL.out i k k' (by have := (List.getElem?_eq_some_iff.1 h1).1; omega) h1 h2)
          go_wp2
          go_ret
          exact ⟨by rw [HE.out]; rfl, HBR.out⟩
    · have HR : Hid (R = false) := by unfold Hid; rw [HJ.out]; simp [fsameB, Tm.form, Tm.hid, hc]
      have hcb : (hd == hd') = false := by simpa using hc
      have hcn : (hd != hd') = true := by simpa using hc
      clear hc
      go_enter Try.func58, Try.ntmps58
      go_wp2
      go_ret
      exact ⟨by rw [HR.out]; rfl, by have := HG0.out; rwa [← HW0.out] at this⟩
  · by_cases hc : hd = hd'
    · have HJ2 : Hid (R = sameTs ks ks') := by unfold Hid; rw [HJ.out]; simp [fsameB, Tm.form, Tm.hid, hc]
      have hcb : (hd == hd') = true := by simpa using hc
      have hcn : (hd != hd') = false := by simp [hc]
      clear hc
      go_enter Try.func58, Try.ntmps58
      go_wp2
      rw [HW0.out]
      obtain ⟨W1, hW1⟩ : ∃ W1, W0 = W1 := ⟨_, rfl⟩
      have HXW := HX0
      have HYW := HY0
      have HGW := HG0
      rw [hW1] at HXW HYW HGW ⊢
      clear x0 x1 x2 x3 x4 x5 x6 y0 y1 y2 y3 y4 y5 y6
      go_loopw [9] (fun i wr => ∃ j : Nat, j ≤ ks.length ∧ i = .int .i64 j ∧ RowKit.Below W1.heap.size W1 wr ∧ (∀ (i : Nat) (k k' : Tm), i < j → ks[i]? = some k → ks'[i]? = some k' → sameT k k' = true)) (fun i _ => ks.length - (intOf i).toNat)
      case atStart => exact ⟨0, Nat.zero_le _, rfl, Below.refl _ _, fun i k k' h => absurd h (by omega)⟩
      case round =>
        obtain ⟨j, hj, rfl, hg, hall⟩ := hrel
        have HG := Hid.mk hg
        have HALL := Hid.mk hall
        clear hg hall
        obtain ⟨x0, x1, x2, x3, x4, x5, x6⟩ := cells6 ((HG.out.block w.heap.size (heap_lt HXW.out)).trans HXW.out)
        obtain ⟨y0, y1, y2, y3, y4, y5, y6⟩ := cells6 ((HG.out.block (w.heap.size + 1) (heap_lt HYW.out)).trans HYW.out)
        have HBR : Hid (RowKit.Below w.heap.size w wr) := HGW.out.trans (HG.out.mono HGW.out.size)
        by_cases hlt : j < ks.length
        · have hlt' : j < ks'.length := by rw [← HLN.out]; exact hlt
          obtain ⟨hka, hkb⟩ := HK.out (by intro e; rw [e] at hlt; simp at hlt)
          obtain ⟨hka', hkb'⟩ := HK'.out (by intro e; rw [e] at hlt'; simp at hlt')
          rw [hka] at x5
          rw [hka'] at y5
          have hkt : ks[j]? = some ks[j] := List.getElem?_eq_getElem hlt
          have hkt' : ks'[j]? = some ks'[j] := List.getElem?_eq_getElem hlt'
          have htc := (HKIDS.out j _ hkt).on HBR.out
          have htc' := (HKIDS'.out j _ hkt').on HBR.out
          obtain ⟨v0, v1, v2, v3, v4, v5, c0, c1, c2, c3, c4, c5, hv⟩ := htc.val
          obtain ⟨u0, u1, u2, u3, u4, u5, d0, d1, d2, d3, d4, d5, hu⟩ := htc'.val
          have HC := HIH.out ks[j] (List.getElem_mem hlt) ks'[j] _ _ wr.drew (HS4.out _ (List.getElem_mem hlt)) (HS4'.out _ (List.getElem_mem hlt')) (HFK.out _ (List.getElem_mem hlt)) (HFK'.out _ (List.getElem_mem hlt')) (hv.on (Below.refl _ _).drew) (hu.on (Below.refl _ _).drew)
          have HQ1 := Hid.mk hkt
          have HQ2 := Hid.mk hkt'
          have z1 : (j : Int) < (ks.length : Int) := by omega
          have z2 : (j : Int) < (ks'.length : Int) := by omega
          have hkr := htc.lt
          have hkr' := htc'.lt
          clear hkt hkt' htc htc' hv hu hka hka'
          generalize ks[j] = k at *
          generalize ks'[j] = k' at *
          obtain ⟨D, hD⟩ : ∃ D, sameT k k' = D := ⟨_, rfl⟩
          rw [hD] at HC
          have HD := Hid.mk hD
          clear hD
          have HCEL : Hid (∀ W : World, RowKit.Below wr.heap.size wr W → W.cell? ⟨w.heap.size, 5, none⟩ = some (.slice (some ⟨kb, ko, none⟩) ks.length kc) ∧ W.cell? ⟨w.heap.size + 1, 5, none⟩ = some (.slice (some ⟨kb', ko', none⟩) ks'.length kc') ∧ W.cell? ⟨kb, ko + j * 6, none⟩ = some (v0) ∧ W.cell? ⟨kb, ko + j * 6 + 1, none⟩ = some (v1) ∧ W.cell? ⟨kb, ko + j * 6 + 2, none⟩ = some (v2) ∧ W.cell? ⟨kb, ko + j * 6 + 3, none⟩ = some (v3) ∧ W.cell? ⟨kb, ko + j * 6 + 4, none⟩ = some (v4) ∧ W.cell? ⟨kb, ko + j * 6 + 5, none⟩ = some (v5) ∧ W.cell? ⟨kb', ko' + j * 6, none⟩ = some (u0) ∧ W.cell? ⟨kb', ko' + j * 6 + 1, none⟩ = some (u1) ∧ W.cell? ⟨kb', ko' + j * 6 + 2, none⟩ = some (u2) ∧ W.cell? ⟨kb', ko' + j * 6 + 3, none⟩ = some (u3) ∧ W.cell? ⟨kb', ko' + j * 6 + 4, none⟩ = some (u4) ∧ W.cell? ⟨kb', ko' + j * 6 + 5, none⟩ = some (u5)) := fun W h => ⟨(h.cell (p := ⟨w.heap.size, 5, none⟩) x6).trans x5, (h.cell (p := ⟨w.heap.size + 1, 5, none⟩) y6).trans y5, (h.cell (p := ⟨kb, ko + j * 6, none⟩) hkr).trans c0, (h.cell (p := ⟨kb, ko + j * 6 + 1, none⟩) hkr).trans c1, (h.cell (p := ⟨kb, ko + j * 6 + 2, none⟩) hkr).trans c2, (h.cell (p := ⟨kb, ko + j * 6 + 3, none⟩) hkr).trans c3, (h.cell (p := ⟨kb, ko + j * 6 + 4, none⟩) hkr).trans c4, (h.cell (p := ⟨kb, ko + j * 6 + 5, none⟩) hkr).trans c5, (h.cell (p := ⟨kb', ko' + j * 6, none⟩) hkr').trans d0, (h.cell (p := ⟨kb', ko' + j * 6 + 1, none⟩) hkr').trans d1, (h.cell (p := ⟨kb', ko' + j * 6 + 2, none⟩) hkr').trans d2, (h.cell (p := ⟨kb', ko' + j * 6 + 3, none⟩) hkr').trans d3, (h.cell (p := ⟨kb', ko' + j * 6 + 4, none⟩) hkr').trans d4, (h.cell (p := ⟨kb', ko' + j * 6 + 5, none⟩) hkr').trans d5⟩
          cases D
          · have HE : Hid (R = false) := by unfold Hid; rw [HJ2.out]; exact sameTs_at HQ1.out HQ2.out HD.out
            go_wp2_with fail
            go_region_held3 (fun w' => w'.cell? ⟨w.heap.size, 5, none⟩ = some (.slice (some ⟨kb, ko, none⟩) ks.length kc) ∧ w'.cell? ⟨w.heap.size + 1, 5, none⟩ = some (.slice (some ⟨kb', ko', none⟩) ks'.length kc') ∧ w'.cell? ⟨kb, ko + j * 6, none⟩ = some (v0) ∧ w'.cell? ⟨kb, ko + j * 6 + 1, none⟩ = some (v1) ∧ w'.cell? ⟨kb, ko + j * 6 + 2, none⟩ = some (v2) ∧ w'.cell? ⟨kb, ko + j * 6 + 3, none⟩ = some (v3) ∧ w'.cell? ⟨kb, ko + j * 6 + 4, none⟩ = some (v4) ∧ w'.cell? ⟨kb, ko + j * 6 + 5, none⟩ = some (v5) ∧ w'.cell? ⟨kb', ko' + j * 6, none⟩ = some (u0) ∧ w'.cell? ⟨kb', ko' + j * 6 + 1, none⟩ = some (u1) ∧ w'.cell? ⟨kb', ko' + j * 6 + 2, none⟩ = some (u2) ∧ w'.cell? ⟨kb', ko' + j * 6 + 3, none⟩ = some (u3) ∧ w'.cell? ⟨kb', ko' + j * 6 + 4, none⟩ = some (u4) ∧ w'.cell? ⟨kb', ko' + j * 6 + 5, none⟩ = some (u5)) (first | exact HCEL.out _ (Below.refl _ _).drew | exact HCEL.out _ hb5)
              (first | (go_at_call 58; refine HC.mono ?_; rintro e w5 ⟨rfl, hg5⟩; have hb5 : RowKit.Below wr.heap.size wr w5 := (Below.refl _ _).drew.trans (hg5.mono (Nat.le_refl _)); have HG5 : Hid (RowKit.Below wr.heap.size wr w5) := hb5; clear hg5))
            go_wp2
            go_ret
            exact ⟨by rw [HE.out]; rfl, HBR.out.trans (HG5.out.mono HBR.out.size)⟩
          · go_wp2_with fail
            go_region_held3 (fun w' => w'.cell? ⟨w.heap.size, 5, none⟩ = some (.slice (some ⟨kb, ko, none⟩) ks.length kc) ∧ w'.cell? ⟨w.heap.size + 1, 5, none⟩ = some (.slice (some ⟨kb', ko', none⟩) ks'.length kc') ∧ w'.cell? ⟨kb, ko + j * 6, none⟩ = some (v0) ∧ w'.cell? ⟨kb, ko + j * 6 + 1, none⟩ = some (v1) ∧ w'.cell? ⟨kb, ko + j * 6 + 2, none⟩ = some (v2) ∧ w'.cell? ⟨kb, ko + j * 6 + 3, none⟩ = some (v3) ∧ w'.cell? ⟨kb, ko + j * 6 + 4, none⟩ = some (v4) ∧ w'.cell? ⟨kb, ko + j * 6 + 5, none⟩ = some (v5) ∧ w'.cell? ⟨kb', ko' + j * 6, none⟩ = some (u0) ∧ w'.cell? ⟨kb', ko' + j * 6 + 1, none⟩ = some (u1) ∧ w'.cell? ⟨kb', ko' + j * 6 + 2, none⟩ = some (u2) ∧ w'.cell? ⟨kb', ko' + j * 6 + 3, none⟩ = some (u3) ∧ w'.cell? ⟨kb', ko' + j * 6 + 4, none⟩ = some (u4) ∧ w'.cell? ⟨kb', ko' + j * 6 + 5, none⟩ = some (u5)) (first | exact HCEL.out _ (Below.refl _ _).drew | exact HCEL.out _ hb5)
              (first | (go_at_call 58; refine HC.mono ?_; rintro e w5 ⟨rfl, hg5⟩; have hb5 : RowKit.Below wr.heap.size wr w5 := (Below.refl _ _).drew.trans (hg5.mono (Nat.le_refl _)); have HG5 : Hid (RowKit.Below wr.heap.size wr w5) := hb5; clear hg5))
            go_wp2
            refine ⟨⟨j + 1, hlt, by go_num, HG.out.trans (HG5.out.mono HG.out.size), fun i a a' hi h1 h2 => ?_⟩, by simp [intOf]; omega⟩
            by_cases hij : i = j
            · subst hij
              have e1 := HQ1.out
              have e2 := HQ2.out
              rw [e1] at h1
              rw [e2] at h2
              injection h1 with h1
              injection h2 with h2
              rw [← h1, ← h2]; exact HD.out
            · exact HALL.out i a a' (by omega) h1 h2
        · have HE : Hid (R = true) := by unfold Hid; rw [HJ2.out]; exact sameTs_all HLN.out (fun i k k' h1 h2 => HALL.out i k k' (by have := (List.getElem?_eq_some_iff.1 h1).1; omega) h1 h2)
          go_wp2
          go_ret
          exact ⟨by rw [HE.out]; rfl, HBR.out⟩
    · have HR : Hid (R = false) := by unfold Hid; rw [HJ.out]; simp [fsameB, Tm.form, Tm.hid, hc]
      have hcb : (hd == hd') = false := by simpa using hc
      have hcn : (hd != hd') = true := by simpa using hc
      clear hc
      go_enter Try.func58, Try.ntmps58
      go_wp2
      go_ret
      exact ⟨by rw [HR.out]; rfl, by have := HG0.out; rwa [← HW0.out] at this⟩
  · by_cases hc : hd = hd'
    · have HJ2 : Hid (R = sameTs ks ks') := by unfold Hid; rw [HJ.out]; simp [fsameB, Tm.form, Tm.hid, hc]
      have hcb : (hd == hd') = true := by simpa using hc
      have hcn : (hd != hd') = false := by simp [hc]
      clear hc
      go_enter Try.func58, Try.ntmps58
      go_wp2
      rw [HW0.out]
      obtain ⟨W1, hW1⟩ : ∃ W1, W0 = W1 := ⟨_, rfl⟩
      have HXW := HX0
      have HYW := HY0
      have HGW := HG0
      rw [hW1] at HXW HYW HGW ⊢
      clear x0 x1 x2 x3 x4 x5 x6 y0 y1 y2 y3 y4 y5 y6
      go_loopw [9] (fun i wr => ∃ j : Nat, j ≤ ks.length ∧ i = .int .i64 j ∧ RowKit.Below W1.heap.size W1 wr ∧ (∀ (i : Nat) (k k' : Tm), i < j → ks[i]? = some k → ks'[i]? = some k' → sameT k k' = true)) (fun i _ => ks.length - (intOf i).toNat)
      case atStart => exact ⟨0, Nat.zero_le _, rfl, Below.refl _ _, fun i k k' h => absurd h (by omega)⟩
      case round =>
        obtain ⟨j, hj, rfl, hg, hall⟩ := hrel
        have HG := Hid.mk hg
        have HALL := Hid.mk hall
        clear hg hall
        obtain ⟨x0, x1, x2, x3, x4, x5, x6⟩ := cells6 ((HG.out.block w.heap.size (heap_lt HXW.out)).trans HXW.out)
        obtain ⟨y0, y1, y2, y3, y4, y5, y6⟩ := cells6 ((HG.out.block (w.heap.size + 1) (heap_lt HYW.out)).trans HYW.out)
        have HBR : Hid (RowKit.Below w.heap.size w wr) := HGW.out.trans (HG.out.mono HGW.out.size)
        by_cases hlt : j < ks.length
        · have hlt' : j < ks'.length := by rw [← HLN.out]; exact hlt
          obtain ⟨hka, hkb⟩ := HK.out (by intro e; rw [e] at hlt; simp at hlt)
          obtain ⟨hka', hkb'⟩ := HK'.out (by intro e; rw [e] at hlt'; simp at hlt')
          rw [hka] at x5
          rw [hka'] at y5
          have hkt : ks[j]? = some ks[j] := List.getElem?_eq_getElem hlt
          have hkt' : ks'[j]? = some ks'[j] := List.getElem?_eq_getElem hlt'
          have htc := (HKIDS.out j _ hkt).on HBR.out
          have htc' := (HKIDS'.out j _ hkt').on HBR.out
          obtain ⟨v0, v1, v2, v3, v4, v5, c0, c1, c2, c3, c4, c5, hv⟩ := htc.val
          obtain ⟨u0, u1, u2, u3, u4, u5, d0, d1, d2, d3, d4, d5, hu⟩ := htc'.val
          have HC := HIH.out ks[j] (List.getElem_mem hlt) ks'[j] _ _ wr.drew (HS4.out _ (List.getElem_mem hlt)) (HS4'.out _ (List.getElem_mem hlt')) (HFK.out _ (List.getElem_mem hlt)) (HFK'.out _ (List.getElem_mem hlt')) (hv.on (Below.refl _ _).drew) (hu.on (Below.refl _ _).drew)
          have HQ1 := Hid.mk hkt
          have HQ2 := Hid.mk hkt'
          have z1 : (j : Int) < (ks.length : Int) := by omega
          have z2 : (j : Int) < (ks'.length : Int) := by omega
          have hkr := htc.lt
          have hkr' := htc'.lt
          clear hkt hkt' htc htc' hv hu hka hka'
          generalize ks[j] = k at *
          generalize ks'[j] = k' at *
          obtain ⟨D, hD⟩ : ∃ D, sameT k k' = D := ⟨_, rfl⟩
          rw [hD] at HC
          have HD := Hid.mk hD
          clear hD
          have HCEL : Hid (∀ W : World, RowKit.Below wr.heap.size wr W → W.cell? ⟨w.heap.size, 5, none⟩ = some (.slice (some ⟨kb, ko, none⟩) ks.length kc) ∧ W.cell? ⟨w.heap.size + 1, 5, none⟩ = some (.slice (some ⟨kb', ko', none⟩) ks'.length kc') ∧ W.cell? ⟨kb, ko + j * 6, none⟩ = some (v0) ∧ W.cell? ⟨kb, ko + j * 6 + 1, none⟩ = some (v1) ∧ W.cell? ⟨kb, ko + j * 6 + 2, none⟩ = some (v2) ∧ W.cell? ⟨kb, ko + j * 6 + 3, none⟩ = some (v3) ∧ W.cell? ⟨kb, ko + j * 6 + 4, none⟩ = some (v4) ∧ W.cell? ⟨kb, ko + j * 6 + 5, none⟩ = some (v5) ∧ W.cell? ⟨kb', ko' + j * 6, none⟩ = some (u0) ∧ W.cell? ⟨kb', ko' + j * 6 + 1, none⟩ = some (u1) ∧ W.cell? ⟨kb', ko' + j * 6 + 2, none⟩ = some (u2) ∧ W.cell? ⟨kb', ko' + j * 6 + 3, none⟩ = some (u3) ∧ W.cell? ⟨kb', ko' + j * 6 + 4, none⟩ = some (u4) ∧ W.cell? ⟨kb', ko' + j * 6 + 5, none⟩ = some (u5)) := fun W h => ⟨(h.cell (p := ⟨w.heap.size, 5, none⟩) x6).trans x5, (h.cell (p := ⟨w.heap.size + 1, 5, none⟩) y6).trans y5, (h.cell (p := ⟨kb, ko + j * 6, none⟩) hkr).trans c0, (h.cell (p := ⟨kb, ko + j * 6 + 1, none⟩) hkr).trans c1, (h.cell (p := ⟨kb, ko + j * 6 + 2, none⟩) hkr).trans c2, (h.cell (p := ⟨kb, ko + j * 6 + 3, none⟩) hkr).trans c3, (h.cell (p := ⟨kb, ko + j * 6 + 4, none⟩) hkr).trans c4, (h.cell (p := ⟨kb, ko + j * 6 + 5, none⟩) hkr).trans c5, (h.cell (p := ⟨kb', ko' + j * 6, none⟩) hkr').trans d0, (h.cell (p := ⟨kb', ko' + j * 6 + 1, none⟩) hkr').trans d1, (h.cell (p := ⟨kb', ko' + j * 6 + 2, none⟩) hkr').trans d2, (h.cell (p := ⟨kb', ko' + j * 6 + 3, none⟩) hkr').trans d3, (h.cell (p := ⟨kb', ko' + j * 6 + 4, none⟩) hkr').trans d4, (h.cell (p := ⟨kb', ko' + j * 6 + 5, none⟩) hkr').trans d5⟩
          cases D
          · have HE : Hid (R = false) := by unfold Hid; rw [HJ2.out]; exact sameTs_at HQ1.out HQ2.out HD.out
            go_wp2_with fail
            go_region_held3 (fun w' => w'.cell? ⟨w.heap.size, 5, none⟩ = some (.slice (some ⟨kb, ko, none⟩) ks.length kc) ∧ w'.cell? ⟨w.heap.size + 1, 5, none⟩ = some (.slice (some ⟨kb', ko', none⟩) ks'.length kc') ∧ w'.cell? ⟨kb, ko + j * 6, none⟩ = some (v0) ∧ w'.cell? ⟨kb, ko + j * 6 + 1, none⟩ = some (v1) ∧ w'.cell? ⟨kb, ko + j * 6 + 2, none⟩ = some (v2) ∧ w'.cell? ⟨kb, ko + j * 6 + 3, none⟩ = some (v3) ∧ w'.cell? ⟨kb, ko + j * 6 + 4, none⟩ = some (v4) ∧ w'.cell? ⟨kb, ko + j * 6 + 5, none⟩ = some (v5) ∧ w'.cell? ⟨kb', ko' + j * 6, none⟩ = some (u0) ∧ w'.cell? ⟨kb', ko' + j * 6 + 1, none⟩ = some (u1) ∧ w'.cell? ⟨kb', ko' + j * 6 + 2, none⟩ = some (u2) ∧ w'.cell? ⟨kb', ko' + j * 6 + 3, none⟩ = some (u3) ∧ w'.cell? ⟨kb', ko' + j * 6 + 4, none⟩ = some (u4) ∧ w'.cell? ⟨kb', ko' + j * 6 + 5, none⟩ = some (u5)) (first | exact HCEL.out _ (Below.refl _ _).drew | exact HCEL.out _ hb5)
              (first | (go_at_call 58; refine HC.mono ?_; rintro e w5 ⟨rfl, hg5⟩; have hb5 : RowKit.Below wr.heap.size wr w5 := (Below.refl _ _).drew.trans (hg5.mono (Nat.le_refl _)); have HG5 : Hid (RowKit.Below wr.heap.size wr w5) := hb5; clear hg5))
            go_wp2
            go_ret
            exact ⟨by rw [HE.out]; rfl, HBR.out.trans (HG5.out.mono HBR.out.size)⟩
          · go_wp2_with fail
            go_region_held3 (fun w' => w'.cell? ⟨w.heap.size, 5, none⟩ = some (.slice (some ⟨kb, ko, none⟩) ks.length kc) ∧ w'.cell? ⟨w.heap.size + 1, 5, none⟩ = some (.slice (some ⟨kb', ko', none⟩) ks'.length kc') ∧ w'.cell? ⟨kb, ko + j * 6, none⟩ = some (v0) ∧ w'.cell? ⟨kb, ko + j * 6 + 1, none⟩ = some (v1) ∧ w'.cell? ⟨kb, ko + j * 6 + 2, none⟩ = some (v2) ∧ w'.cell? ⟨kb, ko + j * 6 + 3, none⟩ = some (v3) ∧ w'.cell? ⟨kb, ko + j * 6 + 4, none⟩ = some (v4) ∧ w'.cell? ⟨kb, ko + j * 6 + 5, none⟩ = some (v5) ∧ w'.cell? ⟨kb', ko' + j * 6, none⟩ = some (u0) ∧ w'.cell? ⟨kb', ko' + j * 6 + 1, none⟩ = some (u1) ∧ w'.cell? ⟨kb', ko' + j * 6 + 2, none⟩ = some (u2) ∧ w'.cell? ⟨kb', ko' + j * 6 + 3, none⟩ = some (u3) ∧ w'.cell? ⟨kb', ko' + j * 6 + 4, none⟩ = some (u4) ∧ w'.cell? ⟨kb', ko' + j * 6 + 5, none⟩ = some (u5)) (first | exact HCEL.out _ (Below.refl _ _).drew | exact HCEL.out _ hb5)
              (first | (go_at_call 58; refine HC.mono ?_; rintro e w5 ⟨rfl, hg5⟩; have hb5 : RowKit.Below wr.heap.size wr w5 := (Below.refl _ _).drew.trans (hg5.mono (Nat.le_refl _)); have HG5 : Hid (RowKit.Below wr.heap.size wr w5) := hb5; clear hg5))
            go_wp2
            refine ⟨⟨j + 1, hlt, by go_num, HG.out.trans (HG5.out.mono HG.out.size), fun i a a' hi h1 h2 => ?_⟩, by simp [intOf]; omega⟩
            by_cases hij : i = j
            · subst hij
              have e1 := HQ1.out
              have e2 := HQ2.out
              rw [e1] at h1
              rw [e2] at h2
              injection h1 with h1
              injection h2 with h2
              rw [← h1, ← h2]; exact HD.out
            · exact HALL.out i a a' (by omega) h1 h2
        · have HE : Hid (R = true) := by unfold Hid; rw [HJ2.out]; exact sameTs_all HLN.out (fun i k k' h1 h2 => HALL.out i k k' (by have := (List.getElem?_eq_some_iff.1 h1).1; omega) h1 h2)
          go_wp2
          go_ret
          exact ⟨by rw [HE.out]; rfl, HBR.out⟩
    · have HR : Hid (R = false) := by unfold Hid; rw [HJ.out]; simp [fsameB, Tm.form, Tm.hid, hc]
      have hcb : (hd == hd') = false := by simpa using hc
      have hcn : (hd != hd') = true := by simpa using hc
      clear hc
      go_enter Try.func58, Try.ntmps58
      go_wp2
      go_ret
      exact ⟨by rw [HR.out]; rfl, by have := HG0.out; rwa [← HW0.out] at this⟩
  · have HJ2 : Hid (R = sameTs ks ks') := by unfold Hid; rw [HJ.out]; simp [fsameB, Tm.form]
    go_enter Try.func58, Try.ntmps58
    go_wp2
    rw [HW0.out]
    obtain ⟨W1, hW1⟩ : ∃ W1, W0 = W1 := ⟨_, rfl⟩
    have HXW := HX0
    have HYW := HY0
    have HGW := HG0
    rw [hW1] at HXW HYW HGW ⊢
    clear x0 x1 x2 x3 x4 x5 x6 y0 y1 y2 y3 y4 y5 y6
    go_loopw [9] (fun i wr => ∃ j : Nat, j ≤ ks.length ∧ i = .int .i64 j ∧ RowKit.Below W1.heap.size W1 wr ∧ (∀ (i : Nat) (k k' : Tm), i < j → ks[i]? = some k → ks'[i]? = some k' → sameT k k' = true)) (fun i _ => ks.length - (intOf i).toNat)
    case atStart => exact ⟨0, Nat.zero_le _, rfl, Below.refl _ _, fun i k k' h => absurd h (by omega)⟩
    case round =>
      obtain ⟨j, hj, rfl, hg, hall⟩ := hrel
      have HG := Hid.mk hg
      have HALL := Hid.mk hall
      clear hg hall
      obtain ⟨x0, x1, x2, x3, x4, x5, x6⟩ := cells6 ((HG.out.block w.heap.size (heap_lt HXW.out)).trans HXW.out)
      obtain ⟨y0, y1, y2, y3, y4, y5, y6⟩ := cells6 ((HG.out.block (w.heap.size + 1) (heap_lt HYW.out)).trans HYW.out)
      have HBR : Hid (RowKit.Below w.heap.size w wr) := HGW.out.trans (HG.out.mono HGW.out.size)
      by_cases hlt : j < ks.length
      · have hlt' : j < ks'.length := by rw [← HLN.out]; exact hlt
        obtain ⟨hka, hkb⟩ := HK.out (by intro e; rw [e] at hlt; simp at hlt)
        obtain ⟨hka', hkb'⟩ := HK'.out (by intro e; rw [e] at hlt'; simp at hlt')
        rw [hka] at x5
        rw [hka'] at y5
        have hkt : ks[j]? = some ks[j] := List.getElem?_eq_getElem hlt
        have hkt' : ks'[j]? = some ks'[j] := List.getElem?_eq_getElem hlt'
        have htc := (HKIDS.out j _ hkt).on HBR.out
        have htc' := (HKIDS'.out j _ hkt').on HBR.out
        obtain ⟨v0, v1, v2, v3, v4, v5, c0, c1, c2, c3, c4, c5, hv⟩ := htc.val
        obtain ⟨u0, u1, u2, u3, u4, u5, d0, d1, d2, d3, d4, d5, hu⟩ := htc'.val
        have HC := HIH.out ks[j] (List.getElem_mem hlt) ks'[j] _ _ wr.drew (HS4.out _ (List.getElem_mem hlt)) (HS4'.out _ (List.getElem_mem hlt')) (HFK.out _ (List.getElem_mem hlt)) (HFK'.out _ (List.getElem_mem hlt')) (hv.on (Below.refl _ _).drew) (hu.on (Below.refl _ _).drew)
        have HQ1 := Hid.mk hkt
        have HQ2 := Hid.mk hkt'
        have z1 : (j : Int) < (ks.length : Int) := by omega
        have z2 : (j : Int) < (ks'.length : Int) := by omega
        have hkr := htc.lt
        have hkr' := htc'.lt
        clear hkt hkt' htc htc' hv hu hka hka'
        generalize ks[j] = k at *
        generalize ks'[j] = k' at *
        obtain ⟨D, hD⟩ : ∃ D, sameT k k' = D := ⟨_, rfl⟩
        rw [hD] at HC
        have HD := Hid.mk hD
        clear hD
        have HCEL : Hid (∀ W : World, RowKit.Below wr.heap.size wr W → W.cell? ⟨w.heap.size, 5, none⟩ = some (.slice (some ⟨kb, ko, none⟩) ks.length kc) ∧ W.cell? ⟨w.heap.size + 1, 5, none⟩ = some (.slice (some ⟨kb', ko', none⟩) ks'.length kc') ∧ W.cell? ⟨kb, ko + j * 6, none⟩ = some (v0) ∧ W.cell? ⟨kb, ko + j * 6 + 1, none⟩ = some (v1) ∧ W.cell? ⟨kb, ko + j * 6 + 2, none⟩ = some (v2) ∧ W.cell? ⟨kb, ko + j * 6 + 3, none⟩ = some (v3) ∧ W.cell? ⟨kb, ko + j * 6 + 4, none⟩ = some (v4) ∧ W.cell? ⟨kb, ko + j * 6 + 5, none⟩ = some (v5) ∧ W.cell? ⟨kb', ko' + j * 6, none⟩ = some (u0) ∧ W.cell? ⟨kb', ko' + j * 6 + 1, none⟩ = some (u1) ∧ W.cell? ⟨kb', ko' + j * 6 + 2, none⟩ = some (u2) ∧ W.cell? ⟨kb', ko' + j * 6 + 3, none⟩ = some (u3) ∧ W.cell? ⟨kb', ko' + j * 6 + 4, none⟩ = some (u4) ∧ W.cell? ⟨kb', ko' + j * 6 + 5, none⟩ = some (u5)) := fun W h => ⟨(h.cell (p := ⟨w.heap.size, 5, none⟩) x6).trans x5, (h.cell (p := ⟨w.heap.size + 1, 5, none⟩) y6).trans y5, (h.cell (p := ⟨kb, ko + j * 6, none⟩) hkr).trans c0, (h.cell (p := ⟨kb, ko + j * 6 + 1, none⟩) hkr).trans c1, (h.cell (p := ⟨kb, ko + j * 6 + 2, none⟩) hkr).trans c2, (h.cell (p := ⟨kb, ko + j * 6 + 3, none⟩) hkr).trans c3, (h.cell (p := ⟨kb, ko + j * 6 + 4, none⟩) hkr).trans c4, (h.cell (p := ⟨kb, ko + j * 6 + 5, none⟩) hkr).trans c5, (h.cell (p := ⟨kb', ko' + j * 6, none⟩) hkr').trans d0, (h.cell (p := ⟨kb', ko' + j * 6 + 1, none⟩) hkr').trans d1, (h.cell (p := ⟨kb', ko' + j * 6 + 2, none⟩) hkr').trans d2, (h.cell (p := ⟨kb', ko' + j * 6 + 3, none⟩) hkr').trans d3, (h.cell (p := ⟨kb', ko' + j * 6 + 4, none⟩) hkr').trans d4, (h.cell (p := ⟨kb', ko' + j * 6 + 5, none⟩) hkr').trans d5⟩
        cases D
        · have HE : Hid (R = false) := by unfold Hid; rw [HJ2.out]; exact sameTs_at HQ1.out HQ2.out HD.out
          go_wp2_with fail
          go_region_held3 (fun w' => w'.cell? ⟨w.heap.size, 5, none⟩ = some (.slice (some ⟨kb, ko, none⟩) ks.length kc) ∧ w'.cell? ⟨w.heap.size + 1, 5, none⟩ = some (.slice (some ⟨kb', ko', none⟩) ks'.length kc') ∧ w'.cell? ⟨kb, ko + j * 6, none⟩ = some (v0) ∧ w'.cell? ⟨kb, ko + j * 6 + 1, none⟩ = some (v1) ∧ w'.cell? ⟨kb, ko + j * 6 + 2, none⟩ = some (v2) ∧ w'.cell? ⟨kb, ko + j * 6 + 3, none⟩ = some (v3) ∧ w'.cell? ⟨kb, ko + j * 6 + 4, none⟩ = some (v4) ∧ w'.cell? ⟨kb, ko + j * 6 + 5, none⟩ = some (v5) ∧ w'.cell? ⟨kb', ko' + j * 6, none⟩ = some (u0) ∧ w'.cell? ⟨kb', ko' + j * 6 + 1, none⟩ = some (u1) ∧ w'.cell? ⟨kb', ko' + j * 6 + 2, none⟩ = some (u2) ∧ w'.cell? ⟨kb', ko' + j * 6 + 3, none⟩ = some (u3) ∧ w'.cell? ⟨kb', ko' + j * 6 + 4, none⟩ = some (u4) ∧ w'.cell? ⟨kb', ko' + j * 6 + 5, none⟩ = some (u5)) (first | exact HCEL.out _ (Below.refl _ _).drew | exact HCEL.out _ hb5)
            (first | (go_at_call 58; refine HC.mono ?_; rintro e w5 ⟨rfl, hg5⟩; have hb5 : RowKit.Below wr.heap.size wr w5 := (Below.refl _ _).drew.trans (hg5.mono (Nat.le_refl _)); have HG5 : Hid (RowKit.Below wr.heap.size wr w5) := hb5; clear hg5))
          go_wp2
          go_ret
          exact ⟨by rw [HE.out]; rfl, HBR.out.trans (HG5.out.mono HBR.out.size)⟩
        · go_wp2_with fail
          go_region_held3 (fun w' => w'.cell? ⟨w.heap.size, 5, none⟩ = some (.slice (some ⟨kb, ko, none⟩) ks.length kc) ∧ w'.cell? ⟨w.heap.size + 1, 5, none⟩ = some (.slice (some ⟨kb', ko', none⟩) ks'.length kc') ∧ w'.cell? ⟨kb, ko + j * 6, none⟩ = some (v0) ∧ w'.cell? ⟨kb, ko + j * 6 + 1, none⟩ = some (v1) ∧ w'.cell? ⟨kb, ko + j * 6 + 2, none⟩ = some (v2) ∧ w'.cell? ⟨kb, ko + j * 6 + 3, none⟩ = some (v3) ∧ w'.cell? ⟨kb, ko + j * 6 + 4, none⟩ = some (v4) ∧ w'.cell? ⟨kb, ko + j * 6 + 5, none⟩ = some (v5) ∧ w'.cell? ⟨kb', ko' + j * 6, none⟩ = some (u0) ∧ w'.cell? ⟨kb', ko' + j * 6 + 1, none⟩ = some (u1) ∧ w'.cell? ⟨kb', ko' + j * 6 + 2, none⟩ = some (u2) ∧ w'.cell? ⟨kb', ko' + j * 6 + 3, none⟩ = some (u3) ∧ w'.cell? ⟨kb', ko' + j * 6 + 4, none⟩ = some (u4) ∧ w'.cell? ⟨kb', ko' + j * 6 + 5, none⟩ = some (u5)) (first | exact HCEL.out _ (Below.refl _ _).drew | exact HCEL.out _ hb5)
            (first | (go_at_call 58; refine HC.mono ?_; rintro e w5 ⟨rfl, hg5⟩; have hb5 : RowKit.Below wr.heap.size wr w5 := (Below.refl _ _).drew.trans (hg5.mono (Nat.le_refl _)); have HG5 : Hid (RowKit.Below wr.heap.size wr w5) := hb5; clear hg5))
          go_wp2
          refine ⟨⟨j + 1, hlt, by go_num, HG.out.trans (HG5.out.mono HG.out.size), fun i a a' hi h1 h2 => ?_⟩, by simp [intOf]; omega⟩
          by_cases hij : i = j
          · subst hij
            have e1 := HQ1.out
            have e2 := HQ2.out
            rw [e1] at h1
            rw [e2] at h2
            injection h1 with h1
            injection h2 with h2
            rw [← h1, ← h2]; exact HD.out
          · exact HALL.out i a a' (by omega) h1 h2
      · have HE : Hid (R = true) := by unfold Hid; rw [HJ2.out]; exact sameTs_all HLN.out (fun i k k' h1 h2 => HALL.out i k k' (by have := (List.getElem?_eq_some_iff.1 h1).1; omega) h1 h2)
        go_wp2
        go_ret
        exact ⟨by rw [HE.out]; rfl, HBR.out⟩
  · have HJ2 : Hid (R = sameTs ks ks') := by unfold Hid; rw [HJ.out]; simp [fsameB, Tm.form]
    go_enter Try.func58, Try.ntmps58
    go_wp2
    rw [HW0.out]
    obtain ⟨W1, hW1⟩ : ∃ W1, W0 = W1 := ⟨_, rfl⟩
    have HXW := HX0
    have HYW := HY0
    have HGW := HG0
    rw [hW1] at HXW HYW HGW ⊢
    clear x0 x1 x2 x3 x4 x5 x6 y0 y1 y2 y3 y4 y5 y6
    go_loopw [9] (fun i wr => ∃ j : Nat, j ≤ ks.length ∧ i = .int .i64 j ∧ RowKit.Below W1.heap.size W1 wr ∧ (∀ (i : Nat) (k k' : Tm), i < j → ks[i]? = some k → ks'[i]? = some k' → sameT k k' = true)) (fun i _ => ks.length - (intOf i).toNat)
    case atStart => exact ⟨0, Nat.zero_le _, rfl, Below.refl _ _, fun i k k' h => absurd h (by omega)⟩
    case round =>
      obtain ⟨j, hj, rfl, hg, hall⟩ := hrel
      have HG := Hid.mk hg
      have HALL := Hid.mk hall
      clear hg hall
      obtain ⟨x0, x1, x2, x3, x4, x5, x6⟩ := cells6 ((HG.out.block w.heap.size (heap_lt HXW.out)).trans HXW.out)
      obtain ⟨y0, y1, y2, y3, y4, y5, y6⟩ := cells6 ((HG.out.block (w.heap.size + 1) (heap_lt HYW.out)).trans HYW.out)
      have HBR : Hid (RowKit.Below w.heap.size w wr) := HGW.out.trans (HG.out.mono HGW.out.size)
      by_cases hlt : j < ks.length
      · have hlt' : j < ks'.length := by rw [← HLN.out]; exact hlt
        obtain ⟨hka, hkb⟩ := HK.out (by intro e; rw [e] at hlt; simp at hlt)
        obtain ⟨hka', hkb'⟩ := HK'.out (by intro e; rw [e] at hlt'; simp at hlt')
        rw [hka] at x5
        rw [hka'] at y5
        have hkt : ks[j]? = some ks[j] := List.getElem?_eq_getElem hlt
        have hkt' : ks'[j]? = some ks'[j] := List.getElem?_eq_getElem hlt'
        have htc := (HKIDS.out j _ hkt).on HBR.out
        have htc' := (HKIDS'.out j _ hkt').on HBR.out
        obtain ⟨v0, v1, v2, v3, v4, v5, c0, c1, c2, c3, c4, c5, hv⟩ := htc.val
        obtain ⟨u0, u1, u2, u3, u4, u5, d0, d1, d2, d3, d4, d5, hu⟩ := htc'.val
        have HC := HIH.out ks[j] (List.getElem_mem hlt) ks'[j] _ _ wr.drew (HS4.out _ (List.getElem_mem hlt)) (HS4'.out _ (List.getElem_mem hlt')) (HFK.out _ (List.getElem_mem hlt)) (HFK'.out _ (List.getElem_mem hlt')) (hv.on (Below.refl _ _).drew) (hu.on (Below.refl _ _).drew)
        have HQ1 := Hid.mk hkt
        have HQ2 := Hid.mk hkt'
        have z1 : (j : Int) < (ks.length : Int) := by omega
        have z2 : (j : Int) < (ks'.length : Int) := by omega
        have hkr := htc.lt
        have hkr' := htc'.lt
        clear hkt hkt' htc htc' hv hu hka hka'
        generalize ks[j] = k at *
        generalize ks'[j] = k' at *
        obtain ⟨D, hD⟩ : ∃ D, sameT k k' = D := ⟨_, rfl⟩
        rw [hD] at HC
        have HD := Hid.mk hD
        clear hD
        have HCEL : Hid (∀ W : World, RowKit.Below wr.heap.size wr W → W.cell? ⟨w.heap.size, 5, none⟩ = some (.slice (some ⟨kb, ko, none⟩) ks.length kc) ∧ W.cell? ⟨w.heap.size + 1, 5, none⟩ = some (.slice (some ⟨kb', ko', none⟩) ks'.length kc') ∧ W.cell? ⟨kb, ko + j * 6, none⟩ = some (v0) ∧ W.cell? ⟨kb, ko + j * 6 + 1, none⟩ = some (v1) ∧ W.cell? ⟨kb, ko + j * 6 + 2, none⟩ = some (v2) ∧ W.cell? ⟨kb, ko + j * 6 + 3, none⟩ = some (v3) ∧ W.cell? ⟨kb, ko + j * 6 + 4, none⟩ = some (v4) ∧ W.cell? ⟨kb, ko + j * 6 + 5, none⟩ = some (v5) ∧ W.cell? ⟨kb', ko' + j * 6, none⟩ = some (u0) ∧ W.cell? ⟨kb', ko' + j * 6 + 1, none⟩ = some (u1) ∧ W.cell? ⟨kb', ko' + j * 6 + 2, none⟩ = some (u2) ∧ W.cell? ⟨kb', ko' + j * 6 + 3, none⟩ = some (u3) ∧ W.cell? ⟨kb', ko' + j * 6 + 4, none⟩ = some (u4) ∧ W.cell? ⟨kb', ko' + j * 6 + 5, none⟩ = some (u5)) := fun W h => ⟨(h.cell (p := ⟨w.heap.size, 5, none⟩) x6).trans x5, (h.cell (p := ⟨w.heap.size + 1, 5, none⟩) y6).trans y5, (h.cell (p := ⟨kb, ko + j * 6, none⟩) hkr).trans c0, (h.cell (p := ⟨kb, ko + j * 6 + 1, none⟩) hkr).trans c1, (h.cell (p := ⟨kb, ko + j * 6 + 2, none⟩) hkr).trans c2, (h.cell (p := ⟨kb, ko + j * 6 + 3, none⟩) hkr).trans c3, (h.cell (p := ⟨kb, ko + j * 6 + 4, none⟩) hkr).trans c4, (h.cell (p := ⟨kb, ko + j * 6 + 5, none⟩) hkr).trans c5, (h.cell (p := ⟨kb', ko' + j * 6, none⟩) hkr').trans d0, (h.cell (p := ⟨kb', ko' + j * 6 + 1, none⟩) hkr').trans d1, (h.cell (p := ⟨kb', ko' + j * 6 + 2, none⟩) hkr').trans d2, (h.cell (p := ⟨kb', ko' + j * 6 + 3, none⟩) hkr').trans d3, (h.cell (p := ⟨kb', ko' + j * 6 + 4, none⟩) hkr').trans d4, (h.cell (p := ⟨kb', ko' + j * 6 + 5, none⟩) hkr').trans d5⟩
        cases D
        · have HE : Hid (R = false) := by unfold Hid; rw [HJ2.out]; exact sameTs_at HQ1.out HQ2.out HD.out
          go_wp2_with fail
          go_region_held3 (fun w' => w'.cell? ⟨w.heap.size, 5, none⟩ = some (.slice (some ⟨kb, ko, none⟩) ks.length kc) ∧ w'.cell? ⟨w.heap.size + 1, 5, none⟩ = some (.slice (some ⟨kb', ko', none⟩) ks'.length kc') ∧ w'.cell? ⟨kb, ko + j * 6, none⟩ = some (v0) ∧ w'.cell? ⟨kb, ko + j * 6 + 1, none⟩ = some (v1) ∧ w'.cell? ⟨kb, ko + j * 6 + 2, none⟩ = some (v2) ∧ w'.cell? ⟨kb, ko + j * 6 + 3, none⟩ = some (v3) ∧ w'.cell? ⟨kb, ko + j * 6 + 4, none⟩ = some (v4) ∧ w'.cell? ⟨kb, ko + j * 6 + 5, none⟩ = some (v5) ∧ w'.cell? ⟨kb', ko' + j * 6, none⟩ = some (u0) ∧ w'.cell? ⟨kb', ko' + j * 6 + 1, none⟩ = some (u1) ∧ w'.cell? ⟨kb', ko' + j * 6 + 2, none⟩ = some (u2) ∧ w'.cell? ⟨kb', ko' + j * 6 + 3, none⟩ = some (u3) ∧ w'.cell? ⟨kb', ko' + j * 6 + 4, none⟩ = some (u4) ∧ w'.cell? ⟨kb', ko' + j * 6 + 5, none⟩ = some (u5)) (first | exact HCEL.out _ (Below.refl _ _).drew | exact HCEL.out _ hb5)
            (first | (go_at_call 58; refine HC.mono ?_; rintro e w5 ⟨rfl, hg5⟩; have hb5 : RowKit.Below wr.heap.size wr w5 := (Below.refl _ _).drew.trans (hg5.mono (Nat.le_refl _)); have HG5 : Hid (RowKit.Below wr.heap.size wr w5) := hb5; clear hg5))
          go_wp2
          go_ret
          exact ⟨by rw [HE.out]; rfl, HBR.out.trans (HG5.out.mono HBR.out.size)⟩
        · go_wp2_with fail
          go_region_held3 (fun w' => w'.cell? ⟨w.heap.size, 5, none⟩ = some (.slice (some ⟨kb, ko, none⟩) ks.length kc) ∧ w'.cell? ⟨w.heap.size + 1, 5, none⟩ = some (.slice (some ⟨kb', ko', none⟩) ks'.length kc') ∧ w'.cell? ⟨kb, ko + j * 6, none⟩ = some (v0) ∧ w'.cell? ⟨kb, ko + j * 6 + 1, none⟩ = some (v1) ∧ w'.cell? ⟨kb, ko + j * 6 + 2, none⟩ = some (v2) ∧ w'.cell? ⟨kb, ko + j * 6 + 3, none⟩ = some (v3) ∧ w'.cell? ⟨kb, ko + j * 6 + 4, none⟩ = some (v4) ∧ w'.cell? ⟨kb, ko + j * 6 + 5, none⟩ = some (v5) ∧ w'.cell? ⟨kb', ko' + j * 6, none⟩ = some (u0) ∧ w'.cell? ⟨kb', ko' + j * 6 + 1, none⟩ = some (u1) ∧ w'.cell? ⟨kb', ko' + j * 6 + 2, none⟩ = some (u2) ∧ w'.cell? ⟨kb', ko' + j * 6 + 3, none⟩ = some (u3) ∧ w'.cell? ⟨kb', ko' + j * 6 + 4, none⟩ = some (u4) ∧ w'.cell? ⟨kb', ko' + j * 6 + 5, none⟩ = some (u5)) (first | exact HCEL.out _ (Below.refl _ _).drew | exact HCEL.out _ hb5)
            (first | (go_at_call 58; refine HC.mono ?_; rintro e w5 ⟨rfl, hg5⟩; have hb5 : RowKit.Below wr.heap.size wr w5 := (Below.refl _ _).drew.trans (hg5.mono (Nat.le_refl _)); have HG5 : Hid (RowKit.Below wr.heap.size wr w5) := hb5; clear hg5))
          go_wp2
          refine ⟨⟨j + 1, hlt, by go_num, HG.out.trans (HG5.out.mono HG.out.size), fun i a a' hi h1 h2 => ?_⟩, by simp [intOf]; omega⟩
          by_cases hij : i = j
          · subst hij
            have e1 := HQ1.out
            have e2 := HQ2.out
            rw [e1] at h1
            rw [e2] at h2
            injection h1 with h1
            injection h2 with h2
            rw [← h1, ← h2]; exact HD.out
          · exact HALL.out i a a' (by omega) h1 h2
      · have HE : Hid (R = true) := by unfold Hid; rw [HJ2.out]; exact sameTs_all HLN.out (fun i k k' h1 h2 => HALL.out i k k' (by have := (List.getElem?_eq_some_iff.1 h1).1; omega) h1 h2)
        go_wp2
        go_ret
        exact ⟨by rw [HE.out]; rfl, HBR.out⟩
  · have HJ2 : Hid (R = sameTs ks ks') := by unfold Hid; rw [HJ.out]; simp [fsameB, Tm.form]
    go_enter Try.func58, Try.ntmps58
    go_wp2
    rw [HW0.out]
    obtain ⟨W1, hW1⟩ : ∃ W1, W0 = W1 := ⟨_, rfl⟩
    have HXW := HX0
    have HYW := HY0
    have HGW := HG0
    rw [hW1] at HXW HYW HGW ⊢
    clear x0 x1 x2 x3 x4 x5 x6 y0 y1 y2 y3 y4 y5 y6
    go_loopw [9] (fun i wr => ∃ j : Nat, j ≤ ks.length ∧ i = .int .i64 j ∧ RowKit.Below W1.heap.size W1 wr ∧ (∀ (i : Nat) (k k' : Tm), i < j → ks[i]? = some k → ks'[i]? = some k' → sameT k k' = true)) (fun i _ => ks.length - (intOf i).toNat)
    case atStart => exact ⟨0, Nat.zero_le _, rfl, Below.refl _ _, fun i k k' h => absurd h (by omega)⟩
    case round =>
      obtain ⟨j, hj, rfl, hg, hall⟩ := hrel
      have HG := Hid.mk hg
      have HALL := Hid.mk hall
      clear hg hall
      obtain ⟨x0, x1, x2, x3, x4, x5, x6⟩ := cells6 ((HG.out.block w.heap.size (heap_lt HXW.out)).trans HXW.out)
      obtain ⟨y0, y1, y2, y3, y4, y5, y6⟩ := cells6 ((HG.out.block (w.heap.size + 1) (heap_lt HYW.out)).trans HYW.out)
      have HBR : Hid (RowKit.Below w.heap.size w wr) := HGW.out.trans (HG.out.mono HGW.out.size)
      by_cases hlt : j < ks.length
      · have hlt' : j < ks'.length := by rw [← HLN.out]; exact hlt
        obtain ⟨hka, hkb⟩ := HK.out (by intro e; rw [e] at hlt; simp at hlt)
        obtain ⟨hka', hkb'⟩ := HK'.out (by intro e; rw [e] at hlt'; simp at hlt')
        rw [hka] at x5
        rw [hka'] at y5
        have hkt : ks[j]? = some ks[j] := List.getElem?_eq_getElem hlt
        have hkt' : ks'[j]? = some ks'[j] := List.getElem?_eq_getElem hlt'
        have htc := (HKIDS.out j _ hkt).on HBR.out
        have htc' := (HKIDS'.out j _ hkt').on HBR.out
        obtain ⟨v0, v1, v2, v3, v4, v5, c0, c1, c2, c3, c4, c5, hv⟩ := htc.val
        obtain ⟨u0, u1, u2, u3, u4, u5, d0, d1, d2, d3, d4, d5, hu⟩ := htc'.val
        have HC := HIH.out ks[j] (List.getElem_mem hlt) ks'[j] _ _ wr.drew (HS4.out _ (List.getElem_mem hlt)) (HS4'.out _ (List.getElem_mem hlt')) (HFK.out _ (List.getElem_mem hlt)) (HFK'.out _ (List.getElem_mem hlt')) (hv.on (Below.refl _ _).drew) (hu.on (Below.refl _ _).drew)
        have HQ1 := Hid.mk hkt
        have HQ2 := Hid.mk hkt'
        have z1 : (j : Int) < (ks.length : Int) := by omega
        have z2 : (j : Int) < (ks'.length : Int) := by omega
        have hkr := htc.lt
        have hkr' := htc'.lt
        clear hkt hkt' htc htc' hv hu hka hka'
        generalize ks[j] = k at *
        generalize ks'[j] = k' at *
        obtain ⟨D, hD⟩ : ∃ D, sameT k k' = D := ⟨_, rfl⟩
        rw [hD] at HC
        have HD := Hid.mk hD
        clear hD
        have HCEL : Hid (∀ W : World, RowKit.Below wr.heap.size wr W → W.cell? ⟨w.heap.size, 5, none⟩ = some (.slice (some ⟨kb, ko, none⟩) ks.length kc) ∧ W.cell? ⟨w.heap.size + 1, 5, none⟩ = some (.slice (some ⟨kb', ko', none⟩) ks'.length kc') ∧ W.cell? ⟨kb, ko + j * 6, none⟩ = some (v0) ∧ W.cell? ⟨kb, ko + j * 6 + 1, none⟩ = some (v1) ∧ W.cell? ⟨kb, ko + j * 6 + 2, none⟩ = some (v2) ∧ W.cell? ⟨kb, ko + j * 6 + 3, none⟩ = some (v3) ∧ W.cell? ⟨kb, ko + j * 6 + 4, none⟩ = some (v4) ∧ W.cell? ⟨kb, ko + j * 6 + 5, none⟩ = some (v5) ∧ W.cell? ⟨kb', ko' + j * 6, none⟩ = some (u0) ∧ W.cell? ⟨kb', ko' + j * 6 + 1, none⟩ = some (u1) ∧ W.cell? ⟨kb', ko' + j * 6 + 2, none⟩ = some (u2) ∧ W.cell? ⟨kb', ko' + j * 6 + 3, none⟩ = some (u3) ∧ W.cell? ⟨kb', ko' + j * 6 + 4, none⟩ = some (u4) ∧ W.cell? ⟨kb', ko' + j * 6 + 5, none⟩ = some (u5)) := fun W h => ⟨(h.cell (p := ⟨w.heap.size, 5, none⟩) x6).trans x5, (h.cell (p := ⟨w.heap.size + 1, 5, none⟩) y6).trans y5, (h.cell (p := ⟨kb, ko + j * 6, none⟩) hkr).trans c0, (h.cell (p := ⟨kb, ko + j * 6 + 1, none⟩) hkr).trans c1, (h.cell (p := ⟨kb, ko + j * 6 + 2, none⟩) hkr).trans c2, (h.cell (p := ⟨kb, ko + j * 6 + 3, none⟩) hkr).trans c3, (h.cell (p := ⟨kb, ko + j * 6 + 4, none⟩) hkr).trans c4, (h.cell (p := ⟨kb, ko + j * 6 + 5, none⟩) hkr).trans c5, (h.cell (p := ⟨kb', ko' + j * 6, none⟩) hkr').trans d0, (h.cell (p := ⟨kb', ko' + j * 6 + 1, none⟩) hkr').trans d1, (h.cell (p := ⟨kb', ko' + j * 6 + 2, none⟩) hkr').trans d2, (h.cell (p := ⟨kb', ko' + j * 6 + 3, none⟩) hkr').trans d3, (h.cell (p := ⟨kb', ko' + j * 6 + 4, none⟩) hkr').trans d4, (h.cell (p := ⟨kb', ko' + j * 6 + 5, none⟩) hkr').trans d5⟩
        cases D
        · have HE : Hid (R = false) := by unfold Hid; rw [HJ2.out]; exact sameTs_at HQ1.out HQ2.out HD.out
          go_wp2_with fail
          go_region_held3 (fun w' => w'.cell? ⟨w.heap.size, 5, none⟩ = some (.slice (some ⟨kb, ko, none⟩) ks.length kc) ∧ w'.cell? ⟨w.heap.size + 1, 5, none⟩ = some (.slice (some ⟨kb', ko', none⟩) ks'.length kc') ∧ w'.cell? ⟨kb, ko + j * 6, none⟩ = some (v0) ∧ w'.cell? ⟨kb, ko + j * 6 + 1, none⟩ = some (v1) ∧ w'.cell? ⟨kb, ko + j * 6 + 2, none⟩ = some (v2) ∧ w'.cell? ⟨kb, ko + j * 6 + 3, none⟩ = some (v3) ∧ w'.cell? ⟨kb, ko + j * 6 + 4, none⟩ = some (v4) ∧ w'.cell? ⟨kb, ko + j * 6 + 5, none⟩ = some (v5) ∧ w'.cell? ⟨kb', ko' + j * 6, none⟩ = some (u0) ∧ w'.cell? ⟨kb', ko' + j * 6 + 1, none⟩ = some (u1) ∧ w'.cell? ⟨kb', ko' + j * 6 + 2, none⟩ = some (u2) ∧ w'.cell? ⟨kb', ko' + j * 6 + 3, none⟩ = some (u3) ∧ w'.cell? ⟨kb', ko' + j * 6 + 4, none⟩ = some (u4) ∧ w'.cell? ⟨kb', ko' + j * 6 + 5, none⟩ = some (u5)) (first | exact HCEL.out _ (Below.refl _ _).drew | exact HCEL.out _ hb5)
            (first | (go_at_call 58; refine HC.mono ?_; rintro e w5 ⟨rfl, hg5⟩; have hb5 : RowKit.Below wr.heap.size wr w5 := (Below.refl _ _).drew.trans (hg5.mono (Nat.le_refl _)); have HG5 : Hid (RowKit.Below wr.heap.size wr w5) := hb5; clear hg5))
          go_wp2
          go_ret
          exact ⟨by rw [HE.out]; rfl, HBR.out.trans (HG5.out.mono HBR.out.size)⟩
        · go_wp2_with fail
          go_region_held3 (fun w' => w'.cell? ⟨w.heap.size, 5, none⟩ = some (.slice (some ⟨kb, ko, none⟩) ks.length kc) ∧ w'.cell? ⟨w.heap.size + 1, 5, none⟩ = some (.slice (some ⟨kb', ko', none⟩) ks'.length kc') ∧ w'.cell? ⟨kb, ko + j * 6, none⟩ = some (v0) ∧ w'.cell? ⟨kb, ko + j * 6 + 1, none⟩ = some (v1) ∧ w'.cell? ⟨kb, ko + j * 6 + 2, none⟩ = some (v2) ∧ w'.cell? ⟨kb, ko + j * 6 + 3, none⟩ = some (v3) ∧ w'.cell? ⟨kb, ko + j * 6 + 4, none⟩ = some (v4) ∧ w'.cell? ⟨kb, ko + j * 6 + 5, none⟩ = some (v5) ∧ w'.cell? ⟨kb', ko' + j * 6, none⟩ = some (u0) ∧ w'.cell? ⟨kb', ko' + j * 6 + 1, none⟩ = some (u1) ∧ w'.cell? ⟨kb', ko' + j * 6 + 2, none⟩ = some (u2) ∧ w'.cell? ⟨kb', ko' + j * 6 + 3, none⟩ = some (u3) ∧ w'.cell? ⟨kb', ko' + j * 6 + 4, none⟩ = some (u4) ∧ w'.cell? ⟨kb', ko' + j * 6 + 5, none⟩ = some (u5)) (first | exact HCEL.out _ (Below.refl _ _).drew | exact HCEL.out _ hb5)
            (first | (go_at_call 58; refine HC.mono ?_; rintro e w5 ⟨rfl, hg5⟩; have hb5 : RowKit.Below wr.heap.size wr w5 := (Below.refl _ _).drew.trans (hg5.mono (Nat.le_refl _)); have HG5 : Hid (RowKit.Below wr.heap.size wr w5) := hb5; clear hg5))
          go_wp2
          refine ⟨⟨j + 1, hlt, by go_num, HG.out.trans (HG5.out.mono HG.out.size), fun i a a' hi h1 h2 => ?_⟩, by simp [intOf]; omega⟩
          by_cases hij : i = j
          · subst hij
            have e1 := HQ1.out
            have e2 := HQ2.out
            rw [e1] at h1
            rw [e2] at h2
            injection h1 with h1
            injection h2 with h2
            rw [← h1, ← h2]; exact HD.out
          · exact HALL.out i a a' (by omega) h1 h2
      · have HE : Hid (R = true) := by unfold Hid; rw [HJ2.out]; exact sameTs_all HLN.out (fun i k k' h1 h2 => HALL.out i k k' (by have := (List.getElem?_eq_some_iff.1 h1).1; omega) h1 h2)
        go_wp2
        go_ret
        exact ⟨by rw [HE.out]; rfl, HBR.out⟩
  · have HJ2 : Hid (R = sameTs ks ks') := by unfold Hid; rw [HJ.out]; simp [fsameB, Tm.form]
    go_enter Try.func58, Try.ntmps58
    go_wp2
    rw [HW0.out]
    obtain ⟨W1, hW1⟩ : ∃ W1, W0 = W1 := ⟨_, rfl⟩
    have HXW := HX0
    have HYW := HY0
    have HGW := HG0
    rw [hW1] at HXW HYW HGW ⊢
    clear x0 x1 x2 x3 x4 x5 x6 y0 y1 y2 y3 y4 y5 y6
    go_loopw [9] (fun i wr => ∃ j : Nat, j ≤ ks.length ∧ i = .int .i64 j ∧ RowKit.Below W1.heap.size W1 wr ∧ (∀ (i : Nat) (k k' : Tm), i < j → ks[i]? = some k → ks'[i]? = some k' → sameT k k' = true)) (fun i _ => ks.length - (intOf i).toNat)
    case atStart => exact ⟨0, Nat.zero_le _, rfl, Below.refl _ _, fun i k k' h => absurd h (by omega)⟩
    case round =>
      obtain ⟨j, hj, rfl, hg, hall⟩ := hrel
      have HG := Hid.mk hg
      have HALL := Hid.mk hall
      clear hg hall
      obtain ⟨x0, x1, x2, x3, x4, x5, x6⟩ := cells6 ((HG.out.block w.heap.size (heap_lt HXW.out)).trans HXW.out)
      obtain ⟨y0, y1, y2, y3, y4, y5, y6⟩ := cells6 ((HG.out.block (w.heap.size + 1) (heap_lt HYW.out)).trans HYW.out)
      have HBR : Hid (RowKit.Below w.heap.size w wr) := HGW.out.trans (HG.out.mono HGW.out.size)
      by_cases hlt : j < ks.length
      · have hlt' : j < ks'.length := by rw [← HLN.out]; exact hlt
        obtain ⟨hka, hkb⟩ := HK.out (by intro e; rw [e] at hlt; simp at hlt)
        obtain ⟨hka', hkb'⟩ := HK'.out (by intro e; rw [e] at hlt'; simp at hlt')
        rw [hka] at x5
        rw [hka'] at y5
        have hkt : ks[j]? = some ks[j] := List.getElem?_eq_getElem hlt
        have hkt' : ks'[j]? = some ks'[j] := List.getElem?_eq_getElem hlt'
        have htc := (HKIDS.out j _ hkt).on HBR.out
        have htc' := (HKIDS'.out j _ hkt').on HBR.out
        obtain ⟨v0, v1, v2, v3, v4, v5, c0, c1, c2, c3, c4, c5, hv⟩ := htc.val
        obtain ⟨u0, u1, u2, u3, u4, u5, d0, d1, d2, d3, d4, d5, hu⟩ := htc'.val
        have HC := HIH.out ks[j] (List.getElem_mem hlt) ks'[j] _ _ wr.drew (HS4.out _ (List.getElem_mem hlt)) (HS4'.out _ (List.getElem_mem hlt')) (HFK.out _ (List.getElem_mem hlt)) (HFK'.out _ (List.getElem_mem hlt')) (hv.on (Below.refl _ _).drew) (hu.on (Below.refl _ _).drew)
        have HQ1 := Hid.mk hkt
        have HQ2 := Hid.mk hkt'
        have z1 : (j : Int) < (ks.length : Int) := by omega
        have z2 : (j : Int) < (ks'.length : Int) := by omega
        have hkr := htc.lt
        have hkr' := htc'.lt
        clear hkt hkt' htc htc' hv hu hka hka'
        generalize ks[j] = k at *
        generalize ks'[j] = k' at *
        obtain ⟨D, hD⟩ : ∃ D, sameT k k' = D := ⟨_, rfl⟩
        rw [hD] at HC
        have HD := Hid.mk hD
        clear hD
        have HCEL : Hid (∀ W : World, RowKit.Below wr.heap.size wr W → W.cell? ⟨w.heap.size, 5, none⟩ = some (.slice (some ⟨kb, ko, none⟩) ks.length kc) ∧ W.cell? ⟨w.heap.size + 1, 5, none⟩ = some (.slice (some ⟨kb', ko', none⟩) ks'.length kc') ∧ W.cell? ⟨kb, ko + j * 6, none⟩ = some (v0) ∧ W.cell? ⟨kb, ko + j * 6 + 1, none⟩ = some (v1) ∧ W.cell? ⟨kb, ko + j * 6 + 2, none⟩ = some (v2) ∧ W.cell? ⟨kb, ko + j * 6 + 3, none⟩ = some (v3) ∧ W.cell? ⟨kb, ko + j * 6 + 4, none⟩ = some (v4) ∧ W.cell? ⟨kb, ko + j * 6 + 5, none⟩ = some (v5) ∧ W.cell? ⟨kb', ko' + j * 6, none⟩ = some (u0) ∧ W.cell? ⟨kb', ko' + j * 6 + 1, none⟩ = some (u1) ∧ W.cell? ⟨kb', ko' + j * 6 + 2, none⟩ = some (u2) ∧ W.cell? ⟨kb', ko' + j * 6 + 3, none⟩ = some (u3) ∧ W.cell? ⟨kb', ko' + j * 6 + 4, none⟩ = some (u4) ∧ W.cell? ⟨kb', ko' + j * 6 + 5, none⟩ = some (u5)) := fun W h => ⟨(h.cell (p := ⟨w.heap.size, 5, none⟩) x6).trans x5, (h.cell (p := ⟨w.heap.size + 1, 5, none⟩) y6).trans y5, (h.cell (p := ⟨kb, ko + j * 6, none⟩) hkr).trans c0, (h.cell (p := ⟨kb, ko + j * 6 + 1, none⟩) hkr).trans c1, (h.cell (p := ⟨kb, ko + j * 6 + 2, none⟩) hkr).trans c2, (h.cell (p := ⟨kb, ko + j * 6 + 3, none⟩) hkr).trans c3, (h.cell (p := ⟨kb, ko + j * 6 + 4, none⟩) hkr).trans c4, (h.cell (p := ⟨kb, ko + j * 6 + 5, none⟩) hkr).trans c5, (h.cell (p := ⟨kb', ko' + j * 6, none⟩) hkr').trans d0, (h.cell (p := ⟨kb', ko' + j * 6 + 1, none⟩) hkr').trans d1, (h.cell (p := ⟨kb', ko' + j * 6 + 2, none⟩) hkr').trans d2, (h.cell (p := ⟨kb', ko' + j * 6 + 3, none⟩) hkr').trans d3, (h.cell (p := ⟨kb', ko' + j * 6 + 4, none⟩) hkr').trans d4, (h.cell (p := ⟨kb', ko' + j * 6 + 5, none⟩) hkr').trans d5⟩
        cases D
        · have HE : Hid (R = false) := by unfold Hid; rw [HJ2.out]; exact sameTs_at HQ1.out HQ2.out HD.out
          go_wp2_with fail
          go_region_held3 (fun w' => w'.cell? ⟨w.heap.size, 5, none⟩ = some (.slice (some ⟨kb, ko, none⟩) ks.length kc) ∧ w'.cell? ⟨w.heap.size + 1, 5, none⟩ = some (.slice (some ⟨kb', ko', none⟩) ks'.length kc') ∧ w'.cell? ⟨kb, ko + j * 6, none⟩ = some (v0) ∧ w'.cell? ⟨kb, ko + j * 6 + 1, none⟩ = some (v1) ∧ w'.cell? ⟨kb, ko + j * 6 + 2, none⟩ = some (v2) ∧ w'.cell? ⟨kb, ko + j * 6 + 3, none⟩ = some (v3) ∧ w'.cell? ⟨kb, ko + j * 6 + 4, none⟩ = some (v4) ∧ w'.cell? ⟨kb, ko + j * 6 + 5, none⟩ = some (v5) ∧ w'.cell? ⟨kb', ko' + j * 6, none⟩ = some (u0) ∧ w'.cell? ⟨kb', ko' + j * 6 + 1, none⟩ = some (u1) ∧ w'.cell? ⟨kb', ko' + j * 6 + 2, none⟩ = some (u2) ∧ w'.cell? ⟨kb', ko' + j * 6 + 3, none⟩ = some (u3) ∧ w'.cell? ⟨kb', ko' + j * 6 + 4, none⟩ = some (u4) ∧ w'.cell? ⟨kb', ko' + j * 6 + 5, none⟩ = some (u5)) (first | exact HCEL.out _ (Below.refl _ _).drew | exact HCEL.out _ hb5)
            (first | (go_at_call 58; refine HC.mono ?_; rintro e w5 ⟨rfl, hg5⟩; have hb5 : RowKit.Below wr.heap.size wr w5 := (Below.refl _ _).drew.trans (hg5.mono (Nat.le_refl _)); have HG5 : Hid (RowKit.Below wr.heap.size wr w5) := hb5; clear hg5))
          go_wp2
          go_ret
          exact ⟨by rw [HE.out]; rfl, HBR.out.trans (HG5.out.mono HBR.out.size)⟩
        · go_wp2_with fail
          go_region_held3 (fun w' => w'.cell? ⟨w.heap.size, 5, none⟩ = some (.slice (some ⟨kb, ko, none⟩) ks.length kc) ∧ w'.cell? ⟨w.heap.size + 1, 5, none⟩ = some (.slice (some ⟨kb', ko', none⟩) ks'.length kc') ∧ w'.cell? ⟨kb, ko + j * 6, none⟩ = some (v0) ∧ w'.cell? ⟨kb, ko + j * 6 + 1, none⟩ = some (v1) ∧ w'.cell? ⟨kb, ko + j * 6 + 2, none⟩ = some (v2) ∧ w'.cell? ⟨kb, ko + j * 6 + 3, none⟩ = some (v3) ∧ w'.cell? ⟨kb, ko + j * 6 + 4, none⟩ = some (v4) ∧ w'.cell? ⟨kb, ko + j * 6 + 5, none⟩ = some (v5) ∧ w'.cell? ⟨kb', ko' + j * 6, none⟩ = some (u0) ∧ w'.cell? ⟨kb', ko' + j * 6 + 1, none⟩ = some (u1) ∧ w'.cell? ⟨kb', ko' + j * 6 + 2, none⟩ = some (u2) ∧ w'.cell? ⟨kb', ko' + j * 6 + 3, none⟩ = some (u3) ∧ w'.cell? ⟨kb', ko' + j * 6 + 4, none⟩ = some (u4) ∧ w'.cell? ⟨kb', ko' + j * 6 + 5, none⟩ = some (u5)) (first | exact HCEL.out _ (Below.refl _ _).drew | exact HCEL.out _ hb5)
            (first | (go_at_call 58; refine HC.mono ?_; rintro e w5 ⟨rfl, hg5⟩; have hb5 : RowKit.Below wr.heap.size wr w5 := (Below.refl _ _).drew.trans (hg5.mono (Nat.le_refl _)); have HG5 : Hid (RowKit.Below wr.heap.size wr w5) := hb5; clear hg5))
          go_wp2
          refine ⟨⟨j + 1, hlt, by go_num, HG.out.trans (HG5.out.mono HG.out.size), fun i a a' hi h1 h2 => ?_⟩, by simp [intOf]; omega⟩
          by_cases hij : i = j
          · subst hij
            have e1 := HQ1.out
            have e2 := HQ2.out
            rw [e1] at h1
            rw [e2] at h2
            injection h1 with h1
            injection h2 with h2
            rw [← h1, ← h2]; exact HD.out
          · exact HALL.out i a a' (by omega) h1 h2
      · have HE : Hid (R = true) := by unfold Hid; rw [HJ2.out]; exact sameTs_all HLN.out (fun i k k' h1 h2 => HALL.out i k k' (by have := (List.getElem?_eq_some_iff.1 h1).1; omega) h1 h2)
        go_wp2
        go_ret
        exact ⟨by rw [HE.out]; rfl, HBR.out⟩
  · have HCA : Hid (∀ l ∈ ls, canonB l = true) := HCN.out (by omega)
    have HCA' : Hid (∀ l ∈ ls', canonB l = true) := HCN'.out (by omega)
    by_cases hc : nm.toList = nm'.toList
    rotate_left
    · have HR : Hid (R = false) := by unfold Hid; rw [HJ.out]; simp [fsameB, Tm.form, Tm.name, hc]
      have hcb : (nm.toList == nm'.toList) = false := by simpa using hc
      have hcn : (nm.toList != nm'.toList) = true := by simpa using hc
      clear hc
      go_enter Try.func58, Try.ntmps58
      go_wp2
      go_ret
      exact ⟨by rw [HR.out]; rfl, by have := HG0.out; rwa [← HW0.out] at this⟩
    have hcb : (nm.toList == nm'.toList) = true := by simpa using hc
    have hcn : (nm.toList != nm'.toList) = false := by simp [hc]
    have HDEC : Hid (R = (decide (ls = ls') && sameTs ks ks')) := by unfold Hid; rw [HJ.out]; simp [fsameB, Tm.form, Tm.levels, Tm.name, hc]; congr 1
    clear hc
    by_cases hll : ls.length = ls'.length
    rotate_left
    · have HR : Hid (R = false) := by unfold Hid; rw [HDEC.out, lvs_len hll]; rfl
      have hlb : ((ls.length : Int) != (ls'.length : Int)) = true := by simp; omega
      clear hll
      go_enter Try.func58, Try.ntmps58
      go_wp2
      go_ret
      exact ⟨by rw [HR.out]; rfl, by have := HG0.out; rwa [← HW0.out] at this⟩
    have hlb : ((ls.length : Int) != (ls'.length : Int)) = false := by simp [hll]
    have HLL := Hid.mk hll
    clear hll
    go_enter Try.func58, Try.ntmps58
    go_wp2
    rw [HW0.out]
    obtain ⟨W1, hW1⟩ : ∃ W1, W0 = W1 := ⟨_, rfl⟩
    have HXW := HX0
    have HYW := HY0
    have HGW := HG0
    rw [hW1] at HXW HYW HGW ⊢
    clear x0 x1 x2 x3 x4 x5 x6 y0 y1 y2 y3 y4 y5 y6
    go_loopw [7] (fun i wr => ∃ j : Nat, j ≤ ls.length ∧ i = .int .i64 j ∧ RowKit.Below W1.heap.size W1 wr ∧ ls.take j = ls'.take j) (fun i _ => ls.length - (intOf i).toNat)
    case atStart => exact ⟨0, Nat.zero_le _, rfl, Below.refl _ _, rfl⟩
    case round =>
      obtain ⟨j, hj, rfl, hg, htk⟩ := hrel
      have HG := Hid.mk hg
      have HT := Hid.mk htk
      clear hg htk
      obtain ⟨x0, x1, x2, x3, x4, x5, x6⟩ := cells6 ((HG.out.block w.heap.size (heap_lt HXW.out)).trans HXW.out)
      obtain ⟨y0, y1, y2, y3, y4, y5, y6⟩ := cells6 ((HG.out.block (w.heap.size + 1) (heap_lt HYW.out)).trans HYW.out)
      have HBR : Hid (RowKit.Below w.heap.size w wr) := HGW.out.trans (HG.out.mono HGW.out.size)
      by_cases hlt : j < ls.length
      · have hlt' : j < ls'.length := by rw [← HLL.out]; exact hlt
        obtain ⟨b, off, a1, cap1, hla, hbl, c0, c1, hs1⟩ := (HL.out.below HBR.out).at hlt
        obtain ⟨b', off', a2, cap2, hla', hbl', d0, d1, hs2⟩ := (HL'.out.below HBR.out).at hlt'
        rw [hla] at x4
        rw [hla'] at y4
        have hln1 := HS2.out ls[j] (List.getElem_mem hlt)
        have hln2 := HS2'.out ls'[j] (List.getElem_mem hlt')
        have HC := rSameB_any ls[j].1 ls'[j].1 ls[j].2 ls'[j].2 a1 a2 cap1 cap2 wr.drew (hs1.below (Below.refl _ _).drew) (hs2.below (Below.refl _ _).drew) (by omega) (by omega)
        rw [canon_same (HCA.out _ (List.getElem_mem hlt)) (HCA'.out _ (List.getElem_mem hlt'))] at HC
        have HQ1 : Hid (ls[j]? = some ls[j]) := List.getElem?_eq_getElem hlt
        have HQ2 : Hid (ls'[j]? = some ls'[j]) := List.getElem?_eq_getElem hlt'
        have z1 : (j : Int) < (ls.length : Int) := by omega
        have z2 : (j : Int) < (ls'.length : Int) := by omega
        clear hs1 hs2 hln1 hln2 hla hla'
        generalize ls[j] = p at *
        generalize ls'[j] = q at *
        have HCEL : Hid (∀ W : World, RowKit.Below wr.heap.size wr W → W.cell? ⟨w.heap.size, 4, none⟩ = some (.slice (some ⟨b, off, none⟩) ls.length lc) ∧ W.cell? ⟨w.heap.size + 1, 4, none⟩ = some (.slice (some ⟨b', off', none⟩) ls'.length lc') ∧ W.cell? ⟨b, off + j * 2, none⟩ = some (.int .i64 p.1) ∧ W.cell? ⟨b, off + j * 2 + 1, none⟩ = some (.slice a1 p.2.length cap1) ∧ W.cell? ⟨b', off' + j * 2, none⟩ = some (.int .i64 q.1) ∧ W.cell? ⟨b', off' + j * 2 + 1, none⟩ = some (.slice a2 q.2.length cap2)) := fun W h => ⟨(h.cell (p := ⟨w.heap.size, 4, none⟩) x6).trans x4, (h.cell (p := ⟨w.heap.size + 1, 4, none⟩) y6).trans y4, (h.cell (p := ⟨b, off + j * 2, none⟩) hbl).trans c0, (h.cell (p := ⟨b, off + j * 2 + 1, none⟩) hbl).trans c1, (h.cell (p := ⟨b', off' + j * 2, none⟩) hbl').trans d0, (h.cell (p := ⟨b', off' + j * 2 + 1, none⟩) hbl').trans d1⟩
        by_cases he : p = q
        · have HE := Hid.mk he
          rw [show decide (p = q) = true by simpa using he] at HC
          clear he
          go_wp2_with fail
          go_region_held3 (fun w' => w'.cell? ⟨w.heap.size, 4, none⟩ = some (.slice (some ⟨b, off, none⟩) ls.length lc) ∧ w'.cell? ⟨w.heap.size + 1, 4, none⟩ = some (.slice (some ⟨b', off', none⟩) ls'.length lc') ∧ w'.cell? ⟨b, off + j * 2, none⟩ = some (.int .i64 p.1) ∧ w'.cell? ⟨b, off + j * 2 + 1, none⟩ = some (.slice a1 p.2.length cap1) ∧ w'.cell? ⟨b', off' + j * 2, none⟩ = some (.int .i64 q.1) ∧ w'.cell? ⟨b', off' + j * 2 + 1, none⟩ = some (.slice a2 q.2.length cap2)) (first | exact HCEL.out _ (Below.refl _ _).drew | exact HCEL.out _ hb5)
            (first | (go_at_call 73; refine HC.mono ?_; rintro e w5 ⟨rfl, hg5⟩; have hb5 : RowKit.Below wr.heap.size wr w5 := (Below.refl _ _).drew.trans (hg5.mono (Nat.le_refl _)); have HG5 : Hid (RowKit.Below wr.heap.size wr w5) := hb5; clear hg5))
          go_wp2
          refine ⟨⟨j + 1, hlt, by go_num, HG.out.trans (HG5.out.mono HG.out.size), lvs_take HQ1.out (by rw [HE.out]; exact HQ2.out) HT.out⟩, by simp [intOf]; omega⟩
        · have HE : Hid (R = false) := by unfold Hid; rw [HDEC.out, lvs_at HQ1.out HQ2.out he]; rfl
          rw [show decide (p = q) = false by simpa using he] at HC
          clear he
          go_wp2_with fail
          go_region_held3 (fun w' => w'.cell? ⟨w.heap.size, 4, none⟩ = some (.slice (some ⟨b, off, none⟩) ls.length lc) ∧ w'.cell? ⟨w.heap.size + 1, 4, none⟩ = some (.slice (some ⟨b', off', none⟩) ls'.length lc') ∧ w'.cell? ⟨b, off + j * 2, none⟩ = some (.int .i64 p.1) ∧ w'.cell? ⟨b, off + j * 2 + 1, none⟩ = some (.slice a1 p.2.length cap1) ∧ w'.cell? ⟨b', off' + j * 2, none⟩ = some (.int .i64 q.1) ∧ w'.cell? ⟨b', off' + j * 2 + 1, none⟩ = some (.slice a2 q.2.length cap2)) (first | exact HCEL.out _ (Below.refl _ _).drew | exact HCEL.out _ hb5)
            (first | (go_at_call 73; refine HC.mono ?_; rintro e w5 ⟨rfl, hg5⟩; have hb5 : RowKit.Below wr.heap.size wr w5 := (Below.refl _ _).drew.trans (hg5.mono (Nat.le_refl _)); have HG5 : Hid (RowKit.Below wr.heap.size wr w5) := hb5; clear hg5))
          go_wp2
          go_ret
          exact ⟨by rw [HE.out]; rfl, HBR.out.trans (HG5.out.mono HBR.out.size)⟩
      · have HJ2 : Hid (R = sameTs ks ks') := by
          have h1 : ls.take j = ls := List.take_of_length_le (by omega)
          have h2 : ls'.take j = ls' := List.take_of_length_le (by have := HLL.out; omega)
          have h3 := HT.out
          rw [h1, h2] at h3
          unfold Hid; rw [HDEC.out, show decide (ls = ls') = true by simpa using h3, Bool.true_and]
        have HXV := Hid.mk ((HG.out.block w.heap.size (heap_lt HXW.out)).trans HXW.out)
        have HYV := Hid.mk ((HG.out.block (w.heap.size + 1) (heap_lt HYW.out)).trans HYW.out)
        clear HXW HYW HGW HG HT hW1 HW0
        obtain ⟨W2, rfl⟩ : ∃ W, W = wr := ⟨_, rfl⟩
        have HXW := HXV
        have HYW := HYV
        have HGW := HBR
        clear HXV HYV HBR
        go_wp2
        clear x0 x1 x2 x3 x4 x5 x6 y0 y1 y2 y3 y4 y5 y6
        go_loopw [9] (fun i wr => ∃ j : Nat, j ≤ ks.length ∧ i = .int .i64 j ∧ RowKit.Below W2.heap.size W2 wr ∧ (∀ (i : Nat) (k k' : Tm), i < j → ks[i]? = some k → ks'[i]? = some k' → sameT k k' = true)) (fun i _ => ks.length - (intOf i).toNat)
        case atStart => exact ⟨0, Nat.zero_le _, rfl, Below.refl _ _, fun i k k' h => absurd h (by omega)⟩
        case round =>
          obtain ⟨j, hj, rfl, hg, hall⟩ := hrel
          have HG := Hid.mk hg
          have HALL := Hid.mk hall
          clear hg hall
          obtain ⟨x0, x1, x2, x3, x4, x5, x6⟩ := cells6 ((HG.out.block w.heap.size (heap_lt HXW.out)).trans HXW.out)
          obtain ⟨y0, y1, y2, y3, y4, y5, y6⟩ := cells6 ((HG.out.block (w.heap.size + 1) (heap_lt HYW.out)).trans HYW.out)
          have HBR : Hid (RowKit.Below w.heap.size w wr) := HGW.out.trans (HG.out.mono HGW.out.size)
          by_cases hlt : j < ks.length
          · have hlt' : j < ks'.length := by rw [← HLN.out]; exact hlt
            obtain ⟨hka, hkb⟩ := HK.out (by intro e; rw [e] at hlt; simp at hlt)
            obtain ⟨hka', hkb'⟩ := HK'.out (by intro e; rw [e] at hlt'; simp at hlt')
            rw [hka] at x5
            rw [hka'] at y5
            have hkt : ks[j]? = some ks[j] := List.getElem?_eq_getElem hlt
            have hkt' : ks'[j]? = some ks'[j] := List.getElem?_eq_getElem hlt'
            have htc := (HKIDS.out j _ hkt).on HBR.out
            have htc' := (HKIDS'.out j _ hkt').on HBR.out
            obtain ⟨v0, v1, v2, v3, v4, v5, c0, c1, c2, c3, c4, c5, hv⟩ := htc.val
            obtain ⟨u0, u1, u2, u3, u4, u5, d0, d1, d2, d3, d4, d5, hu⟩ := htc'.val
            have HC := HIH.out ks[j] (List.getElem_mem hlt) ks'[j] _ _ wr.drew (HS4.out _ (List.getElem_mem hlt)) (HS4'.out _ (List.getElem_mem hlt')) (HFK.out _ (List.getElem_mem hlt)) (HFK'.out _ (List.getElem_mem hlt')) (hv.on (Below.refl _ _).drew) (hu.on (Below.refl _ _).drew)
            have HQ1 := Hid.mk hkt
            have HQ2 := Hid.mk hkt'
            have z1 : (j : Int) < (ks.length : Int) := by omega
            have z2 : (j : Int) < (ks'.length : Int) := by omega
            have hkr := htc.lt
            have hkr' := htc'.lt
            clear hkt hkt' htc htc' hv hu hka hka'
            generalize ks[j] = k at *
            generalize ks'[j] = k' at *
            obtain ⟨D, hD⟩ : ∃ D, sameT k k' = D := ⟨_, rfl⟩
            rw [hD] at HC
            have HD := Hid.mk hD
            clear hD
            have HCEL : Hid (∀ W : World, RowKit.Below wr.heap.size wr W → W.cell? ⟨w.heap.size, 5, none⟩ = some (.slice (some ⟨kb, ko, none⟩) ks.length kc) ∧ W.cell? ⟨w.heap.size + 1, 5, none⟩ = some (.slice (some ⟨kb', ko', none⟩) ks'.length kc') ∧ W.cell? ⟨kb, ko + j * 6, none⟩ = some (v0) ∧ W.cell? ⟨kb, ko + j * 6 + 1, none⟩ = some (v1) ∧ W.cell? ⟨kb, ko + j * 6 + 2, none⟩ = some (v2) ∧ W.cell? ⟨kb, ko + j * 6 + 3, none⟩ = some (v3) ∧ W.cell? ⟨kb, ko + j * 6 + 4, none⟩ = some (v4) ∧ W.cell? ⟨kb, ko + j * 6 + 5, none⟩ = some (v5) ∧ W.cell? ⟨kb', ko' + j * 6, none⟩ = some (u0) ∧ W.cell? ⟨kb', ko' + j * 6 + 1, none⟩ = some (u1) ∧ W.cell? ⟨kb', ko' + j * 6 + 2, none⟩ = some (u2) ∧ W.cell? ⟨kb', ko' + j * 6 + 3, none⟩ = some (u3) ∧ W.cell? ⟨kb', ko' + j * 6 + 4, none⟩ = some (u4) ∧ W.cell? ⟨kb', ko' + j * 6 + 5, none⟩ = some (u5)) := fun W h => ⟨(h.cell (p := ⟨w.heap.size, 5, none⟩) x6).trans x5, (h.cell (p := ⟨w.heap.size + 1, 5, none⟩) y6).trans y5, (h.cell (p := ⟨kb, ko + j * 6, none⟩) hkr).trans c0, (h.cell (p := ⟨kb, ko + j * 6 + 1, none⟩) hkr).trans c1, (h.cell (p := ⟨kb, ko + j * 6 + 2, none⟩) hkr).trans c2, (h.cell (p := ⟨kb, ko + j * 6 + 3, none⟩) hkr).trans c3, (h.cell (p := ⟨kb, ko + j * 6 + 4, none⟩) hkr).trans c4, (h.cell (p := ⟨kb, ko + j * 6 + 5, none⟩) hkr).trans c5, (h.cell (p := ⟨kb', ko' + j * 6, none⟩) hkr').trans d0, (h.cell (p := ⟨kb', ko' + j * 6 + 1, none⟩) hkr').trans d1, (h.cell (p := ⟨kb', ko' + j * 6 + 2, none⟩) hkr').trans d2, (h.cell (p := ⟨kb', ko' + j * 6 + 3, none⟩) hkr').trans d3, (h.cell (p := ⟨kb', ko' + j * 6 + 4, none⟩) hkr').trans d4, (h.cell (p := ⟨kb', ko' + j * 6 + 5, none⟩) hkr').trans d5⟩
            cases D
            · have HE : Hid (R = false) := by unfold Hid; rw [HJ2.out]; exact sameTs_at HQ1.out HQ2.out HD.out
              go_wp2_with fail
              go_region_held3 (fun w' => w'.cell? ⟨w.heap.size, 5, none⟩ = some (.slice (some ⟨kb, ko, none⟩) ks.length kc) ∧ w'.cell? ⟨w.heap.size + 1, 5, none⟩ = some (.slice (some ⟨kb', ko', none⟩) ks'.length kc') ∧ w'.cell? ⟨kb, ko + j * 6, none⟩ = some (v0) ∧ w'.cell? ⟨kb, ko + j * 6 + 1, none⟩ = some (v1) ∧ w'.cell? ⟨kb, ko + j * 6 + 2, none⟩ = some (v2) ∧ w'.cell? ⟨kb, ko + j * 6 + 3, none⟩ = some (v3) ∧ w'.cell? ⟨kb, ko + j * 6 + 4, none⟩ = some (v4) ∧ w'.cell? ⟨kb, ko + j * 6 + 5, none⟩ = some (v5) ∧ w'.cell? ⟨kb', ko' + j * 6, none⟩ = some (u0) ∧ w'.cell? ⟨kb', ko' + j * 6 + 1, none⟩ = some (u1) ∧ w'.cell? ⟨kb', ko' + j * 6 + 2, none⟩ = some (u2) ∧ w'.cell? ⟨kb', ko' + j * 6 + 3, none⟩ = some (u3) ∧ w'.cell? ⟨kb', ko' + j * 6 + 4, none⟩ = some (u4) ∧ w'.cell? ⟨kb', ko' + j * 6 + 5, none⟩ = some (u5)) (first | exact HCEL.out _ (Below.refl _ _).drew | exact HCEL.out _ hb5)
                (first | (go_at_call 58; refine HC.mono ?_; rintro e w5 ⟨rfl, hg5⟩; have hb5 : RowKit.Below wr.heap.size wr w5 := (Below.refl _ _).drew.trans (hg5.mono (Nat.le_refl _)); have HG5 : Hid (RowKit.Below wr.heap.size wr w5) := hb5; clear hg5))
              go_wp2
              go_ret
              exact ⟨by rw [HE.out]; rfl, HBR.out.trans (HG5.out.mono HBR.out.size)⟩
            · go_wp2_with fail
              go_region_held3 (fun w' => w'.cell? ⟨w.heap.size, 5, none⟩ = some (.slice (some ⟨kb, ko, none⟩) ks.length kc) ∧ w'.cell? ⟨w.heap.size + 1, 5, none⟩ = some (.slice (some ⟨kb', ko', none⟩) ks'.length kc') ∧ w'.cell? ⟨kb, ko + j * 6, none⟩ = some (v0) ∧ w'.cell? ⟨kb, ko + j * 6 + 1, none⟩ = some (v1) ∧ w'.cell? ⟨kb, ko + j * 6 + 2, none⟩ = some (v2) ∧ w'.cell? ⟨kb, ko + j * 6 + 3, none⟩ = some (v3) ∧ w'.cell? ⟨kb, ko + j * 6 + 4, none⟩ = some (v4) ∧ w'.cell? ⟨kb, ko + j * 6 + 5, none⟩ = some (v5) ∧ w'.cell? ⟨kb', ko' + j * 6, none⟩ = some (u0) ∧ w'.cell? ⟨kb', ko' + j * 6 + 1, none⟩ = some (u1) ∧ w'.cell? ⟨kb', ko' + j * 6 + 2, none⟩ = some (u2) ∧ w'.cell? ⟨kb', ko' + j * 6 + 3, none⟩ = some (u3) ∧ w'.cell? ⟨kb', ko' + j * 6 + 4, none⟩ = some (u4) ∧ w'.cell? ⟨kb', ko' + j * 6 + 5, none⟩ = some (u5)) (first | exact HCEL.out _ (Below.refl _ _).drew | exact HCEL.out _ hb5)
                (first | (go_at_call 58; refine HC.mono ?_; rintro e w5 ⟨rfl, hg5⟩; have hb5 : RowKit.Below wr.heap.size wr w5 := (Below.refl _ _).drew.trans (hg5.mono (Nat.le_refl _)); have HG5 : Hid (RowKit.Below wr.heap.size wr w5) := hb5; clear hg5))
              go_wp2
              refine ⟨⟨j + 1, hlt, by go_num, HG.out.trans (HG5.out.mono HG.out.size), fun i a a' hi h1 h2 => ?_⟩, by simp [intOf]; omega⟩
              by_cases hij : i = j
              · subst hij
                have e1 := HQ1.out
                have e2 := HQ2.out
                rw [e1] at h1
                rw [e2] at h2
                injection h1 with h1
                injection h2 with h2
                rw [← h1, ← h2]; exact HD.out
              · exact HALL.out i a a' (by omega) h1 h2
          · have HE : Hid (R = true) := by unfold Hid; rw [HJ2.out]; exact sameTs_all HLN.out (fun i k k' h1 h2 => HALL.out i k k' (by have := (List.getElem?_eq_some_iff.1 h1).1; omega) h1 h2)
            go_wp2
            go_ret
            exact ⟨by rw [HE.out]; rfl, HBR.out⟩
  · by_cases hc : n = n'
    · have HJ2 : Hid (R = sameTs ks ks') := by unfold Hid; rw [HJ.out]; simp [fsameB, Tm.form, Tm.n, hc]
      have hcb : (n == n') = true := by simpa using hc
      have hcn : (n != n') = false := by simp [hc]
      clear hc
      go_enter Try.func58, Try.ntmps58
      go_wp2
      rw [HW0.out]
      obtain ⟨W1, hW1⟩ : ∃ W1, W0 = W1 := ⟨_, rfl⟩
      have HXW := HX0
      have HYW := HY0
      have HGW := HG0
      rw [hW1] at HXW HYW HGW ⊢
      clear x0 x1 x2 x3 x4 x5 x6 y0 y1 y2 y3 y4 y5 y6
      go_loopw [9] (fun i wr => ∃ j : Nat, j ≤ ks.length ∧ i = .int .i64 j ∧ RowKit.Below W1.heap.size W1 wr ∧ (∀ (i : Nat) (k k' : Tm), i < j → ks[i]? = some k → ks'[i]? = some k' → sameT k k' = true)) (fun i _ => ks.length - (intOf i).toNat)
      case atStart => exact ⟨0, Nat.zero_le _, rfl, Below.refl _ _, fun i k k' h => absurd h (by omega)⟩
      case round =>
        obtain ⟨j, hj, rfl, hg, hall⟩ := hrel
        have HG := Hid.mk hg
        have HALL := Hid.mk hall
        clear hg hall
        obtain ⟨x0, x1, x2, x3, x4, x5, x6⟩ := cells6 ((HG.out.block w.heap.size (heap_lt HXW.out)).trans HXW.out)
        obtain ⟨y0, y1, y2, y3, y4, y5, y6⟩ := cells6 ((HG.out.block (w.heap.size + 1) (heap_lt HYW.out)).trans HYW.out)
        have HBR : Hid (RowKit.Below w.heap.size w wr) := HGW.out.trans (HG.out.mono HGW.out.size)
        by_cases hlt : j < ks.length
        · have hlt' : j < ks'.length := by rw [← HLN.out]; exact hlt
          obtain ⟨hka, hkb⟩ := HK.out (by intro e; rw [e] at hlt; simp at hlt)
          obtain ⟨hka', hkb'⟩ := HK'.out (by intro e; rw [e] at hlt'; simp at hlt')
          rw [hka] at x5
          rw [hka'] at y5
          have hkt : ks[j]? = some ks[j] := List.getElem?_eq_getElem hlt
          have hkt' : ks'[j]? = some ks'[j] := List.getElem?_eq_getElem hlt'
          have htc := (HKIDS.out j _ hkt).on HBR.out
          have htc' := (HKIDS'.out j _ hkt').on HBR.out
          obtain ⟨v0, v1, v2, v3, v4, v5, c0, c1, c2, c3, c4, c5, hv⟩ := htc.val
          obtain ⟨u0, u1, u2, u3, u4, u5, d0, d1, d2, d3, d4, d5, hu⟩ := htc'.val
          have HC := HIH.out ks[j] (List.getElem_mem hlt) ks'[j] _ _ wr.drew (HS4.out _ (List.getElem_mem hlt)) (HS4'.out _ (List.getElem_mem hlt')) (HFK.out _ (List.getElem_mem hlt)) (HFK'.out _ (List.getElem_mem hlt')) (hv.on (Below.refl _ _).drew) (hu.on (Below.refl _ _).drew)
          have HQ1 := Hid.mk hkt
          have HQ2 := Hid.mk hkt'
          have z1 : (j : Int) < (ks.length : Int) := by omega
          have z2 : (j : Int) < (ks'.length : Int) := by omega
          have hkr := htc.lt
          have hkr' := htc'.lt
          clear hkt hkt' htc htc' hv hu hka hka'
          generalize ks[j] = k at *
          generalize ks'[j] = k' at *
          obtain ⟨D, hD⟩ : ∃ D, sameT k k' = D := ⟨_, rfl⟩
          rw [hD] at HC
          have HD := Hid.mk hD
          clear hD
          have HCEL : Hid (∀ W : World, RowKit.Below wr.heap.size wr W → W.cell? ⟨w.heap.size, 5, none⟩ = some (.slice (some ⟨kb, ko, none⟩) ks.length kc) ∧ W.cell? ⟨w.heap.size + 1, 5, none⟩ = some (.slice (some ⟨kb', ko', none⟩) ks'.length kc') ∧ W.cell? ⟨kb, ko + j * 6, none⟩ = some (v0) ∧ W.cell? ⟨kb, ko + j * 6 + 1, none⟩ = some (v1) ∧ W.cell? ⟨kb, ko + j * 6 + 2, none⟩ = some (v2) ∧ W.cell? ⟨kb, ko + j * 6 + 3, none⟩ = some (v3) ∧ W.cell? ⟨kb, ko + j * 6 + 4, none⟩ = some (v4) ∧ W.cell? ⟨kb, ko + j * 6 + 5, none⟩ = some (v5) ∧ W.cell? ⟨kb', ko' + j * 6, none⟩ = some (u0) ∧ W.cell? ⟨kb', ko' + j * 6 + 1, none⟩ = some (u1) ∧ W.cell? ⟨kb', ko' + j * 6 + 2, none⟩ = some (u2) ∧ W.cell? ⟨kb', ko' + j * 6 + 3, none⟩ = some (u3) ∧ W.cell? ⟨kb', ko' + j * 6 + 4, none⟩ = some (u4) ∧ W.cell? ⟨kb', ko' + j * 6 + 5, none⟩ = some (u5)) := fun W h => ⟨(h.cell (p := ⟨w.heap.size, 5, none⟩) x6).trans x5, (h.cell (p := ⟨w.heap.size + 1, 5, none⟩) y6).trans y5, (h.cell (p := ⟨kb, ko + j * 6, none⟩) hkr).trans c0, (h.cell (p := ⟨kb, ko + j * 6 + 1, none⟩) hkr).trans c1, (h.cell (p := ⟨kb, ko + j * 6 + 2, none⟩) hkr).trans c2, (h.cell (p := ⟨kb, ko + j * 6 + 3, none⟩) hkr).trans c3, (h.cell (p := ⟨kb, ko + j * 6 + 4, none⟩) hkr).trans c4, (h.cell (p := ⟨kb, ko + j * 6 + 5, none⟩) hkr).trans c5, (h.cell (p := ⟨kb', ko' + j * 6, none⟩) hkr').trans d0, (h.cell (p := ⟨kb', ko' + j * 6 + 1, none⟩) hkr').trans d1, (h.cell (p := ⟨kb', ko' + j * 6 + 2, none⟩) hkr').trans d2, (h.cell (p := ⟨kb', ko' + j * 6 + 3, none⟩) hkr').trans d3, (h.cell (p := ⟨kb', ko' + j * 6 + 4, none⟩) hkr').trans d4, (h.cell (p := ⟨kb', ko' + j * 6 + 5, none⟩) hkr').trans d5⟩
          cases D
          · have HE : Hid (R = false) := by unfold Hid; rw [HJ2.out]; exact sameTs_at HQ1.out HQ2.out HD.out
            go_wp2_with fail
            go_region_held3 (fun w' => w'.cell? ⟨w.heap.size, 5, none⟩ = some (.slice (some ⟨kb, ko, none⟩) ks.length kc) ∧ w'.cell? ⟨w.heap.size + 1, 5, none⟩ = some (.slice (some ⟨kb', ko', none⟩) ks'.length kc') ∧ w'.cell? ⟨kb, ko + j * 6, none⟩ = some (v0) ∧ w'.cell? ⟨kb, ko + j * 6 + 1, none⟩ = some (v1) ∧ w'.cell? ⟨kb, ko + j * 6 + 2, none⟩ = some (v2) ∧ w'.cell? ⟨kb, ko + j * 6 + 3, none⟩ = some (v3) ∧ w'.cell? ⟨kb, ko + j * 6 + 4, none⟩ = some (v4) ∧ w'.cell? ⟨kb, ko + j * 6 + 5, none⟩ = some (v5) ∧ w'.cell? ⟨kb', ko' + j * 6, none⟩ = some (u0) ∧ w'.cell? ⟨kb', ko' + j * 6 + 1, none⟩ = some (u1) ∧ w'.cell? ⟨kb', ko' + j * 6 + 2, none⟩ = some (u2) ∧ w'.cell? ⟨kb', ko' + j * 6 + 3, none⟩ = some (u3) ∧ w'.cell? ⟨kb', ko' + j * 6 + 4, none⟩ = some (u4) ∧ w'.cell? ⟨kb', ko' + j * 6 + 5, none⟩ = some (u5)) (first | exact HCEL.out _ (Below.refl _ _).drew | exact HCEL.out _ hb5)
              (first | (go_at_call 58; refine HC.mono ?_; rintro e w5 ⟨rfl, hg5⟩; have hb5 : RowKit.Below wr.heap.size wr w5 := (Below.refl _ _).drew.trans (hg5.mono (Nat.le_refl _)); have HG5 : Hid (RowKit.Below wr.heap.size wr w5) := hb5; clear hg5))
            go_wp2
            go_ret
            exact ⟨by rw [HE.out]; rfl, HBR.out.trans (HG5.out.mono HBR.out.size)⟩
          · go_wp2_with fail
            go_region_held3 (fun w' => w'.cell? ⟨w.heap.size, 5, none⟩ = some (.slice (some ⟨kb, ko, none⟩) ks.length kc) ∧ w'.cell? ⟨w.heap.size + 1, 5, none⟩ = some (.slice (some ⟨kb', ko', none⟩) ks'.length kc') ∧ w'.cell? ⟨kb, ko + j * 6, none⟩ = some (v0) ∧ w'.cell? ⟨kb, ko + j * 6 + 1, none⟩ = some (v1) ∧ w'.cell? ⟨kb, ko + j * 6 + 2, none⟩ = some (v2) ∧ w'.cell? ⟨kb, ko + j * 6 + 3, none⟩ = some (v3) ∧ w'.cell? ⟨kb, ko + j * 6 + 4, none⟩ = some (v4) ∧ w'.cell? ⟨kb, ko + j * 6 + 5, none⟩ = some (v5) ∧ w'.cell? ⟨kb', ko' + j * 6, none⟩ = some (u0) ∧ w'.cell? ⟨kb', ko' + j * 6 + 1, none⟩ = some (u1) ∧ w'.cell? ⟨kb', ko' + j * 6 + 2, none⟩ = some (u2) ∧ w'.cell? ⟨kb', ko' + j * 6 + 3, none⟩ = some (u3) ∧ w'.cell? ⟨kb', ko' + j * 6 + 4, none⟩ = some (u4) ∧ w'.cell? ⟨kb', ko' + j * 6 + 5, none⟩ = some (u5)) (first | exact HCEL.out _ (Below.refl _ _).drew | exact HCEL.out _ hb5)
              (first | (go_at_call 58; refine HC.mono ?_; rintro e w5 ⟨rfl, hg5⟩; have hb5 : RowKit.Below wr.heap.size wr w5 := (Below.refl _ _).drew.trans (hg5.mono (Nat.le_refl _)); have HG5 : Hid (RowKit.Below wr.heap.size wr w5) := hb5; clear hg5))
            go_wp2
            refine ⟨⟨j + 1, hlt, by go_num, HG.out.trans (HG5.out.mono HG.out.size), fun i a a' hi h1 h2 => ?_⟩, by simp [intOf]; omega⟩
            by_cases hij : i = j
            · subst hij
              have e1 := HQ1.out
              have e2 := HQ2.out
              rw [e1] at h1
              rw [e2] at h2
              injection h1 with h1
              injection h2 with h2
              rw [← h1, ← h2]; exact HD.out
            · exact HALL.out i a a' (by omega) h1 h2
        · have HE : Hid (R = true) := by unfold Hid; rw [HJ2.out]; exact sameTs_all HLN.out (fun i k k' h1 h2 => HALL.out i k k' (by have := (List.getElem?_eq_some_iff.1 h1).1; omega) h1 h2)
          go_wp2
          go_ret
          exact ⟨by rw [HE.out]; rfl, HBR.out⟩
    · have HR : Hid (R = false) := by unfold Hid; rw [HJ.out]; simp [fsameB, Tm.form, Tm.n, hc]
      have hcb : (n == n') = false := by simpa using hc
      have hcn : (n != n') = true := by simpa using hc
      clear hc
      go_enter Try.func58, Try.ntmps58
      go_wp2
      go_ret
      exact ⟨by rw [HR.out]; rfl, by have := HG0.out; rwa [← HW0.out] at this⟩
  · exfalso
    have := HN1.out
    unfold kidsR at this
    rw [if_neg (by omega), if_neg (by omega), if_neg (by omega), if_neg (by omega)] at this
    omega
end Go.Proofs.Ytbgkeomlfdmkeaa
