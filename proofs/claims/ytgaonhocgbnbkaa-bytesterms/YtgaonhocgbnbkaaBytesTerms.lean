/- BytesTerms: for any two terms t and o, bytes.Term answers the bytes of t that the reference answers, or its error, whatever becomes of the bytes of o, and ReadTerm reads them as t. Conditions: none but the row's own. -/
import Derived.Test.YtgaonhocgbnbkaaRows
import Derived.Test.YtgaonhocgbnbkaaSE
import Derived.Test.YtgaonhocgbnbkaaEP
import Derived.Test.YtgaonhocgbnbkaaFH
import Derived.SizedLaws
import Derived.ProofKit
import Derived.OpenShut
import Derived.Below
namespace Go.Proofs.Ytgaonhocgbnbkaa
open Go.RowKit Go.Sort Go.Lib
namespace bytesTerms
open Go.ChangeShapes Go.WideShapes Go.ChangeAt

def resB : Except Int (List UInt8) → List UInt8
  | .ok bs => bs
  | .error _ => []
def resE : Except Int (List UInt8) → Int
  | .ok _ => 0
  | .error c => c

theorem ans_b {B : Nat} {e : Ending} {w' : World} {R : Except Int (List UInt8)} (h : AnsB B e w' R) : ∃ a cap, e = .returned (.tuple #[.slice a (resB R).length cap, .int .i64 (resE R)]) ∧ OY B w' (.slice a (resB R).length cap) (resB R) := by
  cases R with
  | ok bs =>
    obtain ⟨v, he, hO⟩ := h
    obtain ⟨a, cap, rfl, -⟩ := hO.shape
    exact ⟨a, cap, he, hO⟩
  | error c => exact ⟨none, 0, h.2, OY.nil _ _⟩

theorem xor255 (x : UInt8) : ∃ y : UInt8, bits .xor .u8 (x.toNat : Int) 255 = (y.toNat : Int) := by
  have key : ∀ z : Fin 256, bits .xor .u8 ((z.val : Nat) : Int) 255 = ((255 - z.val : Nat) : Int) := by decide +kernel
  refine ⟨UInt8.ofNat (255 - x.toNat), ?_⟩
  rw [key ⟨x.toNat, x.toNat_lt⟩, UInt8.toNat_ofNat_of_lt' (by show 255 - x.toNat < 256; omega)]

theorem OY.set {B g cap : Nat} {w : World} {bs : List UInt8} (h : OY B w (.slice (some ⟨g, 0, none⟩) bs.length cap) bs) (k : Nat) (y : UInt8) : OY B (w.setCell ⟨g, k, none⟩ (.int .u8 (y.toNat : Int))) (.slice (some ⟨g, 0, none⟩) bs.length cap) (bs.set k y) := by
  obtain ⟨h1, h2⟩ := h
  rcases h2 with ⟨e, -⟩ | ⟨g', cap', cur, hv, hg, hh, hc, hm, hs, ht⟩
  · cases e
  · simp only [Value.slice.injEq, Option.some.injEq, Addr.mk.injEq, and_true, true_and] at hv
    obtain ⟨rfl, rfl⟩ := hv
    refine ⟨by simp [flatB], Or.inr ⟨g, cap, cur.setIfInBounds k (.int .u8 (y.toNat : Int)), by rw [List.length_set], hg, ?_, by rw [List.length_set]; exact hc, hm, by rw [Array.size_setIfInBounds]; exact hs, ?_⟩⟩
    · rw [setCell_eq]; show (w.heap.modify g _)[g]? = _
      rw [Array.getElem?_modify, if_pos rfl, hh]; rfl
    · rw [List.length_set, Array.toList_setIfInBounds, List.take_set, ht]
      simp [flatB, List.map_set]

theorem row_cell {B g cap k : Nat} {w : World} {bs : List UInt8} (h : OY B w (.slice (some ⟨g, 0, none⟩) bs.length cap) bs) (hk : k < bs.length) : w.cell? ⟨g, k, none⟩ = some (.int .u8 (bs[k].toNat : Int)) ∧ w.frozen? ⟨g, k, none⟩ = false ∧ g < w.heap.size ∧ B ≤ g := by
  obtain ⟨h1, h2⟩ := h
  have hlt := OY.lt (show OY B w (.slice (some ⟨g, 0, none⟩) bs.length cap) bs from ⟨h1, h2⟩) (k := g) rfl
  rcases h2 with ⟨e, -⟩ | ⟨g', cap', cur, hv, hg, hh, hc, hm, hs, ht⟩
  · cases e
  · simp only [Value.slice.injEq, Option.some.injEq, Addr.mk.injEq, and_true, true_and] at hv
    obtain ⟨rfl, rfl⟩ := hv
    refine ⟨?_, by simp [World.frozen?, hh], hlt.2, hlt.1⟩
    rw [cell_of_row w g k cur _ _ hh]
    have h3 : (flatB bs)[k]? = some (.int .u8 (bs[k].toNat : Int)) := by simp [flatB, hk]
    rw [← ht, List.getElem?_take] at h3
    split at h3
    · simpa using h3
    · cases h3

set_option maxRecDepth 100000 in
set_option maxHeartbeats 16000000 in
theorem walk (t o : Tm) (vt vo : Value) (w : World) (hot : okT t) (hoo : okT o) (hvt : TV w vt t) (hvo : TV w vo o) : Calls Try.prog 3 #[vt, vo] w fun e w' => e = .returned (.bool true) ∧ RowKit.Below w.heap.size w w' := by
  have HBT := fun (W : World) (g : RowKit.Below w.heap.size w W) => Big_any t vt W hot (hvt.on g)
  have HBO := fun (W : World) (g : RowKit.Below w.heap.size w W) => Big_any o vo W hoo (hvo.on g)
  have HVT := Hid.mk hvt
  have HVO := Hid.mk hvo
  obtain ⟨a0, a1, a2, a3, a4, a5, a6, a7, a8, a9, rfl⟩ := hvt.shapeT
  obtain ⟨o0, o1, o2, o3, o4, o5, o6, o7, o8, o9, rfl⟩ := hvo.shapeT
  clear hvt hvo hot hoo
  obtain ⟨W0, hW0⟩ : ∃ W0, (w.alloc (.cells #[.int .i64 a0, .int .i64 a1, .bool a2, .string a3, .slice a4 a5 a6, .slice a7 a8 a9] 25)).alloc (.cells #[.int .i64 o0, .int .i64 o1, .bool o2, .string o3, .slice o4 o5 o6, .slice o7 o8 o9] 25) = W0 := ⟨_, rfl⟩
  have HB0 : Hid (RowKit.Below w.heap.size w W0) := by unfold Hid; rw [← hW0]; exact ((Below.refl _ _).alloc (Nat.le_refl _) _).alloc (by simp) _
  have HT0 : Hid (W0.heap[w.heap.size]? = some (.cells #[.int .i64 a0, .int .i64 a1, .bool a2, .string a3, .slice a4 a5 a6, .slice a7 a8 a9] 25 (0, 0))) := by unfold Hid; rw [← hW0]; exact box_at
  have HO0 : Hid (W0.heap[w.heap.size + 1]? = some (.cells #[.int .i64 o0, .int .i64 o1, .bool o2, .string o3, .slice o4 o5 o6, .slice o7 o8 o9] 25 (0, 0))) := by unfold Hid; rw [← hW0]; exact box_at1
  have HW0 := Hid.mk hW0
  clear hW0
  have HAL := alive3_any W0
  go_enter Try.func3, Try.ntmps3
  go_wp2_with fail
  rw [HW0.out]
  refine HAL.mono ?_
  rintro e w1 ⟨rfl, hb1⟩
  have HB1 : Hid (RowKit.Below w.heap.size w w1) := HB0.out.trans (hb1.mono HB0.out.size)
  have HT1 := Hid.mk ((hb1.block _ (heap_lt HT0.out)).trans HT0.out)
  have HO1 := Hid.mk ((hb1.block _ (heap_lt HO0.out)).trans HO0.out)
  clear hb1 HAL
  obtain ⟨x0, x1, x2, x3, x4, x5, x6⟩ := cells6 HT1.out
  go_wp2_with fail
  refine (HBT _ HB1.out).mono ?_
  rintro e w2 ⟨⟨q2, rfl, hs2⟩, hg2⟩
  have HB2 : Hid (RowKit.Below w.heap.size w w2) := HB1.out.trans (hg2.below.mono HB1.out.size)
  have HT2 := Hid.mk ((hg2.below.block _ (heap_lt HT1.out)).trans HT1.out)
  have HO2 := Hid.mk ((hg2.below.block _ (heap_lt HO1.out)).trans HO1.out)
  clear hg2 x0 x1 x2 x3 x4 x5 x6
  cases q2
  rotate_left
  · go_wp2
    go_ret
    exact ⟨rfl, HB2.out⟩
  have hPt := hs2 rfl
  clear hs2 HBT
  obtain ⟨y0, y1, y2, y3, y4, y5, y6⟩ := cells6 HO2.out
  go_wp2_with fail
  refine (HBO _ HB2.out).mono ?_
  rintro e w3 ⟨⟨q3, rfl, hs3⟩, hg3⟩
  have HB3 : Hid (RowKit.Below w.heap.size w w3) := HB2.out.trans (hg3.below.mono HB2.out.size)
  have HT3 := Hid.mk ((hg3.below.block _ (heap_lt HT2.out)).trans HT2.out)
  have HO3 := Hid.mk ((hg3.below.block _ (heap_lt HO2.out)).trans HO2.out)
  clear hg3 y0 y1 y2 y3 y4 y5 y6
  cases q3
  rotate_left
  · go_wp2
    go_ret
    exact ⟨rfl, HB3.out⟩
  have hPo := hs3 rfl
  clear hs3 HBO
  have HC4 := BTerm_any t _ w3 (HVT.out.on HB3.out) hPt
  obtain ⟨x0, x1, x2, x3, x4, x5, x6⟩ := cells6 HT3.out
  go_wp2_with fail
  refine HC4.mono ?_
  rintro e w4 ⟨hans, hb4⟩
  obtain ⟨ba, bc, rfl, hO4⟩ := ans_b hans
  have HOY4 := Hid.mk hO4
  have HB34 := Hid.mk hb4
  have HB4 : Hid (RowKit.Below w.heap.size w w4) := HB3.out.trans (hb4.mono HB3.out.size)
  have HT4 := Hid.mk ((hb4.block _ (heap_lt HT3.out)).trans HT3.out)
  have HO4 := Hid.mk ((hb4.block _ (heap_lt HO3.out)).trans HO3.out)
  clear hans hO4 hb4 HC4 x0 x1 x2 x3 x4 x5 x6
  have HC5 := BTerm_any o _ w4 (HVO.out.on HB4.out) hPo
  obtain ⟨y0, y1, y2, y3, y4, y5, y6⟩ := cells6 HO4.out
  go_wp2_with fail
  refine HC5.mono ?_
  rintro e w5 ⟨hans, hb5⟩
  obtain ⟨ca, cc, rfl, hO5⟩ := ans_b hans
  have HOY5 := Hid.mk hO5
  have HB45 := Hid.mk hb5
  have hcl : (resB (termRes o)).length ≤ 9223372036854775807 := by obtain ⟨a', c', e', -, h1, h2, -⟩ := hO5.shape; omega
  have HSH : Hid (∀ ad, ca = some ad → ∃ g, ad = ⟨g, 0, none⟩) := by
    obtain ⟨a', c', e', -, -, -, -, h⟩ := hO5.shape
    simp only [Value.slice.injEq, true_and] at e'
    obtain ⟨rfl, rfl⟩ := e'
    exact h
  clear hans hO5 hb5 HC5 y0 y1 y2 y3 y4 y5 y6
  generalize resE (termRes o) = oe at *
  generalize resB (termRes o) = ob at *
  go_wp2
  go_loopw [11] (fun i wr => ∃ (k : Nat) (cs : List UInt8), k ≤ ob.length ∧ i = .int .i64 k ∧ cs.length = ob.length ∧ OY w4.heap.size wr (.slice ca ob.length cc) cs ∧ RowKit.Below w4.heap.size w4 wr) (fun i _ => ob.length - (intOf i).toNat)
  case atStart => exact ⟨0, ob, Nat.zero_le _, rfl, rfl, HOY5.out, HB45.out⟩
  case round =>
    obtain ⟨k, cs, hk, rfl, hcs, hO, hb⟩ := hrel
    have HCS := Hid.mk hcs
    have HOR := Hid.mk hO
    have HBR := Hid.mk hb
    clear hcs hO hb
    by_cases hlt : k < ob.length
    · have hltc : k < cs.length := by have := HCS.out; omega
      obtain ⟨ad, rfl⟩ : ∃ ad, ca = some ad := by
        cases ca with
        | none =>
          have := HOR.out.2
          rcases this with ⟨e, hn⟩ | ⟨g, cap, cur, e, -⟩
          · have := HCS.out; omega
          · cases e
        | some ad => exact ⟨ad, rfl⟩
      obtain ⟨g, rfl⟩ := HSH.out _ rfl
      have hO := HOR.out
      rw [← HCS.out] at hO
      obtain ⟨r0, rf, rl, rB⟩ := row_cell hO hltc
      obtain ⟨yx, hyx⟩ := xor255 cs[k]
      have hset := OY.set hO k yx
      rw [HCS.out] at hset
      have HSET := Hid.mk hset
      clear hO hset
      generalize cs[k] = cx at *
      go_wp2
      refine ⟨⟨k + 1, cs.set k yx, hlt, by go_num, by rw [List.length_set]; exact HCS.out, HSET.out, HBR.out.setCell (p := ⟨g, k, none⟩) rB _⟩, by simp [intOf]; omega⟩
    · obtain ⟨w6, rfl⟩ : ∃ w6, w6 = wr := ⟨_, rfl⟩
      have HB46 := HBR
      have HB6 : Hid (RowKit.Below w.heap.size w w6) := HB4.out.trans (HB46.out.mono HB4.out.size)
      have HT6 := Hid.mk ((HB46.out.block _ (heap_lt HT4.out)).trans HT4.out)
      have HOY6 : Hid (OY w3.heap.size w6 (.slice ba (resB (termRes t)).length bc) (resB (termRes t))) := HOY4.out.move fun j hj => HB46.out.block j (HOY4.out.lt hj).2
      clear HOR HCS
      have HC7 := rTerm_any t _ w6 (HVT.out.on HB6.out) hPt
      obtain ⟨x0, x1, x2, x3, x4, x5, x6⟩ := cells6 HT6.out
      go_wp2_with fail
      refine HC7.mono ?_
      rintro e w7 ⟨hans, hb7⟩
      obtain ⟨wa, wc, rfl, hO7⟩ := ans_b hans
      have HB7 : Hid (RowKit.Below w.heap.size w w7) := HB6.out.trans (hb7.mono HB6.out.size)
      have HT7 := Hid.mk ((hb7.block _ (heap_lt HT6.out)).trans HT6.out)
      have HOY7 : Hid (OY w3.heap.size w7 (.slice ba (resB (termRes t)).length bc) (resB (termRes t))) := HOY6.out.move fun j hj => hb7.block j (HOY6.out.lt hj).2
      obtain ⟨a', c', e', hblw, -, -, hnw, -⟩ := hO7.shape
      simp only [Value.slice.injEq, true_and] at e'
      obtain ⟨rfl, rfl⟩ := e'
      obtain ⟨a', c', e', hblb, hcb, hcm, hnb, -⟩ := HOY7.out.shape
      simp only [Value.slice.injEq, true_and] at e'
      obtain ⟨rfl, rfl⟩ := e'
      have hcv1 := string_of hblb hnb
      have hcv2 := string_of hblw hnw
      have HBLB := Hid.mk hblb
      have HRT : Hid (∀ bs, termRes t = .ok bs → checkT t = 0 ∧ bs = encT t ∧ (encT t).length ≤ 1000000) := fun bs h => by
        unfold termRes at h
        split at h
        · cases h
        · split at h
          · cases h
          · simp only [Except.ok.injEq] at h; exact ⟨by omega, h.symm, by omega⟩
      have HRE : Hid (∀ c, termRes t = .error c → c ≠ 0) := fun c h => by
        unfold termRes at h
        split at h
        · simp only [Except.error.injEq] at h; omega
        · split at h
          · simp only [Except.error.injEq] at h; omega
          · cases h
      clear hans hO7 hb7 HC7 x0 x1 x2 x3 x4 x5 x6 hblb hblw hnb hnw
      cases hres : termRes t with
      | error c =>
        have hc0 := HRE.out c hres
        have hcb0 : (c != 0) = true := by simpa using hc0
        simp only [hres, resB, resE, List.length_nil] at hcv1 hcv2 ⊢
        go_wp2_with (go_at_call 11; refine (num3_any _ _).mono ?_; rintro e w' ⟨rfl, rfl⟩)
        go_ret
        exact ⟨rfl, HB7.out⟩
      | ok bs =>
        obtain ⟨hck, hbs, hle⟩ := HRT.out bs hres
        subst hbs
        simp only [hres, resB, resE] at hcv1 hcv2 hcb HBLB ⊢
        have HC8 := ReadTerm_yes t ba bc w7 HBLB.out hcb hcm hck hle hPt
        have hfo := (check_ok hck).2.2
        clear HRT HRE HOY4 HOY6 HOY7 HOY5
        generalize encT t = bs at *
        go_wp2_with (go_at_call 11; refine (num3_any _ _).mono ?_; rintro e w' ⟨rfl, rfl⟩)
        refine HC8.mono ?_
        rintro e w8 ⟨v8, rfl, ⟨u0, u1, u2, u3, u4, u5, u6, u7, u8, u9, rfl⟩, htv8, hb8⟩
        have HB8 : Hid (RowKit.Below w.heap.size w w8) := HB7.out.trans (hb8.mono HB7.out.size)
        have hT8 := (hb8.block _ (heap_lt HT7.out)).trans HT7.out
        obtain ⟨W9, hW9⟩ : ∃ W9, w8.alloc (.cells #[.int .i64 u0, .int .i64 u1, .bool u2, .string u3, .slice u4 u5 u6, .slice u7 u8 u9] 25) = W9 := ⟨_, rfl⟩
        have hb9 : RowKit.Below w8.heap.size w8 W9 := by rw [← hW9]; exact (Below.refl _ _).alloc (Nat.le_refl _) _
        have HU9 : Hid (W9.heap[w8.heap.size]? = some (.cells #[.int .i64 u0, .int .i64 u1, .bool u2, .string u3, .slice u4 u5 u6, .slice u7 u8 u9] 25 (0, 0))) := by unfold Hid; rw [← hW9]; exact alloc_new _ _
        have HT9 : Hid (W9.heap[w.heap.size]? = some (.cells #[.int .i64 a0, .int .i64 a1, .bool a2, .string a3, .slice a4 a5 a6, .slice a7 a8 a9] 25 (0, 0))) := (hb9.block _ (heap_lt hT8)).trans hT8
        have HB9 : Hid (RowKit.Below w.heap.size w W9) := HB8.out.trans (hb9.mono HB8.out.size)
        have HTV9 := Hid.mk (htv8.on hb9)
        have HW9 := Hid.mk hW9
        clear htv8 hb8 hT8 hb9 hW9 HC8
        go_wp2_with fail
        rw [HW9.out]
        obtain ⟨x0, x1, x2, x3, x4, x5, x6⟩ := cells6 HT9.out
        obtain ⟨z0, z1, z2, z3, z4, z5, z6⟩ := cells6 HU9.out
        have HC10 := Clean_any t _ W9.drew hPt hfo (HVT.out.on HB9.out.drew)
        have HN := fun W => num3_any 0 W
        refine wp_region_held_drew (S := fun w' => w'.cell? ⟨w.heap.size, 0, none⟩ = some (.int .i64 a0) ∧ w'.cell? ⟨w.heap.size, 1, none⟩ = some (.int .i64 a1) ∧ w'.cell? ⟨w.heap.size, 2, none⟩ = some (.bool a2) ∧ w'.cell? ⟨w.heap.size, 3, none⟩ = some (.string a3) ∧ w'.cell? ⟨w.heap.size, 4, none⟩ = some (.slice a4 a5 a6) ∧ w'.cell? ⟨w.heap.size, 5, none⟩ = some (.slice a7 a8 a9) ∧ w'.cell? ⟨w8.heap.size, 0, none⟩ = some (.int .i64 u0) ∧ w'.cell? ⟨w8.heap.size, 1, none⟩ = some (.int .i64 u1) ∧ w'.cell? ⟨w8.heap.size, 2, none⟩ = some (.bool u2) ∧ w'.cell? ⟨w8.heap.size, 3, none⟩ = some (.string u3) ∧ w'.cell? ⟨w8.heap.size, 4, none⟩ = some (.slice u4 u5 u6) ∧ w'.cell? ⟨w8.heap.size, 5, none⟩ = some (.slice u7 u8 u9)) (by kernel_rfl) ?_ (fun hHeld => ?_)
        · (try dsimp only)
          exact ⟨x0, x1, x2, x3, x4, x5, z0, z1, z2, z3, z4, z5⟩
        refine wpAnyH_take (i := 0) (v := ?_) rfl (by kernel_rfl) (by kernel_rfl) (by kernel_rfl) (fun _ _ _ h => h) (Or.inl ⟨by rfl, ?_⟩) (by assumption) ?_
        rotate_left
        · (intro w hSw; (try dsimp only at hSw); go_simp; (try with_reducible rfl))
        refine wpAnyH_ready (rs := [1]) (by kernel_rfl) (by simp) ?_
        refine AllReadyH.cons rfl (fun K hK => ?_) AllReadyH.nil
        go_simp
        go_at_call 11
        refine (HN _).mono ?_
        rintro e w10 ⟨rfl, hw10⟩
        subst hw10
        dsimp only
        refine hK.out _ _ ?_ (fun hHeld => ?_)
        · (try dsimp only)
          exact ⟨x0, x1, x2, x3, x4, x5, z0, z1, z2, z3, z4, z5⟩
        clear hK K
        refine wpAnyH_take (i := 2) (v := ?_) rfl (by kernel_rfl) (by kernel_rfl) (by kernel_rfl) (fun _ _ _ h => h) (Or.inl ⟨by rfl, ?_⟩) (by assumption) ?_
        rotate_left
        · (intro w hSw; (try dsimp only at hSw); go_simp; (try with_reducible rfl))
        refine wpAnyH_take (i := 3) (v := ?_) rfl (by kernel_rfl) (by kernel_rfl) (by kernel_rfl) (fun _ _ _ h => h) (Or.inl ⟨by rfl, ?_⟩) (by assumption) ?_
        rotate_left
        · (intro w hSw; (try dsimp only at hSw); go_simp; (try with_reducible rfl))
        refine wpAnyH_take (i := 4) (v := ?_) rfl (by kernel_rfl) (by kernel_rfl) (by kernel_rfl) (fun _ _ _ h => h) (Or.inl ⟨by rfl, ?_⟩) (by assumption) ?_
        rotate_left
        · (intro w hSw; (try dsimp only at hSw); go_simp; (try with_reducible rfl))
        refine wpAnyH_take (i := 5) (v := ?_) rfl (by kernel_rfl) (by kernel_rfl) (by kernel_rfl) (fun _ _ _ h => h) (Or.inl ⟨by rfl, ?_⟩) (by assumption) ?_
        rotate_left
        · (intro w hSw; (try dsimp only at hSw); go_simp; (try with_reducible rfl))
        refine wpAnyH_ready (rs := [6]) (by kernel_rfl) (by simp) ?_
        refine AllReadyH.cons rfl (fun K hK => ?_) AllReadyH.nil
        go_simp
        go_at_call 14
        refine HC10.mono ?_
        rintro e w11 ⟨v11, rfl, ⟨c0, c1, c2, c3, c4, c5, c6, c7, c8, c9, rfl⟩, htf, hb11⟩
        have HB911 : Hid (RowKit.Below W9.heap.size W9 w11) := (Below.refl _ W9).drew.trans hb11
        have HTC := Hid.mk htf.tv
        have HB11 : Hid (RowKit.Below w.heap.size w w11) := HB9.out.trans (HB911.out.mono HB9.out.size)
        have HEX := Exactly_exa _ _ (cleanT t) w11 (smT_clean 1000000 t hPt) (HTV9.out.on HB911.out) htf.tv
        obtain ⟨x0', x1', x2', x3', x4', x5', -⟩ := cells6 ((HB911.out.block _ (heap_lt HT9.out)).trans HT9.out)
        obtain ⟨z0', z1', z2', z3', z4', z5', -⟩ := cells6 ((HB911.out.block _ (heap_lt HU9.out)).trans HU9.out)
        clear htf hb11 HC10
        dsimp only
        refine hK.out _ _ ?_ (fun hHeld => ?_)
        · (try dsimp only)
          exact ⟨x0', x1', x2', x3', x4', x5', z0', z1', z2', z3', z4', z5'⟩
        clear hK K
        refine wpAnyH_ready (rs := [7]) (by kernel_rfl) (by simp) ?_
        refine AllReadyH.cons rfl (fun K hK => ?_) AllReadyH.nil
        go_simp
        go_at_call 13
        refine HEX.mono ?_
        rintro e w12 ⟨rfl, hb12⟩
        have HB12 : Hid (RowKit.Below w.heap.size w w12) := HB11.out.trans (hb12.mono HB11.out.size)
        have HB912 : Hid (RowKit.Below W9.heap.size W9 w12) := HB911.out.trans (hb12.mono HB911.out.size)
        obtain ⟨x0'', x1'', x2'', x3'', x4'', x5'', -⟩ := cells6 ((HB912.out.block _ (heap_lt HT9.out)).trans HT9.out)
        obtain ⟨z0'', z1'', z2'', z3'', z4'', z5'', -⟩ := cells6 ((HB912.out.block _ (heap_lt HU9.out)).trans HU9.out)
        clear hb12 HEX
        dsimp only
        refine hK.out _ _ ?_ (fun hHeld => ?_)
        · (try dsimp only)
          exact ⟨x0'', x1'', x2'', x3'', x4'', x5'', z0'', z1'', z2'', z3'', z4'', z5''⟩
        clear hK K
        refine wpAnyH_take (i := 8) (v := ?_) rfl (by kernel_rfl) (by kernel_rfl) (by kernel_rfl) (fun _ _ _ h => h) (Or.inl ⟨by rfl, ?_⟩) (by assumption) ?_
        rotate_left
        · (intro w hSw; (try dsimp only at hSw); go_simp; (try with_reducible rfl))
        refine wpAnyH_take (i := 9) (v := ?_) rfl (by kernel_rfl) (by kernel_rfl) (by kernel_rfl) (fun _ _ _ h => h) (Or.inl ⟨by rfl, ?_⟩) (by assumption) ?_
        rotate_left
        · (intro w hSw; (try dsimp only at hSw); go_simp; (try with_reducible rfl))
        refine wpAnyH_done (by kernel_rfl) ?_ _
        clear hHeld
        go_wp2
        go_ret
        exact ⟨rfl, HB12.out⟩

theorem ownL : ownKnob Try.prog.godebug = none := by kernel_rfl

theorem all_two {H : Type} {ts : List TypeId} {d0 d1 : DataW H} (h : (DataW.weightsEach Try.prog ([25, 25] ++ ts) ([d0, d1] ++ [])).all (· ≤ reachBytes) = true) : (∀ n ∈ d0.weights Try.prog 25, n ≤ reachBytes) ∧ (∀ n ∈ d1.weights Try.prog 25, n ≤ reachBytes) := by
  simp only [List.cons_append, List.nil_append, DataW.weightsEach, List.all_append, Bool.and_eq_true, List.all_eq_true, decide_eq_true_eq] at h
  exact ⟨h.1, h.2.1⟩

set_option maxRecDepth 100000 in
theorem lifted (os : Os) (started : os.Started) (H : Type) (enc : TypeId × Value → H) :
    ReturnsInHanded {} Try.checked os 3 .any (Rows.bytesTermsSpec.pre6 enc Try.prog Try.f3 Rows.bytesTermsRow.domain false) (Rows.bytesTermsSpec.post enc Try.prog Try.f3 false true false false) := by
  refine returnsInHanded_of_change_sized (C := Try.checked) ownL started (by kernel_rfl) Try.func3
    (ChangeSpec.witness6 (enc := enc) (C := Try.checked) false ⟨#[], #[.agg #[.int .i64 0, .int .i64 0, .bool false, .string { data := #[] }, .slice none 0 0, .slice none 0 0], .agg #[.int .i64 0, .int .i64 0, .bool false, .string { data := #[] }, .slice none 0 0, .slice none 0 0]], []⟩ 8 (by kernel_rfl) (by kernel_rfl) (by kernel_rfl) (by kernel_rfl)) ?_
  intro W base args ds gs before hval0 hW hcnd hwt _
  have hval : ∀ (j : Nat) t v, Try.f3.params[j]? = some t → args[j]? = some v → Value.okWide Try.prog W .any base t v := hval0
  have hW' := hW
  obtain ⟨p, q, hA0, hV, rfl, hfz, hnd⟩ := hW
  have hA : DataW.TrodAll enc Try.prog W 0 (fun _ => true) true Try.f3.params.toList args.toList ds p := hA0
  rw [Try.params3] at hA hval
  obtain ⟨v0, v1, d0, d1, p0, p1, rfl, rfl, rfl, h0, h1⟩ := trodAll_two hA
  obtain ⟨rfl, rfl⟩ := trodVars_none hV
  have hwt' := hwt
  rw [show Try.checked.prog = Try.prog from rfl, Try.params3] at hwt'
  obtain ⟨wt0, wt1⟩ := all_two hwt'
  have k0 := h0
  have lt0 : ∀ x ∈ p0, x.block < W.heap.size := by obtain ⟨m, hm⟩ := k0; exact DataW.trod_lt m _ _ _ hm
  obtain ⟨a, hva, hoa⟩ := open_term (hval 0 25 v0 rfl rfl) h0
  have k1 := h1
  have lt1 : ∀ x ∈ p1, x.block < W.heap.size := by obtain ⟨m, hm⟩ := k1; exact DataW.trod_lt m _ _ _ hm
  obtain ⟨b, hvb, hob⟩ := open_term (hval 1 25 v1 rfl rfl) h1
  clear hA0 hval0
  refine (walk a b v0 v1 W (hoa wt0) (hob wt1) hva hvb).mono fun e W' ⟨he, bel⟩ => ?_
  subst he
  exact ⟨_, rfl, _, _, _, [], _, [], hW', trodAll_mk1 (shut_bool Try.underlying4 _), trodAll_mk2 (Below.trod laidOut (by kernel_rfl) (of_decide_eq_true (by kernel_rfl)) k0 bel lt0) (Below.trod laidOut (by kernel_rfl) (of_decide_eq_true (by kernel_rfl)) k1 bel lt1), rfl, bel.frame _, fun h => by cases h⟩

theorem over : Rows.bytesTermsRow.holds Try.pinned (OpenSpec.ofChange Rows.bytesTermsSpec) :=
  OpenClaim.holds_of_wide 3 Try.f3 rfl rfl rfl rfl rfl rfl rfl ⟨rfl, rfl, rfl, rfl, rfl⟩ rfl rfl rfl rfl rfl (by kernel_rfl) Try.func3 (by kernel_rfl)
    (of_decide_eq_true (by kernel_rfl)) (by unfold Func.isWrapper; first | (rw [if_pos (by decide +kernel)]; kernel_rfl) | (rw [if_neg (by decide +kernel)]; exact ⟨rfl, rfl⟩))
    (fun os started H enc _ => lifted os started H enc)

end bytesTerms

theorem bytesTerms_holds : Rows.BytesTermsSaid := bytesTerms.over
#print axioms bytesTerms_holds
end Go.Proofs.Ytgaonhocgbnbkaa
