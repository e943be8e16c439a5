/- BytesReads: for any bytes b and o, bytes.ReadTerm answers what the reference answers for b, whatever becomes of the bytes afterwards and of what was read from o, and leaves the bytes and the room behind them as they were. Conditions: none but the row's own. -/
import Derived.Test.YtahacpbmoijicaaRows
import Derived.Test.YtahacpbmoijicaaGF
import Derived.Test.YtahacpbmoijicaaGE
import Derived.Test.YtahacpbmoijicaaER
import Derived.SizedLaws
import Derived.ProofKit
import Derived.OpenShut
import Derived.Below
namespace Go.Proofs.Ytahacpbmoijicaa
open Go.RowKit Go.Sort Go.Lib
namespace bytesReads
open Go.ChangeShapes Go.WideShapes Go.ChangeAt

theorem xor255 (x : UInt8) : ∃ y : UInt8, bits .xor .u8 (x.toNat : Int) 255 = (y.toNat : Int) := by
  have key : ∀ z : Fin 256, bits .xor .u8 ((z.val : Nat) : Int) 255 = ((255 - z.val : Nat) : Int) := by decide +kernel
  refine ⟨UInt8.ofNat (255 - x.toNat), ?_⟩
  rw [key ⟨x.toNat, x.toNat_lt⟩, UInt8.toNat_ofNat_of_lt' (by show 255 - x.toNat < 256; omega)]

theorem OY.set {B g cap : Nat} {w : World} {bs : List UInt8} (h : OY B w (.slice (some ⟨g, 0, none⟩) bs.length cap) bs) (k : Nat) (y : UInt8) : OY B (w.setCell ⟨g, k, none⟩ (.int .u8 (y.toNat : Int))) (.slice (some ⟨g, 0, none⟩) bs.length cap) (bs.set k y) := by
  obtain ⟨h1, h2⟩ := h
  rcases h2 with ⟨e, -⟩ | ⟨g', cap', cur, hv, hg, hh, hc, hm, hs, ht⟩
  · cases e
  · simp only [Value.slice.injEq, Option.some.injEq, Addr.mk.injEq, and_true, true_and] at hv
    obtain ⟨rfl, rfl⟩ := hv
    refine ⟨by simp [flatB], Or.inr ⟨g, cap, cur.setIfInBounds k (.int .u8 (y.toNat : Int)), by rw [List.length_set], hg, ?_, by rw [List.length_set]; exact hc, hm, by rw [Array.size_setIfInBounds]; exact hs, ?_⟩⟩
    · rw [setCell_eq]; show (w.heap.modify g _)[g]? = _
      rw [Array.getElem?_modify, if_pos rfl, hh]; rfl
    · rw [List.length_set, Array.toList_setIfInBounds, List.take_set, ht]
      simp [flatB, List.map_set]

theorem row_cell {B g cap k : Nat} {w : World} {bs : List UInt8} (h : OY B w (.slice (some ⟨g, 0, none⟩) bs.length cap) bs) (hk : k < bs.length) : w.cell? ⟨g, k, none⟩ = some (.int .u8 (bs[k].toNat : Int)) ∧ w.frozen? ⟨g, k, none⟩ = false ∧ g < w.heap.size ∧ B ≤ g := by
  obtain ⟨h1, h2⟩ := h
  have hlt := OY.lt (show OY B w (.slice (some ⟨g, 0, none⟩) bs.length cap) bs from ⟨h1, h2⟩) (k := g) rfl
  rcases h2 with ⟨e, -⟩ | ⟨g', cap', cur, hv, hg, hh, hc, hm, hs, ht⟩
  · cases e
  · simp only [Value.slice.injEq, Option.some.injEq, Addr.mk.injEq, and_true, true_and] at hv
    obtain ⟨rfl, rfl⟩ := hv
    refine ⟨?_, by simp [World.frozen?, hh], hlt.2, hlt.1⟩
    rw [cell_of_row w g k cur _ _ hh]
    have h3 : (flatB bs)[k]? = some (.int .u8 (bs[k].toNat : Int)) := by simp [flatB, hk]
    rw [← ht, List.getElem?_take] at h3
    split at h3
    · simpa using h3
    · cases h3

/-- the first n of bytes in memory -/
theorem BL.head {w : World} {a : Option Addr} {xs ys : List UInt8} (h : BL w a (xs ++ ys)) : BL w a xs := by
  rcases h with h | ⟨b, off, ha, hlt, hc⟩
  · exact Or.inl (List.append_eq_nil_iff.1 h).1
  · refine Or.inr ⟨b, off, ha, hlt, fun i hi => ?_⟩
    have := hc i (by rw [List.length_append]; omega)
    rwa [List.getElem_append_left hi] at this

set_option maxRecDepth 100000 in
set_option maxHeartbeats 8000000 in
theorem walk (bs os : List UInt8) (ab ao : Option Addr) (cb co : Nat) (w : World) (hB : BL w ab bs) (hBl : ∀ ad, ab = some ad → ad.block < w.heap.size) (hBn : ab = none → cb = 0) (hBc : bs.length ≤ cb) (hBm : cb ≤ 9223372036854775807) (hO : BL w ao os) (hOl : ∀ ad, ao = some ad → ad.block < w.heap.size) (hOn : ao = none → co = 0) (hOc : os.length ≤ co) (hOm : co ≤ 9223372036854775807) :
    Calls Try.prog 4 #[.slice ab bs.length cb, .slice ao os.length co] w fun e w' => e = .returned (.bool true) ∧ RowKit.Below w.heap.size w w' := by
  have HBB := Hid.mk hB
  have HBL := Hid.mk hBl
  have HOO := Hid.mk hO
  have HOL := Hid.mk hOl
  have HA := alive3_any w
  clear hB hBl hO hOl
  go_enter Try.func4, Try.ntmps4
  go_wp2_with fail
  refine HA.mono ?_
  rintro e w1 ⟨rfl, hb1⟩
  have HB1 := Hid.mk hb1
  clear hb1 HA
  by_cases hlb : (5000 : Int) < (bs.length : Int)
  · go_wp2
    go_ret
    exact ⟨rfl, HB1.out⟩
  by_cases hlo : (5000 : Int) < (os.length : Int)
  · go_wp2
    go_ret
    exact ⟨rfl, HB1.out⟩
  have HS1 := Hid.mk (HBB.out.below HB1.out)
  have hone : ∀ (a2 : Option Addr) (c2 : Nat) (w2 : World), OY w1.heap.size w2 (.slice a2 bs.length c2) bs → w1.grownBy w2 none →
      BL (w2.alloc (.cells #[.int .u8 167] 5)) (some ⟨w2.heap.size, 0, none⟩) [167] ∧ OY w1.heap.size (w2.alloc (.cells #[.int .u8 167] 5)) (.slice a2 bs.length c2) bs ∧ RowKit.Below w1.heap.size w1 (w2.alloc (.cells #[.int .u8 167] 5)) := by
    intro a2 c2 w2 hO2 hg2
    have hb3 : RowKit.Below w2.heap.size w2 (w2.alloc (.cells #[.int .u8 167] 5)) := (Below.refl _ _).alloc (Nat.le_refl _) _
    refine ⟨BL.of_block (alloc_new _ _) fun i hi => ?_, hO2.move fun k hk => hb3.block k (hO2.lt hk).2, ((Below.refl _ w1).grown hg2 (Nat.le_refl _) (fun k e => by cases e)).trans (hb3.mono hg2.size)⟩
    obtain rfl : i = 0 := by simp at hi; omega
    rfl
  have HONE := Hid.mk hone
  clear hone
  have hlen : (bs ++ [167]).length = bs.length + 1 := by simp
  have HFACT : Hid (∀ (g4 c4 : Nat) (w4 : World), OY w1.heap.size w4 (.slice (some ⟨g4, 0, none⟩) (bs ++ [167]).length c4) (bs ++ [167]) → BL w4 (some ⟨g4, 0, none⟩) (bs ++ [167]) ∧ bs.length + 1 ≤ c4 ∧ c4 ≤ 9223372036854775807 ∧ w1.heap.size ≤ g4 ∧ g4 < w4.heap.size) := by
    intro g4 c4 w4 hO4
    obtain ⟨a', c', e', h1, h2, h3, -⟩ := hO4.shape
    simp only [Value.slice.injEq, true_and] at e'
    obtain ⟨rfl, rfl⟩ := e'
    obtain ⟨h4, h5⟩ := hO4.lt (k := g4) rfl
    exact ⟨h1, by omega, h3, h4, h5⟩
  go_wp2_with (first
    | (at_builtin; refine wpList_appB0 rfl _ _ rfl w1.heap.size bs ab cb rfl rfl HS1.out hBn (by omega) (Nat.le_refl _) ?_; intro v2 w2 hO2 hg2; obtain ⟨a2, c2, rfl, -⟩ := hO2.shape; obtain ⟨hS3, hO3, hb3⟩ := HONE.out a2 c2 w2 hO2 hg2; have HS3 := Hid.mk hS3; have HO3 := Hid.mk hO3; have HB3 := Hid.mk hb3; have hs13 := hb3.size; clear hS3 hO3 hb3 hO2 hg2)
    | (at_builtin; refine wpList_appB rfl _ _ rfl w1.heap.size (.slice a2 bs.length c2) bs [167] ⟨w2.heap.size, 0, none⟩ 1 1 rfl rfl rfl HO3.out HS3.out (by simp) (by simp; omega) hs13 ?_; intro g4 c4 w4 hO4 hg4 hat4; obtain ⟨hbl4, hc4, hm4, hg4B, hg4s⟩ := HFACT.out g4 c4 w4 hO4; have HBL4 := Hid.mk hbl4; have HOY4 := Hid.mk hO4; have HB4 : Hid (RowKit.Below w1.heap.size w1 w4) := HB3.out.grown hg4 hs13 (fun k e => (HO3.out.lt e).1); have hz4 : (bs.length : Int) ≤ (c4 : Int) := (by omega); rw [hlen]; clear hbl4 hO4 hg4 hat4 HO3 HS3 HB3 hs13))
  have HC5 := BReadTerm_any bs (some ⟨g4, 0, none⟩) c4 w4 (BL.head HBL4.out) (fun ad e => by simp only [Option.some.injEq] at e; subst e; exact hg4s) (fun e => by cases e) (by omega) hm4 (by omega)
  refine HC5.mono ?_
  rintro e w5 ⟨hans, hb5⟩
  obtain ⟨v5, t5, x5, rfl, ⟨u0, u1, u2, u3, u4, u5, u6, u7, u8, u9, rfl⟩, htf5, his5⟩ := hans.is
  have HTF5 := Hid.mk htf5
  have HIS5 := Hid.mk his5
  have HB5 := Hid.mk hb5
  clear hans htf5 his5 hb5 HC5
  obtain ⟨W6, hW6⟩ : ∃ W6, w5.alloc (.cells #[.int .i64 u0, .int .i64 u1, .bool u2, .string u3, .slice u4 u5 u6, .slice u7 u8 u9] 25) = W6 := ⟨_, rfl⟩
  have hb6 : RowKit.Below w5.heap.size w5 W6 := by rw [← hW6]; exact (Below.refl _ _).alloc (Nat.le_refl _) _
  have HX6 : Hid (W6.heap[w5.heap.size]? = some (.cells #[.int .i64 u0, .int .i64 u1, .bool u2, .string u3, .slice u4 u5 u6, .slice u7 u8 u9] 25 (0, 0))) := by unfold Hid; rw [← hW6]; exact alloc_new _ _
  have HB46 : Hid (RowKit.Below w4.heap.size w4 W6) := HB5.out.trans (hb6.mono HB5.out.size)
  have HBLS : Hid (BL W6 (some ⟨g4, 0, none⟩) (bs ++ [167])) := HBL4.out.below HB46.out
  have HBLA : Hid (BL W6 ab bs) := (HBB.out.below (HB1.out.trans (HB4.out.mono HB1.out.size))).below HB46.out
  have HOY6 : Hid (OY w1.heap.size W6 (.slice (some ⟨g4, 0, none⟩) (bs ++ [167]).length c4) (bs ++ [167])) := by
    exact HOY4.out.move fun k hk => HB46.out.block k (HOY4.out.lt hk).2
  have hc167 : W6.cell? ⟨g4, bs.length, none⟩ = some (.int .u8 167) := by
    obtain ⟨b, off, e, -, h⟩ := BL.at HBLS.out (k := bs.length) (by simp)
    simp only [Option.some.injEq, Addr.mk.injEq, and_true] at e
    obtain ⟨rfl, rfl⟩ := e
    rw [Nat.zero_add] at h
    rw [h]
    simp
  have hconv1 : ∀ q, Sem.run Try.prog (convert 28 9 (.slice (some ⟨g4, 0, none⟩) bs.length c4)) (W6.drewN q) = .ok (.string ⟨bs.toArray⟩) (W6.drewN q) := fun q => string_of (BL.below (BL.head HBLS.out) (below_drewN (Below.refl _ _) q)) (fun e => by cases e)
  have hconv2 : ∀ q, Sem.run Try.prog (convert 28 9 (.slice ab bs.length cb)) (W6.drewN q) = .ok (.string ⟨bs.toArray⟩) (W6.drewN q) := fun q => string_of (HBLA.out.below (below_drewN (Below.refl _ _) q)) hBn
  have HW6 := Hid.mk hW6
  have hg6 : g4 < W6.heap.size := by have := HB46.out.size; omega
  clear hW6
  go_wp2_with fail
  (try rw [HW6.out])
  go_quiet (fail)
  obtain ⟨W7, hW7⟩ : ∃ W7, W6.drewN nq = W7 := ⟨_, rfl⟩
  have hb7 : RowKit.Below W6.heap.size W6 W7 := by rw [← hW7]; exact below_drewN (Below.refl _ _) nq
  have HX7 := Hid.mk ((hb7.block _ (heap_lt HX6.out)).trans HX6.out)
  have HOY7 : Hid (OY w1.heap.size W7 (.slice (some ⟨g4, 0, none⟩) (bs ++ [167]).length c4) (bs ++ [167])) := HOY6.out.move fun k hk => hb7.block k (HOY6.out.lt hk).2
  have HB57 : Hid (RowKit.Below w5.heap.size w5 W7) := hb6.trans (hb7.mono hb6.size)
  have HB7 : Hid (RowKit.Below w.heap.size w W7) := (HB1.out.trans (HB4.out.mono HB1.out.size)).trans ((HB46.out.trans (hb7.mono HB46.out.size)).mono (Nat.le_trans HB1.out.size HB4.out.size))
  have hs45 := HB5.out.size
  have hs57 := HB57.out.size
  have hs01 := HB1.out.size
  have hs14 := HB4.out.size
  have HW7 := Hid.mk hW7
  (try rw [HW7.out])
  clear hconv1 hconv2 hc167 hW7 hb6 hb7 HX6 HOY6 HBLS HBLA HB46
  go_wp2
  go_loopw [10] (fun i wr => ∃ (k : Nat) (cs : List UInt8), k ≤ bs.length + 1 ∧ i = .int .i64 k ∧ cs.length = bs.length + 1 ∧ OY w1.heap.size wr (.slice (some ⟨g4, 0, none⟩) (bs.length + 1) c4) cs ∧ Kept (fun k => k = g4) W7 wr) (fun i _ => bs.length + 1 - (intOf i).toNat)
  case atStart => exact ⟨0, bs ++ [167], Nat.zero_le _, rfl, hlen, by rw [← hlen]; exact HOY7.out, Kept.refl _ _⟩
  case round =>
    obtain ⟨k, cs, hk, rfl, hcs, hO, hkr⟩ := hrel
    have HCS := Hid.mk hcs
    have HOR := Hid.mk hO
    have HKR := Hid.mk hkr
    have hsr := hkr.size
    clear hcs hO hkr
    by_cases hlt : k < bs.length + 1
    · have hltc : k < cs.length := by have := HCS.out; omega
      have hO := HOR.out
      rw [← HCS.out] at hO
      obtain ⟨r0, rf, rl, rB⟩ := row_cell hO hltc
      obtain ⟨yx, hyx⟩ := xor255 cs[k]
      have hset := OY.set hO k yx
      rw [HCS.out] at hset
      have HSET := Hid.mk hset
      have hkI : (k : Int) < (bs.length : Int) + 1 := by omega
      clear hO hset
      generalize cs[k] = cx at *
      go_wp2
      refine ⟨⟨k + 1, cs.set k yx, hlt, by go_num, by rw [List.length_set]; exact HCS.out, HSET.out, HKR.out.setCell (p := ⟨g4, k, none⟩) rfl _⟩, by simp [intOf]; omega⟩
    · obtain ⟨w8, rfl⟩ : ∃ w8, w8 = wr := ⟨_, rfl⟩
      have hkI : ¬ (k : Int) < (bs.length : Int) + 1 := by omega
      have HB8 : Hid (RowKit.Below w.heap.size w w8) := HB7.out.trans (HKR.out.below (by omega) (fun j hj => by omega))
      have HX8 := Hid.mk ((HKR.out.block _ (heap_lt HX7.out) (by omega)).trans HX7.out)
      have hs58 : w5.heap.size < w8.heap.size := heap_lt HX8.out
      have HC9 := BReadTerm_wk os ao co w8 (HOO.out.below HB8.out) (fun ad e => by have := HOL.out ad e; omega) hOn hOc hOm (by omega)
      clear HOR HCS
      go_wp2_with fail
      refine HC9.mono ?_
      rintro e w9 ⟨v9, x9, rfl, ⟨y0, y1, y2, y3, y4, y5, y6, y7, y8, y9, rfl⟩, ⟨d9, hwk9⟩, hb9⟩
      have hs89 := hb9.size
      obtain ⟨W10, hW10⟩ : ∃ W10, w9.alloc (.cells #[.int .i64 y0, .int .i64 y1, .bool y2, .string y3, .slice y4 y5 y6, .slice y7 y8 y9] 25) = W10 := ⟨_, rfl⟩
      have hb10 : RowKit.Below w9.heap.size w9 W10 := by rw [← hW10]; exact (Below.refl _ _).alloc (Nat.le_refl _) _
      have HY10 : Hid (W10.heap[w9.heap.size]? = some (.cells #[.int .i64 y0, .int .i64 y1, .bool y2, .string y3, .slice y4 y5 y6, .slice y7 y8 y9] 25 (0, 0))) := by unfold Hid; rw [← hW10]; exact alloc_new _ _
      have HB810 : Hid (RowKit.Below w8.heap.size w8 W10) := hb9.trans (hb10.mono hb9.size)
      have HC11 := WipeK_any (fun k => oldB w8 k || decide (w9.heap.size ≤ k)) w9.heap.size (fun k hk => by simp [hk]) d9 _ W10 hb10.size (WK.move (fun k hk hp => ⟨by rw [hp]; simp; omega, hb10.block k hk⟩) d9 _ hwk9)
      obtain ⟨q0, q1, q2, q3, q4, q5, q6⟩ := cells6 HY10.out
      have HW10 := Hid.mk hW10
      clear hW10 hb10 hb9 hwk9 HC9
      go_wp2_with fail
      (try rw [HW10.out])
      refine HC11.mono ?_
      rintro e w11 ⟨rfl, hwip⟩
      have HB811 : Hid (RowKit.Below w8.heap.size w8 w11) := HB810.out.trans (hwip.1.below HB810.out.size (fun k hk => by rw [Bool.or_eq_false_iff] at hk; exact oldB_no hk.1))
      have HB11 : Hid (RowKit.Below w.heap.size w w11) := HB8.out.trans (HB811.out.mono HB8.out.size)
      have HX11 := Hid.mk ((HB811.out.block _ (heap_lt HX8.out)).trans HX8.out)
      have hs11 := HB811.out.size
      clear hwip HC11 q0 q1 q2 q3 q4 q5 q6
      have HC12 := rReadTerm_any bs ab cb w11 (HBB.out.below HB11.out) (fun ad e => by have := HBL.out ad e; have := HB11.out.size; omega) hBn hBc hBm (by omega)
      go_wp2_with fail
      refine HC12.mono ?_
      rintro e w12 ⟨hans, hb12⟩
      obtain ⟨v12, t12, x12, rfl, ⟨z0, z1, z2, z3, z4, z5, z6, z7, z8, z9, rfl⟩, htf12, his12⟩ := hans.is
      obtain ⟨rfl, rfl⟩ := HIS5.out.one his12
      obtain ⟨W13, hW13⟩ : ∃ W13, w12.alloc (.cells #[.int .i64 z0, .int .i64 z1, .bool z2, .string z3, .slice z4 z5 z6, .slice z7 z8 z9] 25) = W13 := ⟨_, rfl⟩
      have hb13 : RowKit.Below w12.heap.size w12 W13 := by rw [← hW13]; exact (Below.refl _ _).alloc (Nat.le_refl _) _
      have HZ13 : Hid (W13.heap[w12.heap.size]? = some (.cells #[.int .i64 z0, .int .i64 z1, .bool z2, .string z3, .slice z4 z5 z6, .slice z7 z8 z9] 25 (0, 0))) := by unfold Hid; rw [← hW13]; exact alloc_new _ _
      have HB813 : Hid (RowKit.Below w8.heap.size w8 W13) := (HB811.out.trans (hb12.mono HB811.out.size)).trans (hb13.mono (Nat.le_trans HB811.out.size hb12.size))
      have HB13 : Hid (RowKit.Below w.heap.size w W13) := HB8.out.trans (HB813.out.mono HB8.out.size)
      have HX13 := Hid.mk ((HB813.out.block _ (heap_lt HX8.out)).trans HX8.out)
      have htv5 : TV W13 (.agg #[.int .i64 u0, .int .i64 u1, .bool u2, .string u3, .slice u4 u5 u6, .slice u7 u8 u9]) t5 := (HTF5.out.move (Q := fun _ => false) (by have := HB813.out.size; omega) fun k h1 h2 => ⟨rfl, by
        have h3 := oldB_no h2
        exact (HB813.out.block k (by omega)).trans ((HKR.out.block k (by omega) (by omega)).trans (HB57.out.block k h1))⟩).tv
      have HEX := Exactly_exa _ _ t5 W13 HIS5.out.sm htv5 (htf12.tv.on hb13)
      obtain ⟨p0, p1, p2, p3, p4, p5, p6⟩ := cells6 HX13.out
      obtain ⟨q0, q1, q2, q3, q4, q5, q6⟩ := cells6 HZ13.out
      have HW13 := Hid.mk hW13
      clear hans htf12 his12 hb12 hb13 hW13 htv5 HC12
      go_wp2_with (first | rw [HW13.out] | (go_at_call 11; refine (num3_any _ _).mono ?_; rintro e w' ⟨rfl, rfl⟩))
      refine HEX.mono ?_
      rintro e w14 ⟨rfl, hb14⟩
      have HB14 : Hid (RowKit.Below w.heap.size w w14) := HB13.out.trans (hb14.mono HB13.out.size)
      clear hb14 HEX
      go_wp2
      go_ret
      exact ⟨rfl, HB14.out⟩

theorem ownL : ownKnob Try.prog.godebug = none := by kernel_rfl

set_option maxRecDepth 100000 in
theorem lifted (os : Os) (started : os.Started) (H : Type) (enc : TypeId × Value → H) :
    ReturnsInHanded {} Try.checked os 4 .any (Rows.bytesReadsSpec.pre6 enc Try.prog Try.f4 Rows.bytesReadsRow.domain false) (Rows.bytesReadsSpec.post enc Try.prog Try.f4 false true false false) := by
  refine returnsInHanded_of_change_sized (C := Try.checked) ownL started (by kernel_rfl) Try.func4
    (ChangeSpec.witness6 (enc := enc) (C := Try.checked) false ⟨#[], #[.slice none 0 0, .slice none 0 0], []⟩ 8 (by kernel_rfl) (by kernel_rfl) (by kernel_rfl) (by kernel_rfl)) ?_
  intro W base args ds gs before hval0 hW hcnd hwt _
  have hval : ∀ (j : Nat) t v, Try.f4.params[j]? = some t → args[j]? = some v → Value.okWide Try.prog W .any base t v := hval0
  have hW' := hW
  obtain ⟨p, q, hA0, hV, rfl, hfz, hnd⟩ := hW
  have hA : DataW.TrodAll enc Try.prog W 0 (fun _ => true) true Try.f4.params.toList args.toList ds p := hA0
  rw [Try.params4] at hA hval
  obtain ⟨v0, v1, d0, d1, p0, p1, rfl, rfl, rfl, h0, h1⟩ := trodAll_two hA
  obtain ⟨rfl, rfl⟩ := trodVars_none hV
  have k0 := h0
  have lt0 : ∀ x ∈ p0, x.block < W.heap.size := by obtain ⟨m, hm⟩ := k0; exact DataW.trod_lt m _ _ _ hm
  obtain ⟨a, aa, ca, rfl, ha1, ha2, ha3, ha4, ha5⟩ := open_bytes1 (hval 0 28 v0 rfl rfl) h0
  have k1 := h1
  have lt1 : ∀ x ∈ p1, x.block < W.heap.size := by obtain ⟨m, hm⟩ := k1; exact DataW.trod_lt m _ _ _ hm
  obtain ⟨b, ab, cb, rfl, hb1, hb2, hb3, hb4, hb5⟩ := open_bytes1 (hval 1 28 v1 rfl rfl) h1
  clear hA0 hval0
  refine (walk a b aa ab ca cb W ha1 ha2 ha3 ha4 ha5 hb1 hb2 hb3 hb4 hb5).mono fun e W' ⟨he, bel⟩ => ?_
  subst he
  exact ⟨_, rfl, _, _, _, [], _, [], hW', trodAll_mk1 (shut_bool Try.underlying4 _), trodAll_mk2 (Below.trod laidOut (by kernel_rfl) (of_decide_eq_true (by kernel_rfl)) k0 bel lt0) (Below.trod laidOut (by kernel_rfl) (of_decide_eq_true (by kernel_rfl)) k1 bel lt1), rfl, bel.frame _, fun h => by cases h⟩

theorem over : Rows.bytesReadsRow.holds Try.pinned (OpenSpec.ofChange Rows.bytesReadsSpec) :=
  OpenClaim.holds_of_wide 4 Try.f4 rfl rfl rfl rfl rfl rfl rfl ⟨rfl, rfl, rfl, rfl, rfl⟩ rfl rfl rfl rfl rfl (by kernel_rfl) Try.func4 (by kernel_rfl)
    (of_decide_eq_true (by kernel_rfl)) (by unfold Func.isWrapper; first | (rw [if_pos (by decide +kernel)]; kernel_rfl) | (rw [if_neg (by decide +kernel)]; exact ⟨rfl, rfl⟩))
    (fun os started H enc _ => lifted os started H enc)

end bytesReads

theorem bytesReads_holds : Rows.BytesReadsSaid := bytesReads.over
#print axioms bytesReads_holds
end Go.Proofs.Ytahacpbmoijicaa
