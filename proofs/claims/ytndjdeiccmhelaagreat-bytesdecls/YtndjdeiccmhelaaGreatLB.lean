/- The contracts of the reference's ExactDecl and ExactDecls at declarations that are one. -/
import Derived.Test.YtndjdeiccmhelaaGreatKK
import Derived.Test.YtndjdeiccmhelaaGreatEP
namespace Go.Proofs.YtndjdeiccmhelaaGreat
open Go.RowKit Go.Sort Go.Lib

set_option maxRecDepth 100000 in
set_option maxHeartbeats 8000000 in
theorem ExactDecl_yes (d : Dl) (v1 v2 : Value) (w : World) (hv1 : DV w v1 d) (hv2 : DV w v2 d) (hsm : smD d) : Calls Tryz.prog 12 #[v1, v2] w fun e w' => e = .returned (.bool true) ∧ RowKit.Below w.heap.size w w' := by
  obtain ⟨t0, t1, t2, t3, t4, t5, t6, t7, t8, t9, v0, v1, v2, v3, v4, v5, v6, v7, v8, v9, ca, cc, rfl, htt, htv, hck⟩ := hv1.go
  obtain ⟨x0, x1, x2, x3, x4, x5, x6, x7, x8, x9, y0, y1, y2, y3, y4, y5, y6, y7, y8, y9, cb, cd, rfl, hxt, hxv, hxk⟩ := hv2.go
  have HET := fun (W : World) (h : RowKit.Below w.heap.size w W) => Exactly_exa _ _ d.ty W hsm.ty (htt.on h) (hxt.on h)
  have HEV := fun (W : World) (h : RowKit.Below w.heap.size w W) => Exactly_exa _ _ d.val W hsm.val (htv.on h) (hxv.on h)
  have hsz : d.ctors.length ≤ 1000000 := hsm.len
  have HSC := Hid.mk hsm.ctors
  have HCK := Hid.mk hck
  have HXK := Hid.mk hxk
  clear htt htv hck hxt hxv hxk hv1 hv2 hsm
  obtain ⟨kd, nm, lv, ty, val, pr, cs⟩ := d
  simp only at HET HEV HCK HXK HSC hsz ⊢
  obtain ⟨W0, hW0⟩ : ∃ W0, (w.alloc (.cells #[.int .i64 kd, .string nm, .int .i64 lv, .int .i64 t0, .int .i64 t1, .bool t2, .string t3, .slice t4 t5 t6, .slice t7 t8 t9, .int .i64 v0, .int .i64 v1, .bool v2, .string v3, .slice v4 v5 v6, .slice v7 v8 v9, .int .i64 pr, .slice ca cs.length cc] 41)).alloc (.cells #[.int .i64 kd, .string nm, .int .i64 lv, .int .i64 x0, .int .i64 x1, .bool x2, .string x3, .slice x4 x5 x6, .slice x7 x8 x9, .int .i64 y0, .int .i64 y1, .bool y2, .string y3, .slice y4 y5 y6, .slice y7 y8 y9, .int .i64 pr, .slice cb cs.length cd] 41) = W0 := ⟨_, rfl⟩
  have hb0 : RowKit.Below w.heap.size w W0 := by rw [← hW0]; exact ((Below.refl _ _).alloc (Nat.le_refl _) _).alloc (by simp) _
  have HX0 : Hid (W0.heap[w.heap.size]? = some (.cells #[.int .i64 kd, .string nm, .int .i64 lv, .int .i64 t0, .int .i64 t1, .bool t2, .string t3, .slice t4 t5 t6, .slice t7 t8 t9, .int .i64 v0, .int .i64 v1, .bool v2, .string v3, .slice v4 v5 v6, .slice v7 v8 v9, .int .i64 pr, .slice ca cs.length cc] 41 (0, 0))) := by unfold Hid; rw [← hW0]; exact box_at
  have HY0 : Hid (W0.heap[w.heap.size + 1]? = some (.cells #[.int .i64 kd, .string nm, .int .i64 lv, .int .i64 x0, .int .i64 x1, .bool x2, .string x3, .slice x4 x5 x6, .slice x7 x8 x9, .int .i64 y0, .int .i64 y1, .bool y2, .string y3, .slice y4 y5 y6, .slice y7 y8 y9, .int .i64 pr, .slice cb cs.length cd] 41 (0, 0))) := by unfold Hid; rw [← hW0]; exact box_at1
  have HB0 := Hid.mk hb0
  have HW0 := Hid.mk hW0
  have HC1 := HET W0 hb0
  obtain ⟨q0, q1, q2, q3, q4, q5, q6, q7, q8, q9, q10, q11, q12, q13, q14, q15, q16, q17⟩ := cells17 HX0.out
  obtain ⟨p0, p1, p2, p3, p4, p5, p6, p7, p8, p9, p10, p11, p12, p13, p14, p15, p16, p17⟩ := cells17 HY0.out
  clear hW0 hb0
  go_enter Tryz.func12, Tryz.ntmps12
  go_wp2_with (rw [HW0.out])
  refine HC1.mono ?_
  rintro e w1 ⟨rfl, hb1⟩
  have HB1 : Hid (RowKit.Below w.heap.size w w1) := HB0.out.trans (hb1.mono HB0.out.size)
  have HX1 := Hid.mk ((hb1.block _ (heap_lt HX0.out)).trans HX0.out)
  have HY1 := Hid.mk ((hb1.block _ (heap_lt HY0.out)).trans HY0.out)
  have HC2 := HEV w1 HB1.out
  clear hb1 HC1 HET HEV q0 q1 q2 q3 q4 q5 q6 q7 q8 q9 q10 q11 q12 q13 q14 q15 q16 q17 p0 p1 p2 p3 p4 p5 p6 p7 p8 p9 p10 p11 p12 p13 p14 p15 p16 p17 HX0 HY0 HW0
  obtain ⟨q0, q1, q2, q3, q4, q5, q6, q7, q8, q9, q10, q11, q12, q13, q14, q15, q16, q17⟩ := cells17 HX1.out
  obtain ⟨p0, p1, p2, p3, p4, p5, p6, p7, p8, p9, p10, p11, p12, p13, p14, p15, p16, p17⟩ := cells17 HY1.out
  go_wp2_with fail
  refine HC2.mono ?_
  rintro e w2 ⟨rfl, hb2⟩
  have HB2 : Hid (RowKit.Below w.heap.size w w2) := HB1.out.trans (hb2.mono HB1.out.size)
  have HX2 := Hid.mk ((hb2.block _ (heap_lt HX1.out)).trans HX1.out)
  have HY2 := Hid.mk ((hb2.block _ (heap_lt HY1.out)).trans HY1.out)
  clear hb2 HC2 q0 q1 q2 q3 q4 q5 q6 q7 q8 q9 q10 q11 q12 q13 q14 q15 q16 q17 p0 p1 p2 p3 p4 p5 p6 p7 p8 p9 p10 p11 p12 p13 p14 p15 p16 p17 HX1 HY1
  obtain ⟨q0, q1, q2, q3, q4, q5, q6, q7, q8, q9, q10, q11, q12, q13, q14, q15, q16, q17⟩ := cells17 HX2.out
  obtain ⟨p0, p1, p2, p3, p4, p5, p6, p7, p8, p9, p10, p11, p12, p13, p14, p15, p16, p17⟩ := cells17 HY2.out
  go_wp2
  go_loopw [7] (fun i wr => ∃ k : Nat, k ≤ cs.length ∧ i = .int .i64 k ∧ RowKit.Below w2.heap.size w2 wr) (fun i _ => cs.length - (intOf i).toNat)
  case atStart => exact ⟨0, Nat.zero_le _, rfl, Below.refl _ _⟩
  case round =>
    obtain ⟨k, hk, rfl, hb⟩ := hrel
    have HBR := Hid.mk hb
    have HBW : Hid (RowKit.Below w.heap.size w wr) := HB2.out.trans (hb.mono HB2.out.size)
    have HX := Hid.mk ((hb.block _ (heap_lt HX2.out)).trans HX2.out)
    have HY := Hid.mk ((hb.block _ (heap_lt HY2.out)).trans HY2.out)
    clear hb q0 q1 q2 q3 q4 q5 q6 q7 q8 q9 q10 q11 q12 q13 q14 q15 q16 q17 p0 p1 p2 p3 p4 p5 p6 p7 p8 p9 p10 p11 p12 p13 p14 p15 p16 p17
    obtain ⟨q0, q1, q2, q3, q4, q5, q6, q7, q8, q9, q10, q11, q12, q13, q14, q15, q16, q17⟩ := cells17 HX.out
    obtain ⟨p0, p1, p2, p3, p4, p5, p6, p7, p8, p9, p10, p11, p12, p13, p14, p15, p16, p17⟩ := cells17 HY.out
    by_cases hlt : k < cs.length
    · obtain ⟨ab, ao, rfl, -, acs⟩ := (HCK.out.on HBW.out).resolve_left (by intro e; rw [e] at hlt; simp at hlt)
      obtain ⟨bb, bo, rfl, -, bcs⟩ := (HXK.out.on HBW.out).resolve_left (by intro e; rw [e] at hlt; simp at hlt)
      obtain ⟨an, at'⟩ := acs k _ (List.getElem?_eq_getElem hlt)
      obtain ⟨bn, bt'⟩ := bcs k _ (List.getElem?_eq_getElem hlt)
      obtain ⟨hs1, hs2⟩ := HSC.out _ (List.getElem_mem hlt)
      obtain ⟨a0, a1, a2, a3, a4, a5, a6, a7, a8, a9, c0, c1, c2, c3, c4, c5, hta⟩ := at'.valE
      obtain ⟨b0, b1, b2, b3, b4, b5, b6, b7, b8, b9, e0, e1, e2, e3, e4, e5, htb⟩ := bt'.valE
      generalize cs[k] = kk at *
      obtain ⟨cnm, ctm⟩ := kk
      simp only at an bn hs1 hs2 hta htb
      have d0 : wr.cell? ⟨ab, ao + k * 7 + 1, none⟩ = some _ := c0
      have d1 : wr.cell? ⟨ab, ao + k * 7 + 2, none⟩ = some _ := c1
      have d2 : wr.cell? ⟨ab, ao + k * 7 + 3, none⟩ = some _ := c2
      have d3 : wr.cell? ⟨ab, ao + k * 7 + 4, none⟩ = some _ := c3
      have d4 : wr.cell? ⟨ab, ao + k * 7 + 5, none⟩ = some _ := c4
      have d5 : wr.cell? ⟨ab, ao + k * 7 + 6, none⟩ = some _ := c5
      have f0 : wr.cell? ⟨bb, bo + k * 7 + 1, none⟩ = some _ := e0
      have f1 : wr.cell? ⟨bb, bo + k * 7 + 2, none⟩ = some _ := e1
      have f2 : wr.cell? ⟨bb, bo + k * 7 + 3, none⟩ = some _ := e2
      have f3 : wr.cell? ⟨bb, bo + k * 7 + 4, none⟩ = some _ := e3
      have f4 : wr.cell? ⟨bb, bo + k * 7 + 5, none⟩ = some _ := e4
      have f5 : wr.cell? ⟨bb, bo + k * 7 + 6, none⟩ = some _ := e5
      have HC := Exactly_exa _ _ ctm wr.drew hs2 (hta.on (Below.refl _ _).drew) (htb.on (Below.refl _ _).drew)
      have zk : (k : Int) < (cs.length : Int) := by omega
      have hba : ab < wr.heap.size := World.block_lt_of_cell? _ _ an
      have hbb : bb < wr.heap.size := World.block_lt_of_cell? _ _ bn
      have HAN : Hid (∀ w', RowKit.Below wr.heap.size wr w' → w'.cell? ⟨ab, ao + k * 7, none⟩ = some (.string cnm) ∧ w'.cell? ⟨bb, bo + k * 7, none⟩ = some (.string cnm)) := fun w' h => ⟨(h.cell (p := ⟨ab, ao + k * 7, none⟩) hba).trans an, (h.cell (p := ⟨bb, bo + k * 7, none⟩) hbb).trans bn⟩
      clear hta htb at' bt' acs bcs c0 c1 c2 c3 c4 c5 e0 e1 e2 e3 e4 e5 hs1 hs2
      have HCEL : Hid (∀ W : World, RowKit.Below wr.heap.size wr W → W.cell? ⟨w.heap.size, 16, none⟩ = some (.slice (some ⟨ab, ao, none⟩) cs.length cc) ∧ W.cell? ⟨w.heap.size + 1, 16, none⟩ = some (.slice (some ⟨bb, bo, none⟩) cs.length cd) ∧ W.cell? ⟨ab, ao + k * 7 + 1, none⟩ = some (.int .i64 a0) ∧ W.cell? ⟨ab, ao + k * 7 + 2, none⟩ = some (.int .i64 a1) ∧ W.cell? ⟨ab, ao + k * 7 + 3, none⟩ = some (.bool a2) ∧ W.cell? ⟨ab, ao + k * 7 + 4, none⟩ = some (.string a3) ∧ W.cell? ⟨ab, ao + k * 7 + 5, none⟩ = some (.slice a4 a5 a6) ∧ W.cell? ⟨ab, ao + k * 7 + 6, none⟩ = some (.slice a7 a8 a9) ∧ W.cell? ⟨bb, bo + k * 7 + 1, none⟩ = some (.int .i64 b0) ∧ W.cell? ⟨bb, bo + k * 7 + 2, none⟩ = some (.int .i64 b1) ∧ W.cell? ⟨bb, bo + k * 7 + 3, none⟩ = some (.bool b2) ∧ W.cell? ⟨bb, bo + k * 7 + 4, none⟩ = some (.string b3) ∧ W.cell? ⟨bb, bo + k * 7 + 5, none⟩ = some (.slice b4 b5 b6) ∧ W.cell? ⟨bb, bo + k * 7 + 6, none⟩ = some (.slice b7 b8 b9)) := fun W h => ⟨(h.cell (p := ⟨w.heap.size, 16, none⟩) q17).trans q16, (h.cell (p := ⟨w.heap.size + 1, 16, none⟩) p17).trans p16, (h.cell (p := ⟨ab, ao + k * 7 + 1, none⟩) hba).trans d0, (h.cell (p := ⟨ab, ao + k * 7 + 2, none⟩) hba).trans d1, (h.cell (p := ⟨ab, ao + k * 7 + 3, none⟩) hba).trans d2, (h.cell (p := ⟨ab, ao + k * 7 + 4, none⟩) hba).trans d3, (h.cell (p := ⟨ab, ao + k * 7 + 5, none⟩) hba).trans d4, (h.cell (p := ⟨ab, ao + k * 7 + 6, none⟩) hba).trans d5, (h.cell (p := ⟨bb, bo + k * 7 + 1, none⟩) hbb).trans f0, (h.cell (p := ⟨bb, bo + k * 7 + 2, none⟩) hbb).trans f1, (h.cell (p := ⟨bb, bo + k * 7 + 3, none⟩) hbb).trans f2, (h.cell (p := ⟨bb, bo + k * 7 + 4, none⟩) hbb).trans f3, (h.cell (p := ⟨bb, bo + k * 7 + 5, none⟩) hbb).trans f4, (h.cell (p := ⟨bb, bo + k * 7 + 6, none⟩) hbb).trans f5⟩
      go_wp2_with fail
      go_region_held3 (fun w' => w'.cell? ⟨w.heap.size, 16, none⟩ = some (.slice (some ⟨ab, ao, none⟩) cs.length cc) ∧ w'.cell? ⟨w.heap.size + 1, 16, none⟩ = some (.slice (some ⟨bb, bo, none⟩) cs.length cd) ∧ w'.cell? ⟨ab, ao + k * 7 + 1, none⟩ = some (.int .i64 a0) ∧ w'.cell? ⟨ab, ao + k * 7 + 2, none⟩ = some (.int .i64 a1) ∧ w'.cell? ⟨ab, ao + k * 7 + 3, none⟩ = some (.bool a2) ∧ w'.cell? ⟨ab, ao + k * 7 + 4, none⟩ = some (.string a3) ∧ w'.cell? ⟨ab, ao + k * 7 + 5, none⟩ = some (.slice a4 a5 a6) ∧ w'.cell? ⟨ab, ao + k * 7 + 6, none⟩ = some (.slice a7 a8 a9) ∧ w'.cell? ⟨bb, bo + k * 7 + 1, none⟩ = some (.int .i64 b0) ∧ w'.cell? ⟨bb, bo + k * 7 + 2, none⟩ = some (.int .i64 b1) ∧ w'.cell? ⟨bb, bo + k * 7 + 3, none⟩ = some (.bool b2) ∧ w'.cell? ⟨bb, bo + k * 7 + 4, none⟩ = some (.string b3) ∧ w'.cell? ⟨bb, bo + k * 7 + 5, none⟩ = some (.slice b4 b5 b6) ∧ w'.cell? ⟨bb, bo + k * 7 + 6, none⟩ = some (.slice b7 b8 b9)) (first | exact HCEL.out _ (Below.refl _ _).drew | exact HCEL.out _ hb3)
        (first | (go_at_call 39; refine HC.mono ?_; rintro e w3 ⟨rfl, hg3⟩; have hb3 : RowKit.Below wr.heap.size wr w3 := (Below.refl _ _).drew.trans hg3; clear hg3))
      have HB3 : Hid (RowKit.Below w2.heap.size w2 w3) := HBR.out.trans (hb3.mono HBR.out.size)
      obtain ⟨an3, bn3⟩ := HAN.out w3 hb3
      have hX3 := (hb3.block _ (heap_lt HX.out)).trans HX.out
      have hY3 := (hb3.block _ (heap_lt HY.out)).trans HY.out
      clear hb3 HC q0 q1 q2 q3 q4 q5 q6 q7 q8 q9 q10 q11 q12 q13 q14 q15 q16 q17 p0 p1 p2 p3 p4 p5 p6 p7 p8 p9 p10 p11 p12 p13 p14 p15 p16 p17 an bn d0 d1 d2 d3 d4 d5 f0 f1 f2 f3 f4 f5
      obtain ⟨q0, q1, q2, q3, q4, q5, q6, q7, q8, q9, q10, q11, q12, q13, q14, q15, q16, q17⟩ := cells17 hX3
      obtain ⟨p0, p1, p2, p3, p4, p5, p6, p7, p8, p9, p10, p11, p12, p13, p14, p15, p16, p17⟩ := cells17 hY3
      clear hX3 hY3
      have hba3 : ab < w3.heap.size := World.block_lt_of_cell? _ _ an3
      have hbb3 : bb < w3.heap.size := World.block_lt_of_cell? _ _ bn3
      have HCE2 : Hid (∀ W : World, RowKit.Below w3.heap.size w3 W → W.cell? ⟨w.heap.size, 16, none⟩ = some (.slice (some ⟨ab, ao, none⟩) cs.length cc) ∧ W.cell? ⟨w.heap.size + 1, 16, none⟩ = some (.slice (some ⟨bb, bo, none⟩) cs.length cd) ∧ W.cell? ⟨ab, ao + k * 7, none⟩ = some (.string cnm) ∧ W.cell? ⟨bb, bo + k * 7, none⟩ = some (.string cnm)) := fun W h => ⟨(h.cell (p := ⟨w.heap.size, 16, none⟩) q17).trans q16, (h.cell (p := ⟨w.heap.size + 1, 16, none⟩) p17).trans p16, (h.cell (p := ⟨ab, ao + k * 7, none⟩) hba3).trans an3, (h.cell (p := ⟨bb, bo + k * 7, none⟩) hbb3).trans bn3⟩
      go_wp2_with fail
      go_region_held3 (fun w' => w'.cell? ⟨w.heap.size, 16, none⟩ = some (.slice (some ⟨ab, ao, none⟩) cs.length cc) ∧ w'.cell? ⟨w.heap.size + 1, 16, none⟩ = some (.slice (some ⟨bb, bo, none⟩) cs.length cd) ∧ w'.cell? ⟨ab, ao + k * 7, none⟩ = some (.string cnm) ∧ w'.cell? ⟨bb, bo + k * 7, none⟩ = some (.string cnm)) (first | exact HCE2.out _ (Below.refl _ _).drew) (fail)
      go_wp2
      exact ⟨⟨k + 1, hlt, by go_num, HB3.out.drew⟩, by simp [intOf]; omega⟩
    · go_wp2
      go_ret
      exact ⟨rfl, HBW.out⟩
end Go.Proofs.YtndjdeiccmhelaaGreat
