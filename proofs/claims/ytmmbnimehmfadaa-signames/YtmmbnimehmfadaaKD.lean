/- The contracts of isName, judgedFamily and judged of package bytes. -/
import Derived.Test.YtmmbnimehmfadaaKA
namespace Go.Proofs.Ytmmbnimehmfadaa
open Go.RowKit Go.Sort

def namedB (s : ByteArray) : Bool := !(s.toList == []) && decide (s.size ≤ 60)

theorem namedB_size {s : ByteArray} (h : namedB s = true) : 0 < s.size ∧ s.size ≤ 60 := by
  unfold namedB at h
  simp at h
  refine ⟨?_, h.2⟩
  rcases Nat.eq_zero_or_pos s.size with hz | hz
  · exfalso
    apply h.1
    have h0 : s.data = #[] := Array.eq_empty_of_size_eq_zero hz
    cases s with
    | mk d => simp only at h0; subst h0; rw [ByteArray.toList, ByteArray.toList.loop]; rfl
  · exact hz

def judgC : List (ByteArray × Tm) → Int
  | [] => 0
  | c :: cs => if namedB c.1 = false then 10 else if checkT c.2 = 0 then judgC cs else checkT c.2

def judgF (d : Dl) : Int := if d.params < 0 ∨ 60 < d.params ∨ 40 < d.ctors.length then 2 else judgC d.ctors

def judgD (d : Dl) : Int := if d.kind < 1 ∨ 3 < d.kind ∨ namedB d.name = false then 10 else if d.levels < 0 ∨ 8 < d.levels then 13 else if checkT d.ty ≠ 0 then checkT d.ty else if d.kind = 2 then checkT d.val else if d.kind = 3 then judgF d else 0

/-- nothing in a declaration is longer than m -/
structure smD (d : Dl) : Prop where
  name : d.name.size ≤ 140737488351232
  ty : smT 1000000 d.ty
  val : smT 1000000 d.val
  len : d.ctors.length ≤ 1000000
  ctors : ∀ c ∈ d.ctors, c.1.size ≤ 140737488351232 ∧ smT 1000000 c.2

set_option maxRecDepth 100000 in
set_option maxHeartbeats 2000000 in
theorem isName_any (s : ByteArray) (w : World) (hs : s.size ≤ 140737488351232) : Calls Try.prog 34 #[.string s] w fun e w' => e = .returned (.bool (namedB s)) ∧ w' = w := by
  unfold namedB
  cases h1 : (s.toList == [])
  · by_cases h2 : s.size ≤ 60
    · have h3 : (s.size : Int) ≤ 60 := by omega
      rw [decide_eq_true h2]
      go_enter Try.func34, Try.ntmps34
      go_wp2
      go_ret
      exact ⟨rfl, rfl⟩
    · have h3 : ¬ (s.size : Int) ≤ 60 := by omega
      rw [decide_eq_false h2]
      go_enter Try.func34, Try.ntmps34
      go_wp2
      go_ret
      exact ⟨rfl, rfl⟩
  · go_enter Try.func34, Try.ntmps34
    go_wp2
    go_ret
    exact ⟨rfl, rfl⟩
set_option maxRecDepth 100000 in
set_option maxHeartbeats 8000000 in
theorem judgedFamily_any (d : Dl) (v : Value) (w : World) (hv : DV w v d) (hsm : smD d) : Calls Try.prog 36 #[v] w fun e w' => e = .returned (.int .i64 (judgF d)) ∧ RowKit.Below w.heap.size w w' := by
  have hsz : d.ctors.length ≤ 1000000 := hsm.len
  obtain ⟨R, hR⟩ : ∃ R, judgF d = R := ⟨_, rfl⟩
  rw [hR]
  have HRR := Hid.mk hR
  clear hR
  obtain ⟨kd, nm, lv, ty, val, pr, cs⟩ := d
  obtain ⟨t0, t1, t2, t3, t4, t5, t6, t7, t8, t9, v0, v1, v2, v3, v4, v5, v6, v7, v8, v9, ca, cc, rfl, htt, htv, hck⟩ := hv.go
  have HSM := Hid.mk hsm.ctors
  simp only at hck hsz HSM HRR ⊢
  obtain ⟨W0, hW0⟩ : ∃ W0, w.alloc (.cells #[.int .i64 kd, .string nm, .int .i64 lv, .int .i64 t0, .int .i64 t1, .bool t2, .string t3, .slice t4 t5 t6, .slice t7 t8 t9, .int .i64 v0, .int .i64 v1, .bool v2, .string v3, .slice v4 v5 v6, .slice v7 v8 v9, .int .i64 pr, .slice ca cs.length cc] 29) = W0 := ⟨_, rfl⟩
  have hb0 : RowKit.Below w.heap.size w W0 := by rw [← hW0]; exact (Below.refl _ _).alloc (Nat.le_refl _) _
  have HX0 : Hid (W0.heap[w.heap.size]? = some (.cells #[.int .i64 kd, .string nm, .int .i64 lv, .int .i64 t0, .int .i64 t1, .bool t2, .string t3, .slice t4 t5 t6, .slice t7 t8 t9, .int .i64 v0, .int .i64 v1, .bool v2, .string v3, .slice v4 v5 v6, .slice v7 v8 v9, .int .i64 pr, .slice ca cs.length cc] 29 (0, 0))) := by unfold Hid; rw [← hW0]; exact alloc_new _ _
  have HCK := Hid.mk hck
  have HB0 := Hid.mk hb0
  have HW0 := Hid.mk hW0
  obtain ⟨q0, q1, q2, q3, q4, q5, q6, q7, q8, q9, q10, q11, q12, q13, q14, q15, q16, q17⟩ := cells17 HX0.out
  clear hW0 hb0 hck htt htv hv hsm
  go_enter Try.func36, Try.ntmps36
  by_cases hp0 : pr < 0
  · go_wp2_with (rw [HW0.out])
    go_ret
    exact ⟨by rw [← HRR.out]; simp [judgF, hp0], HB0.out⟩
  · by_cases hp1 : 60 < pr
    · go_wp2_with (rw [HW0.out])
      go_ret
      exact ⟨by rw [← HRR.out]; simp [judgF, hp1], HB0.out⟩
    · by_cases hl : (40 : Int) < (cs.length : Int)
      · go_wp2_with (rw [HW0.out])
        go_ret
        exact ⟨by rw [← HRR.out]; simp [judgF, show 40 < cs.length by omega], HB0.out⟩
      · have HRC : Hid (judgC cs = R) := by unfold Hid; rw [← HRR.out]; simp [judgF, hp0, hp1, show ¬ 40 < cs.length by omega]
        go_wp2_with (rw [HW0.out])
        go_loopw [23] (fun i wr => ∃ k : Nat, k ≤ cs.length ∧ i = .int .i64 k ∧ RowKit.Below W0.heap.size W0 wr ∧ judgC (cs.drop k) = R) (fun i _ => cs.length - (intOf i).toNat)
        case atStart => exact ⟨0, Nat.zero_le _, rfl, Below.refl _ _, by rw [List.drop_zero]; exact HRC.out⟩
        case round =>
          obtain ⟨k, hk, rfl, hb, hjd⟩ := hrel
          have HBR := Hid.mk hb
          have HBW : Hid (RowKit.Below w.heap.size w wr) := HB0.out.trans (hb.mono HB0.out.size)
          have HJD := Hid.mk hjd
          clear hb hjd
          by_cases hlt : k < cs.length
          · obtain ⟨cb, co, rfl, hcb0, hcs⟩ := (HCK.out.on HBW.out).resolve_left (by intro e; rw [e] at hlt; simp at hlt)
            obtain ⟨cn, ht⟩ := hcs k _ (List.getElem?_eq_getElem hlt)
            obtain ⟨hs1, hs2⟩ := HSM.out _ (List.getElem_mem hlt)
            obtain ⟨x0, x1, x2, x3, x4, x5, x6, x7, x8, x9, c0, c1, c2, c3, c4, c5, htv⟩ := ht.valE
            have hjs := HJD.out
            rw [List.drop_eq_getElem_cons hlt] at hjs
            generalize cs[k] = kk at *
            obtain ⟨cnm, ctm⟩ := kk
            simp only at cn hs1 hs2 htv
            have HJS : Hid ((if namedB cnm = false then 10 else if checkT ctm = 0 then judgC (cs.drop (k + 1)) else checkT ctm) = R) := hjs
            have d0 : wr.cell? ⟨cb, co + k * 7 + 1, none⟩ = some _ := c0
            have d1 : wr.cell? ⟨cb, co + k * 7 + 2, none⟩ = some _ := c1
            have d2 : wr.cell? ⟨cb, co + k * 7 + 3, none⟩ = some _ := c2
            have d3 : wr.cell? ⟨cb, co + k * 7 + 4, none⟩ = some _ := c3
            have d4 : wr.cell? ⟨cb, co + k * 7 + 5, none⟩ = some _ := c4
            have d5 : wr.cell? ⟨cb, co + k * 7 + 6, none⟩ = some _ := c5
            obtain ⟨W1, hW1⟩ : ∃ W1, wr.alloc (.cells #[.string cnm, .int .i64 x0, .int .i64 x1, .bool x2, .string x3, .slice x4 x5 x6, .slice x7 x8 x9] 34) = W1 := ⟨_, rfl⟩
            have hb1 : RowKit.Below wr.heap.size wr W1 := by rw [← hW1]; exact (Below.refl _ _).alloc (Nat.le_refl _) _
            have HX1 : Hid (W1.heap[wr.heap.size]? = some (.cells #[.string cnm, .int .i64 x0, .int .i64 x1, .bool x2, .string x3, .slice x4 x5 x6, .slice x7 x8 x9] 34 (0, 0))) := by unfold Hid; rw [← hW1]; exact alloc_new _ _
            have HB1 : Hid (RowKit.Below W0.heap.size W0 W1) := HBR.out.trans (hb1.mono HBR.out.size)
            have HB1W : Hid (RowKit.Below w.heap.size w W1) := HBW.out.trans (hb1.mono HBW.out.size)
            have HIS := isName_any cnm W1 hs1
            have HCH := Check_any ctm _ W1 (htv.on hb1) hs2
            have HW1 := Hid.mk hW1
            have zk : (k : Int) < (cs.length : Int) := by omega
            obtain ⟨y0, y1, y2, y3, y4, y5, y6, y7⟩ := cells7 HX1.out
            clear hW1 hb1 htv ht hcs hjs c0 c1 c2 c3 c4 c5 hs1 hs2
            generalize namedB cnm = NB at *
            generalize checkT ctm = CT at *
            go_wp2_with (rw [HW1.out])
            refine HIS.mono ?_
            rintro e _ ⟨rfl, rfl⟩
            cases NB
            · go_wp2
              go_ret
              exact ⟨by rw [← HJS.out]; rfl, HB1W.out⟩
            · go_wp2_with fail
              refine HCH.mono ?_
              rintro e w2 ⟨rfl, hb2⟩
              have HB2 : Hid (RowKit.Below W0.heap.size W0 w2) := HB1.out.trans (hb2.mono HB1.out.size)
              have HB2W : Hid (RowKit.Below w.heap.size w w2) := HB1W.out.trans (hb2.mono HB1W.out.size)
              clear hb2 HCH HIS
              by_cases hc : CT = 0
              · subst hc
                go_wp2
                exact ⟨⟨k + 1, hlt, by go_num, HB2.out, by have := HJS.out; simpa using this⟩, by simp [intOf]; omega⟩
              · have hc' : (CT != 0) = true := by simpa using hc
                go_wp2
                go_ret
                exact ⟨by have := HJS.out; simp [hc] at this; rw [← this]; rfl, HB2W.out⟩
          · go_wp2
            go_ret
            exact ⟨by have := HJD.out; rw [List.drop_of_length_le (by omega)] at this; rw [← this]; rfl, HBW.out⟩
set_option maxRecDepth 100000 in
set_option maxHeartbeats 8000000 in
theorem judged_any (d : Dl) (v : Value) (w : World) (hv : DV w v d) (hsm : smD d) : Calls Try.prog 28 #[v] w fun e w' => e = .returned (.int .i64 (judgD d)) ∧ RowKit.Below w.heap.size w w' := by
  have HFA := fun (W : World) (h : RowKit.Below w.heap.size w W) => judgedFamily_any d v W (hv.on h) hsm
  have HIS := fun (W : World) => isName_any d.name W hsm.name
  obtain ⟨t0, t1, t2, t3, t4, t5, t6, t7, t8, t9, v0, v1, v2, v3, v4, v5, v6, v7, v8, v9, ca, cc, rfl, htt, htv, hck⟩ := hv.go
  have HCT := fun (W : World) (h : RowKit.Below w.heap.size w W) => Check_any d.ty _ W (htt.on h) hsm.ty
  have HCV := fun (W : World) (h : RowKit.Below w.heap.size w W) => Check_any d.val _ W (htv.on h) hsm.val
  obtain ⟨R, hR⟩ : ∃ R, judgD d = R := ⟨_, rfl⟩
  rw [hR]
  have HRR : Hid (judgD d = R) := hR
  unfold judgD at HRR
  clear hR htt htv hck hv hsm
  obtain ⟨kd, nm, lv, ty, val, pr, cs⟩ := d
  simp only at HIS HCT HCV HRR HFA ⊢
  generalize judgF _ = JF at *
  generalize namedB nm = NB at *
  generalize checkT ty = C1 at *
  generalize checkT val = C2 at *
  have HJ : Hid ((kd < 1 → R = 10) ∧ (3 < kd → R = 10) ∧ (NB = false → R = 10) ∧ (1 ≤ kd → kd ≤ 3 → NB = true → (lv < 0 → R = 13) ∧ (8 < lv → R = 13) ∧ (0 ≤ lv → lv ≤ 8 → (if C1 ≠ 0 then C1 else if kd = 2 then C2 else if kd = 3 then JF else 0) = R))) := by
    have h := HRR.out
    refine ⟨fun h1 => ?_, fun h1 => ?_, fun h1 => ?_, fun h1 h2 h3 => ⟨fun h4 => ?_, fun h4 => ?_, fun h4 h5 => ?_⟩⟩
    · rw [if_pos (Or.inl h1)] at h; exact h.symm
    · rw [if_pos (Or.inr (Or.inl h1))] at h; exact h.symm
    · rw [if_pos (Or.inr (Or.inr h1))] at h; exact h.symm
    · rw [if_neg (by rw [h3]; intro e; rcases e with e | e | e; omega; omega; cases e), if_pos (Or.inl h4)] at h; exact h.symm
    · rw [if_neg (by rw [h3]; intro e; rcases e with e | e | e; omega; omega; cases e), if_pos (Or.inr h4)] at h; exact h.symm
    · rw [if_neg (by rw [h3]; intro e; rcases e with e | e | e; omega; omega; cases e), if_neg (by omega)] at h; exact h
  clear HRR
  obtain ⟨W0, hW0⟩ : ∃ W0, w.alloc (.cells #[.int .i64 kd, .string nm, .int .i64 lv, .int .i64 t0, .int .i64 t1, .bool t2, .string t3, .slice t4 t5 t6, .slice t7 t8 t9, .int .i64 v0, .int .i64 v1, .bool v2, .string v3, .slice v4 v5 v6, .slice v7 v8 v9, .int .i64 pr, .slice ca cs.length cc] 29) = W0 := ⟨_, rfl⟩
  have hb0 : RowKit.Below w.heap.size w W0 := by rw [← hW0]; exact (Below.refl _ _).alloc (Nat.le_refl _) _
  have HX0 : Hid (W0.heap[w.heap.size]? = some (.cells #[.int .i64 kd, .string nm, .int .i64 lv, .int .i64 t0, .int .i64 t1, .bool t2, .string t3, .slice t4 t5 t6, .slice t7 t8 t9, .int .i64 v0, .int .i64 v1, .bool v2, .string v3, .slice v4 v5 v6, .slice v7 v8 v9, .int .i64 pr, .slice ca cs.length cc] 29 (0, 0))) := by unfold Hid; rw [← hW0]; exact alloc_new _ _
  have HB0 := Hid.mk hb0
  have HW0 := Hid.mk hW0
  obtain ⟨q0, q1, q2, q3, q4, q5, q6, q7, q8, q9, q10, q11, q12, q13, q14, q15, q16, q17⟩ := cells17 HX0.out
  clear hW0 hb0
  go_enter Try.func28, Try.ntmps28
  by_cases hk1 : kd < 1
  · go_wp2_with (rw [HW0.out])
    go_ret
    exact ⟨by rw [HJ.out.1 hk1]; rfl, HB0.out⟩
  by_cases hk3 : 3 < kd
  · go_wp2_with (rw [HW0.out])
    go_ret
    exact ⟨by rw [HJ.out.2.1 hk3]; rfl, HB0.out⟩
  go_wp2_with (rw [HW0.out])
  refine (HIS _).mono ?_
  rintro e wI ⟨rfl, hwI⟩
  rw [hwI]
  clear hwI
  cases NB
  · go_wp2
    go_ret
    exact ⟨by rw [HJ.out.2.2.1 (by trivial)]; rfl, HB0.out⟩
  by_cases hl0 : lv < 0
  · go_wp2
    go_ret
    exact ⟨by rw [(HJ.out.2.2.2 (by omega) (by omega) (by trivial)).1 hl0]; rfl, HB0.out⟩
  by_cases hl8 : 8 < lv
  · go_wp2
    go_ret
    exact ⟨by rw [(HJ.out.2.2.2 (by omega) (by omega) (by trivial)).2.1 hl8]; rfl, HB0.out⟩
  have HRS : Hid ((if C1 ≠ 0 then C1 else if kd = 2 then C2 else if kd = 3 then JF else 0) = R) := (HJ.out.2.2.2 (by omega) (by omega) (by trivial)).2.2 (by omega) (by omega)
  clear HJ
  have HC1 := HCT W0 HB0.out
  go_wp2_with fail
  refine HC1.mono ?_
  rintro e w1 ⟨rfl, hb1⟩
  have HB1 : Hid (RowKit.Below w.heap.size w w1) := HB0.out.trans (hb1.mono HB0.out.size)
  have HX1 := Hid.mk ((hb1.block _ (Array.getElem?_eq_some_iff.1 HX0.out).1).trans HX0.out)
  have HC2 := HCV w1 HB1.out
  have HC3 := HFA w1 HB1.out
  clear hb1 HC1 HCT HCV HFA HIS q0 q1 q2 q3 q4 q5 q6 q7 q8 q9 q10 q11 q12 q13 q14 q15 q16 q17
  obtain ⟨q0, q1, q2, q3, q4, q5, q6, q7, q8, q9, q10, q11, q12, q13, q14, q15, q16, q17⟩ := cells17 HX1.out
  by_cases hc1 : C1 = 0
  rotate_left
  · have hc1' : (C1 != 0) = true := by simpa using hc1
    go_wp2
    go_ret
    exact ⟨by have := HRS.out; rw [if_pos hc1] at this; rw [← this]; rfl, HB1.out⟩
  subst hc1
  by_cases hk : kd = 2
  · subst hk
    clear HC3
    go_wp2_with fail
    refine HC2.mono ?_
    rintro e w2 ⟨rfl, hb2⟩
    have HB2 : Hid (RowKit.Below w.heap.size w w2) := HB1.out.trans (hb2.mono HB1.out.size)
    clear hb2 HC2
    go_wp2
    go_ret
    exact ⟨by have := HRS.out; simp at this; rw [← this]; rfl, HB2.out⟩
  by_cases hk' : kd = 3
  · subst hk'
    clear HC2
    go_wp2_with fail
    refine HC3.mono ?_
    rintro e w2 ⟨rfl, hb2⟩
    have HB2 : Hid (RowKit.Below w.heap.size w w2) := HB1.out.trans (hb2.mono HB1.out.size)
    clear hb2 HC3
    go_wp2
    go_ret
    exact ⟨by have := HRS.out; simp at this; rw [← this]; rfl, HB2.out⟩
  · go_wp2
    go_ret
    exact ⟨by have := HRS.out; simp [hk, hk'] at this; rw [← this]; rfl, HB1.out⟩
end Go.Proofs.Ytmmbnimehmfadaa
