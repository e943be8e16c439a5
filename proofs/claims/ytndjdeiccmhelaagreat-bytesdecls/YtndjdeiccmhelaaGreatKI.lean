/- The contract of the reader's decl. -/
import Derived.Test.YtndjdeiccmhelaaGreatKH
namespace Go.Proofs.YtndjdeiccmhelaaGreat
open Go.RowKit Go.Sort Go.Lib

theorem sets_heap (b : Nat) : ∀ (vs : List Value) (o : Nat) (w : World), (w.setCells b o vs).heap.size = w.heap.size ∧ ∀ k, k ≠ b → (w.setCells b o vs).heap[k]? = w.heap[k]?
  | [], _, _ => ⟨rfl, fun _ _ => rfl⟩
  | v :: vs, o, w => by
    obtain ⟨h1, h2⟩ := sets_heap b vs (o + 1) (w.setCell ⟨b, o, none⟩ v)
    exact ⟨h1.trans (by simp [World.setCell]), fun k hk => (h2 k hk).trans (Below.heap_setCell _ _ _ _ hk)⟩

theorem Kept.sets {P : Nat → Prop} {w : World} {b : Nat} (hb : w.heap.size ≤ b) : ∀ (vs : List Value) (o : Nat) (w2 : World), Kept P w w2 → Kept P w (w2.setCells b o vs)
  | [], _, _, h => h
  | v :: vs, o, _, h => Kept.sets hb vs (o + 1) _ (h.setNew (p := ⟨b, o, none⟩) hb v)

theorem RD.sets {w : World} {N rb b o : Nat} {bs : List UInt8} {deep : Int} (h : RD w N rb bs deep) (hb : N ≤ b) (vs : List Value) : RD (w.setCells b o vs) N rb bs deep := h.move (by rw [(sets_heap b vs o w).1]; exact Nat.le_refl _) fun k hk => (sets_heap b vs o w).2 k (by omega)

theorem range_of {w : World} {b o : Nat} {c : Array Value} {t : TypeId} {pre vs post : List Value} (h : w.heap[b]? = some (.cells c t (0, 0))) (hc : c.toList = pre ++ (vs ++ post)) (ho : pre.length = o) : w.rangeAt b o vs := by
  intro j v hj
  have hjl := (List.getElem?_eq_some_iff.1 hj).1
  rw [cell_of_row _ b (o + j) _ _ _ h, ← Array.getElem?_toList, hc, List.getElem?_append_right (by omega), List.getElem?_append_left (by omega)]
  rw [show o + j - pre.length = j by omega]
  exact hj

theorem there_of {w : World} {b n : Nat} {c : Array Value} {t : TypeId} (h : w.heap[b]? = some (.cells c t (0, 0))) (hn : c.size = n) (o m : Nat) (hm : o + m ≤ n) : w.there b o m := by
  intro j hj
  refine ⟨?_, by simp [World.frozen?, h]⟩
  rw [cell_of_row _ b (o + j) _ _ _ h, Array.getElem?_eq_getElem (by omega)]
  rfl

theorem range_join {w : World} {b o p : Nat} {xs ys : List Value} (h1 : w.rangeAt b o xs) (h2 : w.rangeAt b p ys) (hp : p = o + xs.length) : w.rangeAt b o (xs ++ ys) := by
  intro j v hj
  by_cases h : j < xs.length
  · rw [List.getElem?_append_left h] at hj; exact h1 j v hj
  · rw [List.getElem?_append_right (by omega)] at hj
    have := h2 _ _ hj
    rw [show p + (j - xs.length) = o + j by omega] at this
    exact this

theorem range_left {w : World} {b o : Nat} {xs ys : List Value} (h : w.rangeAt b o (xs ++ ys)) : w.rangeAt b o xs := fun j v hj => h j v (by rw [List.getElem?_append_left (List.getElem?_eq_some_iff.1 hj).1]; exact hj)

theorem range_keep {w w' : World} {b o : Nat} {xs : List Value} (h : w.rangeAt b o xs) (hb : w'.heap[b]? = w.heap[b]?) : w'.rangeAt b o xs := fun j v hj => (World.cell?_of_block (a := ⟨b, o + j, none⟩) hb).trans (h j v hj)

theorem there_keep {w w' : World} {b o n : Nat} (h : w.there b o n) (hb : w'.heap[b]? = w.heap[b]?) : w'.there b o n := fun j hj => ⟨by rw [World.cell?_of_block (a := ⟨b, o + j, none⟩) hb]; exact (h j hj).1, by have := (h j hj).2; unfold World.frozen? at this ⊢; rw [hb]; exact this⟩

theorem mapM_one {P : Program} {w : World} {v : Value} (f : ResultVar → Sem Value) (x : ResultVar) (h : (f x).run P w = .ok v w) : ((#[x] : Array ResultVar).mapM f).run P w = .ok #[v] w := by
  simp [go_sem, h]

theorem results_cell {P : Program} {fn : Func} {tmps : Array Value} {w : World} {s : Nat} {t : TypeId} {p : Addr} {v : Value} (hf : fn.results = #[.cell s t]) (hp : tmps.getD s undef = .pointer (some p)) (hl : (loadVar t p).run P w = .ok v w) : (results fn tmps).run P w = .ok v w := by
  unfold results
  rw [hf, Sem.run_bind, mapM_one (v := v)]
  · rfl
  · show Sem.run P ((asAddr (tmps.getD s undef)).bind fun q => loadVar t q) w = _
    rw [hp]
    exact (Sem.run_bind _ _ _ _).trans hl

theorem encD_app (d : Dl) (rest : List UInt8) : encD d ++ rest = numB d.kind.toNat ++ (nameB d.name ++ (numB d.levels.toNat ++ (encT d.ty ++ (encF d ++ rest)))) := by unfold encD; simp only [List.append_assoc]

set_option maxRecDepth 100000 in
set_option maxHeartbeats 4000000 in
theorem decl_both (N rb : Nat) (bs : List UInt8) (w : World) (hR : RD w N rb bs 0) (hl : bs.length ≤ 1000000) : Calls Tryz.prog 70 #[.pointer (some ⟨rb, 0, none⟩)] w (Rd2 w N rb bs 1 (fun d v w' => ∃ xs : List Value, v = .agg xs.toArray ∧ ED w' (oldB w) xs d) okR encD cleanD) := by
  have hlR := hR.2.1
  obtain ⟨W0, hW0⟩ : ∃ W0, w.alloc (.cells #[.int .i64 0, .string { data := #[] }, .int .i64 0, .int .i64 0, .int .i64 0, .bool false, .string { data := #[] }, .slice none 0 0, .slice none 0 0, .int .i64 0, .int .i64 0, .bool false, .string { data := #[] }, .slice none 0 0, .slice none 0 0, .int .i64 0, .slice none 0 0] 41) = W0 := ⟨_, rfl⟩
  have hb : RowKit.Below w.heap.size w W0 := by rw [← hW0]; exact (Below.refl _ _).alloc (Nat.le_refl _) _
  have HX0 : Hid (W0.heap[w.heap.size]? = some (.cells #[.int .i64 0, .string { data := #[] }, .int .i64 0, .int .i64 0, .int .i64 0, .bool false, .string { data := #[] }, .slice none 0 0, .slice none 0 0, .int .i64 0, .int .i64 0, .bool false, .string { data := #[] }, .slice none 0 0, .slice none 0 0, .int .i64 0, .slice none 0 0] 41 (0, 0))) := by unfold Hid; rw [← hW0]; exact alloc_new _ _
  have HC := number_both N rb bs W0 (hR.on hb)
  have HK0 : Hid (Kept (fun k => k = rb) w W0) := Kept.of_below hb
  have HW0 := Hid.mk hW0
  have hrbN := hR.1
  clear hR hb hW0
  go_enter Tryz.func70, Tryz.ntmps70
  go_wp2_with fail
  rw [HW0.out]
  refine HC.mono ?_
  rintro e w1 (⟨kd, x1, bs1, rfl, ⟨rfl, hkd⟩, hR1, hl1, hk1, hy1⟩ | ⟨rfl, hk1, hy1⟩)
  rotate_left
  · refine ⟨rfl, Or.inr ⟨rfl, HK0.out.trans hk1, fun d rest hd hb => ?_⟩⟩
    have hr := hd.right
    exact hy1 d.kind.toNat (nameB d.name ++ (numB d.levels.toNat ++ (encT d.ty ++ (encF d ++ rest)))) (by have := hr.kind; omega) (by rw [hb, encD_app])
  have HY1 : Hid (∀ (d : Dl) (rest : List UInt8), RightD d → bs = encD d ++ rest → kd = d.kind.toNat ∧ bs1 = nameB d.name ++ (numB d.levels.toNat ++ (encT d.ty ++ (encF d ++ rest)))) := fun d rest hr hb => hy1 d.kind.toNat (nameB d.name ++ (numB d.levels.toNat ++ (encT d.ty ++ (encF d ++ rest)))) (by have := hr.kind; omega) (by rw [hb, encD_app])
  have HC1 := name_both N rb bs1 w1 hR1 (by omega)
  have HK1 : Hid (Kept (fun k => k = rb) w w1) := HK0.out.trans hk1
  have HX1 : Hid (w1.heap[w.heap.size]? = some (.cells #[.int .i64 0, .string { data := #[] }, .int .i64 0, .int .i64 0, .int .i64 0, .bool false, .string { data := #[] }, .slice none 0 0, .slice none 0 0, .int .i64 0, .int .i64 0, .bool false, .string { data := #[] }, .slice none 0 0, .slice none 0 0, .int .i64 0, .slice none 0 0] 41 (0, 0))) := (hk1.block _ (heap_lt HX0.out) (by omega)).trans HX0.out
  clear hR1 hk1 HC hy1 HX0 HK0 HW0
  go_wp2_with fail
  refine HC1.mono ?_
  rintro e w2 (⟨nm, x2, bs2, rfl, ⟨rfl, hnm⟩, hR2, hl2, hk2, hy2⟩ | ⟨rfl, hk2, hy2⟩)
  rotate_left
  · refine ⟨rfl, Or.inr ⟨rfl, HK1.out.trans hk2, fun d rest hd hb => ?_⟩⟩
    have hr := hd.right
    exact hy2 d.name _ hr.name (HY1.out d rest hr hb).2
  have HY2 : Hid (∀ (d : Dl) (rest : List UInt8), RightD d → bs = encD d ++ rest → nm = d.name ∧ bs2 = numB d.levels.toNat ++ (encT d.ty ++ (encF d ++ rest))) := fun d rest hr hb => hy2 d.name _ hr.name (HY1.out d rest hr hb).2
  have HC2 := number_both N rb bs2 w2 hR2
  have HK2 : Hid (Kept (fun k => k = rb) w w2) := HK1.out.trans hk2
  have HX2 : Hid (w2.heap[w.heap.size]? = some (.cells #[.int .i64 0, .string { data := #[] }, .int .i64 0, .int .i64 0, .int .i64 0, .bool false, .string { data := #[] }, .slice none 0 0, .slice none 0 0, .int .i64 0, .int .i64 0, .bool false, .string { data := #[] }, .slice none 0 0, .slice none 0 0, .int .i64 0, .slice none 0 0] 41 (0, 0))) := (hk2.block _ (heap_lt HX1.out) (by omega)).trans HX1.out
  clear hR2 hk2 HC1 hy2 HX1 HK1
  go_wp2_with fail
  refine HC2.mono ?_
  rintro e w3 (⟨lv, x3, bs3, rfl, ⟨rfl, hlv⟩, hR3, hl3, hk3, hy3⟩ | ⟨rfl, hk3, hy3⟩)
  rotate_left
  · refine ⟨rfl, Or.inr ⟨rfl, HK2.out.trans hk3, fun d rest hd hb => ?_⟩⟩
    have hr := hd.right
    exact hy3 d.levels.toNat _ (by have := hr.levels; omega) (HY2.out d rest hr hb).2
  have HY3 : Hid (∀ (d : Dl) (rest : List UInt8), RightD d → bs = encD d ++ rest → lv = d.levels.toNat ∧ bs3 = encT d.ty ++ (encF d ++ rest)) := fun d rest hr hb => hy3 d.levels.toNat _ (by have := hr.levels; omega) (HY2.out d rest hr hb).2
  have HC3 := term_both N rb bs3 w3 hR3 (by omega)
  have HK3 : Hid (Kept (fun k => k = rb) w w3) := HK2.out.trans hk3
  have HX3 : Hid (w3.heap[w.heap.size]? = some (.cells #[.int .i64 0, .string { data := #[] }, .int .i64 0, .int .i64 0, .int .i64 0, .bool false, .string { data := #[] }, .slice none 0 0, .slice none 0 0, .int .i64 0, .int .i64 0, .bool false, .string { data := #[] }, .slice none 0 0, .slice none 0 0, .int .i64 0, .slice none 0 0] 41 (0, 0))) := (hk3.block _ (heap_lt HX2.out) (by omega)).trans HX2.out
  clear hR3 hk3 HC2 hy3 HX2 HK2
  go_wp2_with fail
  refine HC3.mono ?_
  rintro e w4 (⟨t, x4, bs4, rfl, ⟨⟨t0, t1, t2, t3, t4, t5, t6, t7, t8, t9, rfl⟩, htf, hsm⟩, hR4, hl4, hk4, hy4⟩ | ⟨rfl, hk4, hy4⟩)
  rotate_left
  · refine ⟨rfl, Or.inr ⟨rfl, HK3.out.trans hk4, fun d rest hd hb => ?_⟩⟩
    have hr := hd.right
    exact hy4 d.ty _ hr.ty (HY3.out d rest hr hb).2
  have HY4 : Hid (∀ (d : Dl) (rest : List UInt8), RightD d → bs = encD d ++ rest → t = cleanT d.ty ∧ bs4 = encF d ++ rest) := fun d rest hr hb => hy4 d.ty _ hr.ty (HY3.out d rest hr hb).2
  have HK4 : Hid (Kept (fun k => k = rb) w w4) := HK3.out.trans hk4
  have HX4 : Hid (w4.heap[w.heap.size]? = some (.cells #[.int .i64 0, .string { data := #[] }, .int .i64 0, .int .i64 0, .int .i64 0, .bool false, .string { data := #[] }, .slice none 0 0, .slice none 0 0, .int .i64 0, .int .i64 0, .bool false, .string { data := #[] }, .slice none 0 0, .slice none 0 0, .int .i64 0, .slice none 0 0] 41 (0, 0))) := (hk4.block _ (heap_lt HX3.out) (by omega)).trans HX3.out
  have HTF := Hid.mk htf
  have HSM := Hid.mk hsm
  have hs3 : w.heap.size < w3.heap.size := heap_lt HX3.out
  have hs4 := hk4.size
  obtain ⟨K, hK⟩ : ∃ K : Int, (kd : Int) = K := ⟨_, rfl⟩
  rw [hK]
  have HKE := Hid.mk hK
  have HR4 := Hid.mk hR4
  clear hR4 hk4 HC3 hy4 htf hsm HX3 HK3 hK
  have HSL : Hid (smT 1000000 (.mk 0 0 false { data := #[] } [] [])) := (smT_mk _ _ _ _ _ _ _).2 ⟨by decide, by simp, by simp, by simp, by simp⟩
  have HYD : Hid (∀ (d : Dl) (rest : List UInt8), RightD d → bs = encD d ++ rest → d.kind = K ∧ nm = d.name ∧ d.levels = (lv : Int) ∧ t = cleanT d.ty ∧ bs4 = encF d ++ rest) := by
    intro d rest hr hb
    have h1 := (HY1.out d rest hr hb).1
    have h3 := (HY3.out d rest hr hb).1
    have h5 := hr.kind
    have h6 := hr.levels
    have h7 := HKE.out
    exact ⟨by omega, (HY2.out d rest hr hb).1, by omega, HY4.out d rest hr hb⟩
  clear HY1 HY2 HY3 HY4
  by_cases hk2 : K = 2
  · subst hk2
    obtain ⟨W5, hW5⟩ : ∃ W5, w4.alloc (.cells #[.int .i64 2, .string nm, .int .i64 (lv : Int), .int .i64 t0, .int .i64 t1, .bool t2, .string t3, .slice t4 t5 t6, .slice t7 t8 t9, .int .i64 0, .int .i64 0, .bool false, .string { data := #[] }, .slice none 0 0, .slice none 0 0, .int .i64 0, .slice none 0 0] 41) = W5 := ⟨_, rfl⟩
    have hb5 : RowKit.Below w4.heap.size w4 W5 := by rw [← hW5]; exact (Below.refl _ _).alloc (Nat.le_refl _) _
    have HX5 : Hid (W5.heap[w4.heap.size]? = some (.cells #[.int .i64 2, .string nm, .int .i64 (lv : Int), .int .i64 t0, .int .i64 t1, .bool t2, .string t3, .slice t4 t5 t6, .slice t7 t8 t9, .int .i64 0, .int .i64 0, .bool false, .string { data := #[] }, .slice none 0 0, .slice none 0 0, .int .i64 0, .slice none 0 0] 41 (0, 0))) := by unfold Hid; rw [← hW5]; exact alloc_new _ _
    have HR5 : Hid (RD W5 N rb bs4 0) := HR4.out.on hb5
    have HB5 := Hid.mk hb5
    have HK5 : Hid (Kept (fun k => k = rb) w W5) := HK4.out.trans (Kept.of_below hb5)
    have HW5 := Hid.mk hW5
    have HXR : Hid (W5.heap[w.heap.size]? = some (.cells #[.int .i64 0, .string { data := #[] }, .int .i64 0, .int .i64 0, .int .i64 0, .bool false, .string { data := #[] }, .slice none 0 0, .slice none 0 0, .int .i64 0, .int .i64 0, .bool false, .string { data := #[] }, .slice none 0 0, .slice none 0 0, .int .i64 0, .slice none 0 0] 41 (0, 0))) := (hb5.block _ (heap_lt HX4.out)).trans HX4.out
    have hs5 : w4.heap.size < W5.heap.size := heap_lt HX5.out
    obtain ⟨q0, -⟩ := cells17 HX5.out
    have HSA : Hid ((Tryz.prog.info? 41).map (·.size) = some (#[.int .i64 2, .string nm, .int .i64 (lv : Int), .int .i64 t0, .int .i64 t1, .bool t2, .string t3, .slice t4 t5 t6, .slice t7 t8 t9, .int .i64 0, .int .i64 0, .bool false, .string { data := #[] }, .slice none 0 0, .slice none 0 0, .int .i64 0, .slice none 0 0] : Array Value).size) := by unfold Hid; kernel_rfl
    have HONE : Hid (((#[.int .i64 2, .string nm, .int .i64 (lv : Int), .int .i64 t0, .int .i64 t1, .bool t2, .string t3, .slice t4 t5 t6, .slice t7 t8 t9, .int .i64 0, .int .i64 0, .bool false, .string { data := #[] }, .slice none 0 0, .slice none 0 0, .int .i64 0, .slice none 0 0] : Array Value)).all (·.oneCell') = true) := by unfold Hid; simp [Value.oneCell']
    clear hb5 hW5
    have HC5 := term_both N rb bs4 W5 HR5.out (by omega)
    go_wp2_with (first | (refine wpList_store_new rfl 41 _ _ rfl rfl rfl HSA.out rfl HONE.out ?_; rw [HW5.out]))
    refine HC5.mono ?_
    rintro e w6 (⟨tv, x5, bs5, rfl, ⟨⟨v0, v1, v2, v3, v4, v5, v6, v7, v8, v9, rfl⟩, htv, hsv⟩, hR6, hl6, hk6, hy6⟩ | ⟨rfl, hk6, hy6⟩)
    rotate_left
    · refine ⟨rfl, Or.inr ⟨rfl, HK5.out.trans hk6, fun d rest hd hb => ?_⟩⟩
      have hr := hd.right
      obtain ⟨e1, -, -, -, e5⟩ := HYD.out d rest hr hb
      have n2 : d.kind = 2 := e1
      rw [encF, if_pos n2] at e5
      exact hy6 d.val rest (hr.val n2) e5
    have HY6 := Hid.mk hy6
    have HTV := Hid.mk htv
    have HSV := Hid.mk hsv
    have HR6 := Hid.mk hR6
    have HK6 := Hid.mk hk6
    have HX6 : Hid (w6.heap[w4.heap.size]? = some (.cells #[.int .i64 2, .string nm, .int .i64 (lv : Int), .int .i64 t0, .int .i64 t1, .bool t2, .string t3, .slice t4 t5 t6, .slice t7 t8 t9, .int .i64 0, .int .i64 0, .bool false, .string { data := #[] }, .slice none 0 0, .slice none 0 0, .int .i64 0, .slice none 0 0] 41 (0, 0))) := (hk6.block _ (heap_lt HX5.out) (by omega)).trans HX5.out
    have HXR6 : Hid (w6.heap[w.heap.size]? = some (.cells #[.int .i64 0, .string { data := #[] }, .int .i64 0, .int .i64 0, .int .i64 0, .bool false, .string { data := #[] }, .slice none 0 0, .slice none 0 0, .int .i64 0, .int .i64 0, .bool false, .string { data := #[] }, .slice none 0 0, .slice none 0 0, .int .i64 0, .slice none 0 0] 41 (0, 0))) := (hk6.block _ (heap_lt HXR.out) (by omega)).trans HXR.out
    have hs6 := hk6.size
    obtain ⟨W7, hW7⟩ : ∃ W7, w6.setCells w4.heap.size 9 (#[.int .i64 v0, .int .i64 v1, .bool v2, .string v3, .slice v4 v5 v6, .slice v7 v8 v9] : Array Value).toList = W7 := ⟨_, rfl⟩
    have HT9 : Hid (w6.there w4.heap.size 9 (#[.int .i64 v0, .int .i64 v1, .bool v2, .string v3, .slice v4 v5 v6, .slice v7 v8 v9] : Array Value).size) := there_of (n := 17) HX6.out rfl 9 6 (by decide)
    have HS6 : Hid ((Tryz.prog.info? 38).map (·.size) = some (#[.int .i64 v0, .int .i64 v1, .bool v2, .string v3, .slice v4 v5 v6, .slice v7 v8 v9] : Array Value).size) := by unfold Hid; kernel_rfl
    have HO6 : Hid (((#[.int .i64 v0, .int .i64 v1, .bool v2, .string v3, .slice v4 v5 v6, .slice v7 v8 v9] : Array Value)).all (·.oneCell') = true) := by unfold Hid; simp [Value.oneCell']
    obtain ⟨zs, hzs⟩ : ∃ zs : List Value, zs = [.int .i64 2, .string nm, .int .i64 (lv : Int), .int .i64 t0, .int .i64 t1, .bool t2, .string t3, .slice t4 t5 t6, .slice t7 t8 t9] ++ ([.int .i64 v0, .int .i64 v1, .bool v2, .string v3, .slice v4 v5 v6, .slice v7 v8 v9] ++ [.int .i64 0, .slice none 0 0]) := ⟨_, rfl⟩
    have hrg : W7.rangeAt w4.heap.size 0 zs := by
      rw [hzs, ← hW7]
      refine range_join (World.rangeAt_setCells_apart (range_of (pre := []) (vs := [.int .i64 2, .string nm, .int .i64 (lv : Int), .int .i64 t0, .int .i64 t1, .bool t2, .string t3, .slice t4 t5 t6, .slice t7 t8 t9]) (post := [.int .i64 0, .int .i64 0, .bool false, .string { data := #[] }, .slice none 0 0, .slice none 0 0, .int .i64 0, .slice none 0 0]) HX6.out rfl rfl) w4.heap.size 9 _ (Or.inr (Or.inl (Nat.le_refl 9)))) (range_join (World.rangeAt_setCells_same _ w4.heap.size 9 _ HT9.out) (World.rangeAt_setCells_apart (range_of (pre := [.int .i64 2, .string nm, .int .i64 (lv : Int), .int .i64 t0, .int .i64 t1, .bool t2, .string t3, .slice t4 t5 t6, .slice t7 t8 t9, .int .i64 0, .int .i64 0, .bool false, .string { data := #[] }, .slice none 0 0, .slice none 0 0]) (vs := [.int .i64 0, .slice none 0 0]) (post := []) HX6.out rfl rfl) w4.heap.size 9 _ (Or.inr (Or.inr (Nat.le_refl 15)))) rfl) rfl
    have hzl : zs.length = 17 := by rw [hzs]; rfl
    have HONZ : Hid (∀ v ∈ zs, v.oneCell' = true) := by unfold Hid; rw [hzs]; simp [Value.oneCell']
    have HZS := Hid.mk hzs
    have hth : W7.there w.heap.size 0 17 := by rw [← hW7]; exact World.there_setCells (there_of HXR6.out rfl 0 17 (Nat.le_refl 17)) _ _ _
    have hw7 := sets_heap w4.heap.size (#[.int .i64 v0, .int .i64 v1, .bool v2, .string v3, .slice v4 v5 v6, .slice v7 v8 v9] : Array Value).toList 9 w6
    rw [hW7] at hw7
    have HW7s := Hid.mk hw7
    have HR7 : Hid (RD W7 N rb bs5 0) := by unfold Hid; rw [← hW7]; exact HR6.out.sets (by omega) _
    have HK7 : Hid (Kept (fun k => k = rb) w W7) := by unfold Hid; rw [← hW7]; exact Kept.sets (by omega) _ _ _ (HK5.out.trans hk6)
    have HW7 := Hid.mk hW7
    clear hR6 hk6 hy6 htv hsv hW7 hw7 HC5
    have HRG := Hid.mk hrg
    have hzt : zs.toArray.size = 17 := by rw [List.size_toArray]; exact hzl
    have HSZ : Hid ((Tryz.prog.info? 41).map (·.size) = some zs.length) := by unfold Hid; rw [hzl]; kernel_rfl
    have HSB : Hid ((Tryz.prog.info? 41).map (·.size) = some zs.toArray.size) := by unfold Hid; rw [hzt]; kernel_rfl
    have HON2 : Hid (zs.toArray.all (·.oneCell') = true) := all_oneCell_toArray HONZ.out
    have HTH : Hid ((W7).there w.heap.size 0 zs.toArray.size) := by unfold Hid; rw [hzt]; exact hth
    have HRF : Hid (((W7).setCells w.heap.size 0 zs).rangeAt w.heap.size 0 zs) := World.rangeAt_setCells_same _ _ _ _ (by rw [hzl]; exact hth)
    have HZL := Hid.mk hzl
    clear hrg hzl hth hzs hzt
    go_wp2_with (first | (refine wpList_store_new rfl 41 _ _ rfl rfl rfl HSA.out rfl HONE.out ?_; rw [HW5.out]) | (refine wpList_load_mid rfl 41 _ rfl w4.heap.size 0 rfl zs _ HRG.out Tryz.underlying41 rfl HSZ.out ?_) | (refine wpList_store_mid rfl 41 _ _ rfl w.heap.size 0 zs.toArray rfl rfl HTH.out HSB.out HON2.out ?_) | (refine wpList_store_mid rfl 38 _ _ rfl w4.heap.size 9 #[.int .i64 v0, .int .i64 v1, .bool v2, .string v3, .slice v4 v5 v6, .slice v7 v8 v9] rfl rfl HT9.out HS6.out HO6.out ?_; rw [HW7.out]))
    have hres := run_loadVar_mid (P := Tryz.prog) _ w.heap.size 0 41 zs _ HRF.out Tryz.underlying41 rfl HSZ.out
    have hsF := (sets_heap w.heap.size zs 0 (W7)).1
    have hbF := (sets_heap w.heap.size zs 0 (W7)).2
    refine bodyPost_ret (v := .agg zs.toArray) (results_cell (s := 2) (t := 41) Tryz.results70 rfl hres) rfl (Or.inl ⟨⟨2, nm, lv, t, tv, 0, []⟩, _, bs5, rfl, ⟨zs, rfl, ?_⟩, HR7.out.sets (by omega) _, by omega, Kept.sets (Nat.le_refl _) _ _ _ HK7.out, ?_⟩)
    · have hmt : ∀ k, k < w4.heap.size → oldB w3 k = false → oldB w k = false ∧ (W7.setCells w.heap.size 0 zs).heap[k]? = w4.heap[k]? := fun k h1 h2 => by
        have h3 := oldB_no h2
        refine ⟨oldB_new (by omega), (hbF k (by omega)).trans ((HW7s.out.2 k (by omega)).trans ((HK6.out.block k (by omega) (by omega)).trans (HB5.out.block k h1)))⟩
      have hmv : ∀ k, k < w6.heap.size → oldB W5 k = false → oldB w k = false ∧ (W7.setCells w.heap.size 0 zs).heap[k]? = w6.heap[k]? := fun k h1 h2 => by
        have h3 := oldB_no h2
        refine ⟨oldB_new (by omega), (hbF k (by omega)).trans (HW7s.out.2 k (by omega))⟩
      have hz7 := HW7s.out.1
      refine ⟨HZL.out, HONZ.out, ⟨⟨t0, t1, t2, t3, t4, t5, t6, t7, t8, t9, v0, v1, v2, v3, v4, v5, v6, v7, v8, v9, none, 0, by rw [HZS.out]; rfl, HTF.out.move (by omega) hmt, HTV.out.move (by omega) hmv, Or.inl rfl⟩⟩, ⟨by simp only; omega, HSM.out, HSV.out, by simp, by simp⟩⟩
    · intro d rest hd hb
      have hr := hd.right
      obtain ⟨e1, e2, e3, e4, e5⟩ := HYD.out d rest hr hb
      have n2 : d.kind = 2 := e1
      have n3 : ¬ d.kind = 3 := by omega
      rw [encF, if_pos n2] at e5
      obtain ⟨e6, e7⟩ := HY6.out d.val rest (hr.val n2) e5
      refine ⟨?_, e7⟩
      unfold cleanD
      rw [if_pos n2, if_neg n3, if_neg n3, e1, e3, ← e2, ← e4, ← e6]
  by_cases hk3 : K = 3
  · subst hk3
    obtain ⟨W5, hW5⟩ : ∃ W5, w4.alloc (.cells #[.int .i64 3, .string nm, .int .i64 (lv : Int), .int .i64 t0, .int .i64 t1, .bool t2, .string t3, .slice t4 t5 t6, .slice t7 t8 t9, .int .i64 0, .int .i64 0, .bool false, .string { data := #[] }, .slice none 0 0, .slice none 0 0, .int .i64 0, .slice none 0 0] 41) = W5 := ⟨_, rfl⟩
    have hb5 : RowKit.Below w4.heap.size w4 W5 := by rw [← hW5]; exact (Below.refl _ _).alloc (Nat.le_refl _) _
    have HX5 : Hid (W5.heap[w4.heap.size]? = some (.cells #[.int .i64 3, .string nm, .int .i64 (lv : Int), .int .i64 t0, .int .i64 t1, .bool t2, .string t3, .slice t4 t5 t6, .slice t7 t8 t9, .int .i64 0, .int .i64 0, .bool false, .string { data := #[] }, .slice none 0 0, .slice none 0 0, .int .i64 0, .slice none 0 0] 41 (0, 0))) := by unfold Hid; rw [← hW5]; exact alloc_new _ _
    have HR5 : Hid (RD W5 N rb bs4 0) := HR4.out.on hb5
    have HB5 := Hid.mk hb5
    have HK5 : Hid (Kept (fun k => k = rb) w W5) := HK4.out.trans (Kept.of_below hb5)
    have HW5 := Hid.mk hW5
    have HXR : Hid (W5.heap[w.heap.size]? = some (.cells #[.int .i64 0, .string { data := #[] }, .int .i64 0, .int .i64 0, .int .i64 0, .bool false, .string { data := #[] }, .slice none 0 0, .slice none 0 0, .int .i64 0, .int .i64 0, .bool false, .string { data := #[] }, .slice none 0 0, .slice none 0 0, .int .i64 0, .slice none 0 0] 41 (0, 0))) := (hb5.block _ (heap_lt HX4.out)).trans HX4.out
    have hs5 : w4.heap.size < W5.heap.size := heap_lt HX5.out
    obtain ⟨q0, -⟩ := cells17 HX5.out
    have HSA : Hid ((Tryz.prog.info? 41).map (·.size) = some (#[.int .i64 3, .string nm, .int .i64 (lv : Int), .int .i64 t0, .int .i64 t1, .bool t2, .string t3, .slice t4 t5 t6, .slice t7 t8 t9, .int .i64 0, .int .i64 0, .bool false, .string { data := #[] }, .slice none 0 0, .slice none 0 0, .int .i64 0, .slice none 0 0] : Array Value).size) := by unfold Hid; kernel_rfl
    have HONE : Hid (((#[.int .i64 3, .string nm, .int .i64 (lv : Int), .int .i64 t0, .int .i64 t1, .bool t2, .string t3, .slice t4 t5 t6, .slice t7 t8 t9, .int .i64 0, .int .i64 0, .bool false, .string { data := #[] }, .slice none 0 0, .slice none 0 0, .int .i64 0, .slice none 0 0] : Array Value)).all (·.oneCell') = true) := by unfold Hid; simp [Value.oneCell']
    clear hb5 hW5
    have HC5 := number_both N rb bs4 W5 HR5.out
    go_wp2_with (first | (refine wpList_store_new rfl 41 _ _ rfl rfl rfl HSA.out rfl HONE.out ?_; rw [HW5.out]))
    refine HC5.mono ?_
    rintro e w6 (⟨pr, x5, bs5, rfl, ⟨rfl, hpr⟩, hR6, hl6, hk6, hy6⟩ | ⟨rfl, hk6, hy6⟩)
    rotate_left
    · refine ⟨rfl, Or.inr ⟨rfl, HK5.out.trans hk6, fun d rest hd hb => ?_⟩⟩
      have hr := hd.right
      obtain ⟨e1, -, -, -, e5⟩ := HYD.out d rest hr hb
      rw [encF, if_neg (by omega), if_pos e1, List.append_assoc] at e5
      exact hy6 d.params.toNat _ (by have := hr.params e1; omega) e5
    have HY6 : Hid (∀ (d : Dl) (rest : List UInt8), RightD d → bs = encD d ++ rest → d.params = (pr : Int) ∧ bs5 = numB d.ctors.length ++ (d.ctors.flatMap encC ++ rest)) := by
      intro d rest hr hb
      obtain ⟨e1, -, -, -, e5⟩ := HYD.out d rest hr hb
      rw [encF, if_neg (by omega), if_pos e1, List.append_assoc, List.append_assoc] at e5
      have hp := hr.params e1
      obtain ⟨h1, h2⟩ := hy6 d.params.toNat _ (by omega) e5
      exact ⟨by simp only [id] at h1; omega, h2⟩
    have HK6 := Hid.mk hk6
    have hs6 := hk6.size
    have HX6 : Hid (w6.heap[w4.heap.size]? = some (.cells #[.int .i64 3, .string nm, .int .i64 (lv : Int), .int .i64 t0, .int .i64 t1, .bool t2, .string t3, .slice t4 t5 t6, .slice t7 t8 t9, .int .i64 0, .int .i64 0, .bool false, .string { data := #[] }, .slice none 0 0, .slice none 0 0, .int .i64 0, .slice none 0 0] 41 (0, 0))) := (hk6.block _ (heap_lt HX5.out) (by omega)).trans HX5.out
    have HXR6 : Hid (w6.heap[w.heap.size]? = some (.cells #[.int .i64 0, .string { data := #[] }, .int .i64 0, .int .i64 0, .int .i64 0, .bool false, .string { data := #[] }, .slice none 0 0, .slice none 0 0, .int .i64 0, .int .i64 0, .bool false, .string { data := #[] }, .slice none 0 0, .slice none 0 0, .int .i64 0, .slice none 0 0] 41 (0, 0))) := (hk6.block _ (heap_lt HXR.out) (by omega)).trans HXR.out
    obtain ⟨W7, hW7⟩ : ∃ W7, w6.setCell ⟨w4.heap.size, 15, none⟩ (.int .i64 (pr : Int)) = W7 := ⟨_, rfl⟩
    have hw7 := sets_heap w4.heap.size [.int .i64 (pr : Int)] 15 w6
    have hrg7 : (w6.setCells w4.heap.size 15 [.int .i64 (pr : Int)]).rangeAt w4.heap.size 0 (([.int .i64 3, .string nm, .int .i64 (lv : Int), .int .i64 t0, .int .i64 t1, .bool t2, .string t3, .slice t4 t5 t6, .slice t7 t8 t9, .int .i64 0, .int .i64 0, .bool false, .string { data := #[] }, .slice none 0 0, .slice none 0 0] ++ [.int .i64 (pr : Int)]) ++ [.slice none 0 0]) :=
      range_join (range_join (World.rangeAt_setCells_apart (range_of (pre := []) (vs := [.int .i64 3, .string nm, .int .i64 (lv : Int), .int .i64 t0, .int .i64 t1, .bool t2, .string t3, .slice t4 t5 t6, .slice t7 t8 t9, .int .i64 0, .int .i64 0, .bool false, .string { data := #[] }, .slice none 0 0, .slice none 0 0]) (post := [.int .i64 0, .slice none 0 0]) HX6.out rfl rfl) w4.heap.size 15 _ (Or.inr (Or.inl (Nat.le_refl 15)))) (World.rangeAt_setCells_same _ w4.heap.size 15 _ (there_of (n := 17) HX6.out rfl 15 1 (by decide))) rfl) (World.rangeAt_setCells_apart (range_of (pre := [.int .i64 3, .string nm, .int .i64 (lv : Int), .int .i64 t0, .int .i64 t1, .bool t2, .string t3, .slice t4 t5 t6, .slice t7 t8 t9, .int .i64 0, .int .i64 0, .bool false, .string { data := #[] }, .slice none 0 0, .slice none 0 0, .int .i64 0]) (vs := [.slice none 0 0]) (post := []) HX6.out rfl rfl) w4.heap.size 15 _ (Or.inr (Or.inr (Nat.le_refl 16)))) rfl
    have hth7 : (w6.setCells w4.heap.size 15 [.int .i64 (pr : Int)]).there w4.heap.size 0 17 := World.there_setCells (there_of HX6.out rfl 0 17 (Nat.le_refl 17)) _ _ _
    have hR7 : RD (w6.setCells w4.heap.size 15 [.int .i64 (pr : Int)]) N rb bs5 0 := hR6.sets (by omega) _
    have hK7 : Kept (fun k => k = rb) w (w6.setCells w4.heap.size 15 [.int .i64 (pr : Int)]) := Kept.sets (by omega) _ _ _ (HK5.out.trans hk6)
    rw [show w6.setCells w4.heap.size 15 [.int .i64 (pr : Int)] = W7 from hW7] at hw7 hrg7 hth7 hR7 hK7
    have HW7s := Hid.mk hw7
    have HRG7 := Hid.mk hrg7
    have HTH7 := Hid.mk hth7
    have HK7 := Hid.mk hK7
    have HW7 := Hid.mk hW7
    have hs7 := hw7.1
    have a15 : w6.cell? ⟨w4.heap.size, 15, none⟩ = some (.int .i64 0) := (range_of (pre := [.int .i64 3, .string nm, .int .i64 (lv : Int), .int .i64 t0, .int .i64 t1, .bool t2, .string t3, .slice t4 t5 t6, .slice t7 t8 t9, .int .i64 0, .int .i64 0, .bool false, .string { data := #[] }, .slice none 0 0, .slice none 0 0]) (vs := [.int .i64 0, .slice none 0 0]) (post := []) HX6.out rfl rfl : w6.rangeAt w4.heap.size 15 _) 0 _ rfl
    have f15 : w6.frozen? ⟨w4.heap.size, 15, none⟩ = false := ((there_of (n := 17) HX6.out rfl 15 1 (by decide)) 0 (by decide)).2
    have HC7 := number_both N rb bs5 W7 hR7
    clear hR6 hk6 hy6 hw7 hrg7 hth7 hR7 hK7 hW7 HC5
    go_wp2_with (rw [HW7.out])
    refine HC7.mono ?_
    rintro e w8 (⟨n, x6, bs6, rfl, ⟨rfl, hn⟩, hR8, hl8, hk8, hy8⟩ | ⟨rfl, hk8, hy8⟩)
    rotate_left
    · refine ⟨rfl, Or.inr ⟨rfl, HK7.out.trans hk8, fun d rest hd hb => ?_⟩⟩
      have hr := hd.right
      have e1 := (HYD.out d rest hr hb).1
      exact hy8 d.ctors.length _ (by have := hr.len e1; omega) (HY6.out d rest hr hb).2
    have HY8 : Hid (∀ (d : Dl) (rest : List UInt8), RightD d → bs = encD d ++ rest → n = d.ctors.length ∧ bs6 = d.ctors.flatMap encC ++ rest) := by
      intro d rest hr hb
      have e1 := (HYD.out d rest hr hb).1
      exact hy8 d.ctors.length _ (by have := hr.len e1; omega) (HY6.out d rest hr hb).2
    have HK8 := Hid.mk hk8
    have hs8 := hk8.size
    have HC8 := severalC_both N rb n bs6 w8 hR8 hn (by omega)
    clear hR8 hk8 hy8 HC7 a15 f15
    go_wp2_with fail
    refine HC8.mono ?_
    rintro e w9 (⟨cs, x7, bs7, rfl, ⟨hcl, hcb, ca, cc, rfl, hrow⟩, hR9, hl9, hk9, hy9⟩ | ⟨rfl, hk9, hy9⟩)
    rotate_left
    · refine ⟨rfl, Or.inr ⟨rfl, (HK7.out.trans HK8.out).trans hk9, fun d rest hd hb => ?_⟩⟩
      have hr := hd.right
      have e1 := (HYD.out d rest hr hb).1
      obtain ⟨h1, h2⟩ := HY8.out d rest hr hb
      exact hy9 d.ctors rest ⟨h1.symm, hr.ctors e1⟩ h2
    have HY9 := Hid.mk hy9
    have HROW := Hid.mk hrow
    have HCL := Hid.mk hcl
    have HK9 := Hid.mk hk9
    have hs9 := hk9.size
    have hrg9 : w9.rangeAt w4.heap.size 0 (([.int .i64 3, .string nm, .int .i64 (lv : Int), .int .i64 t0, .int .i64 t1, .bool t2, .string t3, .slice t4 t5 t6, .slice t7 t8 t9, .int .i64 0, .int .i64 0, .bool false, .string { data := #[] }, .slice none 0 0, .slice none 0 0] ++ [.int .i64 (pr : Int)]) ++ [.slice none 0 0]) := range_keep HRG7.out ((hk9.block _ (by omega) (by omega)).trans (HK8.out.block _ (by omega) (by omega)))
    have hth9 : w9.there w4.heap.size 0 17 := there_keep HTH7.out ((hk9.block _ (by omega) (by omega)).trans (HK8.out.block _ (by omega) (by omega)))
    have hXR9 : w9.heap[w.heap.size]? = some (.cells #[.int .i64 0, .string { data := #[] }, .int .i64 0, .int .i64 0, .int .i64 0, .bool false, .string { data := #[] }, .slice none 0 0, .slice none 0 0, .int .i64 0, .int .i64 0, .bool false, .string { data := #[] }, .slice none 0 0, .slice none 0 0, .int .i64 0, .slice none 0 0] 41 (0, 0)) := (hk9.block _ (by omega) (by omega)).trans ((HK8.out.block _ (by omega) (by omega)).trans ((HW7s.out.2 _ (by omega)).trans HXR6.out))
    have a16 : w9.cell? ⟨w4.heap.size, 16, none⟩ = some (.slice none 0 0) := hrg9 16 _ rfl
    have f16 : w9.frozen? ⟨w4.heap.size, 16, none⟩ = false := (hth9 16 (by decide)).2
    obtain ⟨zs, hzs⟩ : ∃ zs : List Value, zs = ([.int .i64 3, .string nm, .int .i64 (lv : Int), .int .i64 t0, .int .i64 t1, .bool t2, .string t3, .slice t4 t5 t6, .slice t7 t8 t9, .int .i64 0, .int .i64 0, .bool false, .string { data := #[] }, .slice none 0 0, .slice none 0 0] ++ [.int .i64 (pr : Int)]) ++ [.slice ca n cc] := ⟨_, rfl⟩
    obtain ⟨W10, hW10⟩ : ∃ W10, w9.setCell ⟨w4.heap.size, 16, none⟩ (.slice ca n cc) = W10 := ⟨_, rfl⟩
    have hw10 := sets_heap w4.heap.size [.slice ca n cc] 16 w9
    have hrg : (w9.setCells w4.heap.size 16 [.slice ca n cc]).rangeAt w4.heap.size 0 zs := by
      rw [hzs]
      exact range_join (World.rangeAt_setCells_apart (range_left hrg9) w4.heap.size 16 _ (Or.inr (Or.inl (Nat.le_refl 16)))) (World.rangeAt_setCells_same _ w4.heap.size 16 _ (fun j hj => by
        have h0 : j = 0 := by simp at hj; omega
        subst h0
        exact hth9 16 (by decide))) rfl
    have hth : (w9.setCells w4.heap.size 16 [.slice ca n cc]).there w.heap.size 0 17 := World.there_setCells (there_of hXR9 rfl 0 17 (Nat.le_refl 17)) _ _ _
    have hR10 : RD (w9.setCells w4.heap.size 16 [.slice ca n cc]) N rb bs7 0 := hR9.sets (by omega) _
    have hK10 : Kept (fun k => k = rb) w (w9.setCells w4.heap.size 16 [.slice ca n cc]) := Kept.sets (by omega) _ _ _ ((HK7.out.trans HK8.out).trans hk9)
    rw [show w9.setCells w4.heap.size 16 [.slice ca n cc] = W10 from hW10] at hw10 hrg hth hR10 hK10
    have HW10s := Hid.mk hw10
    have HR10 := Hid.mk hR10
    have HK10 := Hid.mk hK10
    have HW10 := Hid.mk hW10
    have hs10 := hw10.1
    have hzl : zs.length = 17 := by rw [hzs]; rfl
    have HONZ : Hid (∀ v ∈ zs, v.oneCell' = true) := by unfold Hid; rw [hzs]; simp [Value.oneCell']
    have HZS := Hid.mk hzs
    clear hR9 hk9 hy9 hrow hw10 hR10 hK10 hW10 HC8 hrg9 hth9 hXR9 hcl
    have HRG := Hid.mk hrg
    have hzt : zs.toArray.size = 17 := by rw [List.size_toArray]; exact hzl
    have HSZ : Hid ((Tryz.prog.info? 41).map (·.size) = some zs.length) := by unfold Hid; rw [hzl]; kernel_rfl
    have HSB : Hid ((Tryz.prog.info? 41).map (·.size) = some zs.toArray.size) := by unfold Hid; rw [hzt]; kernel_rfl
    have HON2 : Hid (zs.toArray.all (·.oneCell') = true) := all_oneCell_toArray HONZ.out
    have HTH : Hid ((W10).there w.heap.size 0 zs.toArray.size) := by unfold Hid; rw [hzt]; exact hth
    have HRF : Hid (((W10).setCells w.heap.size 0 zs).rangeAt w.heap.size 0 zs) := World.rangeAt_setCells_same _ _ _ _ (by rw [hzl]; exact hth)
    have HZL := Hid.mk hzl
    clear hrg hzl hth hzs hzt
    go_wp2_with (first | (refine wpList_store_new rfl 41 _ _ rfl rfl rfl HSA.out rfl HONE.out ?_; rw [HW5.out]) | (refine wpList_load_mid rfl 41 _ rfl w4.heap.size 0 rfl zs _ HRG.out Tryz.underlying41 rfl HSZ.out ?_) | (refine wpList_store_mid rfl 41 _ _ rfl w.heap.size 0 zs.toArray rfl rfl HTH.out HSB.out HON2.out ?_) | (rw [HW10.out]))
    have hres := run_loadVar_mid (P := Tryz.prog) _ w.heap.size 0 41 zs _ HRF.out Tryz.underlying41 rfl HSZ.out
    have hsF := (sets_heap w.heap.size zs 0 (W10)).1
    have hbF := (sets_heap w.heap.size zs 0 (W10)).2
    refine bodyPost_ret (v := .agg zs.toArray) (results_cell (s := 2) (t := 41) Tryz.results70 rfl hres) rfl (Or.inl ⟨⟨3, nm, lv, t, .mk 0 0 false { data := #[] } [] [], pr, cs⟩, _, bs7, rfl, ⟨zs, rfl, ?_⟩, HR10.out.sets (by omega) _, by omega, Kept.sets (Nat.le_refl _) _ _ _ HK10.out, ?_⟩)
    · have hm9 : ∀ k, k < w9.heap.size → k ≠ w.heap.size → k ≠ w4.heap.size → (W10.setCells w.heap.size 0 zs).heap[k]? = w9.heap[k]? := fun k h1 h2 h3 => (hbF k h2).trans (HW10s.out.2 k h3)
      have hmt : ∀ k, k < w4.heap.size → oldB w3 k = false → oldB w k = false ∧ (W10.setCells w.heap.size 0 zs).heap[k]? = w4.heap[k]? := fun k h1 h2 => by
        have h3 := oldB_no h2
        refine ⟨oldB_new (by omega), (hm9 k (by omega) (by omega) (by omega)).trans ((HK9.out.block k (by omega) (by omega)).trans ((HK8.out.block k (by omega) (by omega)).trans ((HW7s.out.2 k (by omega)).trans ((HK6.out.block k (by omega) (by omega)).trans (HB5.out.block k h1)))))⟩
      have hmc : ∀ k, k < w9.heap.size → oldB w8 k = false → oldB w k = false ∧ (W10.setCells w.heap.size 0 zs).heap[k]? = w9.heap[k]? := fun k h1 h2 => by
        have h3 := oldB_no h2
        exact ⟨oldB_new (by omega), hm9 k h1 (by omega) (by omega)⟩
      have hck := (HROW.out.ck (fun k hk => oldB_new hk)).subF (by rw [maskB_size, maskB_size]; omega) (maskB_keeps hmc)
      refine ⟨HZL.out, HONZ.out, ⟨⟨t0, t1, t2, t3, t4, t5, t6, t7, t8, t9, 0, 0, false, { data := #[] }, none, 0, 0, none, 0, 0, ca, cc, by rw [HZS.out, ← HCL.out]; rfl, HTF.out.move (by omega) hmt, TF.leaf 0 0 false { data := #[] }, hck⟩⟩, ⟨by simp only; omega, HSM.out, HSL.out, by have := HCL.out; simp only; omega, HROW.out.smC (fun k hk => oldB_new hk)⟩⟩
    · intro d rest hd hb
      have hr := hd.right
      obtain ⟨e1, e2, e3, e4, -⟩ := HYD.out d rest hr hb
      obtain ⟨p1, -⟩ := HY6.out d rest hr hb
      obtain ⟨h1, h2⟩ := HY8.out d rest hr hb
      obtain ⟨c1, c2⟩ := HY9.out d.ctors rest ⟨h1.symm, hr.ctors e1⟩ h2
      refine ⟨?_, c2⟩
      have n2 : ¬ d.kind = 2 := by omega
      unfold cleanD
      rw [if_neg n2, if_pos e1, if_pos e1, e1, e3, p1, c1, ← e2, ← e4]
  have g2 : (K == 2) = false := by simpa using hk2
  have g3 : (K == 3) = false := by simpa using hk3
  obtain ⟨W5, hW5⟩ : ∃ W5, w4.alloc (.cells #[.int .i64 K, .string nm, .int .i64 (lv : Int), .int .i64 t0, .int .i64 t1, .bool t2, .string t3, .slice t4 t5 t6, .slice t7 t8 t9, .int .i64 0, .int .i64 0, .bool false, .string { data := #[] }, .slice none 0 0, .slice none 0 0, .int .i64 0, .slice none 0 0] 41) = W5 := ⟨_, rfl⟩
  have hb5 : RowKit.Below w4.heap.size w4 W5 := by rw [← hW5]; exact (Below.refl _ _).alloc (Nat.le_refl _) _
  have HX5 : Hid (W5.heap[w4.heap.size]? = some (.cells #[.int .i64 K, .string nm, .int .i64 (lv : Int), .int .i64 t0, .int .i64 t1, .bool t2, .string t3, .slice t4 t5 t6, .slice t7 t8 t9, .int .i64 0, .int .i64 0, .bool false, .string { data := #[] }, .slice none 0 0, .slice none 0 0, .int .i64 0, .slice none 0 0] 41 (0, 0))) := by unfold Hid; rw [← hW5]; exact alloc_new _ _
  have HR5 : Hid (RD W5 N rb bs4 0) := HR4.out.on hb5
  have HB5 := Hid.mk hb5
  have HK5 : Hid (Kept (fun k => k = rb) w W5) := HK4.out.trans (Kept.of_below hb5)
  have HW5 := Hid.mk hW5
  have HXR : Hid (W5.heap[w.heap.size]? = some (.cells #[.int .i64 0, .string { data := #[] }, .int .i64 0, .int .i64 0, .int .i64 0, .bool false, .string { data := #[] }, .slice none 0 0, .slice none 0 0, .int .i64 0, .int .i64 0, .bool false, .string { data := #[] }, .slice none 0 0, .slice none 0 0, .int .i64 0, .slice none 0 0] 41 (0, 0))) := (hb5.block _ (heap_lt HX4.out)).trans HX4.out
  have hs5 : w4.heap.size < W5.heap.size := heap_lt HX5.out
  obtain ⟨q0, -⟩ := cells17 HX5.out
  have HSA : Hid ((Tryz.prog.info? 41).map (·.size) = some (#[.int .i64 K, .string nm, .int .i64 (lv : Int), .int .i64 t0, .int .i64 t1, .bool t2, .string t3, .slice t4 t5 t6, .slice t7 t8 t9, .int .i64 0, .int .i64 0, .bool false, .string { data := #[] }, .slice none 0 0, .slice none 0 0, .int .i64 0, .slice none 0 0] : Array Value).size) := by unfold Hid; kernel_rfl
  have HONE : Hid (((#[.int .i64 K, .string nm, .int .i64 (lv : Int), .int .i64 t0, .int .i64 t1, .bool t2, .string t3, .slice t4 t5 t6, .slice t7 t8 t9, .int .i64 0, .int .i64 0, .bool false, .string { data := #[] }, .slice none 0 0, .slice none 0 0, .int .i64 0, .slice none 0 0] : Array Value)).all (·.oneCell') = true) := by unfold Hid; simp [Value.oneCell']
  clear hb5 hW5
  obtain ⟨zs, hzs⟩ : ∃ zs : List Value, zs = [.int .i64 K, .string nm, .int .i64 (lv : Int), .int .i64 t0, .int .i64 t1, .bool t2, .string t3, .slice t4 t5 t6, .slice t7 t8 t9, .int .i64 0, .int .i64 0, .bool false, .string { data := #[] }, .slice none 0 0, .slice none 0 0, .int .i64 0, .slice none 0 0] := ⟨_, rfl⟩
  have hrg : W5.rangeAt w4.heap.size 0 zs := by rw [hzs]; exact range_of (pre := []) (post := []) HX5.out (List.append_nil _).symm rfl
  have hzl : zs.length = 17 := by rw [hzs]; rfl
  have HONZ : Hid (∀ v ∈ zs, v.oneCell' = true) := by unfold Hid; rw [hzs]; simp [Value.oneCell']
  have HZS := Hid.mk hzs
  have hth : W5.there w.heap.size 0 17 := there_of HXR.out rfl 0 17 (Nat.le_refl 17)
  have HRG := Hid.mk hrg
  have hzt : zs.toArray.size = 17 := by rw [List.size_toArray]; exact hzl
  have HSZ : Hid ((Tryz.prog.info? 41).map (·.size) = some zs.length) := by unfold Hid; rw [hzl]; kernel_rfl
  have HSB : Hid ((Tryz.prog.info? 41).map (·.size) = some zs.toArray.size) := by unfold Hid; rw [hzt]; kernel_rfl
  have HON2 : Hid (zs.toArray.all (·.oneCell') = true) := all_oneCell_toArray HONZ.out
  have HTH : Hid ((W5).there w.heap.size 0 zs.toArray.size) := by unfold Hid; rw [hzt]; exact hth
  have HRF : Hid (((W5).setCells w.heap.size 0 zs).rangeAt w.heap.size 0 zs) := World.rangeAt_setCells_same _ _ _ _ (by rw [hzl]; exact hth)
  have HZL := Hid.mk hzl
  clear hrg hzl hth hzs hzt
  go_wp2_with (first | (refine wpList_store_new rfl 41 _ _ rfl rfl rfl HSA.out rfl HONE.out ?_; rw [HW5.out]) | (refine wpList_load_mid rfl 41 _ rfl w4.heap.size 0 rfl zs _ HRG.out Tryz.underlying41 rfl HSZ.out ?_) | (refine wpList_store_mid rfl 41 _ _ rfl w.heap.size 0 zs.toArray rfl rfl HTH.out HSB.out HON2.out ?_))
  have hres := run_loadVar_mid (P := Tryz.prog) _ w.heap.size 0 41 zs _ HRF.out Tryz.underlying41 rfl HSZ.out
  have hsF := (sets_heap w.heap.size zs 0 (W5)).1
  have hbF := (sets_heap w.heap.size zs 0 (W5)).2
  refine bodyPost_ret (v := .agg zs.toArray) (results_cell (s := 2) (t := 41) Tryz.results70 rfl hres) rfl (Or.inl ⟨⟨K, nm, lv, t, .mk 0 0 false { data := #[] } [] [], 0, []⟩, _, bs4, rfl, ⟨zs, rfl, ?_⟩, HR5.out.sets (by omega) _, by omega, Kept.sets (Nat.le_refl _) _ _ _ HK5.out, ?_⟩)
  · have hmt : ∀ k, k < w4.heap.size → oldB w3 k = false → oldB w k = false ∧ (W5.setCells w.heap.size 0 zs).heap[k]? = w4.heap[k]? := fun k h1 h2 => by
      have h3 := oldB_no h2
      refine ⟨oldB_new (by omega), (hbF k (by omega)).trans (HB5.out.block k h1)⟩
    refine ⟨HZL.out, HONZ.out, ⟨⟨t0, t1, t2, t3, t4, t5, t6, t7, t8, t9, 0, 0, false, { data := #[] }, none, 0, 0, none, 0, 0, none, 0, by rw [HZS.out]; rfl, HTF.out.move (by omega) hmt, TF.leaf 0 0 false { data := #[] }, Or.inl rfl⟩⟩, ⟨by simp only; omega, HSM.out, HSL.out, by simp, by simp⟩⟩
  · intro d rest hd hb
    have hr := hd.right
    obtain ⟨e1, e2, e3, e4, e5⟩ := HYD.out d rest hr hb
    have n2 : ¬ d.kind = 2 := by omega
    have n3 : ¬ d.kind = 3 := by omega
    rw [encF, if_neg n2, if_neg n3, List.nil_append] at e5
    refine ⟨?_, e5⟩
    unfold cleanD
    rw [if_neg n2, if_neg n3, if_neg n3, e1, e3, ← e2, ← e4]
end Go.Proofs.YtndjdeiccmhelaaGreat
