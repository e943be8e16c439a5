/- The contracts of several at declarations, and of the reader's decls. -/
import Derived.Test.YtndjdeiccmhelaaGreatKI
namespace Go.Proofs.YtndjdeiccmhelaaGreat
open Go.RowKit Go.Sort Go.Lib

theorem infoD : (Tryz.prog.info? 41).map (fun i => (i.zero.map (·.cells.size), i.size, i.bytes)) = some (some 17, 17, 240) := by kernel_rfl

/-- append of one element onto a row of the call's own -/
theorem wpList_appD {w : World} {ops : Array Oper} {rest : List Oper} {o : Oper} {a : Act} {Q : Exit → Act → World → Prop} (hgd : o.guard = none) (s x : Operand) (ho : o.op = .call { callee := .builtin .append, args := #[s, x], argTypes := #[22, 22] })
    (B : Nat) (v : Value) (n : Nat) (xs news : List Value) (b c1 : Nat) (hs : a.eval s = v) (hx : a.eval x = .slice (some ⟨b, 0, none⟩) 1 c1) (hO : w.ownsRow B 41 17 v n xs) (hl : news.length = 17) (hnews : ∀ j u, news[j]? = some u → w.cell? ((⟨b, 0, none⟩ : Addr).add j) = some u) (h1 : ∀ u ∈ news, u.oneCell' = true) (hlen : n ≤ 1073741824) (hB : B ≤ w.heap.size)
    (h : ∀ g cap w', w'.ownsRow B 41 17 (.slice (some ⟨g, 0, none⟩) (n + 1) cap) (n + 1) (xs ++ news) → w.grownBy w' v.ownBlock → (v.ownBlock = some g ∨ g = w.heap.size) → wpList Tryz.prog ops Q rest (a.put o.dst (.slice (some ⟨g, 0, none⟩) (n + 1) cap)) w') : wpList Tryz.prog ops Q (o :: rest) a w := by
  have hI := infoD
  cases hi : Tryz.prog.info? 41 with
  | none => rw [hi] at hI; simp at hI
  | some i0 =>
    rw [hi] at hI
    simp only [Option.map_some, Option.some.injEq, Prod.mk.injEq, Option.map_eq_some_iff] at hI
    obtain ⟨⟨z, hz, hzc⟩, hz1, hz2⟩ := hI
    refine wpList_append_lies _ hgd s x 22 ho B 41 i0 z 17 240 Tryz.underlying22 hi hz hz1 hz2 hzc (by decide) v n xs hs hO _ 1 c1 news hx hl hnews h1 (by decide) (by simp [maxLen]; omega) (by omega) hB _ rfl ?_
    intro g cap w' hown hgr hat _
    exact h g cap w' hown hgr hat

set_option maxRecDepth 100000 in
set_option maxHeartbeats 4000000 in
theorem severalD_both (N rb n : Nat) (bs : List UInt8) (w : World) (hR : RD w N rb bs 0) (hn : n ≤ 1073741824) (hbl : bs.length ≤ 1000000) : Calls Tryz.prog 68 #[.int .i64 (n : Int), .func (.func 70) #[.pointer (some ⟨rb, 0, none⟩)] #[]] w (Rd2 w N rb bs 0 (fun ts v w' => ts.length = n ∧ n ≤ bs.length ∧ ∃ a cap, v = .slice a n cap ∧ RowX 41 17 ED w' w.heap.size (oldB w) a cap ts) (fun ys : List (Dl) => ys.length = n ∧ ∀ y ∈ ys, okR y) (·.flatMap encD) (·.map cleanD)) := by
  have hlR := hR.2.1
  have hrb := hR.1
  have HR := Hid.mk hR
  clear hR
  go_enter Tryz.func68, Tryz.ntmps68
  go_wp2
  go_loopw [5, 7] (fun u i wr => ∃ (k : Nat) (a : Option Addr) (cap : Nat) (TS : List (Dl)) (bs' : List UInt8), k ≤ n ∧ i = .int .i64 k ∧ u = .slice a k cap ∧ TS.length = k ∧ RowX 41 17 ED wr w.heap.size (oldB w) a cap TS ∧ RD wr N rb bs' 0 ∧ bs'.length + k ≤ bs.length ∧ Kept (fun k => k = rb) w wr ∧ ∀ (ys : List (Dl)) (rest : List UInt8), (ys.length = n ∧ ∀ y ∈ ys, okR y) → bs = ys.flatMap encD ++ rest → TS = (ys.take k).map cleanD ∧ bs' = (ys.drop k).flatMap encD ++ rest) (fun _ i _ => n - (intOf i).toNat)
  case atStart => exact ⟨0, none, 0, [], bs, Nat.zero_le _, rfl, rfl, rfl, RowX.nil _ _ _ _ _ _, HR.out, Nat.le_refl _, Kept.refl _ _, fun ys rest _ hb => ⟨rfl, hb⟩⟩
  case round =>
    obtain ⟨k, a, cap, TS, bs1, hk, rfl, rfl, htk, hOr, hRr, hl, hkr, hys⟩ := hrel
    have HROW := Hid.mk hOr
    have HRR := Hid.mk hRr
    have HKR := Hid.mk hkr
    have HTK := Hid.mk htk
    have HYS := Hid.mk hys
    have hsz := hkr.size
    clear hOr hRr hkr htk hys
    by_cases hlt : k < n
    · have HC := decl_both N rb bs1 wr HRR.out (by omega)
      go_wp2_with fail
      refine HC.mono ?_
      rintro e w1 (⟨p, v1, bs2, rfl, ⟨zs, rfl, hE⟩, hR1, hl1, hk1, hy1⟩ | ⟨rfl, hk1, hy1⟩)
      rotate_left
      · refine ⟨rfl, Or.inr ⟨rfl, HKR.out.trans hk1, fun ys rest hy hb => ?_⟩⟩
        obtain ⟨-, h2⟩ := HYS.out ys rest hy hb
        have hky : k < ys.length := by rw [hy.1]; exact hlt
        rw [List.drop_eq_getElem_cons hky, List.flatMap_cons, List.append_assoc] at h2
        exact hy1 _ _ (hy.2 _ (List.getElem_mem hky)) h2
      have HR1 := Hid.mk hR1
      have HK1 := Hid.mk (HKR.out.trans hk1)
      have hsz1 := hk1.size
      have HZ := Hid.mk hE.one
      have hz17 := hE.one.1
      have HYN : Hid (∀ (ys : List (Dl)) (rest : List UInt8), (ys.length = n ∧ ∀ y ∈ ys, okR y) → bs = ys.flatMap encD ++ rest → TS ++ [p] = (ys.take (k + 1)).map cleanD ∧ bs2 = (ys.drop (k + 1)).flatMap encD ++ rest) := by
        intro ys rest hy hb
        obtain ⟨h1, h2⟩ := HYS.out ys rest hy hb
        have hky : k < ys.length := by rw [hy.1]; exact hlt
        rw [List.drop_eq_getElem_cons hky, List.flatMap_cons, List.append_assoc] at h2
        obtain ⟨h3, h4⟩ := hy1 _ _ (hy.2 _ (List.getElem_mem hky)) h2
        refine ⟨?_, h4⟩
        rw [List.take_succ_eq_append_getElem hky, List.map_append, h1, h3]
        rfl
      have HROW1 : Hid (RowX 41 17 ED (w1.alloc (.cells zs.toArray 41)) w.heap.size (oldB w) a cap TS) := (HROW.out.move ED.moves (fun k hk => oldB_new hk) hk1.size fun k h1 h2 => hk1.block k h1 (by have := oldB_no h2; omega)).move ED.moves (fun k hk => oldB_new hk) (by simp) fun k h1 _ => Below.heap_alloc _ _ _ h1
      obtain ⟨xss, hx1, hx2, hown, hkv⟩ := HROW1.out.go
      have hRB : ∀ j, ownB a j = true → w.heap.size ≤ j ∧ j < wr.heap.size := fun j hj => by
        obtain ⟨ys, -, -, hown0, -⟩ := HROW.out.go
        exact ownsX_lt hown0 hj
      have HNEW : Hid (ED (w1.alloc (.cells zs.toArray 41)) (fun k => oldB w k || ownB a k) zs p) := ED.moves _ _ _ _ _ _ hE (by simp) fun j h1 h2 => ⟨by
        have := oldB_no h2
        rw [oldB_new (by omega), Bool.false_or]
        cases ho : ownB a j
        · rfl
        · have := (hRB j ho).2; omega, Below.heap_alloc _ _ _ h1⟩
      rw [HTK.out] at hown
      have HOWN := Hid.mk hown
      have HKV := Hid.mk hkv
      have HX1 := Hid.mk hx1
      have HX2 := Hid.mk hx2
      have HNB : Hid (∀ (j : Nat) (u : Value), zs[j]? = some u → (w1.alloc (.cells zs.toArray 41)).cell? ((⟨w1.heap.size, 0, none⟩ : Addr).add j) = some u) := World.news_of_block (cs := zs.toArray) (t := 41) (fr := (0, 0)) (alloc_new w1 (.cells zs.toArray 41))
      have HFO : Hid (List.foldl (fun (cs : Array Value) (x : Value × Nat) => cs.setIfInBounds x.snd x.fst) #[.int .i64 0, .string { data := #[] }, .int .i64 0, .int .i64 0, .int .i64 0, .bool false, .string { data := #[] }, .slice none 0 0, .slice none 0 0, .int .i64 0, .int .i64 0, .bool false, .string { data := #[] }, .slice none 0 0, .slice none 0 0, .int .i64 0, .slice none 0 0] zs.zipIdx = zs.toArray) := fold_new _ _ (by rw [hz17]; rfl)
      have HZL : Hid (zs.length = 17) := hz17
      have hB1 : w.heap.size ≤ (w1.alloc (.cells zs.toArray 41)).heap.size := by simp; omega
      clear hR1 hk1 HC hE hown hkv hx1 hx2 hy1
      go_wp2_with (first | (rw [HFO.out]) | (at_builtin; refine wpList_appD rfl _ _ rfl w.heap.size (.slice a k cap) k xss.flatten zs w1.heap.size 1 rfl rfl HOWN.out HZL.out HNB.out HZ.out.2 (by omega) hB1 ?_; intro g7 c7 W7 hown7 hgr7 hat7; have HOWN7 := Hid.mk hown7; have HGR7 := Hid.mk hgr7; have HAT7 := Hid.mk hat7; clear hown7 hgr7 hat7))
      have hag : ∀ j, j < w.heap.size → W7.heap[j]? = w1.heap[j]? := fun j hj => (HGR7.out.block j (by simp; omega) (fun e => by have := (World.ownsRow.lt HOWN.out j e.symm).1; omega)).trans (Below.heap_alloc _ _ _ (by omega))
      have hs7 : w1.heap.size ≤ W7.heap.size := by have := HGR7.out.size; simp at this; omega
      refine ⟨⟨k + 1, some ⟨g7, 0, none⟩, c7, TS ++ [p], bs2, hlt, by go_num, rfl, by rw [List.length_append]; have := HTK.out; simp; omega, ?_, HR1.out.move hs7 (fun j hj => hag j (by omega)), by omega, ⟨HGR7.out.os.trans HK1.out.os, HGR7.out.tape.trans HK1.out.tape, HGR7.out.output.trans HK1.out.output, Nat.le_trans HK1.out.size hs7, fun j hj hp => (hag j hj).trans (HK1.out.block j hj hp)⟩, HYN.out⟩, by simp [intOf]; omega⟩
      exact RowX.snoc ED.moves (cap := cap) HX1.out HX2.out HKV.out HZL.out (by rw [HTK.out]; exact HOWN7.out) (by rw [HTK.out]; exact HGR7.out) (by rw [HTK.out]; exact HAT7.out) HNEW.out
    · obtain rfl : k = n := by omega
      go_wp2
      go_ret
      refine Or.inl ⟨TS, _, bs1, rfl, ⟨HTK.out, by omega, a, cap, rfl, HROW.out⟩, HRR.out, by omega, HKR.out, fun ys rest hy hb => ?_⟩
      obtain ⟨h1, h2⟩ := HYS.out ys rest hy hb
      rw [List.take_of_length_le (by omega)] at h1
      rw [List.drop_of_length_le (by omega)] at h2
      exact ⟨h1, h2⟩

/-- declarations that are right -/
def okRs (ds : List Dl) : Prop := ds.length ≤ 500 ∧ ∀ d ∈ ds, okR d

set_option maxRecDepth 100000 in
set_option maxHeartbeats 4000000 in
theorem decls_both (N rb : Nat) (bs : List UInt8) (w : World) (hR : RD w N rb bs 0) (hl : bs.length ≤ 1000000) : Calls Tryz.prog 38 #[.pointer (some ⟨rb, 0, none⟩)] w (Rd2 w N rb bs 1 (fun ts v w' => ts.length ≤ 1000000 ∧ ∃ a cap, v = .slice a ts.length cap ∧ RowX 41 17 ED w' w.heap.size (oldB w) a cap ts) okRs encDs (·.map cleanD)) := by
  have hlR := hR.2.1
  have HC := number_both N rb bs w hR
  clear hR
  go_enter Tryz.func38, Tryz.ntmps38
  go_wp2_with fail
  refine HC.mono ?_
  rintro e w1 (⟨n, x1, bs1, rfl, ⟨rfl, hn⟩, hR1, hl1, hk1, hy1⟩ | ⟨rfl, hk1, hy1⟩)
  rotate_left
  · refine ⟨rfl, Or.inr ⟨rfl, hk1, fun ds rest hd hb => ?_⟩⟩
    exact hy1 ds.length (ds.flatMap encD ++ rest) (by have := hd.1; omega) (by rw [hb, encDs, List.append_assoc])
  have HY1 : Hid (∀ ds rest, okRs ds → bs = encDs ds ++ rest → n = ds.length ∧ bs1 = ds.flatMap encD ++ rest) := fun ds rest hd hb => hy1 ds.length (ds.flatMap encD ++ rest) (by have := hd.1; omega) (by rw [hb, encDs, List.append_assoc])
  have HC2 := severalD_both N rb n bs1 w1 hR1 hn (by omega)
  have HK1 := Hid.mk hk1
  have hs1 := hk1.size
  clear hR1 hk1 HC hy1
  go_wp2_with fail
  refine HC2.mono ?_
  rintro e w2 (⟨ds, x2, bs2, rfl, ⟨hdl, hdb, a, cap, rfl, hrow⟩, hR2, hl2, hk2, hy2⟩ | ⟨rfl, hk2, hy2⟩)
  rotate_left
  · refine ⟨rfl, Or.inr ⟨rfl, HK1.out.trans hk2, fun ds rest hd hb => ?_⟩⟩
    obtain ⟨h1, h2⟩ := HY1.out ds rest hd hb
    exact hy2 ds rest ⟨h1.symm, hd.2⟩ h2
  have HR2 := Hid.mk hR2
  have HK2 : Hid (Kept (fun k => k = rb) w w2) := HK1.out.trans hk2
  have HROW : Hid (RowX 41 17 ED w2 w.heap.size (oldB w) a cap ds) := by
    obtain ⟨xss, h1, h2, hown, hkv⟩ := hrow.go
    refine ⟨xss, h1, h2, ⟨hown.1, ?_⟩, fun j t xs hj hx => ED.moves _ _ _ _ _ _ (hkv j t xs hj hx) (Nat.le_refl _) fun k _ hp => ⟨?_, rfl⟩⟩
    · rcases hown.2 with h | ⟨g, cap', cur, hv, hg, r⟩
      · exact Or.inl h
      · exact Or.inr ⟨g, cap', cur, hv, by omega, r⟩
    · rw [Bool.or_eq_false_iff] at hp ⊢
      exact ⟨oldB_new (by have := oldB_no hp.1; omega), hp.2⟩
  have HY2 : Hid (∀ ys rest, okRs ys → bs = encDs ys ++ rest → ds = ys.map cleanD ∧ bs2 = rest) := fun ys rest hd hb => by
    obtain ⟨h1, h2⟩ := HY1.out ys rest hd hb
    exact hy2 ys rest ⟨h1.symm, hd.2⟩ h2
  subst hdl
  clear hR2 hk2 HC2 hy2 hrow HY1
  go_wp2
  go_ret
  exact Or.inl ⟨ds, _, bs2, rfl, ⟨by omega, a, cap, rfl, HROW.out⟩, HR2.out, by omega, HK2.out, HY2.out⟩
end Go.Proofs.YtndjdeiccmhelaaGreat

/- What is read as declarations, plain and in memory. -/
namespace Go.Proofs.YtndjdeiccmhelaaGreat
open Go.RowKit Go.Sort Go.Lib

theorem RowX.weaken {α : Type} {e : TypeId} {m : Nat} {E : World → (Nat → Bool) → List Value → α → Prop} (hE : Moves E) {w W0 W : World} {cap : Nat} {a : Option Addr} {ts : List α} (h : RowX e m E W W0.heap.size (oldB W0) a cap ts) (hs : w.heap.size ≤ W0.heap.size) : RowX e m E W w.heap.size (oldB w) a cap ts := by
  obtain ⟨xss, h1, h2, hown, hkv⟩ := h.go
  refine ⟨xss, h1, h2, ⟨hown.1, ?_⟩, fun j t xs hj hx => hE _ _ _ _ _ _ (hkv j t xs hj hx) (Nat.le_refl _) fun k _ hp => ⟨?_, rfl⟩⟩
  · rcases hown.2 with h | ⟨g, cap', cur, hv, hg, r⟩
    · exact Or.inl h
    · exact Or.inr ⟨g, cap', cur, hv, by omega, r⟩
  · rw [Bool.or_eq_false_iff] at hp ⊢
    exact ⟨oldB_new (by have := oldB_no hp.1; omega), hp.2⟩

theorem RowX.dl {w : World} {B cap : Nat} {P : Nat → Bool} {a : Option Addr} {ds : List Dl} (h : RowX 41 17 ED w B P a cap ds) (hB : ∀ k, B ≤ k → P k = false) : DL w a ds ∧ ∀ d ∈ ds, smD d := by
  have hcc : ∀ p v, (maskB P w).cell? p = some v → w.cell? p = some v := fun _ _ hc => (maskB_cell hc).2
  refine ⟨?_, fun d hd => ?_⟩
  · cases hcs : ds with
    | nil => exact Or.inl rfl
    | cons c0 cr =>
      obtain ⟨g, xs0, ha, hg1, hg2, -, -, -⟩ := h.at ED.moves hB (j := 0) (t := c0) (by rw [hcs]; rfl)
      rw [← hcs]
      refine Or.inr ⟨g, 0, ha, hg2, fun i c hi => ?_⟩
      obtain ⟨g', xs, ha', -, -, hl, hr, hed⟩ := h.at ED.moves hB hi
      rw [ha] at ha'
      simp only [Option.some.injEq, Addr.mk.injEq, and_true] at ha'
      subst ha'
      rw [Nat.zero_add]
      exact ⟨xs, hl, fun j v hj => hcc _ _ (hr j v hj), hed.cell, hed.dv.subF (by rw [maskB_size]; exact Nat.le_refl _) hcc⟩
  · obtain ⟨i, hi, rfl⟩ := List.mem_iff_getElem.1 hd
    obtain ⟨_, _, -, -, -, -, -, hed⟩ := h.at ED.moves hB (List.getElem?_eq_getElem hi)
    exact hed.sm

/-- the bytes bs are those of the declarations ds -/
def HasD (bs : List UInt8) (ds : List Dl) : Prop := okRs ds ∧ encDs ds = bs

theorem encD_clean (d : Dl) : encD (cleanD d) = encD d := by
  have hc : (d.ctors.map cleanC).flatMap encC = d.ctors.flatMap encC := by
    rw [List.flatMap_map]
    congr 1
    funext c
    simp only [encC, cleanC, enc_clean]
  unfold encD encF cleanD
  simp only [enc_clean]
  by_cases h2 : d.kind = 2
  · simp only [h2, if_true, enc_clean]
  · by_cases h3 : d.kind = 3
    · simp only [h3, if_true, hc, List.length_map]
      rfl
    · simp only [h2, h3, if_false]

theorem encDs_clean (ds : List Dl) : encDs (ds.map cleanD) = encDs ds := by
  unfold encDs
  rw [List.length_map, List.flatMap_map]
  congr 2
  funext d
  exact encD_clean d

theorem judgC_clean (cs : List (ByteArray × Tm)) : judgC (cs.map cleanC) = judgC cs := by
  induction cs with
  | nil => rfl
  | cons c cs ih => simp only [List.map_cons, judgC, cleanC, clean_check, ih]

theorem judgD_clean (d : Dl) (h : judgD d = 0) : judgD (cleanD d) = 0 := by
  rw [← h]
  unfold judgD
  by_cases h2 : d.kind = 2
  · simp only [cleanD, clean_check, h2, if_true]
  · by_cases h3 : d.kind = 3
    · simp only [cleanD, judgF, clean_check, h3, if_true, judgC_clean, List.length_map, show ¬ (3 : Int) = 2 by decide, if_false]
    · simp only [cleanD, clean_check, h2, h3, if_false]

theorem judgDs_zero {ds : List Dl} (h : ∀ d ∈ ds, judgD d = 0) : judgDs ds = 0 := by
  induction ds with
  | nil => rfl
  | cons d ds ih => rw [judgDs, if_pos (h d (List.mem_cons_self ..))]; exact ih fun x hx => h x (List.mem_cons_of_mem _ hx)

theorem judgDs_all {ds : List Dl} (h : judgDs ds = 0) : ∀ d ∈ ds, judgD d = 0 := by
  induction ds with
  | nil => intro d hd; cases hd
  | cons x xs ih =>
    unfold judgDs at h
    by_cases hc : judgD x = 0
    · rw [if_pos hc] at h
      intro d hd
      rcases List.mem_cons.1 hd with rfl | hd
      · exact hc
      · exact ih h d hd
    · rw [if_neg hc] at h; exact absurd h hc

/-- what Decls answers of what was read, where something has these bytes -/
theorem has_res {bs : List UInt8} {ys : List Dl} (h : HasD bs ys) (hl : bs.length ≤ 1000000) : declsRes (ys.map cleanD) = .ok bs := by
  obtain ⟨⟨h1, h2⟩, h3⟩ := h
  unfold declsRes
  rw [List.length_map, if_neg (by omega), if_neg (by
    rw [judgDs_zero]
    · simp
    · intro d hd
      obtain ⟨y, hy, rfl⟩ := List.mem_map.1 hd
      exact judgD_clean y (h2 y hy).2), encDs_clean, h3, if_neg (by omega)]

theorem res_has {ds : List Dl} {bs : List UInt8} (hsm : ∀ d ∈ ds, smD d) (h : declsRes ds = .ok bs) : HasD bs ds ∧ bs.length ≤ 1000000 := by
  unfold declsRes at h
  by_cases h1 : 500 < ds.length
  · rw [if_pos h1] at h; cases h
  rw [if_neg h1] at h
  by_cases h2 : judgDs ds ≠ 0
  · rw [if_pos h2] at h; cases h
  rw [if_neg h2] at h
  by_cases h3 : 1000000 < (encDs ds).length
  · rw [if_pos h3] at h; cases h
  rw [if_neg h3] at h
  cases h
  exact ⟨⟨⟨by omega, fun d hd => ⟨hsm d hd, judgDs_all (Decidable.not_not.1 h2) d hd⟩⟩, rfl⟩, by omega⟩

theorem res_cases (ds : List Dl) : (∃ x, x ≠ 0 ∧ declsRes ds = .error x) ∨ declsRes ds = .ok (encDs ds) := by
  unfold declsRes
  by_cases h1 : 500 < ds.length
  · exact Or.inl ⟨2, by decide, by rw [if_pos h1]⟩
  rw [if_neg h1]
  by_cases h2 : judgDs ds ≠ 0
  · exact Or.inl ⟨_, h2, by rw [if_pos h2]⟩
  rw [if_neg h2]
  by_cases h3 : 1000000 < (encDs ds).length
  · exact Or.inl ⟨2, by decide, by rw [if_pos h3]⟩
  · exact Or.inr (by rw [if_neg h3])
end Go.Proofs.YtndjdeiccmhelaaGreat
