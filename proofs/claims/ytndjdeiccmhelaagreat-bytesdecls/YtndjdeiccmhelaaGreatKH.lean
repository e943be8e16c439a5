/- The contracts of the reader's ctor and of several at constructors. -/
import Derived.Test.YtndjdeiccmhelaaGreatKF
namespace Go.Proofs.YtndjdeiccmhelaaGreat
open Go.RowKit Go.Sort Go.Lib

/-- cells that are a constructor that does not look into the blocks of P -/
def EC (w : World) (P : Nat → Bool) (xs : List Value) (c : ByteArray × Tm) : Prop := ∃ (u0 u1 : Int) (u2 : Bool) (u3 : ByteArray) (r1 : Option Addr) (r2 r3 : Nat) (s1 : Option Addr) (s2 s3 : Nat), xs = [.string c.1, .int .i64 u0, .int .i64 u1, .bool u2, .string u3, .slice r1 r2 r3, .slice s1 s2 s3] ∧ TF w P (.agg #[.int .i64 u0, .int .i64 u1, .bool u2, .string u3, .slice r1 r2 r3, .slice s1 s2 s3]) c.2 ∧ smT 1000000 c.2 ∧ c.1.size ≤ 1000000

theorem EC.moves : Moves EC := by
  rintro w w' P Q xs t ⟨u0, u1, u2, u3, r1, r2, r3, s1, s2, s3, h1, h2, h3, h4⟩ hs hk
  exact ⟨u0, u1, u2, u3, r1, r2, r3, s1, s2, s3, h1, h2.move hs hk, h3, h4⟩

theorem EC.one {w : World} {P : Nat → Bool} {xs : List Value} {c : ByteArray × Tm} (h : EC w P xs c) : xs.length = 7 ∧ ∀ v ∈ xs, v.oneCell' = true := by
  obtain ⟨u0, u1, u2, u3, r1, r2, r3, s1, s2, s3, rfl, -⟩ := h
  exact ⟨rfl, by simp [Value.oneCell']⟩

theorem fold_at : ∀ (zs : List Value) (k : Nat) (c : Array Value), k + zs.length ≤ c.size → ∀ i : Nat, (List.foldl (fun (cs : Array Value) (x : Value × Nat) => cs.setIfInBounds x.snd x.fst) c (zs.zipIdx k))[i]? = if k ≤ i ∧ i < k + zs.length then zs[i - k]? else c[i]?
  | [], k, c, _, i => by rw [if_neg (by simp only [List.length_nil]; omega)]; rfl
  | z :: zs, k, c, h, i => by
    rw [List.length_cons] at h
    rw [List.zipIdx_cons, List.foldl_cons, fold_at zs (k + 1) _ (by simp only [Array.size_setIfInBounds]; omega) i, List.length_cons]
    by_cases h1 : i = k
    · subst h1
      rw [if_neg (by omega), if_pos (by omega), Nat.sub_self, Array.getElem?_setIfInBounds_self_of_lt (by omega)]
      rfl
    · rw [Array.getElem?_setIfInBounds_ne (fun e => h1 e.symm)]
      by_cases h2 : k + 1 ≤ i ∧ i < k + 1 + zs.length
      · rw [if_pos h2, if_pos (by omega), show i - k = (i - (k + 1)) + 1 by omega, List.getElem?_cons_succ]
      · rw [if_neg h2, if_neg (by omega)]

theorem fold_new (zs : List Value) (c : Array Value) (h : c.size = zs.length) : List.foldl (fun (cs : Array Value) (x : Value × Nat) => cs.setIfInBounds x.snd x.fst) c zs.zipIdx = zs.toArray := by
  apply Array.ext_getElem?
  intro i
  rw [fold_at zs 0 c (by omega) i]
  by_cases hi : i < zs.length
  · rw [if_pos (by omega)]; simp
  · rw [if_neg (by omega), Array.getElem?_eq_none (by omega), Array.getElem?_eq_none (by simp; omega)]

/-- a constructor that is right -/
def okC (c : ByteArray × Tm) : Prop := (0 < c.1.size ∧ c.1.size ≤ 60) ∧ okTm c.2
def cleanC (c : ByteArray × Tm) : ByteArray × Tm := (c.1, cleanT c.2)

theorem frz7 {w : World} {b : Nat} {u0 u1 u2 u3 u4 u5 u6 : Value} {t : TypeId} (h : w.heap[b]? = some (.cells #[u0, u1, u2, u3, u4, u5, u6] t (0, 0))) : ∀ o, w.frozen? ⟨b, o, none⟩ = false := fun o => by simp [World.frozen?, h]

set_option maxRecDepth 100000 in
set_option maxHeartbeats 4000000 in
theorem ctor_both (N rb : Nat) (bs : List UInt8) (w : World) (hR : RD w N rb bs 0) (hl : bs.length ≤ 1000000) : Calls Tryz.prog 106 #[.pointer (some ⟨rb, 0, none⟩)] w (Rd2 w N rb bs 1 (fun c v w' => ∃ xs : List Value, v = .agg xs.toArray ∧ EC w' (oldB w) xs c) okC encC cleanC) := by
  have hlR := hR.2.1
  obtain ⟨W0, hW0⟩ : ∃ W0, w.alloc (.cells #[.string { data := #[] }, .int .i64 0, .int .i64 0, .bool false, .string { data := #[] }, .slice none 0 0, .slice none 0 0] 57) = W0 := ⟨_, rfl⟩
  have hb : RowKit.Below w.heap.size w W0 := by rw [← hW0]; exact (Below.refl _ _).alloc (Nat.le_refl _) _
  have HX0 : Hid (W0.heap[w.heap.size]? = some (.cells #[.string { data := #[] }, .int .i64 0, .int .i64 0, .bool false, .string { data := #[] }, .slice none 0 0, .slice none 0 0] 57 (0, 0))) := by unfold Hid; rw [← hW0]; exact alloc_new _ _
  have HC := name_both N rb bs W0 (hR.on hb) hl
  have HK0 : Hid (Kept (fun k => k = rb) w W0) := Kept.of_below hb
  have HW0 := Hid.mk hW0
  have hrbN := hR.1
  clear hR hb hW0
  go_enter Tryz.func106, Tryz.ntmps106
  go_wp2_with fail
  rw [HW0.out]
  refine HC.mono ?_
  rintro e w1 (⟨nm, v1, bs1, rfl, ⟨rfl, hnm⟩, hR1, hl1, hk1, hy1⟩ | ⟨rfl, hk1, hy1⟩)
  rotate_left
  · refine ⟨rfl, Or.inr ⟨rfl, HK0.out.trans hk1, fun c rest hc hb => ?_⟩⟩
    exact hy1 c.1 (encT c.2 ++ rest) hc.1 (by rw [hb, encC, List.append_assoc])
  have HY1 := Hid.mk hy1
  have HC2 := term_both N rb bs1 w1 hR1 (by omega)
  have HK1 : Hid (Kept (fun k => k = rb) w w1) := HK0.out.trans hk1
  have HX1 : Hid (w1.heap[w.heap.size]? = some (.cells #[.string { data := #[] }, .int .i64 0, .int .i64 0, .bool false, .string { data := #[] }, .slice none 0 0, .slice none 0 0] 57 (0, 0))) := (hk1.block _ (heap_lt HX0.out) (by omega)).trans HX0.out
  clear hR1 hk1 HC hy1
  go_wp2_with fail
  refine HC2.mono ?_
  rintro e w2 (⟨t, v2, bs2, rfl, ⟨⟨u0, u1, u2, u3, r1, r2, r3, s1, s2, s3, rfl⟩, htf, hsm⟩, hR2, hl2, hk2, hy2⟩ | ⟨rfl, hk2, hy2⟩)
  rotate_left
  · refine ⟨rfl, Or.inr ⟨rfl, HK1.out.trans hk2, fun c rest hc hb => ?_⟩⟩
    obtain ⟨-, hb1⟩ := HY1.out c.1 (encT c.2 ++ rest) hc.1 (by rw [hb, encC, List.append_assoc])
    exact hy2 c.2 rest hc.2 hb1
  have HR2 := Hid.mk hR2
  have HY2 := Hid.mk hy2
  have HTF := Hid.mk htf
  have HSM := Hid.mk hsm
  have hs1 : w.heap.size < w1.heap.size := heap_lt HX1.out
  have hs2 := hk2.size
  have HK2 : Hid (Kept (fun k => k = rb) w w2) := HK1.out.trans hk2
  have hX2 := (hk2.block _ (heap_lt HX1.out) (by omega)).trans HX1.out
  obtain ⟨y0, y1, y2, y3, y4, y5, y6, y7⟩ := cells7 hX2
  have hfz := frz7 hX2
  clear hR2 hk2 HC2 hX2 hy2 htf hsm
  go_wp2
  refine bodyPost_ret (v := .agg #[.string nm, .int .i64 u0, .int .i64 u1, .bool u2, .string u3, .slice r1 r2 r3, .slice s1 s2 s3]) (by simp [results, Tryz.results106, go_sem, y0, y1, y2, y3, y4, y5, y6]) rfl (Or.inl ⟨(nm, t), _, bs2, rfl, ⟨_, rfl, u0, u1, u2, u3, r1, r2, r3, s1, s2, s3, rfl, ?_, HSM.out, hnm⟩, ?_, by omega, ?_, ?_⟩)
  · refine HTF.out.move (by simp [World.setCell]) fun k h1 h2 => ?_
    have h3 := oldB_no h2
    refine ⟨oldB_new (by omega), ?_⟩
    have hne : k ≠ w.heap.size := by omega
    have st : ∀ (w' : World) (o : Nat) (x : Value), (w'.setCell ⟨w.heap.size, o, none⟩ x).heap[k]? = w'.heap[k]? := fun w' o x => Below.heap_setCell _ _ _ _ hne
    rw [st _ 6, st _ 5, st _ 4, st _ 3, st _ 2, st _ 1, st _ 0]
  · exact ((((((HR2.out.setNew (p := ⟨w.heap.size, 0, none⟩) (by simp only; omega) _).setNew (p := ⟨w.heap.size, 1, none⟩) (by simp only; omega) _).setNew (p := ⟨w.heap.size, 2, none⟩) (by simp only; omega) _).setNew (p := ⟨w.heap.size, 3, none⟩) (by simp only; omega) _).setNew (p := ⟨w.heap.size, 4, none⟩) (by simp only; omega) _).setNew (p := ⟨w.heap.size, 5, none⟩) (by simp only; omega) _).setNew (p := ⟨w.heap.size, 6, none⟩) (by simp only; omega) _
  · exact ((((((HK2.out.setNew (p := ⟨w.heap.size, 0, none⟩) (Nat.le_refl _) _).setNew (p := ⟨w.heap.size, 1, none⟩) (Nat.le_refl _) _).setNew (p := ⟨w.heap.size, 2, none⟩) (Nat.le_refl _) _).setNew (p := ⟨w.heap.size, 3, none⟩) (Nat.le_refl _) _).setNew (p := ⟨w.heap.size, 4, none⟩) (Nat.le_refl _) _).setNew (p := ⟨w.heap.size, 5, none⟩) (Nat.le_refl _) _).setNew (p := ⟨w.heap.size, 6, none⟩) (Nat.le_refl _) _
  · intro c rest hc hb
    obtain ⟨hn1, hb1⟩ := HY1.out c.1 (encT c.2 ++ rest) hc.1 (by rw [hb, encC, List.append_assoc])
    obtain ⟨hn2, hb2⟩ := HY2.out c.2 rest hc.2 hb1
    exact ⟨by rw [hn1, hn2]; rfl, hb2⟩

theorem infoC : (Tryz.prog.info? 57).map (fun i => (i.zero.map (·.cells.size), i.size, i.bytes)) = some (some 7, 7, 104) := by kernel_rfl

/-- append of one element onto a row of the call's own -/
theorem wpList_appC {w : World} {ops : Array Oper} {rest : List Oper} {o : Oper} {a : Act} {Q : Exit → Act → World → Prop} (hgd : o.guard = none) (s x : Operand) (ho : o.op = .call { callee := .builtin .append, args := #[s, x], argTypes := #[39, 39] })
    (B : Nat) (v : Value) (n : Nat) (xs news : List Value) (b c1 : Nat) (hs : a.eval s = v) (hx : a.eval x = .slice (some ⟨b, 0, none⟩) 1 c1) (hO : w.ownsRow B 57 7 v n xs) (hl : news.length = 7) (hnews : ∀ j u, news[j]? = some u → w.cell? ((⟨b, 0, none⟩ : Addr).add j) = some u) (h1 : ∀ u ∈ news, u.oneCell' = true) (hlen : n ≤ 1073741824) (hB : B ≤ w.heap.size)
    (h : ∀ g cap w', w'.ownsRow B 57 7 (.slice (some ⟨g, 0, none⟩) (n + 1) cap) (n + 1) (xs ++ news) → w.grownBy w' v.ownBlock → (v.ownBlock = some g ∨ g = w.heap.size) → wpList Tryz.prog ops Q rest (a.put o.dst (.slice (some ⟨g, 0, none⟩) (n + 1) cap)) w') : wpList Tryz.prog ops Q (o :: rest) a w := by
  have hI := infoC
  cases hi : Tryz.prog.info? 57 with
  | none => rw [hi] at hI; simp at hI
  | some i0 =>
    rw [hi] at hI
    simp only [Option.map_some, Option.some.injEq, Prod.mk.injEq, Option.map_eq_some_iff] at hI
    obtain ⟨⟨z, hz, hzc⟩, hz1, hz2⟩ := hI
    refine wpList_append_lies _ hgd s x 39 ho B 57 i0 z 7 104 Tryz.underlying39 hi hz hz1 hz2 hzc (by decide) v n xs hs hO _ 1 c1 news hx hl hnews h1 (by decide) (by simp [maxLen]; omega) (by omega) hB _ rfl ?_
    intro g cap w' hown hgr hat _
    exact h g cap w' hown hgr hat

set_option maxRecDepth 100000 in
set_option maxHeartbeats 4000000 in
theorem severalC_both (N rb n : Nat) (bs : List UInt8) (w : World) (hR : RD w N rb bs 0) (hn : n ≤ 1073741824) (hbl : bs.length ≤ 1000000) : Calls Tryz.prog 105 #[.int .i64 (n : Int), .func (.func 106) #[.pointer (some ⟨rb, 0, none⟩)] #[]] w (Rd2 w N rb bs 0 (fun ts v w' => ts.length = n ∧ n ≤ bs.length ∧ ∃ a cap, v = .slice a n cap ∧ RowX 57 7 EC w' w.heap.size (oldB w) a cap ts) (fun ys : List (ByteArray × Tm) => ys.length = n ∧ ∀ y ∈ ys, okC y) (·.flatMap encC) (·.map cleanC)) := by
  have hlR := hR.2.1
  have hrb := hR.1
  have HR := Hid.mk hR
  clear hR
  go_enter Tryz.func105, Tryz.ntmps105
  go_wp2
  go_loopw [5, 7] (fun u i wr => ∃ (k : Nat) (a : Option Addr) (cap : Nat) (TS : List (ByteArray × Tm)) (bs' : List UInt8), k ≤ n ∧ i = .int .i64 k ∧ u = .slice a k cap ∧ TS.length = k ∧ RowX 57 7 EC wr w.heap.size (oldB w) a cap TS ∧ RD wr N rb bs' 0 ∧ bs'.length + k ≤ bs.length ∧ Kept (fun k => k = rb) w wr ∧ ∀ (ys : List (ByteArray × Tm)) (rest : List UInt8), (ys.length = n ∧ ∀ y ∈ ys, okC y) → bs = ys.flatMap encC ++ rest → TS = (ys.take k).map cleanC ∧ bs' = (ys.drop k).flatMap encC ++ rest) (fun _ i _ => n - (intOf i).toNat)
  case atStart => exact ⟨0, none, 0, [], bs, Nat.zero_le _, rfl, rfl, rfl, RowX.nil _ _ _ _ _ _, HR.out, Nat.le_refl _, Kept.refl _ _, fun ys rest _ hb => ⟨rfl, hb⟩⟩
  case round =>
    obtain ⟨k, a, cap, TS, bs1, hk, rfl, rfl, htk, hOr, hRr, hl, hkr, hys⟩ := hrel
    have HROW := Hid.mk hOr
    have HRR := Hid.mk hRr
    have HKR := Hid.mk hkr
    have HTK := Hid.mk htk
    have HYS := Hid.mk hys
    have hsz := hkr.size
    clear hOr hRr hkr htk hys
    by_cases hlt : k < n
    · have HC := ctor_both N rb bs1 wr HRR.out (by omega)
      go_wp2_with fail
      refine HC.mono ?_
      rintro e w1 (⟨p, v1, bs2, rfl, ⟨zs, rfl, hE⟩, hR1, hl1, hk1, hy1⟩ | ⟨rfl, hk1, hy1⟩)
      rotate_left
      · refine ⟨rfl, Or.inr ⟨rfl, HKR.out.trans hk1, fun ys rest hy hb => ?_⟩⟩
        obtain ⟨-, h2⟩ := HYS.out ys rest hy hb
        have hky : k < ys.length := by rw [hy.1]; exact hlt
        rw [List.drop_eq_getElem_cons hky, List.flatMap_cons, List.append_assoc] at h2
        exact hy1 _ _ (hy.2 _ (List.getElem_mem hky)) h2
      have HR1 := Hid.mk hR1
      have HK1 := Hid.mk (HKR.out.trans hk1)
      have hsz1 := hk1.size
      have HZ := Hid.mk hE.one
      have hz17 := hE.one.1
      have HYN : Hid (∀ (ys : List (ByteArray × Tm)) (rest : List UInt8), (ys.length = n ∧ ∀ y ∈ ys, okC y) → bs = ys.flatMap encC ++ rest → TS ++ [p] = (ys.take (k + 1)).map cleanC ∧ bs2 = (ys.drop (k + 1)).flatMap encC ++ rest) := by
        intro ys rest hy hb
        obtain ⟨h1, h2⟩ := HYS.out ys rest hy hb
        have hky : k < ys.length := by rw [hy.1]; exact hlt
        rw [List.drop_eq_getElem_cons hky, List.flatMap_cons, List.append_assoc] at h2
        obtain ⟨h3, h4⟩ := hy1 _ _ (hy.2 _ (List.getElem_mem hky)) h2
        refine ⟨?_, h4⟩
        rw [List.take_succ_eq_append_getElem hky, List.map_append, h1, h3]
        rfl
      have HROW1 : Hid (RowX 57 7 EC (w1.alloc (.cells zs.toArray 57)) w.heap.size (oldB w) a cap TS) := (HROW.out.move EC.moves (fun k hk => oldB_new hk) hk1.size fun k h1 h2 => hk1.block k h1 (by have := oldB_no h2; omega)).move EC.moves (fun k hk => oldB_new hk) (by simp) fun k h1 _ => Below.heap_alloc _ _ _ h1
      obtain ⟨xss, hx1, hx2, hown, hkv⟩ := HROW1.out.go
      have hRB : ∀ j, ownB a j = true → w.heap.size ≤ j ∧ j < wr.heap.size := fun j hj => by
        obtain ⟨ys, -, -, hown0, -⟩ := HROW.out.go
        exact ownsX_lt hown0 hj
      have HNEW : Hid (EC (w1.alloc (.cells zs.toArray 57)) (fun k => oldB w k || ownB a k) zs p) := EC.moves _ _ _ _ _ _ hE (by simp) fun j h1 h2 => ⟨by
        have := oldB_no h2
        rw [oldB_new (by omega), Bool.false_or]
        cases ho : ownB a j
        · rfl
        · have := (hRB j ho).2; omega, Below.heap_alloc _ _ _ h1⟩
      rw [HTK.out] at hown
      have HOWN := Hid.mk hown
      have HKV := Hid.mk hkv
      have HX1 := Hid.mk hx1
      have HX2 := Hid.mk hx2
      have HNB : Hid (∀ (j : Nat) (u : Value), zs[j]? = some u → (w1.alloc (.cells zs.toArray 57)).cell? ((⟨w1.heap.size, 0, none⟩ : Addr).add j) = some u) := World.news_of_block (cs := zs.toArray) (t := 57) (fr := (0, 0)) (alloc_new w1 (.cells zs.toArray 57))
      have HFO : Hid (List.foldl (fun (cs : Array Value) (x : Value × Nat) => cs.setIfInBounds x.snd x.fst) #[.string { data := #[] }, .int .i64 0, .int .i64 0, .bool false, .string { data := #[] }, .slice none 0 0, .slice none 0 0] zs.zipIdx = zs.toArray) := fold_new _ _ (by rw [hz17]; rfl)
      have HZL : Hid (zs.length = 7) := hz17
      have hB1 : w.heap.size ≤ (w1.alloc (.cells zs.toArray 57)).heap.size := by simp; omega
      clear hR1 hk1 HC hE hown hkv hx1 hx2 hy1
      go_wp2_with (first | (rw [HFO.out]) | (at_builtin; refine wpList_appC rfl _ _ rfl w.heap.size (.slice a k cap) k xss.flatten zs w1.heap.size 1 rfl rfl HOWN.out HZL.out HNB.out HZ.out.2 (by omega) hB1 ?_; intro g7 c7 W7 hown7 hgr7 hat7; have HOWN7 := Hid.mk hown7; have HGR7 := Hid.mk hgr7; have HAT7 := Hid.mk hat7; clear hown7 hgr7 hat7))
      have hag : ∀ j, j < w.heap.size → W7.heap[j]? = w1.heap[j]? := fun j hj => (HGR7.out.block j (by simp; omega) (fun e => by have := (World.ownsRow.lt HOWN.out j e.symm).1; omega)).trans (Below.heap_alloc _ _ _ (by omega))
      have hs7 : w1.heap.size ≤ W7.heap.size := by have := HGR7.out.size; simp at this; omega
      refine ⟨⟨k + 1, some ⟨g7, 0, none⟩, c7, TS ++ [p], bs2, hlt, by go_num, rfl, by rw [List.length_append]; have := HTK.out; simp; omega, ?_, HR1.out.move hs7 (fun j hj => hag j (by omega)), by omega, ⟨HGR7.out.os.trans HK1.out.os, HGR7.out.tape.trans HK1.out.tape, HGR7.out.output.trans HK1.out.output, Nat.le_trans HK1.out.size hs7, fun j hj hp => (hag j hj).trans (HK1.out.block j hj hp)⟩, HYN.out⟩, by simp [intOf]; omega⟩
      exact RowX.snoc EC.moves (cap := cap) HX1.out HX2.out HKV.out HZL.out (by rw [HTK.out]; exact HOWN7.out) (by rw [HTK.out]; exact HGR7.out) (by rw [HTK.out]; exact HAT7.out) HNEW.out
    · obtain rfl : k = n := by omega
      go_wp2
      go_ret
      refine Or.inl ⟨TS, _, bs1, rfl, ⟨HTK.out, by omega, a, cap, rfl, HROW.out⟩, HRR.out, by omega, HKR.out, fun ys rest hy hb => ?_⟩
      obtain ⟨h1, h2⟩ := HYS.out ys rest hy hb
      rw [List.take_of_length_le (by omega)] at h1
      rw [List.drop_of_length_le (by omega)] at h2
      exact ⟨h1, h2⟩
end Go.Proofs.YtndjdeiccmhelaaGreat

/- Declarations that were read: their cells, with a footprint; what is right of them, plain. -/
namespace Go.Proofs.YtndjdeiccmhelaaGreat
open Go.RowKit Go.Sort Go.Lib

theorem CK.subF {w w' : World} {a : Option Addr} {cs : List (ByteArray × Tm)} (hs : w.heap.size ≤ w'.heap.size) (hc : ∀ p v, w.cell? p = some v → w'.cell? p = some v) (h : CK w a cs) : CK w' a cs := by
  rcases h with h | ⟨b, o, ha, hlt, h⟩
  · exact Or.inl h
  · exact Or.inr ⟨b, o, ha, by omega, fun i c hi => ⟨hc _ _ (h i c hi).1, (h i c hi).2.subF hs hc⟩⟩

theorem DV.subF {w w' : World} {v : Value} {d : Dl} (hs : w.heap.size ≤ w'.heap.size) (hc : ∀ p v, w.cell? p = some v → w'.cell? p = some v) (h : DV w v d) : DV w' v d := by
  obtain ⟨t0, t1, t2, t3, t4, t5, t6, t7, t8, t9, v0, v1, v2, v3, v4, v5, v6, v7, v8, v9, ca, cc, h1, h2, h3, h4⟩ := h.go
  exact ⟨t0, t1, t2, t3, t4, t5, t6, t7, t8, t9, v0, v1, v2, v3, v4, v5, v6, v7, v8, v9, ca, cc, h1, h2.subF hs hc, h3.subF hs hc, h4.subF hs hc⟩

/-- cells that are a declaration that does not look into the blocks of P -/
structure ED (w : World) (P : Nat → Bool) (xs : List Value) (d : Dl) : Prop where
  len : xs.length = 17
  cell : ∀ v ∈ xs, v.oneCell' = true
  dv : DV (maskB P w) (.agg xs.toArray) d
  sm : smD d

theorem ED.moves : Moves ED := fun _ _ _ _ _ _ h hs hk => ⟨h.len, h.cell, h.dv.subF (by rw [maskB_size, maskB_size]; exact hs) (maskB_keeps hk), h.sm⟩

theorem ED.one {w : World} {P : Nat → Bool} {xs : List Value} {d : Dl} (h : ED w P xs d) : xs.length = 17 ∧ ∀ v ∈ xs, v.oneCell' = true := ⟨h.len, h.cell⟩

theorem RowX.ck {w : World} {B cap : Nat} {P : Nat → Bool} {a : Option Addr} {cs : List (ByteArray × Tm)} (h : RowX 57 7 EC w B P a cap cs) (hB : ∀ k, B ≤ k → P k = false) : CK (maskB P w) a cs := by
  cases hcs : cs with
  | nil => exact Or.inl rfl
  | cons c0 cr =>
    obtain ⟨g, xs0, ha, hg1, hg2, -, -, -⟩ := h.at EC.moves hB (j := 0) (t := c0) (by rw [hcs]; rfl)
    rw [← hcs]
    refine Or.inr ⟨g, 0, ha, by rw [maskB_size]; exact hg2, fun i c hi => ?_⟩
    obtain ⟨g', xs, ha', -, -, hl, hr, u0, u1, u2, u3, r1, r2, r3, s1, s2, s3, rfl, htf, -, -⟩ := h.at EC.moves hB hi
    rw [ha] at ha'
    simp only [Option.some.injEq, Addr.mk.injEq, and_true] at ha'
    subst ha'
    rw [Nat.zero_add]
    refine ⟨hr 0 _ rfl, ?_⟩
    exact CellsAt.tc ⟨u0, u1, u2, u3, r1, r2, r3, s1, s2, s3, rfl, hr 1 _ rfl, hr 2 _ rfl, hr 3 _ rfl, hr 4 _ rfl, hr 5 _ rfl, hr 6 _ rfl⟩ htf

theorem RowX.smC {w : World} {B cap : Nat} {P : Nat → Bool} {a : Option Addr} {cs : List (ByteArray × Tm)} (h : RowX 57 7 EC w B P a cap cs) (hB : ∀ k, B ≤ k → P k = false) : ∀ c ∈ cs, c.1.size ≤ 140737488351232 ∧ smT 1000000 c.2 := by
  intro c hc
  obtain ⟨i, hi, rfl⟩ := List.mem_iff_getElem.1 hc
  obtain ⟨_, _, -, -, -, -, -, u0, u1, u2, u3, r1, r2, r3, s1, s2, s3, -, -, h1, h2⟩ := h.at EC.moves hB (List.getElem?_eq_getElem hi)
  exact ⟨by omega, h1⟩

/-- a declaration that is right -/
def okR (d : Dl) : Prop := smD d ∧ judgD d = 0

/-- a declaration with zero in each field that it does not have -/
def cleanD (d : Dl) : Dl := { kind := d.kind, name := d.name, levels := d.levels, ty := cleanT d.ty, val := if d.kind = 2 then cleanT d.val else .mk 0 0 false { data := #[] } [] [], params := if d.kind = 3 then d.params else 0, ctors := if d.kind = 3 then d.ctors.map cleanC else [] }

structure RightD (d : Dl) : Prop where
  kind : 1 ≤ d.kind ∧ d.kind ≤ 3
  name : 0 < d.name.size ∧ d.name.size ≤ 60
  levels : 0 ≤ d.levels ∧ d.levels ≤ 8
  ty : okTm d.ty
  val : d.kind = 2 → okTm d.val
  params : d.kind = 3 → 0 ≤ d.params ∧ d.params ≤ 60
  len : d.kind = 3 → d.ctors.length ≤ 40
  ctors : d.kind = 3 → ∀ c ∈ d.ctors, okC c

theorem okR.right {d : Dl} (h : okR d) : RightD d := by
  obtain ⟨hsm, h⟩ := h
  have hO := judgD_ok hsm h
  unfold judgD at h
  have h1 : ¬ (d.kind < 1 ∨ 3 < d.kind ∨ namedB d.name = false) := fun e => by rw [if_pos e] at h; exact absurd h (by decide)
  rw [if_neg h1] at h
  have h2 : ¬ (d.levels < 0 ∨ 8 < d.levels) := fun e => by rw [if_pos e] at h; exact absurd h (by decide)
  rw [if_neg h2] at h
  have h3 : ¬ checkT d.ty ≠ 0 := fun e => by rw [if_pos e] at h; exact absurd h e
  rw [if_neg h3] at h
  have hf : d.kind = 3 → (0 ≤ d.params ∧ d.params ≤ 60) ∧ d.ctors.length ≤ 40 ∧ judgC d.ctors = 0 := by
    intro hk
    rw [if_neg (by omega), if_pos hk] at h
    unfold judgF at h
    have h4 : ¬ (d.params < 0 ∨ 60 < d.params ∨ 40 < d.ctors.length) := fun e => by rw [if_pos e] at h; exact absurd h (by decide)
    rw [if_neg h4] at h
    exact ⟨by omega, by omega, h⟩
  refine ⟨hO.kind, hO.name, hO.levels, ⟨hsm.ty, Decidable.not_not.1 h3⟩, fun hk => ⟨hsm.val, by rw [if_pos hk] at h; exact h⟩, fun hk => (hf hk).1, fun hk => (hf hk).2.1, fun hk c hc => ?_⟩
  obtain ⟨hn, hcc⟩ := judgC_ok (hf hk).2.2 c hc
  exact ⟨namedB_size hn, (hsm.ctors c hc).2, hcc⟩
end Go.Proofs.YtndjdeiccmhelaaGreat
