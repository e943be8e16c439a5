/- The contracts of the reader of package bytes, where what is read was written: several, level. -/
import Derived.Test.YtndjdeiccmhelaaGreatEK
namespace Go.Proofs.YtndjdeiccmhelaaGreat
open Go.RowKit Go.Sort Go.Lib

/-- the blocks of an elder world -/
def oldB (w : World) (k : Nat) : Bool := decide (k < w.heap.size)

theorem oldB_no {w : World} {k : Nat} (h : oldB w k = false) : w.heap.size ≤ k := by unfold oldB at h; simpa using h
theorem oldB_new {w : World} {k : Nat} (h : w.heap.size ≤ k) : oldB w k = false := by unfold oldB; simpa using h

theorem owns_move {w w' : World} {B n size : Nat} {e : TypeId} {v : Value} {xs : List Value} (h : w.ownsRow B e size v n xs) (hk : ∀ k, v.ownBlock = some k → w'.heap[k]? = w.heap[k]?) : w'.ownsRow B e size v n xs := by
  refine ⟨h.1, ?_⟩
  rcases h.2 with h2 | ⟨g, cap, cur, hv, hg, hh, r⟩
  · exact Or.inl h2
  · exact Or.inr ⟨g, cap, cur, hv, hg, (hk g (by rw [hv]; rfl)).trans hh, r⟩

/-- append of one pair onto a row of the call's own -/
theorem wpList_appP {w : World} {ops : Array Oper} {rest : List Oper} {o : Oper} {a : Act} {Q : Exit → Act → World → Prop} (hgd : o.guard = none) (s x : Operand) (ho : o.op = .call { callee := .builtin .append, args := #[s, x], argTypes := #[103, 103] })
    (B : Nat) (v : Value) (xs : List (Int × Int)) (p q : Int) (b c1 : Nat) (hs : a.eval s = v) (hx : a.eval x = .slice (some ⟨b, 0, none⟩) 1 c1) (hO : OR B w v xs) (hb : w.heap[b]? = some (.cells #[.int .i64 p, .int .i64 q] 151 (0, 0))) (hl : xs.length ≤ 1000000000) (hB : B ≤ w.heap.size)
    (h : ∀ g cap w', OR B w' (.slice (some ⟨g, 0, none⟩) (xs.length + 1) cap) (xs ++ [(p, q)]) → w.grownBy w' v.ownBlock → (v.ownBlock = some g ∨ g = w.heap.size) → wpList Tryz.prog ops Q rest (a.put o.dst (.slice (some ⟨g, 0, none⟩) (xs.length + 1) cap)) w') : wpList Tryz.prog ops Q (o :: rest) a w := by
  obtain ⟨i0, hi, hz0, hz1, hz2⟩ := info_parts8 infoLVar
  refine wpList_append_lies _ hgd s x 103 ho B 151 i0 _ 2 16 Tryz.underlying103 hi hz0 hz1 hz2 rfl (by decide) v xs.length (flat xs) hs hO ⟨b, 0, none⟩ 1 c1 [.int .i64 p, .int .i64 q] hx rfl (World.news_of_block hb) (by simp [Value.oneCell']) (by decide) (by unfold maxLen; omega) (by omega) hB _ rfl ?_
  intro g cap w' hown hgr hat _
  refine h g cap w' ?_ hgr hat
  unfold OR
  rw [flat_append, List.length_append]
  exact hown

set_option maxRecDepth 100000 in
set_option maxHeartbeats 4000000 in
theorem severalV_any (N rb : Nat) (xs : List (Int × Int)) (rest : List UInt8) (deep : Int) (w : World) (hR : RD w N rb (xs.flatMap varB ++ rest) deep) (hn : xs.length ≤ 1000000) (hr : ∀ p ∈ xs, 0 ≤ p.1 ∧ p.1 ≤ 1000 ∧ 0 ≤ p.2 ∧ p.2 ≤ 1000) : Calls Tryz.prog 134 #[.int .i64 (xs.length : Int), .func (.func 135) #[.pointer (some ⟨rb, 0, none⟩)] #[]] w fun e w' => ∃ v', e = .returned v' ∧ OR w.heap.size w' v' xs ∧ RD w' N rb rest deep ∧ Kept (fun k => k = rb) w w' := by
  have hlR := hR.2.1
  have hrb := hR.1
  have HR := Hid.mk hR
  have HP := Hid.mk hr
  clear hR hr
  go_enter Tryz.func134, Tryz.ntmps134
  go_wp2
  go_loopw [5, 7] (fun u i wr => ∃ k : Nat, k ≤ xs.length ∧ i = .int .i64 k ∧ OR w.heap.size wr u (xs.take k) ∧ RD wr N rb ((xs.drop k).flatMap varB ++ rest) deep ∧ Kept (fun k => k = rb) w wr) (fun _ i _ => xs.length - (intOf i).toNat)
  case atStart => exact ⟨0, Nat.zero_le _, rfl, by simpa using OR.nil _ _, by simpa using HR.out, Kept.refl _ _⟩
  case round =>
    obtain ⟨k, hk, rfl, hOr, hRr, hkr⟩ := hrel
    have HOR := Hid.mk hOr
    have HRR := Hid.mk hRr
    have HKR := Hid.mk hkr
    have hsz := hkr.size
    clear hOr hRr hkr
    by_cases hlt : k < xs.length
    · have hxk : xs[k]? = some (xs[k].1, xs[k].2) := List.getElem?_eq_getElem hlt
      have HTK : Hid (xs.take (k + 1) = xs.take k ++ [(xs[k].1, xs[k].2)]) := List.take_succ_eq_append_getElem hlt
      have hdr : xs.drop k = (xs[k].1, xs[k].2) :: xs.drop (k + 1) := List.drop_eq_getElem_cons hlt
      have hRk := HRR.out
      rw [hdr, List.flatMap_cons, List.append_assoc] at hRk
      obtain ⟨q0, q1, q2, q3⟩ := HP.out _ (List.getElem_mem hlt)
      have HC := rdvariable_any N rb xs[k].1 xs[k].2 _ deep wr hRk q0 q1 q2 q3
      clear hxk hdr hRk
      generalize xs[k] = p at *
      obtain ⟨px, py⟩ := p
      simp only at HC HTK q0 q1 q2 q3
      have htl : (xs.take k).length = k := by rw [List.length_take]; omega
      go_wp2_with fail
      refine HC.mono ?_
      rintro e w1 ⟨rfl, hR1, hk1⟩
      have HR1 := Hid.mk hR1
      have HK1 := Hid.mk (HKR.out.trans hk1)
      have hsz1 := hk1.size
      have HO1 : Hid (OR w.heap.size (w1.alloc (.cells #[.int .i64 px, .int .i64 py] 151)) u5 (xs.take k)) := World.ownsRow.alloc (owns_move HOR.out fun j hj => hk1.block j (World.ownsRow.lt HOR.out j hj).2 (by have := (World.ownsRow.lt HOR.out j hj).1; omega)) _
      have HNB : Hid ((w1.alloc (.cells #[.int .i64 px, .int .i64 py] 151)).heap[w1.heap.size]? = some (.cells #[.int .i64 px, .int .i64 py] 151 (0, 0))) := alloc_new _ _
      have hB1 : w.heap.size ≤ (w1.alloc (.cells #[.int .i64 px, .int .i64 py] 151)).heap.size := by simp; omega
      clear hR1 hk1 HC
      go_wp2_with (at_builtin; refine wpList_appP rfl _ _ rfl w.heap.size u5 (xs.take k) px py w1.heap.size 1 rfl rfl HO1.out HNB.out (by omega) hB1 ?_; rw [htl]; intro g7 c7 W7 hown7 hgr7 hat7; have HOWN7 := Hid.mk hown7; have HGR7 := Hid.mk hgr7; clear hown7 hgr7 hat7)
      have hag : ∀ j, j < w.heap.size → W7.heap[j]? = w1.heap[j]? := fun j hj => (HGR7.out.block j (by simp; omega) (fun e => by have := (World.ownsRow.lt HO1.out j e.symm).1; omega)).trans (Below.heap_alloc _ _ _ (by omega))
      have hs7 : w1.heap.size ≤ W7.heap.size := by have := HGR7.out.size; simp at this; omega
      refine ⟨⟨k + 1, hlt, by go_num, by rw [HTK.out]; exact HOWN7.out, HR1.out.move hs7 (fun j hj => hag j (by omega)), ⟨HGR7.out.os.trans HK1.out.os, HGR7.out.tape.trans HK1.out.tape, HGR7.out.output.trans HK1.out.output, Nat.le_trans HK1.out.size hs7, fun j hj hp => (hag j hj).trans (HK1.out.block j hj hp)⟩⟩, by simp [intOf]; omega⟩
    · obtain rfl : k = xs.length := by omega
      go_wp2
      go_ret
      refine ⟨_, rfl, by have := HOR.out; rwa [List.take_length] at this, by have := HRR.out; rwa [List.drop_length, List.flatMap_nil, List.nil_append] at this, HKR.out⟩

set_option maxRecDepth 100000 in
set_option maxHeartbeats 4000000 in
theorem rdlevel_any (N rb : Nat) (l : LvT) (rest : List UInt8) (deep : Int) (w : World) (hR : RD w N rb (levB l ++ rest) deep) (hr : rightL l) : Calls Tryz.prog 121 #[.pointer (some ⟨rb, 0, none⟩)] w fun e w' => ∃ a cap, e = .returned (.agg #[.int .i64 l.1, .slice a l.2.length cap]) ∧ SL (maskB (oldB w) w') a l.2 ∧ (a = none → cap = 0) ∧ RD w' N rb rest deep ∧ Kept (fun k => k = rb) w w' := by
  obtain ⟨n, xs⟩ := l
  obtain ⟨hn0, hn1, hxl, hxs⟩ := hr
  simp only at hn0 hn1 hxl hxs ⊢
  have hlR := hR.2.1
  have hrbN := hR.1
  unfold levB at hR
  rw [List.append_assoc, List.append_assoc] at hR
  obtain ⟨W0, hW0⟩ : ∃ W0, w.alloc (.cells #[.int .i64 0, .slice none 0 0] 105) = W0 := ⟨_, rfl⟩
  have hb : RowKit.Below w.heap.size w W0 := by rw [← hW0]; exact (Below.refl _ _).alloc (Nat.le_refl _) _
  have HX0 : Hid (W0.heap[w.heap.size]? = some (.cells #[.int .i64 0, .slice none 0 0] 105 (0, 0))) := by unfold Hid; rw [← hW0]; exact alloc_new _ _
  have HC := rdnum_any N rb n.toNat _ deep W0 (hR.on hb) (by omega)
  rw [show ((n.toNat : Nat) : Int) = n by omega] at HC
  have HK0 : Hid (Kept (fun k => k = rb) w W0) := Kept.of_below hb
  have HW0 := Hid.mk hW0
  have HXS := Hid.mk hxs
  clear hR hb hW0 hxs
  go_enter Tryz.func121, Tryz.ntmps121
  go_wp2_with fail
  rw [HW0.out]
  refine HC.mono ?_
  rintro e w1 ⟨rfl, hR1, hk1⟩
  have HC2 := rdnum_any N rb xs.length _ deep w1 hR1 (by omega)
  have HK1 : Hid (Kept (fun k => k = rb) w w1) := HK0.out.trans hk1
  have HX1 : Hid (w1.heap[w.heap.size]? = some (.cells #[.int .i64 0, .slice none 0 0] 105 (0, 0))) := (hk1.block _ (heap_lt HX0.out) (by omega)).trans HX0.out
  clear hR1 hk1 HC
  go_wp2_with fail
  refine HC2.mono ?_
  rintro e w2 ⟨rfl, hR2, hk2⟩
  have HC3 := severalV_any N rb xs rest deep w2 hR2 (by omega) HXS.out
  have HK2 : Hid (Kept (fun k => k = rb) w w2) := HK1.out.trans hk2
  have HX2 : Hid (w2.heap[w.heap.size]? = some (.cells #[.int .i64 0, .slice none 0 0] 105 (0, 0))) := (hk2.block _ (heap_lt HX1.out) (by omega)).trans HX1.out
  clear hR2 hk2 HC2
  go_wp2_with fail
  refine HC3.mono ?_
  rintro e w3 ⟨v3, rfl, hO3, hR3, hk3⟩
  obtain ⟨a3, c3, rfl, hsl, hnn⟩ := hO3.slF (P := oldB w2) fun k hk => oldB_new hk
  have HSL := Hid.mk hsl
  have HR3 := Hid.mk hR3
  have HK3 : Hid (Kept (fun k => k = rb) w w3) := HK2.out.trans hk3
  have hX3 := (hk3.block _ (heap_lt HX2.out) (by omega)).trans HX2.out
  have hs2 : w.heap.size < w2.heap.size := heap_lt HX2.out
  have hs3 := hk3.size
  obtain ⟨y0, y1, -, -, y4⟩ := cells2 hX3
  obtain ⟨f0, f1⟩ := frz2 hX3
  have HNN := Hid.mk hnn
  clear hO3 hsl hR3 hk3 HC3 hX3 hnn
  go_wp2
  refine bodyPost_ret (v := .agg #[.int .i64 n, .slice a3 xs.length c3]) (by simp [results, Tryz.results121, go_sem, y0, y1]) rfl ⟨_, _, rfl, ?_, HNN.out, ?_, ?_⟩
  · refine HSL.out.subF (by rw [maskB_size, maskB_size]; simp [World.setCell]) (maskB_keeps fun k h1 h2 => ⟨oldB_new (by have := oldB_no h2; omega), ?_⟩)
    have := oldB_no h2
    exact (Below.heap_setCell _ _ _ _ (by simp only; omega)).trans (Below.heap_setCell _ _ _ _ (by simp only; omega))
  · exact (HR3.out.setNew (p := ⟨w.heap.size, 0, none⟩) (by simp only; omega) _).setNew (p := ⟨w.heap.size, 1, none⟩) (by simp only; omega) _
  · exact (HK3.out.setNew (p := ⟨w.heap.size, 0, none⟩) (Nat.le_refl _) _).setNew (p := ⟨w.heap.size, 1, none⟩) (Nat.le_refl _) _

set_option maxRecDepth 100000 in
set_option maxHeartbeats 4000000 in
theorem severalL_any (N rb : Nat) (ls : List LvT) (rest : List UInt8) (deep : Int) (w : World) (hR : RD w N rb (ls.flatMap levB ++ rest) deep) (hn : ls.length ≤ 1000000) (hr : ∀ l ∈ ls, rightL l) : Calls Tryz.prog 120 #[.int .i64 (ls.length : Int), .func (.func 121) #[.pointer (some ⟨rb, 0, none⟩)] #[]] w fun e w' => ∃ a cap, e = .returned (.slice a ls.length cap) ∧ RowL w' w.heap.size (oldB w) a cap ls ∧ RD w' N rb rest deep ∧ Kept (fun k => k = rb) w w' := by
  have hlR := hR.2.1
  have hrb := hR.1
  have HR := Hid.mk hR
  have HP := Hid.mk hr
  obtain ⟨i0, hi, hz0, hz1, hz2⟩ := info_parts8 infoLevel
  clear hR hr
  go_enter Tryz.func120, Tryz.ntmps120
  go_wp2
  go_loopw [5, 7] (fun u i wr => ∃ (k : Nat) (a : Option Addr) (cap : Nat), k ≤ ls.length ∧ i = .int .i64 k ∧ u = .slice a k cap ∧ RowL wr w.heap.size (oldB w) a cap (ls.take k) ∧ RD wr N rb ((ls.drop k).flatMap levB ++ rest) deep ∧ Kept (fun k => k = rb) w wr) (fun _ i _ => ls.length - (intOf i).toNat)
  case atStart => exact ⟨0, none, 0, Nat.zero_le _, rfl, rfl, by simpa using RowL.nil _ _ _, by simpa using HR.out, Kept.refl _ _⟩
  case round =>
    obtain ⟨k, a, cap, hk, rfl, rfl, hOr, hRr, hkr⟩ := hrel
    have HROW := Hid.mk hOr
    have HRR := Hid.mk hRr
    have HKR := Hid.mk hkr
    have hsz := hkr.size
    clear hOr hRr hkr
    by_cases hlt : k < ls.length
    · have HTK : Hid (ls.take (k + 1) = ls.take k ++ [(ls[k].1, ls[k].2)]) := List.take_succ_eq_append_getElem hlt
      have hdr : ls.drop k = (ls[k].1, ls[k].2) :: ls.drop (k + 1) := List.drop_eq_getElem_cons hlt
      have hRk := HRR.out
      rw [hdr, List.flatMap_cons, List.append_assoc] at hRk
      have HC := rdlevel_any N rb (ls[k].1, ls[k].2) _ deep wr hRk (HP.out _ (List.getElem_mem hlt))
      clear hdr hRk
      generalize ls[k] = p at *
      obtain ⟨pn, px⟩ := p
      simp only at HC HTK
      have htl : (ls.take k).length = k := by rw [List.length_take]; omega
      go_wp2_with fail
      refine HC.mono ?_
      rintro e w1 ⟨a1, c1, rfl, hsl1, hnn1, hR1, hk1⟩
      have HR1 := Hid.mk hR1
      have HK1 := Hid.mk (HKR.out.trans hk1)
      have hsz1 := hk1.size
      have HROW1 : Hid (RowL (w1.alloc (.cells #[.int .i64 pn, .slice a1 px.length c1] 105)) w.heap.size (oldB w) a cap (ls.take k)) := (HROW.out.move (fun k hk => oldB_new hk) hk1.size fun k h1 h2 => hk1.block k h1 (by have := oldB_no h2; omega)).move (fun k hk => oldB_new hk) (by simp) fun k h1 _ => Below.heap_alloc _ _ _ h1
      obtain ⟨xs, hown, hkv⟩ := HROW1.out.go
      have hRB : ∀ j, ownB a j = true → w.heap.size ≤ j ∧ j < wr.heap.size := fun j hj => by
        obtain ⟨ys, hown0, -⟩ := HROW.out.go
        exact rowG_block hown0 hj
      have HNEW : Hid (SL (maskB (fun k => oldB w k || ownB a k) (w1.alloc (.cells #[.int .i64 pn, .slice a1 px.length c1] 105))) a1 px) := hsl1.subF (by rw [maskB_size, maskB_size]; simp) (maskB_keeps fun j h1 h2 => ⟨by
        have := oldB_no h2
        rw [oldB_new (by omega), Bool.false_or]
        cases ho : ownB a j
        · rfl
        · have := (hRB j ho).2; omega, Below.heap_alloc _ _ _ h1⟩)
      rw [htl] at hown
      have HOWN := Hid.mk hown
      have HKV := Hid.mk hkv
      have HXL : Hid (xs.length = (ls.take k).length * 2) := by unfold Hid; rw [htl, hown.1]
      have HNB : Hid ((w1.alloc (.cells #[.int .i64 pn, .slice a1 px.length c1] 105)).heap[w1.heap.size]? = some (.cells #[.int .i64 pn, .slice a1 px.length c1] 105 (0, 0))) := alloc_new _ _
      have hB1 : w.heap.size ≤ (w1.alloc (.cells #[.int .i64 pn, .slice a1 px.length c1] 105)).heap.size := by simp; omega
      have HNN1 := Hid.mk hnn1
      clear hR1 hk1 HC hsl1 hnn1 hown hkv
      go_wp2_with (at_builtin; refine wpList_append_lies _ rfl _ _ 35 rfl w.heap.size 105 i0 _ 2 32 Tryz.underlying35 hi hz0 hz1 hz2 rfl (by decide) (.slice a k cap) k xs rfl HOWN.out ⟨w1.heap.size, 0, none⟩ 1 1 [.int .i64 pn, .slice a1 px.length c1] rfl rfl (World.news_of_block HNB.out) (by simp [Value.oneCell']) (by decide) (by unfold maxLen; omega) (by omega) hB1 _ rfl ?_; intro g7 c7 W7 hown7 hgr7 hat7 hlt7; have HOWN7 := Hid.mk hown7; have HGR7 := Hid.mk hgr7; have HAT7 := Hid.mk hat7; clear hown7 hgr7 hat7 hlt7)
      have hag : ∀ j, j < w.heap.size → W7.heap[j]? = w1.heap[j]? := fun j hj => (HGR7.out.block j (by simp; omega) (fun e => by have := (World.ownsRow.lt HOWN.out j e.symm).1; omega)).trans (Below.heap_alloc _ _ _ (by omega))
      have hs7 : w1.heap.size ≤ W7.heap.size := by have := HGR7.out.size; simp at this; omega
      refine ⟨⟨k + 1, some ⟨g7, 0, none⟩, c7, hlt, by go_num, rfl, ?_, HR1.out.move hs7 (fun j hj => hag j (by omega)), ⟨HGR7.out.os.trans HK1.out.os, HGR7.out.tape.trans HK1.out.tape, HGR7.out.output.trans HK1.out.output, Nat.le_trans HK1.out.size hs7, fun j hj hp => (hag j hj).trans (HK1.out.block j hj hp)⟩⟩, by simp [intOf]; omega⟩
      rw [HTK.out]
      exact RowL.snoc (cap := cap) HKV.out HXL.out (by rw [htl]; exact HOWN7.out) (by rw [htl]; exact HGR7.out) (by rw [htl]; exact HAT7.out) HNN1.out HNEW.out
    · obtain rfl : k = ls.length := by omega
      go_wp2
      go_ret
      refine ⟨_, _, rfl, by have := HROW.out; rwa [List.take_length] at this, by have := HRR.out; rwa [List.drop_length, List.flatMap_nil, List.nil_append] at this, HKR.out⟩
end Go.Proofs.YtndjdeiccmhelaaGreat
