/- The contracts of the reader of package bytes, whatever it reads: level, several levels, several terms. -/
import Derived.Test.YtndjdeiccmhelaaGreatES
namespace Go.Proofs.YtndjdeiccmhelaaGreat
open Go.RowKit Go.Sort Go.Lib

/-- a level that was read -/
def LvQ (w : World) (n : Nat) (v : Value) (w' : World) : Prop := ∃ (m : Int) (xs : List (Int × Int)) (a : Option Addr) (cap : Nat), v = .agg #[.int .i64 m, .slice a xs.length cap] ∧ SL (maskB (oldB w) w') a xs ∧ (a = none → cap = 0) ∧ xs.length ≤ n

set_option maxRecDepth 100000 in
set_option maxHeartbeats 4000000 in
theorem level_all (N rb : Nat) (bs : List UInt8) (deep : Int) (w : World) (hR : RD w N rb bs deep) (hbl : bs.length ≤ 1000000) : Calls Tryz.prog 121 #[.pointer (some ⟨rb, 0, none⟩)] w (RdP w N rb bs deep 1 (LvQ w bs.length)) := by
  have hlR := hR.2.1
  have hrbN := hR.1
  obtain ⟨W0, hW0⟩ : ∃ W0, w.alloc (.cells #[.int .i64 0, .slice none 0 0] 105) = W0 := ⟨_, rfl⟩
  have hb : RowKit.Below w.heap.size w W0 := by rw [← hW0]; exact (Below.refl _ _).alloc (Nat.le_refl _) _
  have HX0 : Hid (W0.heap[w.heap.size]? = some (.cells #[.int .i64 0, .slice none 0 0] 105 (0, 0))) := by unfold Hid; rw [← hW0]; exact alloc_new _ _
  have HC := number_all N rb bs deep W0 (hR.on hb)
  have HK0 : Hid (Kept (fun k => k = rb) w W0) := Kept.of_below hb
  have HW0 := Hid.mk hW0
  clear hR hb hW0
  go_enter Tryz.func121, Tryz.ntmps121
  go_wp2_with fail
  rw [HW0.out]
  refine HC.mono ?_
  rintro e w1 (⟨v1, bs1, rfl, ⟨m, hm, rfl⟩, hR1, hl1, hk1⟩ | ⟨rfl, hk1⟩)
  rotate_left
  · exact ⟨rfl, Or.inr ⟨rfl, HK0.out.trans hk1⟩⟩
  have HC2 := number_all N rb bs1 deep w1 hR1
  have HK1 : Hid (Kept (fun k => k = rb) w w1) := HK0.out.trans hk1
  have HX1 : Hid (w1.heap[w.heap.size]? = some (.cells #[.int .i64 0, .slice none 0 0] 105 (0, 0))) := (hk1.block _ (heap_lt HX0.out) (by omega)).trans HX0.out
  clear hR1 hk1 HC
  go_wp2_with fail
  refine HC2.mono ?_
  rintro e w2 (⟨v2, bs2, rfl, ⟨m2, hm2, rfl⟩, hR2, hl2, hk2⟩ | ⟨rfl, hk2⟩)
  rotate_left
  · exact ⟨rfl, Or.inr ⟨rfl, HK1.out.trans hk2⟩⟩
  have HC3 := severalV_all N rb m2 bs2 deep w2 hR2 hm2 (by omega)
  have HK2 : Hid (Kept (fun k => k = rb) w w2) := HK1.out.trans hk2
  have HX2 : Hid (w2.heap[w.heap.size]? = some (.cells #[.int .i64 0, .slice none 0 0] 105 (0, 0))) := (hk2.block _ (heap_lt HX1.out) (by omega)).trans HX1.out
  clear hR2 hk2 HC2
  go_wp2_with fail
  refine HC3.mono ?_
  rintro e w3 (⟨v3, bs3, rfl, ⟨xs, hO3, hxl⟩, hR3, hl3, hk3⟩ | ⟨rfl, hk3⟩)
  rotate_left
  · exact ⟨rfl, Or.inr ⟨rfl, HK2.out.trans hk3⟩⟩
  obtain ⟨a3, c3, rfl, hsl, hnn⟩ := hO3.slF (P := oldB w2) fun k hk => oldB_new hk
  have HSL := Hid.mk hsl
  have HR3 := Hid.mk hR3
  have HK3 : Hid (Kept (fun k => k = rb) w w3) := HK2.out.trans hk3
  have hX3 := (hk3.block _ (heap_lt HX2.out) (by omega)).trans HX2.out
  have hs2 : w.heap.size < w2.heap.size := heap_lt HX2.out
  have hs3 := hk3.size
  obtain ⟨y0, y1, -, -, y4⟩ := cells2 hX3
  obtain ⟨f0, f1⟩ := frz2 hX3
  have HNN := Hid.mk hnn
  clear hO3 hsl hR3 hk3 HC3 hX3 hnn
  go_wp2
  refine bodyPost_ret (v := .agg #[.int .i64 m, .slice a3 xs.length c3]) (by simp [results, Tryz.results121, go_sem, y0, y1]) rfl (Or.inl ⟨_, bs3, rfl, ⟨m, xs, a3, c3, rfl, ?_, HNN.out, by omega⟩, ?_, by omega, ?_⟩)
  · refine HSL.out.subF (by rw [maskB_size, maskB_size]; simp [World.setCell]) (maskB_keeps fun k h1 h2 => ⟨oldB_new (by have := oldB_no h2; omega), ?_⟩)
    have := oldB_no h2
    exact (Below.heap_setCell _ _ _ _ (by simp only; omega)).trans (Below.heap_setCell _ _ _ _ (by simp only; omega))
  · exact (HR3.out.setNew (p := ⟨w.heap.size, 0, none⟩) (by simp only; omega) _).setNew (p := ⟨w.heap.size, 1, none⟩) (by simp only; omega) _
  · exact (HK3.out.setNew (p := ⟨w.heap.size, 0, none⟩) (Nat.le_refl _) _).setNew (p := ⟨w.heap.size, 1, none⟩) (Nat.le_refl _) _

/-- levels that were read -/
def LsQ (w : World) (n : Nat) (v : Value) (w' : World) : Prop := ∃ (ls : List LvT) (a : Option Addr) (cap : Nat), v = .slice a ls.length cap ∧ RowL w' w.heap.size (oldB w) a cap ls ∧ ls.length ≤ n ∧ ∀ l ∈ ls, l.2.length ≤ n

set_option maxRecDepth 100000 in
set_option maxHeartbeats 4000000 in
theorem severalL_all (N rb n : Nat) (bs : List UInt8) (deep : Int) (w : World) (hR : RD w N rb bs deep) (hn : n ≤ 1073741824) (hbl : bs.length ≤ 1000000) : Calls Tryz.prog 120 #[.int .i64 (n : Int), .func (.func 121) #[.pointer (some ⟨rb, 0, none⟩)] #[]] w (RdP w N rb bs deep 0 (LsQ w bs.length)) := by
  have hlR := hR.2.1
  have hrb := hR.1
  have HR := Hid.mk hR
  obtain ⟨i0, hi, hz0, hz1, hz2⟩ := info_parts8 infoLevel
  clear hR
  go_enter Tryz.func120, Tryz.ntmps120
  go_wp2
  go_loopw [5, 7] (fun u i wr => ∃ (k : Nat) (a : Option Addr) (cap : Nat) (ls : List LvT) (bs' : List UInt8), k ≤ n ∧ i = .int .i64 k ∧ u = .slice a k cap ∧ ls.length = k ∧ RowL wr w.heap.size (oldB w) a cap ls ∧ (∀ l ∈ ls, l.2.length ≤ bs.length) ∧ RD wr N rb bs' deep ∧ bs'.length + k ≤ bs.length ∧ Kept (fun k => k = rb) w wr) (fun _ i _ => n - (intOf i).toNat)
  case atStart => exact ⟨0, none, 0, [], bs, Nat.zero_le _, rfl, rfl, rfl, RowL.nil _ _ _, (fun l h => by cases h), HR.out, Nat.le_refl _, Kept.refl _ _⟩
  case round =>
    obtain ⟨k, a, cap, ls, bs1, hk, rfl, rfl, hlk, hOr, hall, hRr, hl, hkr⟩ := hrel
    have HROW := Hid.mk hOr
    have HRR := Hid.mk hRr
    have HKR := Hid.mk hkr
    have HLK := Hid.mk hlk
    have HALL := Hid.mk hall
    have hsz := hkr.size
    clear hOr hRr hkr hlk hall
    by_cases hlt : k < n
    · have HC := level_all N rb bs1 deep wr HRR.out (by omega)
      go_wp2_with fail
      refine HC.mono ?_
      rintro e w1 (⟨v1, bs2, rfl, ⟨pn, px, a1, c1, rfl, hsl1, hnn1, hpl⟩, hR1, hl1, hk1⟩ | ⟨rfl, hk1⟩)
      rotate_left
      · exact ⟨rfl, Or.inr ⟨rfl, HKR.out.trans hk1⟩⟩
      have HR1 := Hid.mk hR1
      have HK1 := Hid.mk (HKR.out.trans hk1)
      have hsz1 := hk1.size
      have HROW1 : Hid (RowL (w1.alloc (.cells #[.int .i64 pn, .slice a1 px.length c1] 105)) w.heap.size (oldB w) a cap ls) := (HROW.out.move (fun k hk => oldB_new hk) hk1.size fun k h1 h2 => hk1.block k h1 (by have := oldB_no h2; omega)).move (fun k hk => oldB_new hk) (by simp) fun k h1 _ => Below.heap_alloc _ _ _ h1
      obtain ⟨xs, hown, hkv⟩ := HROW1.out.go
      have hRB : ∀ j, ownB a j = true → w.heap.size ≤ j ∧ j < wr.heap.size := fun j hj => by
        obtain ⟨ys, hown0, -⟩ := HROW.out.go
        exact rowG_block hown0 hj
      have HNEW : Hid (SL (maskB (fun k => oldB w k || ownB a k) (w1.alloc (.cells #[.int .i64 pn, .slice a1 px.length c1] 105))) a1 px) := hsl1.subF (by rw [maskB_size, maskB_size]; simp) (maskB_keeps fun j h1 h2 => ⟨by
        have := oldB_no h2
        rw [oldB_new (by omega), Bool.false_or]
        cases ho : ownB a j
        · rfl
        · have := (hRB j ho).2; omega, Below.heap_alloc _ _ _ h1⟩)
      rw [HLK.out] at hown
      have HOWN := Hid.mk hown
      have HKV := Hid.mk hkv
      have HXL : Hid (xs.length = ls.length * 2) := by unfold Hid; rw [HLK.out, hown.1]
      have HNB : Hid ((w1.alloc (.cells #[.int .i64 pn, .slice a1 px.length c1] 105)).heap[w1.heap.size]? = some (.cells #[.int .i64 pn, .slice a1 px.length c1] 105 (0, 0))) := alloc_new _ _
      have hB1 : w.heap.size ≤ (w1.alloc (.cells #[.int .i64 pn, .slice a1 px.length c1] 105)).heap.size := by simp; omega
      have HNN1 := Hid.mk hnn1
      clear hR1 hk1 HC hsl1 hnn1 hown hkv
      go_wp2_with (at_builtin; refine wpList_append_lies _ rfl _ _ 35 rfl w.heap.size 105 i0 _ 2 32 Tryz.underlying35 hi hz0 hz1 hz2 rfl (by decide) (.slice a k cap) k xs rfl HOWN.out ⟨w1.heap.size, 0, none⟩ 1 1 [.int .i64 pn, .slice a1 px.length c1] rfl rfl (World.news_of_block HNB.out) (by simp [Value.oneCell']) (by decide) (by unfold maxLen; omega) (by omega) hB1 _ rfl ?_; intro g7 c7 W7 hown7 hgr7 hat7 hlt7; have HOWN7 := Hid.mk hown7; have HGR7 := Hid.mk hgr7; have HAT7 := Hid.mk hat7; clear hown7 hgr7 hat7 hlt7)
      have hag : ∀ j, j < w.heap.size → W7.heap[j]? = w1.heap[j]? := fun j hj => (HGR7.out.block j (by simp; omega) (fun e => by have := (World.ownsRow.lt HOWN.out j e.symm).1; omega)).trans (Below.heap_alloc _ _ _ (by omega))
      have hs7 : w1.heap.size ≤ W7.heap.size := by have := HGR7.out.size; simp at this; omega
      refine ⟨⟨k + 1, some ⟨g7, 0, none⟩, c7, ls ++ [(pn, px)], bs2, hlt, by go_num, rfl, by rw [List.length_append]; have := HLK.out; simp; omega, ?_, ?_, HR1.out.move hs7 (fun j hj => hag j (by omega)), by omega, ⟨HGR7.out.os.trans HK1.out.os, HGR7.out.tape.trans HK1.out.tape, HGR7.out.output.trans HK1.out.output, Nat.le_trans HK1.out.size hs7, fun j hj hp => (hag j hj).trans (HK1.out.block j hj hp)⟩⟩, by simp [intOf]; omega⟩
      · exact RowL.snoc (cap := cap) HKV.out HXL.out (by rw [HLK.out]; exact HOWN7.out) (by rw [HLK.out]; exact HGR7.out) (by rw [HLK.out]; exact HAT7.out) HNN1.out HNEW.out
      · intro l hl'
        rcases List.mem_append.1 hl' with h | h
        · exact HALL.out l h
        · rw [List.mem_singleton.1 h]; simp only; omega
    · have hkn : k = n := by omega
      go_wp2
      go_ret
      refine Or.inl ⟨_, bs1, rfl, ⟨ls, a, cap, by rw [HLK.out]; rfl, HROW.out, by have := HLK.out; omega, HALL.out⟩, HRR.out, by omega, HKR.out⟩

/-- a term that was read -/
def TmQ (w : World) (v : Value) (w' : World) : Prop := ∃ t, ShapeT v ∧ TF w' (oldB w) v t ∧ smT 1000000 t

/-- the reader's term, whatever it reads, with so many terms around -/
def RdAny (N rb : Nat) (deep : Int) : Prop := ∀ (bs : List UInt8) (w : World), RD w N rb bs deep → bs.length ≤ 1000000 → Calls Tryz.prog 104 #[.pointer (some ⟨rb, 0, none⟩)] w (RdP w N rb bs deep 1 (TmQ w))

/-- terms that were read -/
def TsQ (w : World) (n : Nat) (v : Value) (w' : World) : Prop := ∃ (ts : List Tm) (a : Option Addr) (cap : Nat), v = .slice a n cap ∧ ts.length = n ∧ RowF w' w.heap.size (oldB w) a cap ts ∧ ∀ t ∈ ts, smT 1000000 t

set_option maxRecDepth 100000 in
set_option maxHeartbeats 4000000 in
theorem severalT_all (N rb n : Nat) (bs : List UInt8) (deep : Int) (w : World) (hR : RD w N rb bs deep) (hn : n ≤ 3) (hbl : bs.length ≤ 1000000) (hr : RdAny N rb deep) : Calls Tryz.prog 123 #[.int .i64 (n : Int), .func (.func 104) #[.pointer (some ⟨rb, 0, none⟩)] #[]] w (RdP w N rb bs deep 0 (TsQ w n)) := by
  have hlR := hR.2.1
  have hrb := hR.1
  have HR := Hid.mk hR
  have HP := Hid.mk hr
  clear hR hr
  go_enter Tryz.func123, Tryz.ntmps123
  go_wp2
  go_loopw [5, 7] (fun u i wr => ∃ (k : Nat) (a : Option Addr) (cap : Nat) (TS : List Tm) (bs' : List UInt8), k ≤ n ∧ i = .int .i64 k ∧ u = .slice a k cap ∧ TS.length = k ∧ RowF wr w.heap.size (oldB w) a cap TS ∧ (∀ t ∈ TS, smT 1000000 t) ∧ RD wr N rb bs' deep ∧ bs'.length ≤ bs.length ∧ Kept (fun k => k = rb) w wr) (fun _ i _ => n - (intOf i).toNat)
  case atStart => exact ⟨0, none, 0, [], bs, Nat.zero_le _, rfl, rfl, rfl, RowF.nil _ _ _, (fun t h => by cases h), HR.out, Nat.le_refl _, Kept.refl _ _⟩
  case round =>
    obtain ⟨k, a, cap, TS, bs1, hk, rfl, rfl, htk, hOr, hall, hRr, hl, hkr⟩ := hrel
    have HROW := Hid.mk hOr
    have HRR := Hid.mk hRr
    have HKR := Hid.mk hkr
    have HTK := Hid.mk htk
    have HALL := Hid.mk hall
    have hsz := hkr.size
    clear hOr hRr hkr htk hall
    by_cases hlt : k < n
    · have HC := HP.out bs1 wr HRR.out (by omega)
      go_wp2_with fail
      refine HC.mono ?_
      rintro e w1 (⟨v1, bs2, rfl, ⟨p, ⟨u0, u1, u2, u3, r1, r2, r3, s1', s2', s3', rfl⟩, htf1, hsp⟩, hR1, hl1, hk1⟩ | ⟨rfl, hk1⟩)
      rotate_left
      · exact ⟨rfl, Or.inr ⟨rfl, HKR.out.trans hk1⟩⟩
      have HR1 := Hid.mk hR1
      have HK1 := Hid.mk (HKR.out.trans hk1)
      have hsz1 := hk1.size
      have HROW1 : Hid (RowF (w1.alloc (.cells #[.int .i64 u0, .int .i64 u1, .bool u2, .string u3, .slice r1 r2 r3, .slice s1' s2' s3'] 38)) w.heap.size (oldB w) a cap TS) := (HROW.out.move (fun k hk => oldB_new hk) hk1.size fun k h1 h2 => hk1.block k h1 (by have := oldB_no h2; omega)).move (fun k hk => oldB_new hk) (by simp) fun k h1 _ => Below.heap_alloc _ _ _ h1
      obtain ⟨xs, kvs, hown, hkv⟩ := HROW1.out.go
      have hRB : ∀ j, ownB a j = true → w.heap.size ≤ j ∧ j < wr.heap.size := fun j hj => by
        obtain ⟨ys, kvs0, hown0, -⟩ := HROW.out.go
        exact row_block hown0 hj
      have HNEW : Hid (TF (w1.alloc (.cells #[.int .i64 u0, .int .i64 u1, .bool u2, .string u3, .slice r1 r2 r3, .slice s1' s2' s3'] 38)) (fun k => oldB w k || ownB a k) (.agg #[.int .i64 u0, .int .i64 u1, .bool u2, .string u3, .slice r1 r2 r3, .slice s1' s2' s3']) p) := htf1.move (by simp) fun j h1 h2 => ⟨by
        have := oldB_no h2
        rw [oldB_new (by omega), Bool.false_or]
        cases ho : ownB a j
        · rfl
        · have := (hRB j ho).2; omega, Below.heap_alloc _ _ _ h1⟩
      rw [HTK.out] at hown
      have HOWN := Hid.mk hown
      have HKV := Hid.mk hkv
      have HXL : Hid (xs.length = TS.length * 6) := by unfold Hid; rw [HTK.out, hown.1]
      have HNB := Hid.mk (World.news_of_block (cs := #[.int .i64 u0, .int .i64 u1, .bool u2, .string u3, .slice r1 r2 r3, .slice s1' s2' s3']) (t := 38) (fr := (0, 0)) (alloc_new w1 (.cells #[.int .i64 u0, .int .i64 u1, .bool u2, .string u3, .slice r1 r2 r3, .slice s1' s2' s3'] 38)))
      have hB1 : w.heap.size ≤ (w1.alloc (.cells #[.int .i64 u0, .int .i64 u1, .bool u2, .string u3, .slice r1 r2 r3, .slice s1' s2' s3'] 38)).heap.size := by simp; omega
      have HSP := Hid.mk hsp
      clear hR1 hk1 HC htf1 hown hkv hsp
      go_wp2_with (at_builtin; refine wpList_appF rfl _ _ rfl w.heap.size (.slice a k cap) k xs [.int .i64 u0, .int .i64 u1, .bool u2, .string u3, .slice r1 r2 r3, .slice s1' s2' s3'] w1.heap.size 1 rfl rfl HOWN.out rfl HNB.out (by simp [Value.oneCell']) (by omega) hB1 ?_; intro g7 c7 W7 hown7 hgr7 hat7; have HOWN7 := Hid.mk hown7; have HGR7 := Hid.mk hgr7; have HAT7 := Hid.mk hat7; clear hown7 hgr7 hat7)
      have hag : ∀ j, j < w.heap.size → W7.heap[j]? = w1.heap[j]? := fun j hj => (HGR7.out.block j (by simp; omega) (fun e => by have := (World.ownsRow.lt HOWN.out j e.symm).1; omega)).trans (Below.heap_alloc _ _ _ (by omega))
      have hs7 : w1.heap.size ≤ W7.heap.size := by have := HGR7.out.size; simp at this; omega
      refine ⟨⟨k + 1, some ⟨g7, 0, none⟩, c7, TS ++ [p], bs2, hlt, by go_num, rfl, by rw [List.length_append]; have := HTK.out; simp; omega, ?_, ?_, HR1.out.move hs7 (fun j hj => hag j (by omega)), by omega, ⟨HGR7.out.os.trans HK1.out.os, HGR7.out.tape.trans HK1.out.tape, HGR7.out.output.trans HK1.out.output, Nat.le_trans HK1.out.size hs7, fun j hj hp => (hag j hj).trans (HK1.out.block j hj hp)⟩⟩, by simp [intOf]; omega⟩
      · exact RowF.snoc (cap := cap) HKV.out HXL.out (by rw [HTK.out]; exact HOWN7.out) (by rw [HTK.out]; exact HGR7.out) (by rw [HTK.out]; exact HAT7.out) HNEW.out
      · intro t ht
        rcases List.mem_append.1 ht with h | h
        · exact HALL.out t h
        · rw [List.mem_singleton.1 h]; exact HSP.out
    · obtain rfl : k = n := by omega
      go_wp2
      go_ret
      exact Or.inl ⟨_, bs1, rfl, ⟨TS, a, cap, rfl, HTK.out, HROW.out, HALL.out⟩, HRR.out, by omega, HKR.out⟩
end Go.Proofs.YtndjdeiccmhelaaGreat
