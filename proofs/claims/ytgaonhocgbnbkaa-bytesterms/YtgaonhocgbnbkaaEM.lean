/- The contract of several at terms; what is known of a reader's cells. -/
import Derived.Test.YtgaonhocgbnbkaaEL
import Derived.Test.YtgaonhocgbnbkaaFP
import Derived.Test.YtgaonhocgbnbkaaOG
namespace Go.Proofs.Ytgaonhocgbnbkaa
open Go.RowKit Go.Sort Go.Lib

theorem RD.deepAt {w : World} {N rb : Nat} {bs : List UInt8} {deep : Int} (h : RD w N rb bs deep) : w.cell? ⟨rb, 1, none⟩ = some (.int .i64 deep) ∧ w.frozen? ⟨rb, 1, none⟩ = false := by
  obtain ⟨-, -, a, cap, hh, -⟩ := h
  exact ⟨(cells2 hh).2.1, (frz2 hh).2⟩

theorem RD.setDeep {w : World} {N rb : Nat} {bs : List UInt8} {deep : Int} (h : RD w N rb bs deep) (d : Int) : RD (w.setCell ⟨rb, 1, none⟩ (.int .i64 d)) N rb bs d := by
  obtain ⟨h1, h2, a, cap, hh, hB, hc, hm, hne, hn⟩ := h
  have hk : Kept (fun k => k = rb) w (w.setCell ⟨rb, 1, none⟩ (.int .i64 d)) := (Kept.refl (fun k => k = rb) w).setCell (p := ⟨rb, 1, none⟩) rfl _
  exact ⟨h1, Nat.le_trans h2 hk.size, a, cap, set_at1 hh, hB.move hk.size fun b off e hb => hk.block b hb (hne _ e).1, hc, hm, hne, hn⟩

/-- what the reader makes of the bytes of a term -/
def RdT (N rb : Nat) (t : Tm) : Prop := ∀ (rest : List UInt8) (deep : Int) (w : World), RD w N rb (encT t ++ rest) deep → 0 ≤ deep → deep + heightT t ≤ 500 → Calls Try.prog 33 #[.pointer (some ⟨rb, 0, none⟩)] w fun e w' => ∃ v', e = .returned v' ∧ ShapeT v' ∧ TF w' (oldB w) v' (cleanT t) ∧ RD w' N rb rest deep ∧ Kept (fun k => k = rb) w w'

set_option maxRecDepth 100000 in
set_option maxHeartbeats 4000000 in
theorem severalT_any (N rb : Nat) (ks : List Tm) (rest : List UInt8) (deep : Int) (w : World) (hR : RD w N rb (ks.flatMap encT ++ rest) deep) (hn : ks.length ≤ 1000000) (hd0 : 0 ≤ deep) (hdh : ∀ k ∈ ks, deep + heightT k ≤ 500) (hr : ∀ k ∈ ks, RdT N rb k) : Calls Try.prog 65 #[.int .i64 (ks.length : Int), .func (.func 33) #[.pointer (some ⟨rb, 0, none⟩)] #[]] w fun e w' => ∃ a cap, e = .returned (.slice a ks.length cap) ∧ RowF w' w.heap.size (oldB w) a cap (ks.map cleanT) ∧ RD w' N rb rest deep ∧ Kept (fun k => k = rb) w w' := by
  have hlR := hR.2.1
  have hrb := hR.1
  have HR := Hid.mk hR
  have HP := Hid.mk hr
  have HDH := Hid.mk hdh
  clear hR hr hdh
  go_enter Try.func65, Try.ntmps65
  go_wp2
  go_loopw [5, 7] (fun u i wr => ∃ (k : Nat) (a : Option Addr) (cap : Nat), k ≤ ks.length ∧ i = .int .i64 k ∧ u = .slice a k cap ∧ RowF wr w.heap.size (oldB w) a cap ((ks.take k).map cleanT) ∧ RD wr N rb ((ks.drop k).flatMap encT ++ rest) deep ∧ Kept (fun k => k = rb) w wr) (fun _ i _ => ks.length - (intOf i).toNat)
  case atStart => exact ⟨0, none, 0, Nat.zero_le _, rfl, rfl, by simpa using RowF.nil _ _ _, by simpa using HR.out, Kept.refl _ _⟩
  case round =>
    obtain ⟨k, a, cap, hk, rfl, rfl, hOr, hRr, hkr⟩ := hrel
    have HROW := Hid.mk hOr
    have HRR := Hid.mk hRr
    have HKR := Hid.mk hkr
    have hsz := hkr.size
    clear hOr hRr hkr
    by_cases hlt : k < ks.length
    · have HTK : Hid ((ks.take (k + 1)).map cleanT = (ks.take k).map cleanT ++ [cleanT ks[k]]) := by
        unfold Hid; rw [List.take_succ_eq_append_getElem hlt, List.map_append]; rfl
      have hdr : ks.drop k = ks[k] :: ks.drop (k + 1) := List.drop_eq_getElem_cons hlt
      have hRk := HRR.out
      rw [hdr, List.flatMap_cons, List.append_assoc] at hRk
      have hmem : ks[k] ∈ ks := List.getElem_mem hlt
      have HC := HP.out _ hmem _ deep wr hRk hd0 (HDH.out _ hmem)
      clear hdr hRk hmem
      generalize ks[k] = p at *
      have htl : ((ks.take k).map cleanT).length = k := by rw [List.length_map, List.length_take]; omega
      generalize (ks.take k).map cleanT = TS at *
      go_wp2_with fail
      refine HC.mono ?_
      rintro e w1 ⟨v1, rfl, ⟨u0, u1, u2, u3, r1, r2, r3, s1', s2', s3', rfl⟩, htf1, hR1, hk1⟩
      have HR1 := Hid.mk hR1
      have HK1 := Hid.mk (HKR.out.trans hk1)
      have hsz1 := hk1.size
      have HROW1 : Hid (RowF (w1.alloc (.cells #[.int .i64 u0, .int .i64 u1, .bool u2, .string u3, .slice r1 r2 r3, .slice s1' s2' s3'] 25)) w.heap.size (oldB w) a cap TS) := (HROW.out.move (fun k hk => oldB_new hk) hk1.size fun k h1 h2 => hk1.block k h1 (by have := oldB_no h2; omega)).move (fun k hk => oldB_new hk) (by simp) fun k h1 _ => Below.heap_alloc _ _ _ h1
      obtain ⟨xs, kvs, hown, hkv⟩ := HROW1.out.go
      have hRB : ∀ j, ownB a j = true → w.heap.size ≤ j ∧ j < wr.heap.size := fun j hj => by
        obtain ⟨ys, kvs0, hown0, -⟩ := HROW.out.go
        exact row_block hown0 hj
      have HNEW : Hid (TF (w1.alloc (.cells #[.int .i64 u0, .int .i64 u1, .bool u2, .string u3, .slice r1 r2 r3, .slice s1' s2' s3'] 25)) (fun k => oldB w k || ownB a k) (.agg #[.int .i64 u0, .int .i64 u1, .bool u2, .string u3, .slice r1 r2 r3, .slice s1' s2' s3']) (cleanT p)) := htf1.move (by simp) fun j h1 h2 => ⟨by
        have := oldB_no h2
        rw [oldB_new (by omega), Bool.false_or]
        cases ho : ownB a j
        · rfl
        · have := (hRB j ho).2; omega, Below.heap_alloc _ _ _ h1⟩
      rw [htl] at hown
      have HOWN := Hid.mk hown
      have HKV := Hid.mk hkv
      have HXL : Hid (xs.length = TS.length * 6) := by unfold Hid; rw [htl, hown.1]
      have HNB := Hid.mk (World.news_of_block (cs := #[.int .i64 u0, .int .i64 u1, .bool u2, .string u3, .slice r1 r2 r3, .slice s1' s2' s3']) (t := 25) (fr := (0, 0)) (alloc_new w1 (.cells #[.int .i64 u0, .int .i64 u1, .bool u2, .string u3, .slice r1 r2 r3, .slice s1' s2' s3'] 25)))
      have hB1 : w.heap.size ≤ (w1.alloc (.cells #[.int .i64 u0, .int .i64 u1, .bool u2, .string u3, .slice r1 r2 r3, .slice s1' s2' s3'] 25)).heap.size := by simp; omega
      clear hR1 hk1 HC htf1 hown hkv
      go_wp2_with (at_builtin; refine wpList_appF rfl _ _ rfl w.heap.size (.slice a k cap) k xs [.int .i64 u0, .int .i64 u1, .bool u2, .string u3, .slice r1 r2 r3, .slice s1' s2' s3'] w1.heap.size 1 rfl rfl HOWN.out rfl HNB.out (by simp [Value.oneCell']) (by omega) hB1 ?_; intro g7 c7 W7 hown7 hgr7 hat7; have HOWN7 := Hid.mk hown7; have HGR7 := Hid.mk hgr7; have HAT7 := Hid.mk hat7; clear hown7 hgr7 hat7)
      have hag : ∀ j, j < w.heap.size → W7.heap[j]? = w1.heap[j]? := fun j hj => (HGR7.out.block j (by simp; omega) (fun e => by have := (World.ownsRow.lt HOWN.out j e.symm).1; omega)).trans (Below.heap_alloc _ _ _ (by omega))
      have hs7 : w1.heap.size ≤ W7.heap.size := by have := HGR7.out.size; simp at this; omega
      refine ⟨⟨k + 1, some ⟨g7, 0, none⟩, c7, hlt, by go_num, rfl, ?_, HR1.out.move hs7 (fun j hj => hag j (by omega)), ⟨HGR7.out.os.trans HK1.out.os, HGR7.out.tape.trans HK1.out.tape, HGR7.out.output.trans HK1.out.output, Nat.le_trans HK1.out.size hs7, fun j hj hp => (hag j hj).trans (HK1.out.block j hj hp)⟩⟩, by simp [intOf]; omega⟩
      rw [HTK.out]
      exact RowF.snoc (cap := cap) HKV.out HXL.out (by rw [htl]; exact HOWN7.out) (by rw [htl]; exact HGR7.out) (by rw [htl]; exact HAT7.out) HNEW.out
    · obtain rfl : k = ks.length := by omega
      go_wp2
      go_ret
      refine ⟨_, _, rfl, by have := HROW.out; rwa [List.take_length] at this, by have := HRR.out; rwa [List.drop_length, List.flatMap_nil, List.nil_append] at this, HKR.out⟩
end Go.Proofs.Ytgaonhocgbnbkaa
