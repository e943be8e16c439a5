/- SigNames: the law, walked. -/
import Derived.Test.YtmmbnimehmfadaaQU
namespace Go.Proofs.Ytmmbnimehmfadaa
open Go.RowKit Go.Sort Go.Lib

theorem dig_size {n : Nat} (h : n ≤ 30) : (digB n).size ≤ 2 := by
  have h2 : ∀ n : Fin 31, (digB n.1).size ≤ 2 := by decide +kernel
  exact h2 ⟨n, by omega⟩

theorem elim_lit : natB ++ elimB = ⟨#[78, 97, 116, 46, 101, 108, 105, 109]⟩ := by decide +kernel

set_option maxRecDepth 100000 in
set_option maxHeartbeats 8000000 in
theorem names_no (n t : Int) (w : World) (hc : ¬ (1 ≤ n ∧ n ≤ 30 ∧ 0 ≤ t ∧ t ≤ n)) : Calls Try.prog 3 #[.int .i64 n, .int .i64 t] w fun e w' => e = .returned (.bool true) ∧ RowKit.Below w.heap.size w w' := by
  have HC1 := alive5_any w
  rcases (by omega : n < 1 ∨ (¬ n < 1 ∧ 30 < n) ∨ (¬ n < 1 ∧ ¬ 30 < n ∧ t < 0) ∨ (¬ n < 1 ∧ ¬ 30 < n ∧ ¬ t < 0 ∧ n < t)) with h1 | ⟨h1, h2⟩ | ⟨h1, h2, h3⟩ | ⟨h1, h2, h3, h4⟩
  all_goals
    clear hc
    go_enter Try.func3, Try.ntmps3
    go_wp2_with fail
    refine HC1.mono ?_
    rintro e w1 ⟨rfl, hb1⟩
    have HB := Hid.mk hb1
    clear hb1
    go_wp2
    go_ret
    exact ⟨rfl, HB.out⟩

set_option maxRecDepth 100000 in
set_option maxHeartbeats 8000000 in
theorem names_yes (N Tw : Nat) (w : World) (hN1 : 1 ≤ N) (hN : N ≤ 30) (hT : Tw ≤ N) : Calls Try.prog 3 #[.int .i64 N, .int .i64 Tw] w fun e w' => e = .returned (.bool true) ∧ RowKit.Below w.heap.size w w' := by
  have mx := mixed
  have HC1 := alive5_any w
  have c1 : ¬ ((N : Int) < 1) := by omega
  have c2 : ¬ ((30 : Int) < (N : Int)) := by omega
  have c3 : ¬ ((Tw : Int) < 0) := by omega
  have c4 : ¬ ((N : Int) < (Tw : Int)) := by omega
  go_enter Try.func3, Try.ntmps3
  go_wp2_with fail
  refine HC1.mono ?_
  rintro e w1 ⟨rfl, hb1⟩
  have HC2 := Nat5_any w1
  have HB1 := Hid.mk hb1
  have hs1 := hb1.size
  clear hb1 HC1
  go_wp2_with fail
  refine HC2.mono ?_
  rintro e w2 ⟨zs, -, -, rfl, hd2, hb2⟩
  obtain ⟨t0, t1, t2, t3, t4, t5, t6, t7, t8, t9, v0, v1, v2, v3, v4, v5, v6, v7, v8, v9, ca, cc, hz, htt, htv, -⟩ := hd2.go
  rw [hz]
  have hs2 := hb2.size
  have HB2 : Hid (RowKit.Below w.heap.size w w2) := HB1.out.trans (hb2.mono hs1)
  have HTT := Hid.mk htt
  have HTV := Hid.mk htv
  obtain ⟨W3, hW3⟩ : ∃ W3, w2.alloc (.cells #[.int .i64 natD.kind, .string natD.name, .int .i64 natD.levels, .int .i64 t0, .int .i64 t1, .bool t2, .string t3, .slice t4 t5 t6, .slice t7 t8 t9, .int .i64 v0, .int .i64 v1, .bool v2, .string v3, .slice v4 v5 v6, .slice v7 v8 v9, .int .i64 natD.params, .slice ca natD.ctors.length cc] 29) = W3 := ⟨_, rfl⟩
  have hb3 : RowKit.Below w2.heap.size w2 W3 := by rw [← hW3]; exact (Below.refl _ _).alloc (Nat.le_refl _) _
  have hX3 : W3.heap[w2.heap.size]? = some (.cells #[.int .i64 natD.kind, .string natD.name, .int .i64 natD.levels, .int .i64 t0, .int .i64 t1, .bool t2, .string t3, .slice t4 t5 t6, .slice t7 t8 t9, .int .i64 v0, .int .i64 v1, .bool v2, .string v3, .slice v4 v5 v6, .slice v7 v8 v9, .int .i64 natD.params, .slice ca natD.ctors.length cc] 29 (0, 0)) := by rw [← hW3]; exact alloc_new _ _
  have hs3 := heap_lt hX3
  have HSA : Hid ((Try.prog.info? 29).map (·.size) = some (#[.int .i64 natD.kind, .string natD.name, .int .i64 natD.levels, .int .i64 t0, .int .i64 t1, .bool t2, .string t3, .slice t4 t5 t6, .slice t7 t8 t9, .int .i64 v0, .int .i64 v1, .bool v2, .string v3, .slice v4 v5 v6, .slice v7 v8 v9, .int .i64 natD.params, .slice ca natD.ctors.length cc] : Array Value).size) := by unfold Hid; kernel_rfl
  have HONE : Hid ((#[.int .i64 natD.kind, .string natD.name, .int .i64 natD.levels, .int .i64 t0, .int .i64 t1, .bool t2, .string t3, .slice t4 t5 t6, .slice t7 t8 t9, .int .i64 v0, .int .i64 v1, .bool v2, .string v3, .slice v4 v5 v6, .slice v7 v8 v9, .int .i64 natD.params, .slice ca natD.ctors.length cc] : Array Value).all (·.oneCell') = true) := by unfold Hid; simp [Value.oneCell']
  obtain ⟨W4, hW4⟩ : ∃ W4, W3.setCell ⟨w2.heap.size, 16, none⟩ (.slice none 0 0) = W4 := ⟨_, rfl⟩
  have HX4 : Hid (W4.heap[w2.heap.size]? = some (.cells #[.int .i64 natD.kind, .string natD.name, .int .i64 natD.levels, .int .i64 t0, .int .i64 t1, .bool t2, .string t3, .slice t4 t5 t6, .slice t7 t8 t9, .int .i64 v0, .int .i64 v1, .bool v2, .string v3, .slice v4 v5 v6, .slice v7 v8 v9, .int .i64 natD.params, .slice none 0 0] 29 (0, 0))) := by unfold Hid; rw [← hW4]; exact sets_blk [.slice none 0 0] 16 _ _ hX3
  have HB4 : Hid (RowKit.Below w2.heap.size w2 W4) := by unfold Hid; rw [← hW4]; exact hb3.setCell (p := ⟨w2.heap.size, 16, none⟩) (Nat.le_refl _) _
  have hs4 := heap_lt HX4.out
  obtain ⟨q0, q1, q2, q3, q4, q5, q6, q7, q8, q9, q10, q11, q12, q13, q14, q15, q16, q17⟩ := cells17 hX3
  have xz : ∀ o, W3.frozen? ⟨w2.heap.size, o, none⟩ = false := fun o => by simp [World.frozen?, hX3]
  have HW3 := Hid.mk hW3
  have HW4 := Hid.mk hW4
  clear hd2 hb2 hz htt htv hb3 hX3 hW3 hW4 HC2
  go_wp2_with (first | (refine wpList_store_new rfl 29 _ _ rfl rfl rfl HSA.out rfl HONE.out ?_; rw [HW3.out]) | (rw [HW4.out]))
  clear q0 q1 q2 q3 q4 q5 q6 q7 q8 q9 q10 q11 q12 q13 q14 q15 q16 q17 xz
  go_loopw [7] (fun i wr => ∃ (k : Nat) (a : Option Addr) (cap : Nat), k ≤ N ∧ i = .int .i64 k ∧ wr.heap[w2.heap.size]? = some (.cells #[.int .i64 natD.kind, .string natD.name, .int .i64 natD.levels, .int .i64 t0, .int .i64 t1, .bool t2, .string t3, .slice t4 t5 t6, .slice t7 t8 t9, .int .i64 v0, .int .i64 v1, .bool v2, .string v3, .slice v4 v5 v6, .slice v7 v8 v9, .int .i64 natD.params, .slice a k cap] 29 (0, 0)) ∧ RowX 34 7 EC wr (w2.heap.size + 1) (fun j => decide (j ≤ w2.heap.size)) a cap ((List.range k).map fun i => (ctrB i, natT)) ∧ RowKit.Below w2.heap.size W4 wr) (fun i _ => N - (intOf i).toNat)
  case atStart => exact ⟨0, none, 0, Nat.zero_le _, rfl, HX4.out, RowX.nil _ _ _ _ _ _, Below.refl _ _⟩
  case round =>
    obtain ⟨k, a, cap, hk, rfl, hX, hrow, hb⟩ := hrel
    have HXR := Hid.mk hX
    have HROW := Hid.mk hrow
    have HBR := Hid.mk hb
    have hsr := heap_lt hX
    clear hX hrow hb
    by_cases hlt : k < N
    rotate_left
    · obtain rfl : k = N := by omega
      obtain ⟨W5, hW5⟩ : ∃ W5, wr = W5 := ⟨_, rfl⟩
      rw [hW5] at HXR HROW HBR hsr ⊢
      clear hW5
      have HC6 := New_any W5
      go_wp2_with fail
      refine HC6.mono ?_
      rintro e w6 ⟨rfl, hS6, hb6⟩
      have hs6 := hb6.size
      have hX6 : w6.heap[w2.heap.size]? = some (.cells #[.int .i64 natD.kind, .string natD.name, .int .i64 natD.levels, .int .i64 t0, .int .i64 t1, .bool t2, .string t3, .slice t4 t5 t6, .slice t7 t8 t9, .int .i64 v0, .int .i64 v1, .bool v2, .string v3, .slice v4 v5 v6, .slice v7 v8 v9, .int .i64 natD.params, .slice a k cap] 29 (0, 0)) := (hb6.block _ hsr).trans HXR.out
      have hB26 : RowKit.Below w2.heap.size w2 w6 := HB4.out.trans (HBR.out.trans (hb6.mono (by omega)))
      have hck : CK w6 a ((List.range k).map fun i => (ctrB i, natT)) := by
        have h := HROW.out.ck (fun k hk => by simp; omega)
        exact CK.subF (by rw [maskB_size]; exact hs6) (fun p v hp => (hb6.cell (World.block_lt_of_cell? _ _ (maskB_cell hp).2)).trans (maskB_cell hp).2) h
      have hlk : ((List.range k).map fun i => (ctrB i, natT)).length = k := by simp
      have hDV : DV w6 (.agg ([.int .i64 natD.kind, .string natD.name, .int .i64 natD.levels, .int .i64 t0, .int .i64 t1, .bool t2, .string t3, .slice t4 t5 t6, .slice t7 t8 t9, .int .i64 v0, .int .i64 v1, .bool v2, .string v3, .slice v4 v5 v6, .slice v7 v8 v9, .int .i64 natD.params, .slice a k cap] : List Value).toArray) (famD k) := ⟨t0, t1, t2, t3, t4, t5, t6, t7, t8, t9, v0, v1, v2, v3, v4, v5, v6, v7, v8, v9, a, cap, by rw [show (famD k).ctors.length = k from hlk]; rfl, HTT.out.on (hB26.mono (Nat.le_refl _)), HTV.out.on (hB26.mono (Nat.le_refl _)), hck⟩
      have HC7 := Put_any [] W5.heap.size (famD k) _ w6 hS6 hDV (sm_fam hN)
      rw [put_fam hN, if_pos rfl, clean_fam, List.nil_append] at HC7
      have HRG6 : Hid (w6.rangeAt w2.heap.size 0 [.int .i64 natD.kind, .string natD.name, .int .i64 natD.levels, .int .i64 t0, .int .i64 t1, .bool t2, .string t3, .slice t4 t5 t6, .slice t7 t8 t9, .int .i64 v0, .int .i64 v1, .bool v2, .string v3, .slice v4 v5 v6, .slice v7 v8 v9, .int .i64 natD.params, .slice a k cap]) := range_of (pre := []) (post := []) hX6 rfl rfl
      have HSV : Hid ((Try.prog.info? 29).map (·.size) = some ([.int .i64 natD.kind, .string natD.name, .int .i64 natD.levels, .int .i64 t0, .int .i64 t1, .bool t2, .string t3, .slice t4 t5 t6, .slice t7 t8 t9, .int .i64 v0, .int .i64 v1, .bool v2, .string v3, .slice v4 v5 v6, .slice v7 v8 v9, .int .i64 natD.params, .slice a k cap] : List Value).length) := by unfold Hid; kernel_rfl
      have HX6 := Hid.mk hX6
      have HB6 := Hid.mk hB26
      clear hB26 hS6 hb6 hX6 hck hDV HC6 hlk
      go_wp2_with (refine wpList_load_mid rfl 29 _ rfl w2.heap.size 0 rfl [.int .i64 natD.kind, .string natD.name, .int .i64 natD.levels, .int .i64 t0, .int .i64 t1, .bool t2, .string t3, .slice t4 t5 t6, .slice t7 t8 t9, .int .i64 v0, .int .i64 v1, .bool v2, .string v3, .slice v4 v5 v6, .slice v7 v8 v9, .int .i64 natD.params, .slice a k cap] _ HRG6.out Try.underlying29 rfl HSV.out ?_)
      refine HC7.mono ?_
      rintro e w7 ⟨rfl, hS7, hb7, -⟩
      have HS7 := Hid.mk hS7
      have HB7 : Hid (RowKit.Below w2.heap.size w2 w7) := HB6.out.trans (hb7.mono (by omega))
      have HX7 : Hid (w7.heap[w2.heap.size]? = some (.cells #[.int .i64 natD.kind, .string natD.name, .int .i64 natD.levels, .int .i64 t0, .int .i64 t1, .bool t2, .string t3, .slice t4 t5 t6, .slice t7 t8 t9, .int .i64 v0, .int .i64 v1, .bool v2, .string v3, .slice v4 v5 v6, .slice v7 v8 v9, .int .i64 natD.params, .slice a k cap] 29 (0, 0))) := (hb7.block _ hsr).trans HX6.out
      have hl7 := hS7.lt
      clear hS7 hb7 HC7
      go_wp2_with fail
      refine (num5_any _ _).mono ?_
      rintro e w9 ⟨rfl, hw9⟩
      have hw9' := hw9.symm
      subst hw9'
      clear hw9
      go_wp2
      go_loopw [10] (fun i wr => ∃ j : Nat, j ≤ k ∧ i = .int .i64 j ∧ SG wr W5.heap.size [famD k] ∧ RowKit.Below w2.heap.size w2 wr ∧ wr.heap[w2.heap.size]? = some (.cells #[.int .i64 natD.kind, .string natD.name, .int .i64 natD.levels, .int .i64 t0, .int .i64 t1, .bool t2, .string t3, .slice t4 t5 t6, .slice t7 t8 t9, .int .i64 v0, .int .i64 v1, .bool v2, .string v3, .slice v4 v5 v6, .slice v7 v8 v9, .int .i64 natD.params, .slice a k cap] 29 (0, 0))) (fun i _ => k - (intOf i).toNat)
      case atStart => exact ⟨0, Nat.zero_le _, rfl, HS7.out, HB7.out, HX7.out⟩
      case round =>
        obtain ⟨j, hj, rfl, hS, hB, hXX⟩ := hrel
        have HSR := Hid.mk hS
        have HBB := Hid.mk hB
        have HXX := Hid.mk hXX
        have hlr := hS.lt
        clear hS hB hXX
        by_cases hjl : j < k
        · have zj : (j : Int) < (k : Int) := by omega
          have zj0 : (0 : Int) ≤ (j : Int) := by omega
          have hdj := dig_size (n := j) (by omega)
          have hctr := ctr_size (n := j) (by omega)
          have mx6 := maxLen_60
          have HCG := Get_any [famD k] W5.heap.size (ctrB j) wr HSR.out (by omega)
          rw [getRes_at (k := 0) (q := 4 + 2 * (j : Int)) (d := famD k) (fam_get hN hjl) rfl] at HCG
          unfold ctrB at HCG
          go_wp2_with fail
          refine (digits_any j (by omega) _).mono ?_
          rintro e w9 ⟨rfl, hw9⟩
          have hw9' := hw9.symm
          subst hw9'
          clear hw9
          go_wp2_with fail
          refine HCG.mono ?_
          rintro e w8 ⟨ys, rfl, hE, hb8⟩
          obtain ⟨x0, x1, x2, x3, x4, x5, x6, x7, x8, x9, y0, y1, y2, y3, y4, y5, y6, y7, y8, y9, da, dc, hz, -, -, -⟩ := hE.val.go
          rw [hz]
          have hsb8 := hb8.size
          obtain ⟨W8, hW8⟩ : ∃ W8, w8.alloc (.cells #[.int .i64 (famD k).kind, .string (famD k).name, .int .i64 (famD k).levels, .int .i64 x0, .int .i64 x1, .bool x2, .string x3, .slice x4 x5 x6, .slice x7 x8 x9, .int .i64 y0, .int .i64 y1, .bool y2, .string y3, .slice y4 y5 y6, .slice y7 y8 y9, .int .i64 (famD k).params, .slice da (famD k).ctors.length dc] 29) = W8 := ⟨_, rfl⟩
          have hbb8 : RowKit.Below w8.heap.size w8 W8 := by rw [← hW8]; exact (Below.refl _ _).alloc (Nat.le_refl _) _
          have hXX8 : W8.heap[w8.heap.size]? = some (.cells #[.int .i64 (famD k).kind, .string (famD k).name, .int .i64 (famD k).levels, .int .i64 x0, .int .i64 x1, .bool x2, .string x3, .slice x4 x5 x6, .slice x7 x8 x9, .int .i64 y0, .int .i64 y1, .bool y2, .string y3, .slice y4 y5 y6, .slice y7 y8 y9, .int .i64 (famD k).params, .slice da (famD k).ctors.length dc] 29 (0, 0)) := by rw [← hW8]; exact alloc_new _ _
          have HSA8 : Hid ((Try.prog.info? 29).map (·.size) = some (#[.int .i64 (famD k).kind, .string (famD k).name, .int .i64 (famD k).levels, .int .i64 x0, .int .i64 x1, .bool x2, .string x3, .slice x4 x5 x6, .slice x7 x8 x9, .int .i64 y0, .int .i64 y1, .bool y2, .string y3, .slice y4 y5 y6, .slice y7 y8 y9, .int .i64 (famD k).params, .slice da (famD k).ctors.length dc] : Array Value).size) := by unfold Hid; kernel_rfl
          have HON8 : Hid ((#[.int .i64 (famD k).kind, .string (famD k).name, .int .i64 (famD k).levels, .int .i64 x0, .int .i64 x1, .bool x2, .string x3, .slice x4 x5 x6, .slice x7 x8 x9, .int .i64 y0, .int .i64 y1, .bool y2, .string y3, .slice y4 y5 y6, .slice y7 y8 y9, .int .i64 (famD k).params, .slice da (famD k).ctors.length dc] : Array Value).all (·.oneCell') = true) := by unfold Hid; simp [Value.oneCell']
          have HWW8 := Hid.mk hW8
          have HSN : Hid (SG W8 W5.heap.size [famD k]) := HSR.out.on (hb8.trans (hbb8.mono hsb8))
          have HBN : Hid (RowKit.Below w2.heap.size w2 W8) := HBB.out.trans ((hb8.trans (hbb8.mono hsb8)).mono (by omega))
          have HXN : Hid (W8.heap[w2.heap.size]? = some (.cells #[.int .i64 natD.kind, .string natD.name, .int .i64 natD.levels, .int .i64 t0, .int .i64 t1, .bool t2, .string t3, .slice t4 t5 t6, .slice t7 t8 t9, .int .i64 v0, .int .i64 v1, .bool v2, .string v3, .slice v4 v5 v6, .slice v7 v8 v9, .int .i64 natD.params, .slice a k cap] 29 (0, 0))) := ((hb8.trans (hbb8.mono hsb8)).block _ (heap_lt HXX.out)).trans HXX.out
          obtain ⟨-, q1, -, -, -, -, -, -, -, -, -, -, -, -, -, -, -, q17⟩ := cells17 hXX8
          have hnb : (famD k).name = ⟨#[78, 97, 116]⟩ := rfl
          rw [hnb] at q1
          clear hE hb8 hbb8 hXX8 hW8 hz HCG
          go_wp2_with (first | (refine wpList_store_new rfl 29 _ _ rfl rfl rfl HSA8.out rfl HON8.out ?_; rw [HWW8.out]))
          exact ⟨⟨j + 1, hjl, by go_num, HSN.out, HBN.out, HXN.out⟩, by simp [intOf]; omega⟩
        · obtain rfl : k = j := by omega
          have mx6 := maxLen_60
          have hdk := dig_size (n := k) hN
          have hdT := dig_size (n := Tw) (by omega)
          have hctr := ctr_size (n := k) hN
          have HCG := Get_any [famD k] W5.heap.size (natB ++ elimB) wr HSR.out (by decide)
          rw [getRes_at (k := 0) (q := 5) (d := famD k) (fam_elim hN) rfl, elim_lit] at HCG
          go_wp2_with fail
          refine HCG.mono ?_
          rintro e w8 ⟨ys, rfl, hE, hb8⟩
          obtain ⟨x0, x1, x2, x3, x4, x5, x6, x7, x8, x9, y0, y1, y2, y3, y4, y5, y6, y7, y8, y9, da, dc, hz, -, -, -⟩ := hE.val.go
          rw [hz]
          have hsb8 := hb8.size
          obtain ⟨W8, hW8⟩ : ∃ W8, w8.alloc (.cells #[.int .i64 (famD k).kind, .string (famD k).name, .int .i64 (famD k).levels, .int .i64 x0, .int .i64 x1, .bool x2, .string x3, .slice x4 x5 x6, .slice x7 x8 x9, .int .i64 y0, .int .i64 y1, .bool y2, .string y3, .slice y4 y5 y6, .slice y7 y8 y9, .int .i64 (famD k).params, .slice da (famD k).ctors.length dc] 29) = W8 := ⟨_, rfl⟩
          have hbb8 : RowKit.Below w8.heap.size w8 W8 := by rw [← hW8]; exact (Below.refl _ _).alloc (Nat.le_refl _) _
          have hXX8 : W8.heap[w8.heap.size]? = some (.cells #[.int .i64 (famD k).kind, .string (famD k).name, .int .i64 (famD k).levels, .int .i64 x0, .int .i64 x1, .bool x2, .string x3, .slice x4 x5 x6, .slice x7 x8 x9, .int .i64 y0, .int .i64 y1, .bool y2, .string y3, .slice y4 y5 y6, .slice y7 y8 y9, .int .i64 (famD k).params, .slice da (famD k).ctors.length dc] 29 (0, 0)) := by rw [← hW8]; exact alloc_new _ _
          have HSA8 : Hid ((Try.prog.info? 29).map (·.size) = some (#[.int .i64 (famD k).kind, .string (famD k).name, .int .i64 (famD k).levels, .int .i64 x0, .int .i64 x1, .bool x2, .string x3, .slice x4 x5 x6, .slice x7 x8 x9, .int .i64 y0, .int .i64 y1, .bool y2, .string y3, .slice y4 y5 y6, .slice y7 y8 y9, .int .i64 (famD k).params, .slice da (famD k).ctors.length dc] : Array Value).size) := by unfold Hid; kernel_rfl
          have HON8 : Hid ((#[.int .i64 (famD k).kind, .string (famD k).name, .int .i64 (famD k).levels, .int .i64 x0, .int .i64 x1, .bool x2, .string x3, .slice x4 x5 x6, .slice x7 x8 x9, .int .i64 y0, .int .i64 y1, .bool y2, .string y3, .slice y4 y5 y6, .slice y7 y8 y9, .int .i64 (famD k).params, .slice da (famD k).ctors.length dc] : Array Value).all (·.oneCell') = true) := by unfold Hid; simp [Value.oneCell']
          have HWW8 := Hid.mk hW8
          have HS8 : Hid (SG W8 W5.heap.size [famD k]) := HSR.out.on (hb8.trans (hbb8.mono hsb8))
          have HB8 : Hid (RowKit.Below w2.heap.size w2 W8) := HBB.out.trans ((hb8.trans (hbb8.mono hsb8)).mono (by omega))
          have HX8 : Hid (W8.heap[w2.heap.size]? = some (.cells #[.int .i64 natD.kind, .string natD.name, .int .i64 natD.levels, .int .i64 t0, .int .i64 t1, .bool t2, .string t3, .slice t4 t5 t6, .slice t7 t8 t9, .int .i64 v0, .int .i64 v1, .bool v2, .string v3, .slice v4 v5 v6, .slice v7 v8 v9, .int .i64 natD.params, .slice a k cap] 29 (0, 0))) := ((hb8.trans (hbb8.mono hsb8)).block _ (heap_lt HXX.out)).trans HXX.out
          have hl8 : wr.heap.size ≤ W8.heap.size := (hb8.trans (hbb8.mono hsb8)).size
          have HCG2 := Get_any [famD k] W5.heap.size (ctrB k) W8 HS8.out (by omega)
          have hgn : getRes [famD k] (ctrB k) = (zeroD, 0) := by unfold getRes; rw [fam_none hN]
          rw [hgn] at HCG2
          unfold ctrB at HCG2
          clear hE hb8 hbb8 hXX8 hW8 hz HCG hgn
          go_wp2_with (first | (refine wpList_store_new rfl 29 _ _ rfl rfl rfl HSA8.out rfl HON8.out ?_; rw [HWW8.out]))
          refine (digits_any k (by omega) _).mono ?_
          rintro e w9 ⟨rfl, hw9⟩
          have hw9' := hw9.symm
          subst hw9'
          clear hw9
          go_wp2_with fail
          refine HCG2.mono ?_
          rintro e w10 ⟨us, rfl, hE, hb9⟩
          obtain ⟨x0, x1, x2, x3, x4, x5, x6, x7, x8, x9, y0, y1, y2, y3, y4, y5, y6, y7, y8, y9, da, dc, hz, -, -, -⟩ := hE.val.go
          rw [hz]
          have hsb9 := hb9.size
          obtain ⟨W9, hW9⟩ : ∃ W9, w10.alloc (.cells #[.int .i64 zeroD.kind, .string zeroD.name, .int .i64 zeroD.levels, .int .i64 x0, .int .i64 x1, .bool x2, .string x3, .slice x4 x5 x6, .slice x7 x8 x9, .int .i64 y0, .int .i64 y1, .bool y2, .string y3, .slice y4 y5 y6, .slice y7 y8 y9, .int .i64 zeroD.params, .slice da zeroD.ctors.length dc] 29) = W9 := ⟨_, rfl⟩
          have hbb9 : RowKit.Below w10.heap.size w10 W9 := by rw [← hW9]; exact (Below.refl _ _).alloc (Nat.le_refl _) _
          have hXX9 : W9.heap[w10.heap.size]? = some (.cells #[.int .i64 zeroD.kind, .string zeroD.name, .int .i64 zeroD.levels, .int .i64 x0, .int .i64 x1, .bool x2, .string x3, .slice x4 x5 x6, .slice x7 x8 x9, .int .i64 y0, .int .i64 y1, .bool y2, .string y3, .slice y4 y5 y6, .slice y7 y8 y9, .int .i64 zeroD.params, .slice da zeroD.ctors.length dc] 29 (0, 0)) := by rw [← hW9]; exact alloc_new _ _
          have HSA9 : Hid ((Try.prog.info? 29).map (·.size) = some (#[.int .i64 zeroD.kind, .string zeroD.name, .int .i64 zeroD.levels, .int .i64 x0, .int .i64 x1, .bool x2, .string x3, .slice x4 x5 x6, .slice x7 x8 x9, .int .i64 y0, .int .i64 y1, .bool y2, .string y3, .slice y4 y5 y6, .slice y7 y8 y9, .int .i64 zeroD.params, .slice da zeroD.ctors.length dc] : Array Value).size) := by unfold Hid; kernel_rfl
          have HON9 : Hid ((#[.int .i64 zeroD.kind, .string zeroD.name, .int .i64 zeroD.levels, .int .i64 x0, .int .i64 x1, .bool x2, .string x3, .slice x4 x5 x6, .slice x7 x8 x9, .int .i64 y0, .int .i64 y1, .bool y2, .string y3, .slice y4 y5 y6, .slice y7 y8 y9, .int .i64 zeroD.params, .slice da zeroD.ctors.length dc] : Array Value).all (·.oneCell') = true) := by unfold Hid; simp [Value.oneCell']
          have HWW9 := Hid.mk hW9
          have HS9 : Hid (SG W9 W5.heap.size [famD k]) := HS8.out.on (hb9.trans (hbb9.mono hsb9))
          have HB9 : Hid (RowKit.Below w2.heap.size w2 W9) := HB8.out.trans ((hb9.trans (hbb9.mono hsb9)).mono (by omega))
          have HX9 : Hid (W9.heap[w2.heap.size]? = some (.cells #[.int .i64 natD.kind, .string natD.name, .int .i64 natD.levels, .int .i64 t0, .int .i64 t1, .bool t2, .string t3, .slice t4 t5 t6, .slice t7 t8 t9, .int .i64 v0, .int .i64 v1, .bool v2, .string v3, .slice v4 v5 v6, .slice v7 v8 v9, .int .i64 natD.params, .slice a k cap] 29 (0, 0))) := ((hb9.trans (hbb9.mono hsb9)).block _ (heap_lt HX8.out)).trans HX8.out
          have hl9 : W8.heap.size ≤ W9.heap.size := (hb9.trans (hbb9.mono hsb9)).size
          have HGX : Hid (∀ W : World, RowKit.Below W9.heap.size W9 W → W.rangeAt w2.heap.size 3 [.int .i64 t0, .int .i64 t1, .bool t2, .string t3, .slice t4 t5 t6, .slice t7 t8 t9]) := fun W h => range_of (pre := [.int .i64 natD.kind, .string natD.name, .int .i64 natD.levels]) (post := [.int .i64 v0, .int .i64 v1, .bool v2, .string v3, .slice v4 v5 v6, .slice v7 v8 v9, .int .i64 natD.params, .slice a k cap]) ((h.block _ (heap_lt HX9.out)).trans HX9.out) rfl rfl
          have HST6 : Hid ((Try.prog.info? 26).map (·.size) = some ([.int .i64 t0, .int .i64 t1, .bool t2, .string t3, .slice t4 t5 t6, .slice t7 t8 t9] : List Value).length) := by unfold Hid; kernel_rfl
          clear hE hb9 hbb9 hXX9 hW9 hz HCG2
          go_wp2_with (first | (refine wpList_store_new rfl 29 _ _ rfl rfl rfl HSA9.out rfl HON9.out ?_; rw [HWW9.out]))
          by_cases hTk : Tw < k
          · have zT : (Tw : Int) < (k : Int) := by omega
            have HCP : Hid (∀ W : World, RowKit.Below W9.heap.size W9 W → Calls Try.prog 9 #[.pointer (some ⟨W5.heap.size, 0, none⟩), .agg #[.int .i64 1, .string (ctrB Tw), .int .i64 0, .int .i64 t0, .int .i64 t1, .bool t2, .string t3, .slice t4 t5 t6, .slice t7 t8 t9, .int .i64 0, .int .i64 0, .bool false, .string { data := #[] }, .slice none 0 0, .slice none 0 0, .int .i64 0, .slice none 0 0]] W fun e w' => e = .returned (.int .i64 20) ∧ SG w' W5.heap.size [famD k] ∧ RowKit.Below W5.heap.size W w') := fun W h => by
              have hp := Put_any [famD k] W5.heap.size (axD (ctrB Tw)) _ W (HS9.out.on h) (ax_dv (HTT.out.on (HB9.out.trans (h.mono (by omega))))) (sm_ax (ctr_size (by omega)))
              rw [put_twice hN (by omega), if_pos hTk, if_neg (by decide)] at hp
              exact hp.mono fun e w' h => ⟨h.1, h.2.1, h.2.2.1⟩
            refine wp_region_late (S := fun w' => w'.rangeAt w2.heap.size 3 [.int .i64 t0, .int .i64 t1, .bool t2, .string t3, .slice t4 t5 t6, .slice t7 t8 t9]) (fun _ => false) mx ?_ (fun hHeld => ?_)
            · (try dsimp only)
              exact HGX.out _ (Below.refl _ _).drew
            refine wpAnyM_takeE (i := 0) (v := .pointer (some ⟨W5.heap.size, 0, none⟩)) (d := some 100) rfl (by kernel_rfl) (by kernel_rfl) (by kernel_rfl) (by kernel_rfl) (by kernel_rfl) (fun _ _ _ h => h) (Or.inl ⟨by kernel_rfl, fun _ _ => by kernel_rfl⟩) (by assumption) ?_
            refine wpAnyM_takeE (i := 1) (v := .int .i64 Tw) (d := some 101) rfl (by kernel_rfl) (by kernel_rfl) (by kernel_rfl) (by kernel_rfl) (by kernel_rfl) (fun _ _ _ h => h) (Or.inl ⟨by kernel_rfl, fun _ _ => by kernel_rfl⟩) (by assumption) ?_
            refine wpAnyM_takeC (i := 2) (v := .string (digB Tw)) (d := some 102) rfl (by kernel_rfl) (by kernel_rfl) (by kernel_rfl) (by kernel_rfl) (by kernel_rfl) (fun _ _ _ h => h) ⟨by kernel_rfl, fun w _ => ⟨6, #[.int .i64 Tw], by kernel_rfl, digits_any Tw (by omega) w⟩⟩ (by assumption) ?_
            refine wpAnyM_takeE (i := 3) (v := .string (ctrB Tw)) (d := some 103) rfl (by kernel_rfl) (by kernel_rfl) (by kernel_rfl) (by kernel_rfl) (by kernel_rfl) (fun _ _ _ h => h) (Or.inl ⟨by kernel_rfl, fun w hSw => by go_simp; rw [if_neg (by omega)]; rfl⟩) (by assumption) ?_
            refine wpAnyM_takeE (i := 4) (v := .pointer (some ⟨w2.heap.size, 3, none⟩)) (d := some 104) rfl (by kernel_rfl) (by kernel_rfl) (by kernel_rfl) (by kernel_rfl) (by kernel_rfl) (fun _ _ _ h => h) (Or.inl ⟨by kernel_rfl, fun w hSw => by go_simp⟩) (by assumption) ?_
            refine wpAnyM_takeE (i := 5) (v := .agg ([.int .i64 t0, .int .i64 t1, .bool t2, .string t3, .slice t4 t5 t6, .slice t7 t8 t9] : List Value).toArray) (d := some 105) rfl (by kernel_rfl) (by kernel_rfl) (by kernel_rfl) (by kernel_rfl) (by kernel_rfl) (fun _ _ _ h => h) (yieldsIf_load_mid (by kernel_rfl) 26 (.tmp 104) rfl w2.heap.size 3 (by kernel_rfl) [.int .i64 t0, .int .i64 t1, .bool t2, .string t3, .slice t4 t5 t6, .slice t7 t8 t9] _ (fun w hSw => hSw) Try.underlying26 rfl HST6.out) (by assumption) ?_
            refine wpAnyM_takeE (i := 6) (v := .agg #[.int .i64 1, .string (ctrB Tw), .int .i64 0, .int .i64 t0, .int .i64 t1, .bool t2, .string t3, .slice t4 t5 t6, .slice t7 t8 t9, .int .i64 0, .int .i64 0, .bool false, .string { data := #[] }, .slice none 0 0, .slice none 0 0, .int .i64 0, .slice none 0 0]) (d := some 106) rfl (by kernel_rfl) (by kernel_rfl) (by kernel_rfl) (by kernel_rfl) (by kernel_rfl) (fun _ _ _ h => h) (Or.inl ⟨by kernel_rfl, fun w hSw => by go_simp⟩) (by assumption) ?_
            refine wpAnyM_one (i := 7) (by kernel_rfl) ?_
            refine ⟨_, rfl, fun K hK => ?_⟩
            go_simp
            go_at_call 9
            refine (HCP.out _ (Below.refl _ _).drew).mono ?_
            rintro e w11 ⟨rfl, hS11, hb11⟩
            have HB11 : Hid (RowKit.Below w2.heap.size w2 w11) := HB9.out.trans (((Below.refl W9.heap.size W9).drew.mono (by omega)).trans (hb11.mono (by omega)))
            have hX11 : w11.heap[w2.heap.size]? = some (.cells #[.int .i64 natD.kind, .string natD.name, .int .i64 natD.levels, .int .i64 t0, .int .i64 t1, .bool t2, .string t3, .slice t4 t5 t6, .slice t7 t8 t9, .int .i64 v0, .int .i64 v1, .bool v2, .string v3, .slice v4 v5 v6, .slice v7 v8 v9, .int .i64 natD.params, .slice a k cap] 29 (0, 0)) := (hb11.block _ hsr).trans HX9.out
            have HG11 : Hid (w11.rangeAt w2.heap.size 3 [.int .i64 t0, .int .i64 t1, .bool t2, .string t3, .slice t4 t5 t6, .slice t7 t8 t9]) := range_of (pre := [.int .i64 natD.kind, .string natD.name, .int .i64 natD.levels]) (post := [.int .i64 v0, .int .i64 v1, .bool v2, .string v3, .slice v4 v5 v6, .slice v7 v8 v9, .int .i64 natD.params, .slice a k cap]) hX11 rfl rfl
            have HC12 := Put_any [famD k] W5.heap.size (axD (natB ++ elimB)) _ w11 hS11 (ax_dv (HTT.out.on HB11.out)) (sm_ax (by decide))
            rw [put_elim hN [famD k] (by simp), if_neg (by decide), elim_lit] at HC12
            have HX11 := Hid.mk hX11
            clear hS11 hb11
            refine hK.out _ _ (fun _ => HG11.out) (fun _ => ?_)
            clear hK K
            refine wpAnyM_one (i := 8) (by kernel_rfl) ?_
            refine ⟨_, rfl, fun K hK => ?_⟩
            go_simp
            refine hK.out _ _ (fun _ => HG11.out) (fun _ => ?_)
            clear hK K
            refine wpAnyM_done (by kernel_rfl) ?_ _
            obtain ⟨q0, q1, q2, q3, q4, q5, q6, q7, q8, q9, q10, q11, q12, q13, q14, q15, q16, q17⟩ := cells17 hX11
            clear hX11
            go_wp2_with fail
            refine HC12.mono ?_
            rintro e w12 ⟨rfl, -, hb12, -⟩
            have HB12 : Hid (RowKit.Below w.heap.size w w12) := HB2.out.trans ((HB11.out.trans (hb12.mono (by omega))).mono (by omega))
            clear hb12 HC12 q0 q1 q2 q3 q4 q5 q6 q7 q8 q9 q10 q11 q12 q13 q14 q15 q16 q17
            go_wp2_with fail
            refine (num5_any _ _).mono ?_
            rintro e w9 ⟨rfl, hw9⟩
            have hw9' := hw9.symm
            subst hw9'
            clear hw9
            go_wp2_with fail
            refine (num5_any _ _).mono ?_
            rintro e w9 ⟨rfl, hw9⟩
            have hw9' := hw9.symm
            subst hw9'
            clear hw9
            go_wp2
            go_ret
            exact ⟨rfl, HB12.out⟩
          · have zT : ¬ (Tw : Int) < (k : Int) := by omega
            have HCP : Hid (∀ W : World, RowKit.Below W9.heap.size W9 W → Calls Try.prog 9 #[.pointer (some ⟨W5.heap.size, 0, none⟩), .agg #[.int .i64 1, .string (ctrB Tw), .int .i64 0, .int .i64 t0, .int .i64 t1, .bool t2, .string t3, .slice t4 t5 t6, .slice t7 t8 t9, .int .i64 0, .int .i64 0, .bool false, .string { data := #[] }, .slice none 0 0, .slice none 0 0, .int .i64 0, .slice none 0 0]] W fun e w' => e = .returned (.int .i64 0) ∧ SG w' W5.heap.size ([famD k] ++ [axD (ctrB Tw)]) ∧ RowKit.Below W5.heap.size W w') := fun W h => by
              have hp := Put_any [famD k] W5.heap.size (axD (ctrB Tw)) _ W (HS9.out.on h) (ax_dv (HTT.out.on (HB9.out.trans (h.mono (by omega))))) (sm_ax (ctr_size (by omega)))
              rw [put_twice hN (by omega), if_neg hTk, if_pos rfl, clean_ax] at hp
              exact hp.mono fun e w' h => ⟨h.1, h.2.1, h.2.2.1⟩
            refine wp_region_late (S := fun w' => w'.rangeAt w2.heap.size 3 [.int .i64 t0, .int .i64 t1, .bool t2, .string t3, .slice t4 t5 t6, .slice t7 t8 t9]) (fun _ => false) mx ?_ (fun hHeld => ?_)
            · (try dsimp only)
              exact HGX.out _ (Below.refl _ _).drew
            refine wpAnyM_takeE (i := 0) (v := .pointer (some ⟨W5.heap.size, 0, none⟩)) (d := some 100) rfl (by kernel_rfl) (by kernel_rfl) (by kernel_rfl) (by kernel_rfl) (by kernel_rfl) (fun _ _ _ h => h) (Or.inl ⟨by kernel_rfl, fun _ _ => by kernel_rfl⟩) (by assumption) ?_
            refine wpAnyM_takeE (i := 1) (v := .int .i64 Tw) (d := some 101) rfl (by kernel_rfl) (by kernel_rfl) (by kernel_rfl) (by kernel_rfl) (by kernel_rfl) (fun _ _ _ h => h) (Or.inl ⟨by kernel_rfl, fun _ _ => by kernel_rfl⟩) (by assumption) ?_
            refine wpAnyM_takeC (i := 2) (v := .string (digB Tw)) (d := some 102) rfl (by kernel_rfl) (by kernel_rfl) (by kernel_rfl) (by kernel_rfl) (by kernel_rfl) (fun _ _ _ h => h) ⟨by kernel_rfl, fun w _ => ⟨6, #[.int .i64 Tw], by kernel_rfl, digits_any Tw (by omega) w⟩⟩ (by assumption) ?_
            refine wpAnyM_takeE (i := 3) (v := .string (ctrB Tw)) (d := some 103) rfl (by kernel_rfl) (by kernel_rfl) (by kernel_rfl) (by kernel_rfl) (by kernel_rfl) (fun _ _ _ h => h) (Or.inl ⟨by kernel_rfl, fun w hSw => by go_simp; rw [if_neg (by omega)]; rfl⟩) (by assumption) ?_
            refine wpAnyM_takeE (i := 4) (v := .pointer (some ⟨w2.heap.size, 3, none⟩)) (d := some 104) rfl (by kernel_rfl) (by kernel_rfl) (by kernel_rfl) (by kernel_rfl) (by kernel_rfl) (fun _ _ _ h => h) (Or.inl ⟨by kernel_rfl, fun w hSw => by go_simp⟩) (by assumption) ?_
            refine wpAnyM_takeE (i := 5) (v := .agg ([.int .i64 t0, .int .i64 t1, .bool t2, .string t3, .slice t4 t5 t6, .slice t7 t8 t9] : List Value).toArray) (d := some 105) rfl (by kernel_rfl) (by kernel_rfl) (by kernel_rfl) (by kernel_rfl) (by kernel_rfl) (fun _ _ _ h => h) (yieldsIf_load_mid (by kernel_rfl) 26 (.tmp 104) rfl w2.heap.size 3 (by kernel_rfl) [.int .i64 t0, .int .i64 t1, .bool t2, .string t3, .slice t4 t5 t6, .slice t7 t8 t9] _ (fun w hSw => hSw) Try.underlying26 rfl HST6.out) (by assumption) ?_
            refine wpAnyM_takeE (i := 6) (v := .agg #[.int .i64 1, .string (ctrB Tw), .int .i64 0, .int .i64 t0, .int .i64 t1, .bool t2, .string t3, .slice t4 t5 t6, .slice t7 t8 t9, .int .i64 0, .int .i64 0, .bool false, .string { data := #[] }, .slice none 0 0, .slice none 0 0, .int .i64 0, .slice none 0 0]) (d := some 106) rfl (by kernel_rfl) (by kernel_rfl) (by kernel_rfl) (by kernel_rfl) (by kernel_rfl) (fun _ _ _ h => h) (Or.inl ⟨by kernel_rfl, fun w hSw => by go_simp⟩) (by assumption) ?_
            refine wpAnyM_one (i := 7) (by kernel_rfl) ?_
            refine ⟨_, rfl, fun K hK => ?_⟩
            go_simp
            go_at_call 9
            refine (HCP.out _ (Below.refl _ _).drew).mono ?_
            rintro e w11 ⟨rfl, hS11, hb11⟩
            have HB11 : Hid (RowKit.Below w2.heap.size w2 w11) := HB9.out.trans (((Below.refl W9.heap.size W9).drew.mono (by omega)).trans (hb11.mono (by omega)))
            have hX11 : w11.heap[w2.heap.size]? = some (.cells #[.int .i64 natD.kind, .string natD.name, .int .i64 natD.levels, .int .i64 t0, .int .i64 t1, .bool t2, .string t3, .slice t4 t5 t6, .slice t7 t8 t9, .int .i64 v0, .int .i64 v1, .bool v2, .string v3, .slice v4 v5 v6, .slice v7 v8 v9, .int .i64 natD.params, .slice a k cap] 29 (0, 0)) := (hb11.block _ hsr).trans HX9.out
            have HG11 : Hid (w11.rangeAt w2.heap.size 3 [.int .i64 t0, .int .i64 t1, .bool t2, .string t3, .slice t4 t5 t6, .slice t7 t8 t9]) := range_of (pre := [.int .i64 natD.kind, .string natD.name, .int .i64 natD.levels]) (post := [.int .i64 v0, .int .i64 v1, .bool v2, .string v3, .slice v4 v5 v6, .slice v7 v8 v9, .int .i64 natD.params, .slice a k cap]) hX11 rfl rfl
            have HC12 := Put_any ([famD k] ++ [axD (ctrB Tw)]) W5.heap.size (axD (natB ++ elimB)) _ w11 hS11 (ax_dv (HTT.out.on HB11.out)) (sm_ax (by decide))
            rw [put_elim hN ([famD k] ++ [axD (ctrB Tw)]) (by simp), if_neg (by decide), elim_lit] at HC12
            have HX11 := Hid.mk hX11
            clear hS11 hb11
            refine hK.out _ _ (fun _ => HG11.out) (fun _ => ?_)
            clear hK K
            refine wpAnyM_one (i := 8) (by kernel_rfl) ?_
            refine ⟨_, rfl, fun K hK => ?_⟩
            go_simp
            refine hK.out _ _ (fun _ => HG11.out) (fun _ => ?_)
            clear hK K
            refine wpAnyM_done (by kernel_rfl) ?_ _
            obtain ⟨q0, q1, q2, q3, q4, q5, q6, q7, q8, q9, q10, q11, q12, q13, q14, q15, q16, q17⟩ := cells17 hX11
            clear hX11
            go_wp2_with fail
            refine HC12.mono ?_
            rintro e w12 ⟨rfl, -, hb12, -⟩
            have HB12 : Hid (RowKit.Below w.heap.size w w12) := HB2.out.trans ((HB11.out.trans (hb12.mono (by omega))).mono (by omega))
            clear hb12 HC12 q0 q1 q2 q3 q4 q5 q6 q7 q8 q9 q10 q11 q12 q13 q14 q15 q16 q17
            go_wp2_with fail
            refine (num5_any _ _).mono ?_
            rintro e w9 ⟨rfl, hw9⟩
            have hw9' := hw9.symm
            subst hw9'
            clear hw9
            go_wp2_with fail
            refine (num5_any _ _).mono ?_
            rintro e w9 ⟨rfl, hw9⟩
            have hw9' := hw9.symm
            subst hw9'
            clear hw9
            go_wp2
            go_ret
            exact ⟨rfl, HB12.out⟩
    have zk : (k : Int) < (N : Int) := by omega
    have zk0 : (0 : Int) ≤ (k : Int) := by omega
    have hdk := dig_size (n := k) (by omega)
    have HRB : Hid (∀ j, ownB a j = true → w2.heap.size + 1 ≤ j ∧ j < wr.heap.size) := fun j hj => by
      obtain ⟨ys, -, -, hown0, -⟩ := HROW.out.go
      exact ownsX_lt hown0 hj
    have HLK : Hid (((List.range k).map fun i => (ctrB i, natT)).length = k) := by unfold Hid; simp
    have HTKC : Hid (((List.range (k + 1)).map fun i => (ctrB i, natT)) = ((List.range k).map fun i => (ctrB i, natT)) ++ [(ctrB k, natT)]) := by unfold Hid; rw [List.range_succ, List.map_append]; rfl
    have HCEL : Hid (∀ W : World, W.heap[w2.heap.size]? = wr.heap[w2.heap.size]? → W.cell? ⟨w2.heap.size, 16, none⟩ = some (.slice a k cap)) := fun W h => by
      obtain ⟨-, -, -, -, -, -, -, -, -, -, -, -, -, -, -, -, x16, -⟩ := cells17 (h.trans HXR.out)
      exact x16
    have HCC : Hid (∀ W : World, Calls Try.prog 7 #[.string natB, .slice none 0 0] W fun e w' => ∃ v, e = .returned v ∧ TV w' v natT ∧ RowKit.Below W.heap.size W w') := fun W => Const_any natB W
    obtain ⟨i0, hi, iz0, iz1, iz2⟩ := info_parts infoC2
    go_wp2_with fail
    refine wp_region_late (S := fun w' => w'.cell? ⟨w2.heap.size, 16, none⟩ = some (.slice a k cap)) (fun i => i == 10) mx ?_ (fun hHeld => ?_)
    · (try dsimp only)
      exact HCEL.out _ rfl
    refine wpAnyM_takeE (i := 0) (v := .pointer (some ⟨w2.heap.size, 16, none⟩)) (d := some 47) rfl (by kernel_rfl) (by kernel_rfl) (by kernel_rfl) (by kernel_rfl) (by kernel_rfl) (fun _ _ _ h => h) (Or.inl ⟨by kernel_rfl, fun w hSw => by go_simp⟩) (by assumption) ?_
    refine wpAnyM_takeE (i := 1) (v := .slice a k cap) (d := some 48) rfl (by kernel_rfl) (by kernel_rfl) (by kernel_rfl) (by kernel_rfl) (by kernel_rfl) (fun _ _ _ h => h) (Or.inl ⟨by kernel_rfl, fun w hSw => by go_simp⟩) (by assumption) ?_
    refine wpAnyM_takeE (i := 2) (v := .int .i64 k) (d := some 49) rfl (by kernel_rfl) (by kernel_rfl) (by kernel_rfl) (by kernel_rfl) (by kernel_rfl) (fun _ _ _ h => h) (Or.inl ⟨by kernel_rfl, fun _ _ => by kernel_rfl⟩) (by assumption) ?_
    refine wpAnyM_takeC (i := 3) (v := .string (digB k)) (d := some 50) rfl (by kernel_rfl) (by kernel_rfl) (by kernel_rfl) (by kernel_rfl) (by kernel_rfl) (fun _ _ _ h => h) ⟨by kernel_rfl, fun w _ => ⟨6, #[.int .i64 k], by kernel_rfl, digits_any k (by omega) w⟩⟩ (by assumption) ?_
    refine wpAnyM_takeE (i := 4) (v := .string (ctrB k)) (d := some 51) rfl (by kernel_rfl) (by kernel_rfl) (by kernel_rfl) (by kernel_rfl) (by kernel_rfl) (fun _ _ _ h => h) (Or.inl ⟨by kernel_rfl, fun w hSw => by go_simp; rw [if_neg (by omega)]; rfl⟩) (by assumption) ?_
    refine wpAnyM_one (i := 5) (by kernel_rfl) ?_
    refine ⟨_, rfl, fun K hK => ?_⟩
    go_simp
    go_at_call 7
    refine (HCC.out _).mono ?_
    rintro e w5 ⟨v', rfl, htv5, hb5⟩
    obtain ⟨m0, m1, m2, m3, m4, m5, m6, m7, m8, m9, rfl⟩ := htv5.shapeT
    have HB5 : Hid (RowKit.Below wr.heap.size wr w5) := (Below.refl _ wr).drew.trans hb5
    have hs5 := HB5.out.size
    have hEC : EC w5 (fun _ => true) [.string (ctrB k), .int .i64 m0, .int .i64 m1, .bool m2, .string m3, .slice m4 m5 m6, .slice m7 m8 m9] (ctrB k, natT) := ⟨m0, m1, m2, m3, m4, m5, m6, m7, m8, m9, rfl, TV.leafAny htv5, sm_leafs.1, by have := ctr_size (n := k) (by omega); show (ctrB k).size ≤ _; omega⟩
    have hrw5 : RowX 34 7 EC w5 (w2.heap.size + 1) (fun j => decide (j ≤ w2.heap.size)) a cap ((List.range k).map fun i => (ctrB i, natT)) := HROW.out.move EC.moves (fun k hk => by simp; omega) hs5 fun k h1 _ => HB5.out.block k h1
    obtain ⟨xs8, hown8, hpush8⟩ := hrw5.add EC.moves (fun k hk => by simp; omega) (zs := [.string (ctrB k), .int .i64 m0, .int .i64 m1, .bool m2, .string m3, .slice m4 m5 m6, .slice m7 m8 m9]) rfl hEC (fun k h1 h2 => by cases h2)
    rw [HLK.out] at hown8 hpush8
    have HOWN8 := Hid.mk hown8
    have HPUSH := Hid.mk hpush8
    have HNEWS : Hid (∀ (j : Nat) (u : Value), ([.string (ctrB k), .int .i64 m0, .int .i64 m1, .bool m2, .string m3, .slice m4 m5 m6, .slice m7 m8 m9] : List Value)[j]? = some u → (w5.alloc (.cells ([.string (ctrB k), .int .i64 m0, .int .i64 m1, .bool m2, .string m3, .slice m4 m5 m6, .slice m7 m8 m9] : List Value).toArray 34)).cell? ((⟨w5.heap.size, 0, none⟩ : Addr).add j) = some u) := World.news_of_block (cs := ([.string (ctrB k), .int .i64 m0, .int .i64 m1, .bool m2, .string m3, .slice m4 m5 m6, .slice m7 m8 m9] : List Value).toArray) (t := 34) (fr := (0, 0)) (alloc_new w5 (.cells ([.string (ctrB k), .int .i64 m0, .int .i64 m1, .bool m2, .string m3, .slice m4 m5 m6, .slice m7 m8 m9] : List Value).toArray 34))
    clear htv5 hb5 hEC hrw5 hown8 hpush8
    refine hK.out _ _ (fun _ => ?_) (fun hHeld => ?_)
    · (try dsimp only)
      exact HCEL.out _ (HB5.out.block _ (by omega))
    replace hHeld := hHeld rfl
    clear hK K
    refine wpAnyM_takeE (i := 6) (v := .agg #[.string (ctrB k), .int .i64 m0, .int .i64 m1, .bool m2, .string m3, .slice m4 m5 m6, .slice m7 m8 m9]) (d := some 53) rfl (by kernel_rfl) (by kernel_rfl) (by kernel_rfl) (by kernel_rfl) (by kernel_rfl) (fun _ _ _ h => h) (Or.inl ⟨by kernel_rfl, fun w hSw => by go_simp⟩) (by assumption) ?_
    refine wpAnyM_one (i := 7) (by kernel_rfl) ?_
    refine ⟨_, rfl, fun K hK => ?_⟩
    go_simp
    refine hK.out _ _ (fun _ => ?_) (fun hHeld => ?_)
    · (try dsimp only)
      exact HCEL.out _ ((Below.heap_alloc _ _ _ (by omega)).trans (HB5.out.block _ (by omega)))
    clear hK K
    refine wpAnyM_one (i := 8) (by kernel_rfl) ?_
    refine ⟨_, rfl, fun K hK => ?_⟩
    refine step_append_lies _ (by rfl) _ _ _ (by rfl) (w2.heap.size + 1) 34 i0 _ 7 104 Try.underlying27 hi iz0 iz1 iz2 rfl (by decide) (.slice a k cap) k xs8 (by kernel_rfl) HOWN8.out ⟨w5.heap.size, 0, none⟩ 1 1 [.string (ctrB k), .int .i64 m0, .int .i64 m1, .bool m2, .string m3, .slice m4 m5 m6, .slice m7 m8 m9] (by kernel_rfl) (by rfl) HNEWS.out (by simp [Value.oneCell']) (by omega) (by simp [maxLen]; omega) (by omega) (by simp; omega) (w5.heap.size + 1) (by simp) ?_
    intro g7 c7 W7 hown7 hgr7 hat7 hlt7
    obtain ⟨hrow7, hk7⟩ := HPUSH.out g7 c7 W7 hown7 hgr7 (by simpa using hat7)
    have HROW7 := Hid.mk hrow7
    have HK7 : Hid (∀ j, j ≤ w2.heap.size → W7.heap[j]? = wr.heap[j]?) := fun j hj => (hk7.block j (by omega) (fun ho => by have := (HRB.out j ho).1; omega)).trans (HB5.out.block j (by omega))
    have HO7 : Hid (W7.os = wr.os ∧ W7.tape = wr.tape ∧ W7.output = wr.output) := ⟨hk7.os.trans HB5.out.os, hk7.tape.trans HB5.out.tape, hk7.output.trans HB5.out.output⟩
    have hs7 := hk7.size
    have hX7 := (HK7.out w2.heap.size (Nat.le_refl _)).trans HXR.out
    have HX7 := Hid.mk hX7
    obtain ⟨-, -, -, -, -, -, -, -, -, -, -, -, -, -, -, -, x16, x17⟩ := cells17 hX7
    have xz : ∀ o, W7.frozen? ⟨w2.heap.size, o, none⟩ = false := fun o => by simp [World.frozen?, hX7]
    clear hown7 hgr7 hat7 hrow7 hk7 hX7 hlt7
    refine hK.out _ _ (fun _ => ?_) (fun hHeld => ?_)
    · (try dsimp only)
      exact HCEL.out _ (HK7.out w2.heap.size (Nat.le_refl _))
    clear hK K
    refine wpAnyM_one (i := 9) (by kernel_rfl) ?_
    refine ⟨_, rfl, fun K hK => ?_⟩
    go_simp
    refine hK.out _ _ (fun _ => ?_) (fun hHeld => ?_)
    · (try dsimp only)
      exact HCEL.out _ (HK7.out w2.heap.size (Nat.le_refl _))
    clear hK K
    refine wpAnyM_one (i := 10) (by kernel_rfl) ?_
    refine ⟨_, rfl, fun K hK => ?_⟩
    go_simp
    refine hK.out _ _ (fun h => by cases h) (fun _ => ?_)
    clear hK K
    refine wpAnyM_done (by kernel_rfl) ?_ _
    go_wp2
    have hz := sets_heap w2.heap.size [.slice (some ⟨g7, 0, none⟩) (k + 1) c7] 16 W7
    refine ⟨⟨k + 1, some ⟨g7, 0, none⟩, c7, hlt, by go_num, sets_blk [.slice (some ⟨g7, 0, none⟩) (k + 1) c7] 16 _ _ HX7.out, ?_, ?_⟩, by simp [intOf]; omega⟩
    · rw [HTKC.out]
      exact HROW7.out.move EC.moves (fun k hk => by simp; omega) (Nat.le_of_eq hz.1.symm) (fun k h1 h2 => hz.2 k (by simp at h2; omega))
    · refine HBR.out.trans (Below.setCell (B := w2.heap.size) (p := ⟨w2.heap.size, 16, none⟩) ?_ (Nat.le_refl w2.heap.size) _)
      exact ⟨HO7.out.1, HO7.out.2.1, HO7.out.2.2, by omega, fun j hj => HK7.out j (by omega)⟩

end Go.Proofs.Ytmmbnimehmfadaa
