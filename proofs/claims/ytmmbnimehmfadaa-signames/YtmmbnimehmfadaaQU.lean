/- The contract of telamonlaw5.alive: the document's example of chapter 5. -/
import Derived.Test.YtmmbnimehmfadaaQT
namespace Go.Proofs.Ytmmbnimehmfadaa
open Go.RowKit Go.Sort Go.Lib

/-- a declaration of the first kind in memory -/
theorem ax_dv {w : World} {s : ByteArray} {t0 t1 t2 t3 t4 t5 t6 t7 t8 t9 : _} (ht : TV w (.agg #[.int .i64 t0, .int .i64 t1, .bool t2, .string t3, .slice t4 t5 t6, .slice t7 t8 t9]) setT) : DV w (.agg #[.int .i64 1, .string s, .int .i64 0, .int .i64 t0, .int .i64 t1, .bool t2, .string t3, .slice t4 t5 t6, .slice t7 t8 t9, .int .i64 0, .int .i64 0, .bool false, .string { data := #[] }, .slice none 0 0, .slice none 0 0, .int .i64 0, .slice none 0 0]) (axD s) :=
  ⟨t0, t1, t2, t3, t4, t5, t6, t7, t8, t9, 0, 0, false, { data := #[] }, none, 0, 0, none, 0, 0, none, 0, rfl, ht, TV.leaf _ _ _ _, Or.inl rfl⟩

theorem getRes_at {ds : List Dl} {s : ByteArray} {k : Nat} {q : Int} {d : Dl} (h : tabM ds s = some ((k : Int), q)) (hd : ds[k]? = some d) : getRes ds s = (d, q) := by
  unfold getRes
  rw [h]
  simp [List.getD, hd]

set_option maxRecDepth 100000 in
set_option maxHeartbeats 8000000 in
theorem alive5_any (w : World) : Calls Try.prog 4 #[] w fun e w' => e = .returned (.bool true) ∧ RowKit.Below w.heap.size w w' := by
  have HC1 := New_any w
  go_enter Try.func4, Try.ntmps4
  go_wp2_with fail
  refine HC1.mono ?_
  rintro e w1 ⟨rfl, hS1, hb1⟩
  have HC2 := Nat5_any w1
  have HS1 := Hid.mk hS1
  have HB1 := Hid.mk hb1
  have hl1 := hS1.lt
  have hs1 := hb1.size
  clear hS1 hb1 HC1
  go_wp2_with fail
  refine HC2.mono ?_
  rintro e w2 ⟨zs, -, -, rfl, hd2, hb2⟩
  have HC3 := Put_any [] w.heap.size natD _ w2 (HS1.out.on hb2) hd2 sm_nat
  rw [put_nat, if_pos rfl, clean_nat, List.nil_append] at HC3
  have HB2 : Hid (RowKit.Below w.heap.size w w2) := HB1.out.trans (hb2.mono hs1)
  have hs2 := hb2.size
  clear hd2 hb2 HC2
  go_wp2_with fail
  refine HC3.mono ?_
  rintro e w3 ⟨rfl, hS3, hb3, -⟩
  have HC4 := Get_any [natD] w.heap.size sucB w3 hS3 (by decide)
  rw [getRes_at (k := 0) (q := 6) (d := natD) get_suc rfl] at HC4
  have HS3 := Hid.mk hS3
  have HB3 : Hid (RowKit.Below w.heap.size w w3) := HB2.out.trans hb3
  have hs3 := hb3.size
  clear hS3 hb3 HC3
  go_wp2_with fail
  refine HC4.mono ?_
  rintro e w4 ⟨ys, rfl, hE4, hb4⟩
  obtain ⟨t0, t1, t2, t3, t4, t5, t6, t7, t8, t9, v0, v1, v2, v3, v4, v5, v6, v7, v8, v9, ca, cc, hz, -, -, -⟩ := hE4.val.go
  rw [hz]
  have hs4 := hb4.size
  obtain ⟨W5, hW5⟩ : ∃ W5, w4.alloc (.cells #[.int .i64 natD.kind, .string natD.name, .int .i64 natD.levels, .int .i64 t0, .int .i64 t1, .bool t2, .string t3, .slice t4 t5 t6, .slice t7 t8 t9, .int .i64 v0, .int .i64 v1, .bool v2, .string v3, .slice v4 v5 v6, .slice v7 v8 v9, .int .i64 natD.params, .slice ca natD.ctors.length cc] 29) = W5 := ⟨_, rfl⟩
  have hb5 : RowKit.Below w4.heap.size w4 W5 := by rw [← hW5]; exact (Below.refl _ _).alloc (Nat.le_refl _) _
  have HX5 : Hid (W5.heap[w4.heap.size]? = some (.cells #[.int .i64 natD.kind, .string natD.name, .int .i64 natD.levels, .int .i64 t0, .int .i64 t1, .bool t2, .string t3, .slice t4 t5 t6, .slice t7 t8 t9, .int .i64 v0, .int .i64 v1, .bool v2, .string v3, .slice v4 v5 v6, .slice v7 v8 v9, .int .i64 natD.params, .slice ca natD.ctors.length cc] 29 (0, 0))) := by unfold Hid; rw [← hW5]; exact alloc_new _ _
  have HSA : Hid ((Try.prog.info? 29).map (·.size) = some (#[.int .i64 natD.kind, .string natD.name, .int .i64 natD.levels, .int .i64 t0, .int .i64 t1, .bool t2, .string t3, .slice t4 t5 t6, .slice t7 t8 t9, .int .i64 v0, .int .i64 v1, .bool v2, .string v3, .slice v4 v5 v6, .slice v7 v8 v9, .int .i64 natD.params, .slice ca natD.ctors.length cc] : Array Value).size) := by unfold Hid; kernel_rfl
  have HONE : Hid ((#[.int .i64 natD.kind, .string natD.name, .int .i64 natD.levels, .int .i64 t0, .int .i64 t1, .bool t2, .string t3, .slice t4 t5 t6, .slice t7 t8 t9, .int .i64 v0, .int .i64 v1, .bool v2, .string v3, .slice v4 v5 v6, .slice v7 v8 v9, .int .i64 natD.params, .slice ca natD.ctors.length cc] : Array Value).all (·.oneCell') = true) := by unfold Hid; simp [Value.oneCell']
  have HN5 : Hid (NotIn W5 w.heap.size w4.heap.size) := (HS3.out.on hb4).notIn (Nat.le_refl _) hb5
  have HS5 : Hid (SG W5 w.heap.size [natD]) := HS3.out.on (hb4.trans (hb5.mono hs4))
  have HB5 : Hid (RowKit.Below w.heap.size w W5) := HB3.out.trans ((hb4.trans (hb5.mono hs4)).mono (by omega))
  have hs5 := heap_lt HX5.out
  have HC6 := Nat5_any W5
  have HW5 := Hid.mk hW5
  clear hE4 hb4 hb5 hW5 hz HC4
  go_wp2_with (refine wpList_store_new rfl 29 _ _ rfl rfl rfl HSA.out rfl HONE.out ?_; rw [HW5.out])
  refine HC6.mono ?_
  rintro e w6 ⟨us, -, -, rfl, hd6, hb6⟩
  obtain ⟨x0, x1, x2, x3, x4, x5, x6, x7, x8, x9, y0, y1, y2, y3, y4, y5, y6, y7, y8, y9, da, dc, hz, htt, -, -⟩ := hd6.go
  rw [hz]
  have HC7 := Put_any [natD] w.heap.size (axD zeroB) _ w6 (HS5.out.on hb6) (ax_dv htt) (sm_ax (by decide))
  rw [put_zero, if_neg (by decide)] at HC7
  have HN6 : Hid (NotIn w6 w.heap.size w4.heap.size) := HN5.out.keep (hb6.block _ (by omega))
  have HB6 : Hid (RowKit.Below w.heap.size w w6) := HB5.out.trans (hb6.mono (by omega))
  have HX6 : Hid (w6.heap[w4.heap.size]? = some (.cells #[.int .i64 natD.kind, .string natD.name, .int .i64 natD.levels, .int .i64 t0, .int .i64 t1, .bool t2, .string t3, .slice t4 t5 t6, .slice t7 t8 t9, .int .i64 v0, .int .i64 v1, .bool v2, .string v3, .slice v4 v5 v6, .slice v7 v8 v9, .int .i64 natD.params, .slice ca natD.ctors.length cc] 29 (0, 0))) := (hb6.block _ hs5).trans HX5.out
  have hs6 := hb6.size
  clear hd6 hb6 hz htt HC6
  have hfd : ∀ W : World, Sem.run Try.prog (Instr.field 29 (.agg #[.int .i64 natD.kind, .string natD.name, .int .i64 natD.levels, .int .i64 x0, .int .i64 x1, .bool x2, .string x3, .slice x4 x5 x6, .slice x7 x8 x9, .int .i64 y0, .int .i64 y1, .bool y2, .string y3, .slice y4 y5 y6, .slice y7 y8 y9, .int .i64 natD.params, .slice da natD.ctors.length dc]) 3) W = .ok (.agg #[.int .i64 x0, .int .i64 x1, .bool x2, .string x3, .slice x4 x5 x6, .slice x7 x8 x9]) W := fun W => by kernel_rfl
  go_wp2_with fail
  refine HC7.mono ?_
  rintro e w7 ⟨rfl, -, hb7, hN7⟩
  have HB7 : Hid (RowKit.Below w.heap.size w w7) := HB6.out.trans hb7
  have HX7 : Hid (w7.heap[w4.heap.size]? = some (.cells #[.int .i64 natD.kind, .string natD.name, .int .i64 natD.levels, .int .i64 t0, .int .i64 t1, .bool t2, .string t3, .slice t4 t5 t6, .slice t7 t8 t9, .int .i64 v0, .int .i64 v1, .bool v2, .string v3, .slice v4 v5 v6, .slice v7 v8 v9, .int .i64 natD.params, .slice ca natD.ctors.length cc] 29 (0, 0))) := ((hN7 _ (by omega) (HN6.out)).1).trans HX6.out
  have HC8 := Kinds_any w7
  clear HC7 hfd hb7 hN7
  go_wp2_with fail
  refine HC8.mono ?_
  rintro e w9 ⟨rfl, hw9⟩
  have hw9' := hw9.symm
  subst hw9'
  clear hw9 HC8
  obtain ⟨-, q1, -, -, -, -, -, -, -, -, -, -, -, -, -, -, -, q17⟩ := cells17 HX7.out
  have hnm : natD.name = natB := rfl
  rw [hnm] at q1
  have hnb : natB = ⟨#[78, 97, 116]⟩ := rfl
  rw [hnb] at q1
  go_wp2_with fail
  refine (num5_any _ _).mono ?_
  rintro e w9 ⟨rfl, hw9⟩
  have hw9' := hw9.symm
  subst hw9'
  clear hw9
  go_wp2_with fail
  refine (num5_any _ _).mono ?_
  rintro e w9 ⟨rfl, hw9⟩
  have hw9' := hw9.symm
  subst hw9'
  clear hw9
  go_wp2
  go_ret
  exact ⟨rfl, HB7.out⟩
end Go.Proofs.Ytmmbnimehmfadaa
