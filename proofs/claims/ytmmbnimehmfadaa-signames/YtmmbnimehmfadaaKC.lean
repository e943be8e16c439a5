/- The contracts of the writer's written, and of bytes.Term. -/
import Derived.Test.YtmmbnimehmfadaaED
import Derived.Test.YtmmbnimehmfadaaKB
namespace Go.Proofs.Ytmmbnimehmfadaa
open Go.RowKit Go.Sort

/-- bytes in memory of the call's own and no error, or nil and an error -/
def AnsB (B : Nat) (e : Ending) (w' : World) : Except Int (List UInt8) → Prop
  | .ok bs => ∃ v, e = .returned (.tuple #[v, .int .i64 0]) ∧ OY B w' v bs
  | .error c => c ≠ 0 ∧ e = .returned (.tuple #[.slice none 0 0, .int .i64 c])

set_option maxRecDepth 100000 in
set_option maxHeartbeats 4000000 in
theorem written_any (B wb : Nat) (tot : List UInt8) (w : World) (hW : WR w B wb tot) : Calls Try.prog 30 #[.pointer (some ⟨wb, 0, none⟩)] w fun e w' => AnsB B e w' (if 1000000 < tot.length then .error 2 else .ok tot) ∧ w' = w := by
  obtain ⟨hBw, out, tm, bs, hh, hO, hnb, hst⟩ := hW
  obtain ⟨x0, x1, -, -, x4⟩ := cells2 hh
  obtain ⟨oa, oc, rfl, hbl, hoc, hom, hon, hog⟩ := hO.shape
  have HO := Hid.mk hO
  clear hh hO hnb hog hbl hon
  rcases hst with ⟨rfl, rfl, hl⟩ | ⟨rfl, hl, -⟩
  · rw [if_neg (by omega)]
    go_enter Try.func30, Try.ntmps30
    go_wp2
    go_ret2
    exact ⟨⟨_, rfl, HO.out⟩, rfl⟩
  · rw [if_pos hl]
    go_enter Try.func30, Try.ntmps30
    go_wp2
    go_ret2
    exact ⟨⟨by decide, rfl⟩, rfl⟩

theorem WR.new (w : World) (B : Nat) (hB : B ≤ w.heap.size) : WR (w.alloc (.cells #[.slice none 0 0, .bool false] 78)) B w.heap.size [] :=
  ⟨hB, .slice none 0 0, false, [], alloc_new _ _, OY.nil _ _, by simp [Value.ownBlock], Or.inl ⟨rfl, rfl, by simp⟩⟩

end Go.Proofs.Ytmmbnimehmfadaa

/- The contracts of the writer of package bytes at declarations. -/
namespace Go.Proofs.Ytmmbnimehmfadaa
open Go.RowKit Go.Sort

/-- what is known between two steps of the writer -/
structure WS (w0 W0 : World) (wb : Nat) (tot : List UInt8) (w1 : World) : Prop where
  wr : WR w1 w0.heap.size wb tot
  wt : Wrote wb W0 w1
  below : RowKit.Below w0.heap.size w0 w1

theorem WS.next {w0 W0 w1 w2 : World} {wb : Nat} {tot news : List UInt8} {e : Ending} (h : WS w0 W0 wb tot w1) (hp : WrPost w0.heap.size wb tot news w1 e w2) : WS w0 W0 wb (tot ++ news) w2 :=
  ⟨hp.2.1, h.wt.trans hp.2.2, h.below.trans (hp.2.2.toBelow h.wr h.below.size)⟩

set_option maxRecDepth 100000 in
set_option maxHeartbeats 8000000 in
theorem decl_any (w0 : World) (wb : Nat) (tot : List UInt8) (d : Dl) (v : Value) (w : World) (hb0 : RowKit.Below w0.heap.size w0 w) (hW : WR w w0.heap.size wb tot) (hv : DV w0 v d) (hok : okD d) : Calls Try.prog 39 #[.pointer (some ⟨wb, 0, none⟩), v] w (WrPost w0.heap.size wb tot (encD d) w) := by
  obtain ⟨kd, nm, lv, ty, val, pr, cs⟩ := d
  obtain ⟨t0, t1, t2, t3, t4, t5, t6, t7, t8, t9, v0, v1, v2, v3, v4, v5, v6, v7, v8, v9, ca, cc, rfl, htt, htv, hck⟩ := hv.go
  obtain ⟨hk, hnm, hlv, hty, hval, hfam⟩ := hok
  simp only at htt htv hck hk hnm hlv hty hval hfam ⊢
  have hlw := hW.lt
  obtain ⟨W0, hW0⟩ : ∃ W0, w.alloc (.cells #[.int .i64 kd, .string nm, .int .i64 lv, .int .i64 t0, .int .i64 t1, .bool t2, .string t3, .slice t4 t5 t6, .slice t7 t8 t9, .int .i64 v0, .int .i64 v1, .bool v2, .string v3, .slice v4 v5 v6, .slice v7 v8 v9, .int .i64 pr, .slice ca cs.length cc] 29) = W0 := ⟨_, rfl⟩
  have hb : RowKit.Below w.heap.size w W0 := by rw [← hW0]; exact (Below.refl _ _).alloc (Nat.le_refl _) _
  have HBX : Hid (∀ w', Wrote wb W0 w' → w'.heap[w.heap.size]? = some (.cells #[.int .i64 kd, .string nm, .int .i64 lv, .int .i64 t0, .int .i64 t1, .bool t2, .string t3, .slice t4 t5 t6, .slice t7 t8 t9, .int .i64 v0, .int .i64 v1, .bool v2, .string v3, .slice v4 v5 v6, .slice v7 v8 v9, .int .i64 pr, .slice ca cs.length cc] 29 (0, 0))) := fun w' h => h.box hW hb (by rw [← hW0]; exact alloc_new _ _) (Nat.le_refl _)
  have HWA : Hid (Wrote wb w W0) := Wrote.below hb hlw
  have HS0 : Hid (WS w0 W0 wb tot W0) := ⟨hW.on hb, Wrote.refl _ _, hb0.trans (hb.mono hb0.size)⟩
  have HTT := Hid.mk htt
  have HTV := Hid.mk htv
  have HCK := Hid.mk hck
  have HTY := wterm_any w0 wb ty hty.1 hty.2
  have HFAM := Hid.mk hfam
  have HVAL := Hid.mk hval
  have HW0 := Hid.mk hW0
  have zk : ((kd.toNat : Nat) : Int) = kd := by omega
  have zl : ((lv.toNat : Nat) : Int) = lv := by omega
  obtain ⟨hn1, hn2⟩ := hnm
  have HZK := Hid.mk zk
  have HZL := Hid.mk zl
  clear hW hb0 hb htt htv hck hty hfam hval hv hW0
  have HC0 := number_any w0.heap.size wb tot kd.toNat W0 HS0.out.wr HS0.out.below.size (by omega)
  rw [zk] at HC0
  obtain ⟨q0, q1, q2, q3, q4, q5, q6, q7, q8, q9, q10, q11, q12, q13, q14, q15, q16, q17⟩ := cells17 (HBX.out W0 HS0.out.wt)
  clear zk zl
  go_enter Try.func39, Try.ntmps39
  go_wp2_with fail
  rw [HW0.out]
  refine HC0.mono ?_
  rintro e w1 hp0
  have HS1 := Hid.mk (HS0.out.next hp0)
  obtain ⟨rfl, -⟩ := hp0
  clear HC0 q0 q1 q2 q3 q4 q5 q6 q7 q8 q9 q10 q11 q12 q13 q14 q15 q16 q17
  have HC1 := name_any w0.heap.size wb _ nm w1 HS1.out.wr HS1.out.below.size hn1 (by omega)
  obtain ⟨q0, q1, q2, q3, q4, q5, q6, q7, q8, q9, q10, q11, q12, q13, q14, q15, q16, q17⟩ := cells17 (HBX.out w1 HS1.out.wt)
  go_wp2_with fail
  refine HC1.mono ?_
  rintro e w2 hp1
  have HS2 := Hid.mk (HS1.out.next hp1)
  obtain ⟨rfl, -⟩ := hp1
  clear HC1 q0 q1 q2 q3 q4 q5 q6 q7 q8 q9 q10 q11 q12 q13 q14 q15 q16 q17
  have HC2 := number_any w0.heap.size wb _ lv.toNat w2 HS2.out.wr HS2.out.below.size (by omega)
  rw [HZL.out] at HC2
  obtain ⟨q0, q1, q2, q3, q4, q5, q6, q7, q8, q9, q10, q11, q12, q13, q14, q15, q16, q17⟩ := cells17 (HBX.out w2 HS2.out.wt)
  go_wp2_with fail
  refine HC2.mono ?_
  rintro e w3 hp2
  have HS3 := Hid.mk (HS2.out.next hp2)
  obtain ⟨rfl, -⟩ := hp2
  clear HC2 q0 q1 q2 q3 q4 q5 q6 q7 q8 q9 q10 q11 q12 q13 q14 q15 q16 q17
  have HC3 := HTY _ _ w3 HTT.out HS3.out.below HS3.out.wr
  obtain ⟨q0, q1, q2, q3, q4, q5, q6, q7, q8, q9, q10, q11, q12, q13, q14, q15, q16, q17⟩ := cells17 (HBX.out w3 HS3.out.wt)
  go_wp2_with fail
  refine HC3.mono ?_
  rintro e w4 hp3
  have HS4 := Hid.mk (HS3.out.next hp3)
  obtain ⟨rfl, -⟩ := hp3
  clear HC3 q0 q1 q2 q3 q4 q5 q6 q7 q8 q9 q10 q11 q12 q13 q14 q15 q16 q17
  obtain ⟨q0, q1, q2, q3, q4, q5, q6, q7, q8, q9, q10, q11, q12, q13, q14, q15, q16, q17⟩ := cells17 (HBX.out w4 HS4.out.wt)
  by_cases h2 : kd = 2
  · subst h2
    obtain ⟨h3, h4⟩ := HVAL.out rfl
    have HC4 := wterm_any w0 wb val h3 h4 _ _ w4 HTV.out HS4.out.below HS4.out.wr
    clear h3 h4
    go_wp2_with fail
    refine HC4.mono ?_
    rintro e w5 hp4
    have HS5 := Hid.mk (HS4.out.next hp4)
    obtain ⟨rfl, -⟩ := hp4
    clear HC4
    go_wp2
    go_end0
    refine ⟨rfl, ?_, HWA.out.trans HS5.out.wt⟩
    have := HS5.out.wr
    simpa [encD, encF] using this
  · by_cases h3 : kd = 3
    · subst h3
      obtain ⟨hp0, hp1, hcl, hcs⟩ := HFAM.out rfl
      have HCS := Hid.mk hcs
      have HC4 := number_any w0.heap.size wb _ pr.toNat w4 HS4.out.wr HS4.out.below.size (by omega)
      rw [show ((pr.toNat : Nat) : Int) = pr by omega] at HC4
      clear hcs
      go_wp2_with fail
      refine HC4.mono ?_
      rintro e w5 hp4
      have HS5 := Hid.mk (HS4.out.next hp4)
      obtain ⟨rfl, -⟩ := hp4
      clear HC4 q0 q1 q2 q3 q4 q5 q6 q7 q8 q9 q10 q11 q12 q13 q14 q15 q16 q17
      obtain ⟨q0, q1, q2, q3, q4, q5, q6, q7, q8, q9, q10, q11, q12, q13, q14, q15, q16, q17⟩ := cells17 (HBX.out w5 HS5.out.wt)
      have HC5 := number_any w0.heap.size wb _ cs.length w5 HS5.out.wr HS5.out.below.size (by omega)
      go_wp2_with fail
      refine HC5.mono ?_
      rintro e w6 hp5
      have HS6 := Hid.mk (HS5.out.next hp5)
      obtain ⟨rfl, -⟩ := hp5
      clear HC5 q0 q1 q2 q3 q4 q5 q6 q7 q8 q9 q10 q11 q12 q13 q14 q15 q16 q17
      obtain ⟨q0, q1, q2, q3, q4, q5, q6, q7, q8, q9, q10, q11, q12, q13, q14, q15, q16, q17⟩ := cells17 (HBX.out w6 HS6.out.wt)
      have HC6 := eachC_any w0 wb _ cs ca cc w6 HS6.out.below HS6.out.wr HCK.out (by omega) HCS.out
      go_wp2_with fail
      refine HC6.mono ?_
      rintro e w7 hp6
      have HS7 := Hid.mk (HS6.out.next hp6)
      obtain ⟨rfl, -⟩ := hp6
      clear HC6 q0 q1 q2 q3 q4 q5 q6 q7 q8 q9 q10 q11 q12 q13 q14 q15 q16 q17
      go_wp2
      go_end0
      refine ⟨rfl, ?_, HWA.out.trans HS7.out.wt⟩
      have := HS7.out.wr
      simpa [encD, encF] using this
    · go_wp2
      go_end0
      refine ⟨rfl, ?_, HWA.out.trans HS4.out.wt⟩
      have := HS4.out.wr
      simpa [encD, encF, h2, h3] using this

theorem wpList_store_new {P : Program} {ops : Array Oper} {rest : List Oper} {op : Oper} {a : Act} {w : World} {Q : Exit → Act → World → Prop} (hgd : op.guard = none) (ty : TypeId) (x y : Operand) (ho : op.op = .store ty x y) {c c' : Array Value} (hx : a.eval x = .pointer (some ⟨w.heap.size, 0, none⟩)) (hy : a.eval y = .agg c')
    (hi : (P.info? ty).map (·.size) = some c'.size) (hs : c.size = c'.size) (h1 : c'.all (·.oneCell') = true)
    (h : wpList P ops Q rest (a.put op.dst undef) (w.alloc (.cells c' ty))) : wpList P ops Q (op :: rest) a (w.alloc (.cells c ty)) :=
  wpList_plain hgd fun _ hK => by
    unfold Oper.wp execOp
    simp only [ho, hx, hy, Sem.run_bind, Sem.run_pure, run_storeAt_new w ty c c' hi hs h1, Result.andThen_ok]
    exact hK _ _ h

set_option maxRecDepth 100000 in
set_option maxHeartbeats 8000000 in
theorem eachD_any (w0 : World) (wb : Nat) (tot : List UInt8) (ds : List Dl) (a : Option Addr) (cap : Nat) (w : World) (hb0 : RowKit.Below w0.heap.size w0 w) (hW : WR w w0.heap.size wb tot) (hS : DL w0 a ds) (hn : ds.length ≤ 1000000) (hr : ∀ d ∈ ds, okD d) : Calls Try.prog 38 #[.slice a ds.length cap, .func (.func 39) #[.pointer (some ⟨wb, 0, none⟩)] #[]] w (WrPost w0.heap.size wb tot (ds.flatMap encD) w) := by
  have HB0 := Hid.mk hb0
  have HW := Hid.mk hW
  have HS := Hid.mk hS
  have HR := Hid.mk hr
  clear hb0 hW hS hr
  go_enter Try.func38, Try.ntmps38
  go_wp2
  go_loopw [8] (fun i wr => ∃ k : Nat, k ≤ ds.length ∧ i = .int .i64 k ∧ WR wr w0.heap.size wb (tot ++ (ds.take k).flatMap encD) ∧ Wrote wb w wr) (fun i _ => ds.length - (intOf i).toNat)
  case atStart => exact ⟨0, Nat.zero_le _, rfl, by simpa using HW.out, Wrote.refl _ _⟩
  case round =>
    obtain ⟨k, hk, rfl, hWr, hwr⟩ := hrel
    have HWR := Hid.mk hWr
    have HWT := Hid.mk hwr
    have HBR : Hid (RowKit.Below w0.heap.size w0 wr) := HB0.out.trans (hwr.toBelow HW.out HB0.out.size)
    clear hWr hwr
    by_cases hlt : k < ds.length
    · obtain ⟨cb, co, rfl, hcb0, hcs⟩ := HS.out.resolve_left (by intro e; rw [e] at hlt; simp at hlt)
      have hok := HR.out _ (List.getElem_mem hlt)
      have hdc := (hcs k _ (List.getElem?_eq_getElem hlt)).on HBR.out hcb0
      have hd0 := hcs k _ (List.getElem?_eq_getElem hlt)
      have hbl : cb < wr.heap.size := Nat.lt_of_lt_of_le hcb0 HBR.out.size
      have HTK : Hid ((ds.take (k + 1)).flatMap encD = (ds.take k).flatMap encD ++ encD ds[k]) := flatMap_take (List.getElem?_eq_getElem hlt)
      generalize ds[k] = kk at *
      obtain ⟨vs, hvl, hrg, hone, hdv⟩ := hd0.go
      have hrw : wr.rangeAt cb (co + k * 17) vs := fun j v hj => (HBR.out.cell (p := ⟨cb, co + k * 17 + j, none⟩) hcb0).trans (hrg j v hj)
      have HRG := Hid.mk hrw
      have HRB : Hid ((wr.alloc (.cells vs.toArray 29)).rangeAt wr.heap.size 0 vs) := fun j v hj => by rw [cell_of_row _ wr.heap.size (0 + j) _ _ _ (alloc_new wr _), Nat.zero_add]; simpa using hj
      have HSZ : Hid ((Try.prog.info? 29).map (·.size) = some vs.length) := by unfold Hid; rw [hvl]; kernel_rfl
      have HSA : Hid ((Try.prog.info? 29).map (·.size) = some vs.toArray.size) := by unfold Hid; rw [List.size_toArray, hvl]; kernel_rfl
      have HONE : Hid (vs.toArray.all (·.oneCell') = true) := all_oneCell_toArray hone
      have HS17 : Hid (17 = vs.toArray.size) := by unfold Hid; rw [List.size_toArray, hvl]
      have HC := decl_any w0 wb (tot ++ (ds.take k).flatMap encD) kk _ (wr.alloc (.cells vs.toArray 29)) (HBR.out.alloc HBR.out.size _) (HWR.out.on ((Below.refl _ _).alloc (Nat.le_refl _) _)) hdv hok
      have HWA : Hid (Wrote wb wr (wr.alloc (.cells vs.toArray 29))) := Wrote.below ((Below.refl _ _).alloc (Nat.le_refl _) _) HWR.out.lt
      clear hdv hdc hd0 hcs hok hrg hrw hone hvl
      generalize encD kk = EN at *
      go_wp2_with (first | (refine wpList_load_mid rfl 29 _ rfl cb (co + k * 17) rfl vs _ HRG.out Try.underlying29 rfl HSZ.out ?_) | (refine wpList_load_mid rfl 29 _ rfl wr.heap.size 0 rfl vs _ HRB.out Try.underlying29 rfl HSZ.out ?_) | (refine wpList_store_new rfl 29 _ _ rfl rfl rfl HSA.out (by exact HS17.out) HONE.out ?_))
      refine HC.mono ?_
      rintro e w2 ⟨rfl, hW2, hw2⟩
      have HR2 : Hid (WR w2 w0.heap.size wb (tot ++ (ds.take (k + 1)).flatMap encD) ∧ Wrote wb w w2) := ⟨by rw [HTK.out, ← List.append_assoc]; exact hW2, HWT.out.trans (HWA.out.trans hw2)⟩
      clear hW2 hw2 HC HWA
      go_wp2
      refine ⟨⟨k + 1, hlt, by go_num, HR2.out.1, HR2.out.2⟩, by simp [intOf]; omega⟩
    · obtain rfl : k = ds.length := by omega
      go_wp2
      go_end0
      exact ⟨rfl, by have := HWR.out; rwa [List.take_length] at this, HWT.out⟩

set_option maxRecDepth 100000 in
set_option maxHeartbeats 4000000 in
theorem decls_any (w0 : World) (wb : Nat) (tot : List UInt8) (ds : List Dl) (a : Option Addr) (cap : Nat) (w : World) (hb0 : RowKit.Below w0.heap.size w0 w) (hW : WR w w0.heap.size wb tot) (hS : DL w0 a ds) (hn : ds.length ≤ 1000000) (hr : ∀ d ∈ ds, okD d) : Calls Try.prog 29 #[.pointer (some ⟨wb, 0, none⟩), .slice a ds.length cap] w (WrPost w0.heap.size wb tot (encDs ds) w) := by
  have HS0 : Hid (WS w0 w wb tot w) := ⟨hW, Wrote.refl _ _, hb0⟩
  have HC0 := number_any w0.heap.size wb tot ds.length w hW hb0.size (by omega)
  have HEA := fun (W : World) (tt : List UInt8) (h : WS w0 w wb tt W) => eachD_any w0 wb tt ds a cap W h.below h.wr hS hn hr
  clear hb0 hW hS hr
  go_enter Try.func29, Try.ntmps29
  go_wp2_with fail
  refine HC0.mono ?_
  rintro e w1 hp0
  have HS1 := Hid.mk (HS0.out.next hp0)
  obtain ⟨rfl, -⟩ := hp0
  have HC1 := HEA w1 _ HS1.out
  clear HC0 HEA
  go_wp2_with fail
  refine HC1.mono ?_
  rintro e w2 hp1
  have HS2 := Hid.mk (HS1.out.next hp1)
  obtain ⟨rfl, -⟩ := hp1
  clear HC1
  go_wp2
  go_end0
  refine ⟨rfl, ?_, HS2.out.wt⟩
  have := HS2.out.wr
  simpa [encDs] using this
end Go.Proofs.Ytmmbnimehmfadaa
