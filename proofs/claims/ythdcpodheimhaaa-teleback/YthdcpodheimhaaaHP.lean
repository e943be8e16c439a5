/- telamonlaw4.TeleSplit: the walk. -/
import Derived.Test.YthdcpodheimhaaaHO
namespace Go.Proofs.Ythdcpodheimhaaa
open Go.RowKit Go.Sort Go.Shelf Go.Lib

theorem OB1.on {B : Nat} {w w' : World} {v : Value} {hs : List Bool} (h : OB1 B w v hs) (hb : RowKit.Below w.heap.size w w') : OB1 B w' v hs := h.move fun k hk => hb.block k (h.lt hk).2

theorem OB1.at {B : Nat} {w : World} {a : Option Addr} {n cap : Nat} {hs : List Bool} (h : OB1 B w (.slice a n cap) hs) {k : Nat} (hk : k < hs.length) : ∃ g, a = some ⟨g, 0, none⟩ ∧ g < w.heap.size ∧ w.cell? ⟨g, k, none⟩ = some (.bool hs[k]) := by
  unfold OB1 at h
  rcases h.2 with ⟨hv, hn⟩ | ⟨g, cap', cur, hv, hg, hh, -⟩
  · omega
  · simp only [Value.slice.injEq] at hv
    obtain ⟨rfl, rfl, rfl⟩ := hv
    refine ⟨g, rfl, heap_lt hh, ?_⟩
    rw [World.ownsRow.cellAt h k (by omega), List.getElem?_map, List.getElem?_eq_getElem hk]
    rfl

theorem yl_load {P : Program} {ops : Array Oper} {S : World → Prop} {o : Oper} {a : Act} {t : TypeId} {x : Operand} {p v : Value} (hop : o.op = .load t x) (hev : a.eval x = p) (hw : Region.wanted o (yielded ops a.tmps) = true) (h : ∀ w, S w → (Instr.loadAt t p).run P w = .ok v w) : YieldsIf P ops S o v a :=
  Or.inl ⟨hw, fun w hS => by simp [execOp, hop, hev, h w hS, Result.andThen]⟩

attribute [local go_sem] Oper.semAt_some

set_option maxRecDepth 100000 in
set_option maxHeartbeats 20000000 in
theorem split_law (t : Tm) (N : Int) (v : Value) (w : World) (hok : okT t) (hv : TV w v t) (hN : N ≤ 9223372036854775807) : Calls Try.prog 3 #[v, .int .i64 N] w fun e w' => e = .returned (.bool true) ∧ RowKit.Below w.heap.size w w' := by
  have HBT := fun (W : World) (g : RowKit.Below w.heap.size w W) => Big_any t v W hok (hv.on g)
  have HVT := Hid.mk hv
  have mx := mixed
  obtain ⟨a0, a1, a2, a3, a4, a5, a6, a7, a8, a9, rfl⟩ := hv.shapeT
  clear hv hok
  obtain ⟨W0, hW0⟩ : ∃ W0, w.alloc (.cells #[.int .i64 a0, .int .i64 a1, .bool a2, .string a3, .slice a4 a5 a6, .slice a7 a8 a9] 25) = W0 := ⟨_, rfl⟩
  have HB0 : Hid (RowKit.Below w.heap.size w W0) := by unfold Hid; rw [← hW0]; exact (Below.refl _ _).alloc (Nat.le_refl _) _
  have HT0 : Hid (W0.heap[w.heap.size]? = some (.cells #[.int .i64 a0, .int .i64 a1, .bool a2, .string a3, .slice a4 a5 a6, .slice a7 a8 a9] 25 (0, 0))) := by unfold Hid; rw [← hW0]; exact alloc_new _ _
  have HW0 := Hid.mk hW0
  clear hW0
  have HAL := alive4_any W0
  go_enter Try.func3, Try.ntmps3
  go_wp2_with fail
  rw [HW0.out]
  refine HAL.mono ?_
  rintro e w1 ⟨rfl, hb1⟩
  have HB1 : Hid (RowKit.Below w.heap.size w w1) := HB0.out.trans (hb1.mono HB0.out.size)
  have HT1 := Hid.mk ((hb1.block _ (heap_lt HT0.out)).trans HT0.out)
  clear hb1 HAL
  obtain ⟨x0, x1, x2, x3, x4, x5, x6⟩ := cells6 HT1.out
  go_wp2_with fail
  refine (HBT _ HB1.out).mono ?_
  rintro e w2 ⟨⟨q2, rfl, hs2⟩, hg2⟩
  have HB2 : Hid (RowKit.Below w.heap.size w w2) := HB1.out.trans (hg2.below.mono HB1.out.size)
  have HT2 := Hid.mk ((hg2.below.block _ (heap_lt HT1.out)).trans HT1.out)
  clear hg2 x0 x1 x2 x3 x4 x5 x6
  cases q2
  rotate_left
  · go_wp2
    go_ret
    exact ⟨rfl, HB2.out⟩
  have hPt := hs2 rfl
  clear hs2 HBT
  have HC3 := Split_any N t _ w2 (HVT.out.on HB2.out) hPt hN
  have HCK := fun (W : World) (h : RowKit.Below w.heap.size w W) => rCheck_any t _ W (HVT.out.on h) hPt
  obtain ⟨x0, x1, x2, x3, x4, x5, x6⟩ := cells6 HT2.out
  go_wp2_with fail
  refine HC3.mono ?_
  rintro e w3 ⟨hb3, hres⟩
  have HB3 : Hid (RowKit.Below w.heap.size w w3) := HB2.out.trans (hb3.mono HB2.out.size)
  have HT3 := Hid.mk ((hb3.block _ (heap_lt HT2.out)).trans HT2.out)
  clear hb3 HC3 x0 x1 x2 x3 x4 x5 x6
  cases hR : (if N < 0 ∨ checkT t ≠ 0 then none else splitT N.toNat t) with
  | none =>
    rw [hR] at hres
    simp only [SpRes] at hres
    subst hres
    obtain ⟨W4, hW4⟩ : ∃ W4, w3.alloc (.cells #[.int .i64 0, .int .i64 0, .bool false, .string { data := #[] }, .slice none 0 0, .slice none 0 0] 25) = W4 := ⟨_, rfl⟩
    have hb4 : RowKit.Below w3.heap.size w3 W4 := by rw [← hW4]; exact (Below.refl _ _).alloc (Nat.le_refl _) _
    have HB4 : Hid (RowKit.Below w.heap.size w W4) := HB3.out.trans (hb4.mono HB3.out.size)
    have HT4 := Hid.mk ((hb4.block _ (heap_lt HT3.out)).trans HT3.out)
    have HZ4 : Hid (W4.heap[w3.heap.size]? = some (.cells #[.int .i64 0, .int .i64 0, .bool false, .string { data := #[] }, .slice none 0 0, .slice none 0 0] 25 (0, 0))) := by unfold Hid; rw [← hW4]; exact alloc_new _ _
    have HC4 := HCK W4 HB4.out
    have HW4 := Hid.mk hW4
    obtain ⟨x0, x1, x2, x3, x4, x5, x6⟩ := cells6 HT3.out
    clear hW4 hb4 HCK
    simp only [zeroV]
    go_wp2_with fail
    rw [HW4.out]
    refine HC4.mono ?_
    rintro e w5 ⟨rfl, hb5⟩
    have HB5 : Hid (RowKit.Below w.heap.size w w5) := HB4.out.trans (hb5.mono HB4.out.size)
    have HT5 := Hid.mk ((hb5.block _ (heap_lt HT4.out)).trans HT4.out)
    have HZ5 := Hid.mk ((hb5.block _ (heap_lt HZ4.out)).trans HZ4.out)
    clear hb5 HC4 x0 x1 x2 x3 x4 x5 x6
    by_cases hc : checkT t = 0
    · rw [hc]
      have HC6 := rSplit_any N t _ w5 (HVT.out.on HB5.out) hPt hc hN
      rw [hc] at hR
      have hR' : (if N < 0 then none else splitT N.toNat t) = none := by simpa using hR
      rw [hR'] at HC6
      obtain ⟨x0, x1, x2, x3, x4, x5, x6⟩ := cells6 HT5.out
      go_wp2_with fail
      refine HC6.mono ?_
      rintro e w6 ⟨hb6, hres⟩
      simp only [RsRes] at hres
      subst hres
      have HB6 : Hid (RowKit.Below w.heap.size w w6) := HB5.out.trans (hb6.mono HB5.out.size)
      have HZ6 := Hid.mk ((hb6.block _ (heap_lt HZ5.out)).trans HZ5.out)
      clear hb6 HC6 x0 x1 x2 x3 x4 x5 x6
      simp only [zeroV]
      go_wp2
      obtain ⟨W7, hW7⟩ : ∃ W7, w6.alloc (.cells #[.int .i64 0, .int .i64 0, .bool false, .string { data := #[] }, .slice none 0 0, .slice none 0 0] 25) = W7 := ⟨_, rfl⟩
      have hb7 : RowKit.Below w6.heap.size w6 W7 := by rw [← hW7]; exact (Below.refl _ _).alloc (Nat.le_refl _) _
      have HB7 : Hid (RowKit.Below w.heap.size w W7) := HB6.out.trans (hb7.mono HB6.out.size)
      have HZ7 := Hid.mk ((hb7.block _ (heap_lt HZ6.out)).trans HZ6.out)
      have HY7 : Hid (W7.heap[w6.heap.size]? = some (.cells #[.int .i64 0, .int .i64 0, .bool false, .string { data := #[] }, .slice none 0 0, .slice none 0 0] 25 (0, 0))) := by unfold Hid; rw [← hW7]; exact alloc_new _ _
      rw [hW7]
      clear hW7 hb7
      go_loopw [15] (fun i wr => i = .int .i64 0 ∧ wr = W7) (fun _ _ => 0)
      case atStart => exact ⟨rfl, rfl⟩
      case round =>
        obtain ⟨rfl, rfl⟩ := hrel
        have HSM : ∀ (W : World), RowKit.Below wr.heap.size wr W → Calls Try.prog 11 #[.slice none 0 0, .slice none 0 0] W fun e w' => e = .returned (.bool true) ∧ RowKit.Below W.heap.size W w' := fun W _ => same4_yes [] none none 0 0 W (Or.inl rfl) (Or.inl rfl) (fun _ h => by cases h) (Nat.zero_le _)
        obtain ⟨z0, z1, z2, z3, z4, z5, z6⟩ := cells6 HZ7.out
        obtain ⟨y0, y1, y2, y3, y4, y5, y6⟩ := cells6 HY7.out
        have HCEL : Hid (∀ W : World, RowKit.Below wr.heap.size wr W → W.cell? ⟨w3.heap.size, 0, none⟩ = some (.int .i64 0) ∧ W.cell? ⟨w3.heap.size, 1, none⟩ = some (.int .i64 0) ∧ W.cell? ⟨w3.heap.size, 2, none⟩ = some (.bool false) ∧ W.cell? ⟨w3.heap.size, 3, none⟩ = some (.string { data := #[] }) ∧ W.cell? ⟨w3.heap.size, 4, none⟩ = some (.slice none 0 0) ∧ W.cell? ⟨w3.heap.size, 5, none⟩ = some (.slice none 0 0) ∧ W.cell? ⟨w6.heap.size, 0, none⟩ = some (.int .i64 0) ∧ W.cell? ⟨w6.heap.size, 1, none⟩ = some (.int .i64 0) ∧ W.cell? ⟨w6.heap.size, 2, none⟩ = some (.bool false) ∧ W.cell? ⟨w6.heap.size, 3, none⟩ = some (.string { data := #[] }) ∧ W.cell? ⟨w6.heap.size, 4, none⟩ = some (.slice none 0 0) ∧ W.cell? ⟨w6.heap.size, 5, none⟩ = some (.slice none 0 0)) := fun W h => ⟨(h.cell (p := ⟨w3.heap.size, 0, none⟩) z6).trans z0, (h.cell (p := ⟨w3.heap.size, 1, none⟩) z6).trans z1, (h.cell (p := ⟨w3.heap.size, 2, none⟩) z6).trans z2, (h.cell (p := ⟨w3.heap.size, 3, none⟩) z6).trans z3, (h.cell (p := ⟨w3.heap.size, 4, none⟩) z6).trans z4, (h.cell (p := ⟨w3.heap.size, 5, none⟩) z6).trans z5, (h.cell (p := ⟨w6.heap.size, 0, none⟩) y6).trans y0, (h.cell (p := ⟨w6.heap.size, 1, none⟩) y6).trans y1, (h.cell (p := ⟨w6.heap.size, 2, none⟩) y6).trans y2, (h.cell (p := ⟨w6.heap.size, 3, none⟩) y6).trans y3, (h.cell (p := ⟨w6.heap.size, 4, none⟩) y6).trans y4, (h.cell (p := ⟨w6.heap.size, 5, none⟩) y6).trans y5⟩
        clear z0 z1 z2 z3 z4 z5 y0 y1 y2 y3 y4 y5
        go_wp2_with fail
        refine wp_region_late (S := fun w' => w'.cell? ⟨w3.heap.size, 0, none⟩ = some (.int .i64 0) ∧ w'.cell? ⟨w3.heap.size, 1, none⟩ = some (.int .i64 0) ∧ w'.cell? ⟨w3.heap.size, 2, none⟩ = some (.bool false) ∧ w'.cell? ⟨w3.heap.size, 3, none⟩ = some (.string { data := #[] }) ∧ w'.cell? ⟨w3.heap.size, 4, none⟩ = some (.slice none 0 0) ∧ w'.cell? ⟨w3.heap.size, 5, none⟩ = some (.slice none 0 0) ∧ w'.cell? ⟨w6.heap.size, 0, none⟩ = some (.int .i64 0) ∧ w'.cell? ⟨w6.heap.size, 1, none⟩ = some (.int .i64 0) ∧ w'.cell? ⟨w6.heap.size, 2, none⟩ = some (.bool false) ∧ w'.cell? ⟨w6.heap.size, 3, none⟩ = some (.string { data := #[] }) ∧ w'.cell? ⟨w6.heap.size, 4, none⟩ = some (.slice none 0 0) ∧ w'.cell? ⟨w6.heap.size, 5, none⟩ = some (.slice none 0 0)) (fun _ => false) mx ?_ (fun hHeld => ?_)
        · (try dsimp only)
          exact HCEL.out _ (Below.refl _ _).drew
        refine wpAnyM_take (i := 0) (v := .slice none 0 0) rfl (by kernel_rfl) (by kernel_rfl) (by kernel_rfl) (by kernel_rfl) (fun _ _ _ h => h) (Or.inl ⟨by kernel_rfl, fun _ _ => by kernel_rfl⟩) (by assumption) ?_
        refine wpAnyM_take (i := 1) (v := .slice none 0 0) rfl (by kernel_rfl) (by kernel_rfl) (by kernel_rfl) (by kernel_rfl) (fun _ _ _ h => h) (Or.inl ⟨by kernel_rfl, fun _ _ => by kernel_rfl⟩) (by assumption) ?_
        refine wpAnyM_one (i := 2) (by kernel_rfl) ?_
        refine ⟨_, rfl, fun K hK => ?_⟩
        go_simp
        go_at_call 11
        refine (HSM _ (Below.refl _ _).drew).mono ?_
        rintro e wX ⟨rfl, bX⟩
        have hbwX : RowKit.Below wr.heap.size wr wX := (Below.refl _ _).drew.trans bX
        clear bX
        refine hK.out _ _ (fun _ => ?_) (fun hHeld' => ?_)
        · (try dsimp only)
          exact HCEL.out _ hbwX
        replace hHeld' := hHeld' rfl
        clear hHeld hK K
        have hHeld := hHeld'
        clear hHeld'
        refine wpAnyM_take (i := 3) (v := .bool true) rfl (by kernel_rfl) (by kernel_rfl) (by kernel_rfl) (by kernel_rfl) (fun _ _ _ h => h) (Or.inl ⟨by kernel_rfl, fun _ _ => by kernel_rfl⟩) (by assumption) ?_
        refine wpAnyM_take (i := 4) (v := .bool false) rfl (by kernel_rfl) (by kernel_rfl) (by kernel_rfl) (by kernel_rfl) (fun _ _ _ h => h) (Or.inl ⟨by kernel_rfl, fun _ _ => by kernel_rfl⟩) (by assumption) ?_
        refine wpAnyM_take (i := 5) (v := .bool true) rfl (by kernel_rfl) (by kernel_rfl) (by kernel_rfl) (by kernel_rfl) (fun _ _ _ h => h) (Or.inl ⟨by kernel_rfl, fun _ _ => by kernel_rfl⟩) (by assumption) ?_
        refine wpAnyM_take (i := 6) (v := .bool true) rfl (by kernel_rfl) (by kernel_rfl) (by kernel_rfl) (by kernel_rfl) (fun _ _ _ h => h) (Or.inl ⟨by kernel_rfl, fun _ _ => by kernel_rfl⟩) (by assumption) ?_
        refine wpAnyM_take (i := 7) (v := undef) rfl (by kernel_rfl) (by kernel_rfl) (by kernel_rfl) (by kernel_rfl) (fun _ _ _ h => h) (Or.inr ⟨by kernel_rfl, rfl⟩) (by assumption) ?_
        refine wpAnyM_take (i := 8) (v := undef) rfl (by kernel_rfl) (by kernel_rfl) (by kernel_rfl) (by kernel_rfl) (fun _ _ _ h => h) (Or.inr ⟨by kernel_rfl, rfl⟩) (by assumption) ?_
        refine wpAnyM_take (i := 9) (v := undef) rfl (by kernel_rfl) (by kernel_rfl) (by kernel_rfl) (by kernel_rfl) (fun _ _ _ h => h) (Or.inr ⟨by kernel_rfl, rfl⟩) (by assumption) ?_
        refine wpAnyM_take (i := 10) (v := undef) rfl (by kernel_rfl) (by kernel_rfl) (by kernel_rfl) (by kernel_rfl) (fun _ _ _ h => h) (Or.inr ⟨by kernel_rfl, rfl⟩) (by assumption) ?_
        refine wpAnyM_take (i := 11) (v := .bool true) rfl (by kernel_rfl) (by kernel_rfl) (by kernel_rfl) (by kernel_rfl) (fun _ _ _ h => h) (Or.inl ⟨by kernel_rfl, fun _ _ => by kernel_rfl⟩) (by assumption) ?_
        refine wpAnyM_take (i := 12) (v := .bool true) rfl (by kernel_rfl) (by kernel_rfl) (by kernel_rfl) (by kernel_rfl) (fun _ _ _ h => h) (Or.inl ⟨by kernel_rfl, fun _ _ => by kernel_rfl⟩) (by assumption) ?_
        refine wpAnyM_take (i := 13) (v := .bool true) rfl (by kernel_rfl) (by kernel_rfl) (by kernel_rfl) (by kernel_rfl) (fun _ _ _ h => h) (Or.inl ⟨by kernel_rfl, fun _ _ => by kernel_rfl⟩) (by assumption) ?_
        refine wpAnyM_take (i := 14) (v := .bool false) rfl (by kernel_rfl) (by kernel_rfl) (by kernel_rfl) (by kernel_rfl) (fun _ _ _ h => h) (Or.inl ⟨by kernel_rfl, fun _ _ => by kernel_rfl⟩) (by assumption) ?_
        refine wpAnyM_take (i := 15) (v := .bool false) rfl (by kernel_rfl) (by kernel_rfl) (by kernel_rfl) (by kernel_rfl) (fun _ _ _ h => h) (Or.inl ⟨by kernel_rfl, fun _ _ => by kernel_rfl⟩) (by assumption) ?_
        refine wpAnyM_take (i := 16) (v := .pointer (some ⟨w3.heap.size, 0, none⟩)) rfl (by kernel_rfl) (by kernel_rfl) (by kernel_rfl) (by kernel_rfl) (fun _ _ _ h => h) (Or.inl ⟨by kernel_rfl, fun _ _ => by kernel_rfl⟩) (by assumption) ?_
        refine wpAnyM_take (i := 17) (v := .int .i64 0) rfl (by kernel_rfl) (by kernel_rfl) (by kernel_rfl) (by kernel_rfl) (fun _ _ _ h => h) (yl_load (t := 3) (x := .tmp 97) (p := .pointer (some ⟨w3.heap.size, 0, none⟩)) rfl (by kernel_rfl) (by kernel_rfl) (fun w hSw => by (try dsimp only at hSw); go_simp)) (by assumption) ?_
        refine wpAnyM_take (i := 18) (v := .bool true) rfl (by kernel_rfl) (by kernel_rfl) (by kernel_rfl) (by kernel_rfl) (fun _ _ _ h => h) (Or.inl ⟨by kernel_rfl, fun _ _ => by kernel_rfl⟩) (by assumption) ?_
        refine wpAnyM_take (i := 19) (v := .bool true) rfl (by kernel_rfl) (by kernel_rfl) (by kernel_rfl) (by kernel_rfl) (fun _ _ _ h => h) (Or.inl ⟨by kernel_rfl, fun _ _ => by kernel_rfl⟩) (by assumption) ?_
        refine wpAnyM_take (i := 20) (v := .bool true) rfl (by kernel_rfl) (by kernel_rfl) (by kernel_rfl) (by kernel_rfl) (fun _ _ _ h => h) (Or.inl ⟨by kernel_rfl, fun _ _ => by kernel_rfl⟩) (by assumption) ?_
        refine wpAnyM_take (i := 21) (v := .bool true) rfl (by kernel_rfl) (by kernel_rfl) (by kernel_rfl) (by kernel_rfl) (fun _ _ _ h => h) (Or.inl ⟨by kernel_rfl, fun _ _ => by kernel_rfl⟩) (by assumption) ?_
        refine wpAnyM_done (by kernel_rfl) ?_ _
        rename_i hret
        refine hret _ _ (wp_ret ?_)
        change bodyPost Try.prog Try.f3 (fun e w' => e = .returned (.bool true) ∧ RowKit.Below w.heap.size w w') .ret _ _
        refine bodyPost_ret (v := .bool true) (by kernel_rfl) (by kernel_rfl) ?_
        exact ⟨rfl, HB7.out.trans (hbwX.mono HB7.out.size)⟩
    · obtain ⟨z0, z1, z2, z3, z4, z5, z6⟩ := cells6 HZ5.out
      go_wp2
      go_ret
      exact ⟨rfl, HB5.out⟩
  | some q =>
    obtain ⟨l, r⟩ := q
    rw [hR] at hres
    simp only [SpRes] at hres
    obtain ⟨B, P, a, cap, hv, rv, rfl, hrow, hob, ⟨r0, r1, r2, r3, r4, r5, r6, r7, r8, r9, rfl⟩, htr⟩ := hres
    obtain ⟨ha, hcap, rfl⟩ := hob.shape
    have hlow : ¬ (N < 0 ∨ checkT t ≠ 0) := by intro h; rw [if_pos h] at hR; cases hR
    have hc : checkT t = 0 := by
      by_cases h : checkT t = 0
      · exact h
      · exact absurd (Or.inr h) hlow
    have hS : splitT N.toNat t = some (l, r) := by rw [if_neg hlow] at hR; exact hR
    have hn0 : ¬ N < 0 := fun h => hlow (Or.inl h)
    obtain ⟨hGl, hGr, hlen⟩ := splitT_facts _ _ _ _ hS ⟨hPt, (check_ok hc).2.2⟩
    have hl5 : l.length ≤ 500 := Nat.le_trans hlen (check_ok hc).2.1
    rw [List.length_map]
    have htl := hrow.tl
    rw [List.length_map] at hob
    have HTL3 := Hid.mk htl
    have HOB3 := Hid.mk hob
    have HTR3 := Hid.mk htr
    have HGL := Hid.mk hGl
    have HGR := Hid.mk hGr
    obtain ⟨W4, hW4⟩ : ∃ W4, w3.alloc (.cells #[.int .i64 r0, .int .i64 r1, .bool r2, .string r3, .slice r4 r5 r6, .slice r7 r8 r9] 25) = W4 := ⟨_, rfl⟩
    have hb4 : RowKit.Below w3.heap.size w3 W4 := by rw [← hW4]; exact (Below.refl _ _).alloc (Nat.le_refl _) _
    have HB34 := Hid.mk hb4
    have HB4 : Hid (RowKit.Below w.heap.size w W4) := HB3.out.trans (hb4.mono HB3.out.size)
    have HT4 := Hid.mk ((hb4.block _ (heap_lt HT3.out)).trans HT3.out)
    have HZ4 : Hid (W4.heap[w3.heap.size]? = some (.cells #[.int .i64 r0, .int .i64 r1, .bool r2, .string r3, .slice r4 r5 r6, .slice r7 r8 r9] 25 (0, 0))) := by unfold Hid; rw [← hW4]; exact alloc_new _ _
    have HC4 := HCK W4 HB4.out
    rw [hc] at HC4
    have HW4 := Hid.mk hW4
    obtain ⟨x0, x1, x2, x3, x4, x5, x6⟩ := cells6 HT3.out
    clear hW4 hb4 HCK hrow hob htr htl hGl hGr hR
    go_wp2_with fail
    rw [HW4.out]
    refine HC4.mono ?_
    rintro e w5 ⟨rfl, hb5⟩
    have HB5 : Hid (RowKit.Below w.heap.size w w5) := HB4.out.trans (hb5.mono HB4.out.size)
    have HB35 : Hid (RowKit.Below w3.heap.size w3 w5) := HB34.out.trans (hb5.mono HB34.out.size)
    have HT5 := Hid.mk ((hb5.block _ (heap_lt HT4.out)).trans HT4.out)
    have HZ5 := Hid.mk ((hb5.block _ (heap_lt HZ4.out)).trans HZ4.out)
    clear hb5 HC4 x0 x1 x2 x3 x4 x5 x6
    have HC6 := rSplit_any N t _ w5 (HVT.out.on HB5.out) hPt hc hN
    rw [if_neg (show ¬ N < 0 by omega), hS] at HC6
    obtain ⟨x0, x1, x2, x3, x4, x5, x6⟩ := cells6 HT5.out
    go_wp2_with fail
    refine HC6.mono ?_
    rintro e w6 ⟨hb6, B', P', a', cap', hv', rv', rfl, hrow', hob', ⟨s0, s1, s2, s3, s4, s5, s6, s7, s8, s9, rfl⟩, hty⟩
    obtain ⟨ha', hcap', rfl⟩ := hob'.shape
    rw [List.length_map] at hob'
    rw [List.length_map]
    have HB6 : Hid (RowKit.Below w.heap.size w w6) := HB5.out.trans (hb6.mono HB5.out.size)
    have HB36 : Hid (RowKit.Below w3.heap.size w3 w6) := HB35.out.trans (hb6.mono HB35.out.size)
    have HZ6 := Hid.mk ((hb6.block _ (heap_lt HZ5.out)).trans HZ5.out)
    have HTL6 := Hid.mk hrow'.tl
    have HOB6 := Hid.mk hob'
    have HTY6 := Hid.mk hty
    clear hb6 HC6 x0 x1 x2 x3 x4 x5 x6 hrow' hob' hty
    go_wp2
    obtain ⟨W7, hW7⟩ : ∃ W7, w6.alloc (.cells #[.int .i64 s0, .int .i64 s1, .bool s2, .string s3, .slice s4 s5 s6, .slice s7 s8 s9] 25) = W7 := ⟨_, rfl⟩
    have hb7 : RowKit.Below w6.heap.size w6 W7 := by rw [← hW7]; exact (Below.refl _ _).alloc (Nat.le_refl _) _
    have HB67 := Hid.mk hb7
    have HB37 : Hid (RowKit.Below w3.heap.size w3 W7) := HB36.out.trans (hb7.mono HB36.out.size)
    have HB7 : Hid (RowKit.Below w.heap.size w W7) := HB6.out.trans (hb7.mono HB6.out.size)
    have HZ7 := Hid.mk ((hb7.block _ (heap_lt HZ6.out)).trans HZ6.out)
    have HY7 : Hid (W7.heap[w6.heap.size]? = some (.cells #[.int .i64 s0, .int .i64 s1, .bool s2, .string s3, .slice s4 s5 s6, .slice s7 s8 s9] 25 (0, 0))) := by unfold Hid; rw [← hW7]; exact alloc_new _ _
    rw [hW7]
    clear hW7 hb7
    go_loopw [15] (fun i wr => ∃ k : Nat, k ≤ l.length ∧ i = .int .i64 k ∧ RowKit.Below W7.heap.size W7 wr) (fun i _ => l.length - (intOf i).toNat)
    case atStart => exact ⟨0, Nat.zero_le _, rfl, Below.refl _ _⟩
    case round =>
      obtain ⟨k, hk, rfl, hb⟩ := hrel
      have HBR := Hid.mk hb
      have HB3R : Hid (RowKit.Below w3.heap.size w3 wr) := HB37.out.trans (hb.mono HB37.out.size)
      have HB6R : Hid (RowKit.Below w6.heap.size w6 wr) := HB67.out.trans (hb.mono HB67.out.size)
      clear hb
      by_cases hlt : k < l.length
      · have hk' : k < (l.map fun x => x.2).length := by rw [List.length_map]; exact hlt
        have hob1 := (HOB3.out.on HB3R.out).at hk'
        have hob2 := (HOB6.out.on HB6R.out).at hk'
        generalize (l.map fun x => x.2)[k]'hk' = bv at hob1 hob2
        obtain ⟨g1, rfl, hl1, c1⟩ := hob1
        obtain ⟨g2, rfl, hl2, c2⟩ := hob2
        have zk : (k : Int) < (l.length : Int) := by omega
        cases bv <;>
        · go_wp2
          go_quiet (fail)
          go_wp2
          exact ⟨⟨k + 1, hlt, by go_num, HBR.out.trans ((((Grew.refl _).drewN _).below).mono HBR.out.size)⟩, by simp [intOf]; omega⟩
      · have hkl : k = l.length := by omega
        subst hkl
        have HSM : ∀ (W : World), RowKit.Below wr.heap.size wr W → Calls Try.prog 11 #[.slice a l.length cap, .slice a' l.length cap'] W fun e w' => e = .returned (.bool true) ∧ RowKit.Below W.heap.size W w' := fun W h => by
          have h3 : RowKit.Below w3.heap.size w3 W := HB3R.out.trans (h.mono HB3R.out.size)
          have h6 : RowKit.Below w6.heap.size w6 W := HB6R.out.trans (h.mono HB6R.out.size)
          have := same4_yes (l.map fun x => x.1) a a' cap cap' W (by rw [List.map_map]; exact HTL3.out.on h3) (HTL6.out.on h6) (fun x hx => by
            obtain ⟨y, hy, rfl⟩ := List.mem_map.1 hx
            exact HGL.out y hy) (by rw [List.length_map]; omega)
          rw [List.length_map] at this
          exact this
        have HCL : ∀ (W : World), RowKit.Below wr.heap.size wr W → Calls Try.prog 13 #[.agg #[.int .i64 s0, .int .i64 s1, .bool s2, .string s3, .slice s4 s5 s6, .slice s7 s8 s9]] W fun e w' => ∃ v', e = .returned v' ∧ ShapeT v' ∧ TF w' (fun k => decide (k < W.heap.size)) v' (cleanT r) ∧ RowKit.Below W.heap.size W w' := fun W h => Clean_any r _ W HGR.out.1 HGR.out.2 (HTY6.out.on (HB6R.out.trans (h.mono HB6R.out.size)))
        have HEX : ∀ (W : World) (vb : Value), RowKit.Below wr.heap.size wr W → TV W vb (cleanT r) → Calls Try.prog 12 #[.agg #[.int .i64 r0, .int .i64 r1, .bool r2, .string r3, .slice r4 r5 r6, .slice r7 r8 r9], vb] W fun e w' => e = .returned (.bool true) ∧ RowKit.Below W.heap.size W w' := fun W vb h hb => Exactly_exa _ vb (cleanT r) W (smT_clean 1000000 _ HGR.out.1) (HTR3.out.on (HB3R.out.trans (h.mono HB3R.out.size))) hb
        obtain ⟨z0, z1, z2, z3, z4, z5, z6⟩ := cells6 ((HBR.out.block _ (heap_lt HZ7.out)).trans HZ7.out)
        obtain ⟨y0, y1, y2, y3, y4, y5, y6⟩ := cells6 ((HBR.out.block _ (heap_lt HY7.out)).trans HY7.out)
        have HCEL : Hid (∀ W : World, RowKit.Below wr.heap.size wr W → W.cell? ⟨w3.heap.size, 0, none⟩ = some (.int .i64 r0) ∧ W.cell? ⟨w3.heap.size, 1, none⟩ = some (.int .i64 r1) ∧ W.cell? ⟨w3.heap.size, 2, none⟩ = some (.bool r2) ∧ W.cell? ⟨w3.heap.size, 3, none⟩ = some (.string r3) ∧ W.cell? ⟨w3.heap.size, 4, none⟩ = some (.slice r4 r5 r6) ∧ W.cell? ⟨w3.heap.size, 5, none⟩ = some (.slice r7 r8 r9) ∧ W.cell? ⟨w6.heap.size, 0, none⟩ = some (.int .i64 s0) ∧ W.cell? ⟨w6.heap.size, 1, none⟩ = some (.int .i64 s1) ∧ W.cell? ⟨w6.heap.size, 2, none⟩ = some (.bool s2) ∧ W.cell? ⟨w6.heap.size, 3, none⟩ = some (.string s3) ∧ W.cell? ⟨w6.heap.size, 4, none⟩ = some (.slice s4 s5 s6) ∧ W.cell? ⟨w6.heap.size, 5, none⟩ = some (.slice s7 s8 s9)) := fun W h => ⟨(h.cell (p := ⟨w3.heap.size, 0, none⟩) z6).trans z0, (h.cell (p := ⟨w3.heap.size, 1, none⟩) z6).trans z1, (h.cell (p := ⟨w3.heap.size, 2, none⟩) z6).trans z2, (h.cell (p := ⟨w3.heap.size, 3, none⟩) z6).trans z3, (h.cell (p := ⟨w3.heap.size, 4, none⟩) z6).trans z4, (h.cell (p := ⟨w3.heap.size, 5, none⟩) z6).trans z5, (h.cell (p := ⟨w6.heap.size, 0, none⟩) y6).trans y0, (h.cell (p := ⟨w6.heap.size, 1, none⟩) y6).trans y1, (h.cell (p := ⟨w6.heap.size, 2, none⟩) y6).trans y2, (h.cell (p := ⟨w6.heap.size, 3, none⟩) y6).trans y3, (h.cell (p := ⟨w6.heap.size, 4, none⟩) y6).trans y4, (h.cell (p := ⟨w6.heap.size, 5, none⟩) y6).trans y5⟩
        clear z0 z1 z2 z3 z4 z5 y0 y1 y2 y3 y4 y5
        go_wp2_with fail
        refine wp_region_late (S := fun w' => w'.cell? ⟨w3.heap.size, 0, none⟩ = some (.int .i64 r0) ∧ w'.cell? ⟨w3.heap.size, 1, none⟩ = some (.int .i64 r1) ∧ w'.cell? ⟨w3.heap.size, 2, none⟩ = some (.bool r2) ∧ w'.cell? ⟨w3.heap.size, 3, none⟩ = some (.string r3) ∧ w'.cell? ⟨w3.heap.size, 4, none⟩ = some (.slice r4 r5 r6) ∧ w'.cell? ⟨w3.heap.size, 5, none⟩ = some (.slice r7 r8 r9) ∧ w'.cell? ⟨w6.heap.size, 0, none⟩ = some (.int .i64 s0) ∧ w'.cell? ⟨w6.heap.size, 1, none⟩ = some (.int .i64 s1) ∧ w'.cell? ⟨w6.heap.size, 2, none⟩ = some (.bool s2) ∧ w'.cell? ⟨w6.heap.size, 3, none⟩ = some (.string s3) ∧ w'.cell? ⟨w6.heap.size, 4, none⟩ = some (.slice s4 s5 s6) ∧ w'.cell? ⟨w6.heap.size, 5, none⟩ = some (.slice s7 s8 s9)) (fun _ => false) mx ?_ (fun hHeld => ?_)
        · (try dsimp only)
          exact HCEL.out _ (Below.refl _ _).drew
        refine wpAnyM_take (i := 0) (v := .slice a l.length cap) rfl (by kernel_rfl) (by kernel_rfl) (by kernel_rfl) (by kernel_rfl) (fun _ _ _ h => h) (Or.inl ⟨by kernel_rfl, fun _ _ => by kernel_rfl⟩) (by assumption) ?_
        refine wpAnyM_take (i := 1) (v := .slice a' l.length cap') rfl (by kernel_rfl) (by kernel_rfl) (by kernel_rfl) (by kernel_rfl) (fun _ _ _ h => h) (Or.inl ⟨by kernel_rfl, fun _ _ => by kernel_rfl⟩) (by assumption) ?_
        refine wpAnyM_one (i := 2) (by kernel_rfl) ?_
        refine ⟨_, rfl, fun K hK => ?_⟩
        go_simp
        go_at_call 11
        refine (HSM _ (Below.refl _ _).drew).mono ?_
        rintro e wX ⟨rfl, bX⟩
        have hbwX : RowKit.Below wr.heap.size wr wX := (Below.refl _ _).drew.trans bX
        clear bX
        refine hK.out _ _ (fun _ => ?_) (fun hHeld' => ?_)
        · (try dsimp only)
          exact HCEL.out _ hbwX
        replace hHeld' := hHeld' rfl
        clear hHeld hK K
        have hHeld := hHeld'
        clear hHeld'
        refine wpAnyM_take (i := 3) (v := .bool true) rfl (by kernel_rfl) (by kernel_rfl) (by kernel_rfl) (by kernel_rfl) (fun _ _ _ h => h) (Or.inl ⟨by kernel_rfl, fun _ _ => by kernel_rfl⟩) (by assumption) ?_
        refine wpAnyM_take (i := 4) (v := .bool true) rfl (by kernel_rfl) (by kernel_rfl) (by kernel_rfl) (by kernel_rfl) (fun _ _ _ h => h) (Or.inl ⟨by kernel_rfl, fun _ _ => by kernel_rfl⟩) (by assumption) ?_
        refine wpAnyM_take (i := 5) (v := .bool false) rfl (by kernel_rfl) (by kernel_rfl) (by kernel_rfl) (by kernel_rfl) (fun _ _ _ h => h) (Or.inl ⟨by kernel_rfl, fun _ _ => by kernel_rfl⟩) (by assumption) ?_
        refine wpAnyM_take (i := 6) (v := .bool false) rfl (by kernel_rfl) (by kernel_rfl) (by kernel_rfl) (by kernel_rfl) (fun _ _ _ h => h) (Or.inl ⟨by kernel_rfl, fun _ _ => by kernel_rfl⟩) (by assumption) ?_
        refine wpAnyM_take (i := 7) (v := .agg #[.int .i64 r0, .int .i64 r1, .bool r2, .string r3, .slice r4 r5 r6, .slice r7 r8 r9]) rfl (by kernel_rfl) (by kernel_rfl) (by kernel_rfl) (by kernel_rfl) (fun _ _ _ h => h) (yl_load (t := 25) (x := .tmp 9) (p := .pointer (some ⟨w3.heap.size, 0, none⟩)) rfl (by kernel_rfl) (by kernel_rfl) (fun w hSw => by (try dsimp only at hSw); go_simp)) (by assumption) ?_
        refine wpAnyM_take (i := 8) (v := .agg #[.int .i64 s0, .int .i64 s1, .bool s2, .string s3, .slice s4 s5 s6, .slice s7 s8 s9]) rfl (by kernel_rfl) (by kernel_rfl) (by kernel_rfl) (by kernel_rfl) (fun _ _ _ h => h) (yl_load (t := 25) (x := .tmp 13) (p := .pointer (some ⟨w6.heap.size, 0, none⟩)) rfl (by kernel_rfl) (by kernel_rfl) (fun w hSw => by (try dsimp only at hSw); go_simp)) (by assumption) ?_
        refine wpAnyM_one (i := 9) (by kernel_rfl) ?_
        refine ⟨_, rfl, fun K hK => ?_⟩
        go_simp
        go_at_call 13
        refine (HCL _ hbwX).mono ?_
        rintro e wC ⟨vC, rfl, ⟨u0, u1, u2, u3, u4, u5, u6, u7, u8, u9, rfl⟩, htC, bC⟩
        have hbwC : RowKit.Below wr.heap.size wr wC := hbwX.trans (bC.mono hbwX.size)
        have HEC := HEX wC _ hbwC htC.tv
        clear bC htC
        refine hK.out _ _ (fun _ => ?_) (fun hHeld' => ?_)
        · (try dsimp only)
          exact HCEL.out _ hbwC
        replace hHeld' := hHeld' rfl
        clear hHeld hK K
        have hHeld := hHeld'
        clear hHeld'
        refine wpAnyM_one (i := 10) (by kernel_rfl) ?_
        refine ⟨_, rfl, fun K hK => ?_⟩
        go_simp
        go_at_call 12
        refine (HEC).mono ?_
        rintro e wE ⟨rfl, bE⟩
        have hbwE : RowKit.Below wr.heap.size wr wE := hbwC.trans (bE.mono hbwC.size)
        clear bE
        refine hK.out _ _ (fun _ => ?_) (fun hHeld' => ?_)
        · (try dsimp only)
          exact HCEL.out _ hbwE
        replace hHeld' := hHeld' rfl
        clear hHeld hK K
        have hHeld := hHeld'
        clear hHeld'
        refine wpAnyM_take (i := 11) (v := .bool true) rfl (by kernel_rfl) (by kernel_rfl) (by kernel_rfl) (by kernel_rfl) (fun _ _ _ h => h) (Or.inl ⟨by kernel_rfl, fun _ _ => by kernel_rfl⟩) (by assumption) ?_
        refine wpAnyM_take (i := 12) (v := .bool true) rfl (by kernel_rfl) (by kernel_rfl) (by kernel_rfl) (by kernel_rfl) (fun _ _ _ h => h) (Or.inl ⟨by kernel_rfl, fun _ _ => by kernel_rfl⟩) (by assumption) ?_
        refine wpAnyM_take (i := 13) (v := .bool true) rfl (by kernel_rfl) (by kernel_rfl) (by kernel_rfl) (by kernel_rfl) (fun _ _ _ h => h) (Or.inl ⟨by kernel_rfl, fun _ _ => by kernel_rfl⟩) (by assumption) ?_
        refine wpAnyM_take (i := 14) (v := .bool true) rfl (by kernel_rfl) (by kernel_rfl) (by kernel_rfl) (by kernel_rfl) (fun _ _ _ h => h) (Or.inl ⟨by kernel_rfl, fun _ _ => by kernel_rfl⟩) (by assumption) ?_
        refine wpAnyM_take (i := 15) (v := .bool true) rfl (by kernel_rfl) (by kernel_rfl) (by kernel_rfl) (by kernel_rfl) (fun _ _ _ h => h) (Or.inl ⟨by kernel_rfl, fun _ _ => by kernel_rfl⟩) (by assumption) ?_
        refine wpAnyM_take (i := 16) (v := undef) rfl (by kernel_rfl) (by kernel_rfl) (by kernel_rfl) (by kernel_rfl) (fun _ _ _ h => h) (Or.inr ⟨by kernel_rfl, rfl⟩) (by assumption) ?_
        refine wpAnyM_take (i := 17) (v := undef) rfl (by kernel_rfl) (by kernel_rfl) (by kernel_rfl) (by kernel_rfl) (fun _ _ _ h => h) (Or.inr ⟨by kernel_rfl, rfl⟩) (by assumption) ?_
        refine wpAnyM_take (i := 18) (v := undef) rfl (by kernel_rfl) (by kernel_rfl) (by kernel_rfl) (by kernel_rfl) (fun _ _ _ h => h) (Or.inr ⟨by kernel_rfl, rfl⟩) (by assumption) ?_
        refine wpAnyM_take (i := 19) (v := .bool true) rfl (by kernel_rfl) (by kernel_rfl) (by kernel_rfl) (by kernel_rfl) (fun _ _ _ h => h) (Or.inl ⟨by kernel_rfl, fun _ _ => by kernel_rfl⟩) (by assumption) ?_
        refine wpAnyM_take (i := 20) (v := .bool true) rfl (by kernel_rfl) (by kernel_rfl) (by kernel_rfl) (by kernel_rfl) (fun _ _ _ h => h) (Or.inl ⟨by kernel_rfl, fun _ _ => by kernel_rfl⟩) (by assumption) ?_
        refine wpAnyM_take (i := 21) (v := .bool true) rfl (by kernel_rfl) (by kernel_rfl) (by kernel_rfl) (by kernel_rfl) (fun _ _ _ h => h) (Or.inl ⟨by kernel_rfl, fun _ _ => by kernel_rfl⟩) (by assumption) ?_
        refine wpAnyM_done (by kernel_rfl) ?_ _
        rename_i hret
        refine hret _ _ (wp_ret ?_)
        change bodyPost Try.prog Try.f3 (fun e w' => e = .returned (.bool true) ∧ RowKit.Below w.heap.size w w') .ret _ _
        refine bodyPost_ret (v := .bool true) (by kernel_rfl) (by kernel_rfl) ?_
        exact ⟨rfl, HB7.out.trans ((HBR.out.trans (hbwE.mono HBR.out.size)).mono HB7.out.size)⟩
end Go.Proofs.Ythdcpodheimhaaa
