/- tele.Pis, with no Hids told, where all is right. -/
import Derived.Test.YthdcpodheimhaaaHL
import Derived.Test.YthdcpodheimhaaaHI
import Derived.Test.YthdcpodheimhaaaON
namespace Go.Proofs.Ythdcpodheimhaaa
open Go.RowKit Go.Sort Go.Shelf Go.Lib
attribute [local go_sem] Oper.semAt_some

set_option maxRecDepth 100000 in
set_option maxHeartbeats 2000000 in
theorem Pis_ok (ts : List Tm) (b cap : Nat) (t : Tm) (v : Value) (w : World) (hL : TL w (some ⟨b, 0, none⟩) ts) (hbw : b < w.heap.size) (hv : TV w v t) (hn : ts.length ≤ 60) (hts : ∀ x ∈ ts, smT 1000000 x ∧ checkT x = 0) (hsm : smT 1000000 t) (hc : checkT t = 0) (hsr : smT 1000000 (ts.foldr piT t)) (hcr : checkT (ts.foldr piT t) = 0) : Calls Try.prog 17 #[.slice (some ⟨b, 0, none⟩) ts.length cap, .slice none 0 0, v] w fun e w' => (∃ v', e = .returned (.tuple #[v', .int .i64 0]) ∧ ShapeT v' ∧ TO w' w.heap.size w'.heap.size v' (cleanT (ts.foldr piT t))) ∧ RowKit.Below w.heap.size w w' := by
  have HBO := fun (W : World) (h : RowKit.Below w.heap.size w W) => bound_walk ts b cap t v W (hL.on h) (Nat.lt_of_lt_of_le hbw h.size) (hv.on h) hn hts hsm hc hsr hcr
  obtain ⟨la, lc, ka, kc, rfl⟩ := hv.shape
  clear hv hts hsm hc hsr hcr hL
  generalize t.form = f at *
  generalize t.n = n at *
  generalize t.hid = hd at *
  generalize t.name = nm at *
  generalize t.levels.length = l1 at *
  generalize t.kids.length = k1 at *
  obtain ⟨W0, hW0⟩ : ∃ W0, (w.alloc (.cells #[.int .i64 f, .int .i64 n, .bool hd, .string nm, .slice la l1 lc, .slice ka k1 kc] 25)).alloc (.cells #[.int .i64 0, .int .i64 0, .bool false, .string { data := #[] }, .slice none 0 0, .slice none 0 0] 25) = W0 := ⟨_, rfl⟩
  have hb0 : RowKit.Below w.heap.size w W0 := by rw [← hW0]; exact ((Below.refl _ _).alloc (Nat.le_refl _) _).alloc (by simp) _
  have HR0 : Hid (W0.heap[w.heap.size + 1]? = some (.cells #[.int .i64 0, .int .i64 0, .bool false, .string { data := #[] }, .slice none 0 0, .slice none 0 0] 25 (0, 0))) := by unfold Hid; rw [← hW0]; exact box_at1
  have HC0 := HBO W0 hb0
  have HB0 := Hid.mk hb0
  have HW0 := Hid.mk hW0
  clear hW0 hb0 HBO
  go_enter Try.func17, Try.ntmps17
  go_wp2_with fail
  rw [HW0.out]
  refine HC0.mono ?_
  rintro e w2 ⟨⟨v2, rfl, ⟨u0, u1, u2, u3, u4, u5, u6, u7, u8, u9, rfl⟩, hto2⟩, hb2⟩
  have HR2 := Hid.mk ((hb2.block _ (heap_lt HR0.out)).trans HR0.out)
  have HB2 : Hid (RowKit.Below w.heap.size w w2) := HB0.out.trans (hb2.mono HB0.out.size)
  have HTO2 := Hid.mk hto2
  have hs1 : w.heap.size + 1 < W0.heap.size := heap_lt HR0.out
  obtain ⟨y0, y1, y2, y3, y4, y5, y6⟩ := cells6 HR2.out
  have yf := frz HR2.out
  clear hto2 hb2 HC0
  go_wp2
  refine bodyPost_ret (v := .tuple #[.agg #[.int .i64 u0, .int .i64 u1, .bool u2, .string u3, .slice u4 u5 u6, .slice u7 u8 u9], .int .i64 0]) (by simp [results, Try.results17, go_sem, y0, y1, y2, y3, y4, y5]) rfl ⟨⟨_, rfl, ⟨_, _, _, _, _, _, _, _, _, _, rfl⟩, ?_⟩, ?_⟩
  · exact (HTO2.out.on (fun k h1 h2 => (keep6 (P := fun k => k = w.heap.size + 1) rfl).block k h2 (by omega))).mono HB0.out.size (by rw [size6]; exact Nat.le_refl _)
  · exact HB2.out.trans ((keep6 (P := fun k => k = w.heap.size + 1) rfl).below HB2.out.size (fun k hk => by omega))
end Go.Proofs.Ythdcpodheimhaaa

/- telamonlaw4.alive. -/
namespace Go.Proofs.Ythdcpodheimhaaa
open Go.RowKit Go.Sort Go.Shelf Go.Lib
/-- the document's example -/
def exP : Tm := piT (tSet 0) (piT (tVar 0) (tVar 1))
theorem exP_sm : smT 1000000 exP := sm_two 3 0 false _ _ sm_set (sm_two 3 0 false _ _ (sm_var 0) (sm_var 1))
theorem formed_piT {x y : Tm} (hx : formedB x = true) (hy : formedB y = true) : formedB (piT x y) = true := by
  simp [piT, formedB_mk, judB, kidsR, fieldsB, Tm.kids, Tm.form, hx, hy]
theorem exP_check : checkT exP = 0 := check_mk (by simp [exP, piT, tSet, tVar, size_two, size_leaf]) (by simp [exP, piT, tSet, tVar, high_two, high_leaf]) (formed_piT formed_set (formed_piT (formed_var 0 (by omega) (by omega)) (formed_var 1 (by omega) (by omega))))
theorem set_check : checkT (tSet 0) = 0 := check_mk (by simp [tSet, size_leaf]) (by simp [tSet, high_leaf]) formed_set
theorem var_check (n : Int) (h0 : 0 ≤ n) (h1 : n ≤ 5) : checkT (tVar n) = 0 := check_mk (by simp [tVar, size_leaf]) (by simp [tVar, high_leaf]) (formed_var n h0 (by omega))
theorem clean_set : cleanT (tSet 0) = tSet 0 := by simp [tSet, cleanT, cleanTs]; rfl
theorem clean_var (n : Int) : cleanT (tVar n) = tVar n := by simp [tVar, cleanT, cleanTs]; rfl
theorem clean_piT (x y : Tm) : cleanT (piT x y) = piT (cleanT x) (cleanT y) := by simp [piT, cleanT, cleanTs]; rfl
theorem exP_clean : cleanT exP = exP := by unfold exP; rw [clean_piT, clean_piT, clean_set, clean_var, clean_var]
theorem exP_split : splitT 2 exP = some ([(tSet 0, false), (tVar 0, false)], tVar 1) := by
  unfold exP piT
  rw [splitT_pi, splitT_pi]
  simp [splitT]

theorem TL.two {w : World} {b : Nat} {x y : Tm} {a0 a1 a2 a3 a4 a5 c0 c1 c2 c3 c4 c5 : Value} (hx : TV w (.agg #[a0, a1, a2, a3, a4, a5]) x) (hy : TV w (.agg #[c0, c1, c2, c3, c4, c5]) y) (hb : w.heap[b]? = some (.cells #[a0, a1, a2, a3, a4, a5, c0, c1, c2, c3, c4, c5] 25 (0, 0))) : TL w (some ⟨b, 0, none⟩) [x, y] := by
  have h := TV.two (f := 3) rfl rfl hx hy hb
  generalize hv : (Value.agg #[.int .i64 3, .int .i64 0, .bool false, .string { data := #[] }, .slice none 0 0, .slice (some ⟨b, 0, none⟩) 2 2]) = v at h
  generalize ht : (Tm.mk 3 0 false { data := #[] } [] [x, y]) = t at h
  cases h with
  | mk hl hln hlc hlm hkn hkc hkm hk kids =>
    simp only [Tm.mk.injEq] at ht
    obtain ⟨-, -, -, -, rfl, rfl⟩ := ht
    simp only [Value.agg.injEq, Array.mk.injEq, List.cons.injEq, Value.slice.injEq] at hv
    obtain ⟨he, hlt⟩ := hk (by simp)
    have he2 := hv.2.2.2.2.2.1.1
    rw [← he2] at he
    simp only [Option.some.injEq, Addr.mk.injEq, and_true] at he
    obtain ⟨rfl, rfl⟩ := he
    refine Or.inr ⟨b, rfl, hlt, fun i t hi => ?_⟩
    have := kids i t hi
    rwa [Nat.zero_add] at this

attribute [local go_sem] Oper.semAt_some

theorem num4_any (k : Int) (w : World) : Calls Try.prog 18 #[.int .i64 k] w fun e w' => e = .returned (.int .i64 k) ∧ w' = w := by
  go_enter Try.func18, Try.ntmps18
  go_wp2
  go_ret
  exact ⟨rfl, rfl⟩

set_option maxRecDepth 100000 in
set_option maxHeartbeats 20000000 in
theorem alive4_any (w : World) : Calls Try.prog 6 #[] w fun e w' => e = .returned (.bool true) ∧ RowKit.Below w.heap.size w w' := by
  go_enter Try.func6, Try.ntmps6
  go_wp2_with fail
  refine (Set_any 0 _).mono ?_
  rintro e w1 ⟨v1, rfl, h1, b1⟩
  obtain ⟨a0, a1, a2, a3, a4, a5, a6, a7, a8, a9, rfl⟩ := h1.shapeT
  go_wp2_with fail
  refine (Var_any 0 _).mono ?_
  rintro e w2 ⟨v2, rfl, h2, b2⟩
  obtain ⟨c0, c1, c2, c3, c4, c5, c6, c7, c8, c9, rfl⟩ := h2.shapeT
  go_wp2_with fail
  refine (Var_any 1 _).mono ?_
  rintro e w4 ⟨v4, rfl, h4, b4⟩
  obtain ⟨d0, d1, d2, d3, d4, d5, d6, d7, d8, d9, rfl⟩ := h4.shapeT
  go_wp2_with fail
  obtain ⟨W3, hW3⟩ : ∃ W3, w2.alloc (.cells #[.int .i64 a0, .int .i64 a1, .bool a2, .string a3, .slice a4 a5 a6, .slice a7 a8 a9, .int .i64 c0, .int .i64 c1, .bool c2, .string c3, .slice c4 c5 c6, .slice c7 c8 c9] 25) = W3 := ⟨_, rfl⟩
  rw [hW3] at b4
  have b3 : RowKit.Below w2.heap.size w2 W3 := by rw [← hW3]; exact (Below.refl _ _).alloc (Nat.le_refl _) _
  have hn3 : W3.heap[w2.heap.size]? = some (.cells #[.int .i64 a0, .int .i64 a1, .bool a2, .string a3, .slice a4 a5 a6, .slice a7 a8 a9, .int .i64 c0, .int .i64 c1, .bool c2, .string c3, .slice c4 c5 c6, .slice c7 c8 c9] 25 (0, 0)) := by rw [← hW3]; exact alloc_new _ _
  have hTL : TL w4 (some ⟨w2.heap.size, 0, none⟩) [tSet 0, tVar 0] := (TL.two (TV.on (TV.on h1 b2) b3) (TV.on h2 b3) hn3).on b4
  have hlt4 : w2.heap.size < w4.heap.size := Nat.lt_of_lt_of_le (heap_lt hn3) b4.size
  have HB4 : Hid (RowKit.Below w.heap.size w w4) := ((b1.trans (b2.mono b1.size)).trans (b3.mono (Nat.le_trans b1.size b2.size))).trans (b4.mono (Nat.le_trans b1.size (Nat.le_trans b2.size b3.size)))
  have HP := Pis_ok [tSet 0, tVar 0] w2.heap.size 2 (tVar 1) _ w4 hTL hlt4 h4 (by simp) (by
    intro x hx
    rcases List.mem_cons.1 hx with rfl | hx
    · exact ⟨sm_set, set_check⟩
    · rcases List.mem_cons.1 hx with rfl | hx
      · exact ⟨sm_var 0, var_check 0 (by omega) (by omega)⟩
      · cases hx) (sm_var 1) (var_check 1 (by omega) (by omega)) exP_sm exP_check
  rw [show List.foldr piT (tVar 1) [tSet 0, tVar 0] = exP from rfl, exP_clean] at HP
  clear h1 b1 h2 b2 b3 b4 h4 hTL hlt4 hn3 hW3
  refine HP.mono ?_
  rintro e w5 ⟨⟨v5, rfl, ⟨e0, e1, e2, e3, e4, e5, e6, e7, e8, e9, rfl⟩, hto5⟩, hb5⟩
  have HT5 := Hid.mk hto5.tv
  have HB5 : Hid (RowKit.Below w.heap.size w w5) := HB4.out.trans (hb5.mono HB4.out.size)
  clear HP hto5 hb5 HB4
  go_wp2_with fail
  obtain ⟨W6, hW6⟩ : ∃ W6, w5.alloc (.cells #[.int .i64 e0, .int .i64 e1, .bool e2, .string e3, .slice e4 e5 e6, .slice e7 e8 e9] 25) = W6 := ⟨_, rfl⟩
  have hb6 : RowKit.Below w5.heap.size w5 W6 := by rw [← hW6]; exact (Below.refl _ _).alloc (Nat.le_refl _) _
  have HB6 : Hid (RowKit.Below w.heap.size w W6) := HB5.out.trans (hb6.mono HB5.out.size)
  have HSP := Split_any 2 exP _ W6 (TV.on HT5.out hb6) exP_sm (by omega)
  rw [if_neg (by rw [exP_check]; omega), show (2 : Int).toNat = 2 from rfl, exP_split] at HSP
  rw [hW6]
  clear hb6 HB5 HT5 hW6
  refine HSP.mono ?_
  rintro e w7 ⟨hb7, B, P, a, cap, hvv, rv, rfl, hrow, hob, ⟨r0, r1, r2, r3, r4, r5, r6, r7, r8, r9, rfl⟩, htr⟩
  clear HSP
  have HB7 : Hid (RowKit.Below w.heap.size w w7) := HB6.out.trans (hb7.mono HB6.out.size)
  rw [clean_var] at htr
  have hTL7 := hrow.tl
  rw [show List.map (fun x : Tm × Bool => cleanT x.1) [(tSet 0, false), (tVar 0, false)] = [tSet 0, tVar 0] from by simp [clean_set, clean_var]] at hTL7
  have HTR := Hid.mk htr
  have HTL7 := Hid.mk hTL7
  clear hb7 hrow hob htr hTL7 HB6
  go_wp2_with fail
  obtain ⟨W8, hW8⟩ : ∃ W8, w7.alloc (.cells #[.int .i64 r0, .int .i64 r1, .bool r2, .string r3, .slice r4 r5 r6, .slice r7 r8 r9] 25) = W8 := ⟨_, rfl⟩
  have hb8 : RowKit.Below w7.heap.size w7 W8 := by rw [← hW8]; exact (Below.refl _ _).alloc (Nat.le_refl _) _
  have hn8 : W8.heap[w7.heap.size]? = some (.cells #[.int .i64 r0, .int .i64 r1, .bool r2, .string r3, .slice r4 r5 r6, .slice r7 r8 r9] 25 (0, 0)) := by rw [← hW8]; exact alloc_new _ _
  have HB8 : Hid (RowKit.Below w.heap.size w W8) := HB7.out.trans (hb8.mono HB7.out.size)
  have HTR8 : Hid (TV W8 (.agg #[.int .i64 r0, .int .i64 r1, .bool r2, .string r3, .slice r4 r5 r6, .slice r7 r8 r9]) (tVar 1)) := TV.on HTR.out hb8
  have hTL8 := HTL7.out.on hb8
  rw [hW8]
  rcases hTL8 with hbad | ⟨g, rfl, hlg, hTC⟩
  · cases hbad
  obtain ⟨l0, l1, l2, l3, l4, l5, l6, l7, l8, l9, f0, f1, f2, f3, f4, f5, hl0⟩ := (hTC 0 _ rfl).valE
  rw [Nat.zero_mul] at f0 f1 f2 f3 f4 f5
  simp only [Nat.zero_add] at f1 f2 f3 f4 f5
  have HTL8 : Hid (TV W8 (.agg #[.int .i64 l0, .int .i64 l1, .bool l2, .string l3, .slice l4 l5 l6, .slice l7 l8 l9]) (tSet 0)) := hl0
  obtain ⟨p0, p1, p2, p3, p4, p5, p6⟩ := cells6 hn8
  have HCEL : Hid (∀ W : World, RowKit.Below W8.heap.size W8 W → W.cell? ⟨w7.heap.size, 0, none⟩ = some (.int .i64 r0) ∧ W.cell? ⟨w7.heap.size, 1, none⟩ = some (.int .i64 r1) ∧ W.cell? ⟨w7.heap.size, 2, none⟩ = some (.bool r2) ∧ W.cell? ⟨w7.heap.size, 3, none⟩ = some (.string r3) ∧ W.cell? ⟨w7.heap.size, 4, none⟩ = some (.slice r4 r5 r6) ∧ W.cell? ⟨w7.heap.size, 5, none⟩ = some (.slice r7 r8 r9) ∧ W.cell? ⟨g, 0, none⟩ = some (.int .i64 l0) ∧ W.cell? ⟨g, 1, none⟩ = some (.int .i64 l1) ∧ W.cell? ⟨g, 2, none⟩ = some (.bool l2) ∧ W.cell? ⟨g, 3, none⟩ = some (.string l3) ∧ W.cell? ⟨g, 4, none⟩ = some (.slice l4 l5 l6) ∧ W.cell? ⟨g, 5, none⟩ = some (.slice l7 l8 l9)) := fun W h => ⟨(h.cell (p := ⟨w7.heap.size, 0, none⟩) p6).trans p0, (h.cell (p := ⟨w7.heap.size, 1, none⟩) p6).trans p1, (h.cell (p := ⟨w7.heap.size, 2, none⟩) p6).trans p2, (h.cell (p := ⟨w7.heap.size, 3, none⟩) p6).trans p3, (h.cell (p := ⟨w7.heap.size, 4, none⟩) p6).trans p4, (h.cell (p := ⟨w7.heap.size, 5, none⟩) p6).trans p5, (h.cell (p := ⟨g, 0, none⟩) hlg).trans f0, (h.cell (p := ⟨g, 1, none⟩) hlg).trans f1, (h.cell (p := ⟨g, 2, none⟩) hlg).trans f2, (h.cell (p := ⟨g, 3, none⟩) hlg).trans f3, (h.cell (p := ⟨g, 4, none⟩) hlg).trans f4, (h.cell (p := ⟨g, 5, none⟩) hlg).trans f5⟩
  have HEX1 : ∀ (W : World) (vL : Value), RowKit.Below W8.heap.size W8 W → TV W vL (tVar 1) → Calls Try.prog 12 #[.agg #[.int .i64 r0, .int .i64 r1, .bool r2, .string r3, .slice r4 r5 r6, .slice r7 r8 r9], vL] W fun e w' => e = .returned (.bool true) ∧ RowKit.Below W.heap.size W w' := fun W vL h hL => Exactly_exa _ vL (tVar 1) W (sm_var 1) (TV.on HTR8.out h) hL
  have HEX2 : ∀ (W : World) (vL : Value), RowKit.Below W8.heap.size W8 W → TV W vL (tSet 0) → Calls Try.prog 12 #[.agg #[.int .i64 l0, .int .i64 l1, .bool l2, .string l3, .slice l4 l5 l6, .slice l7 l8 l9], vL] W fun e w' => e = .returned (.bool true) ∧ RowKit.Below W.heap.size W w' := fun W vL h hL => Exactly_exa _ vL (tSet 0) W sm_set (TV.on HTL8.out h) hL
  have HST : ∀ (W : World), Calls Try.prog 20 #[.int .i64 0] W fun e w' => ∃ v, e = .returned v ∧ TV w' v (tSet 0) ∧ RowKit.Below W.heap.size W w' := fun W => Set_any 0 W
  have HV1 : ∀ (W : World), Calls Try.prog 21 #[.int .i64 1] W fun e w' => ∃ v, e = .returned v ∧ TV w' v (tVar 1) ∧ RowKit.Below W.heap.size W w' := fun W => Var_any 1 W
  clear hW8 hb8 hn8 hTC hl0 HTR HTL7 HB7 f0 f1 f2 f3 f4 f5 p0 p1 p2 p3 p4 p5
  go_region_held3 (fun w' => w'.cell? ⟨w7.heap.size, 0, none⟩ = some (.int .i64 r0) ∧ w'.cell? ⟨w7.heap.size, 1, none⟩ = some (.int .i64 r1) ∧ w'.cell? ⟨w7.heap.size, 2, none⟩ = some (.bool r2) ∧ w'.cell? ⟨w7.heap.size, 3, none⟩ = some (.string r3) ∧ w'.cell? ⟨w7.heap.size, 4, none⟩ = some (.slice r4 r5 r6) ∧ w'.cell? ⟨w7.heap.size, 5, none⟩ = some (.slice r7 r8 r9) ∧ w'.cell? ⟨g, 0, none⟩ = some (.int .i64 l0) ∧ w'.cell? ⟨g, 1, none⟩ = some (.int .i64 l1) ∧ w'.cell? ⟨g, 2, none⟩ = some (.bool l2) ∧ w'.cell? ⟨g, 3, none⟩ = some (.string l3) ∧ w'.cell? ⟨g, 4, none⟩ = some (.slice l4 l5 l6) ∧ w'.cell? ⟨g, 5, none⟩ = some (.slice l7 l8 l9))
    (first | with_reducible exact HCEL.out _ hbS | exact HCEL.out _ (Below.refl _ _).drew)
    (first | (go_at_call 18; refine (num4_any _ _).mono ?_; rintro e w' ⟨rfl, rfl⟩)
           | (go_at_call 21; refine (HV1 _).mono ?_; rintro e wX ⟨vX, rfl, hX, bX⟩; have hbS' : RowKit.Below W8.heap.size W8 wX := (by first | exact hbS.trans (bX.mono hbS.size) | exact (Below.refl _ _).drew.trans bX); (try clear hbS); have hbS := hbS'; clear hbS'; clear bX)
           | (go_at_call 20; refine (HST _).mono ?_; rintro e wA ⟨vA, rfl, hA, bA⟩; have hbS' : RowKit.Below W8.heap.size W8 wA := (by first | exact hbS.trans (bA.mono hbS.size) | exact (Below.refl _ _).drew.trans bA); (try clear hbS); have hbS := hbS'; clear hbS'; clear bA)
           | (go_at_call 12; (first | (refine (HEX2 _ _ hbS hA).mono ?_; rintro e wE ⟨rfl, bE⟩; clear hA; have hbS' : RowKit.Below W8.heap.size W8 wE := (by first | exact hbS.trans (bE.mono hbS.size) | exact (Below.refl _ _).drew.trans bE); (try clear hbS); have hbS := hbS'; clear hbS'; clear bE) | (refine (HEX1 _ _ hbS hX).mono ?_; rintro e wE ⟨rfl, bE⟩; clear hX; have hbS' : RowKit.Below W8.heap.size W8 wE := (by first | exact hbS.trans (bE.mono hbS.size) | exact (Below.refl _ _).drew.trans bE); (try clear hbS); have hbS := hbS'; clear hbS'; clear bE))))
  all_goals
    go_wp2
    go_ret
    exact ⟨rfl, HB8.out.trans (hbS.mono HB8.out.size)⟩
end Go.Proofs.Ythdcpodheimhaaa
