/- The contracts of caught, read and ReadTerm of package bytes, whatever is read. -/
import Derived.Test.YtahacpbmoijicaaEU
namespace Go.Proofs.Ytahacpbmoijicaa
open Go.RowKit Go.Sort Go.Lib

theorem catch_panic (p : Addr) (x : Int) (u : TypeId) (pv : Value) (older : List PanicEntry) (w : World) (hc : w.cell? p = some (.int .i64 x)) (hz : w.frozen? p = false) :
    CallsD Try.prog 85 #[.pointer (some p)] (.panicking ({ v := .iface u pv, recovered := false } :: older)) w fun e u' w' =>
      e = .returned (.tuple #[]) ∧ u' = .panicking ({ v := .iface u pv, recovered := true } :: older) ∧ w' = w.setCell p (.int .i64 30) := by
  refine callsD_of_wpS Try.func85 rfl fun c₀ cs hu => ?_
  apply wpS_seq
  apply wpS_region
  simp [wpOpsS, go_sem, recoverD, hu, Try.ntmps85, Exit.thenS]
  refine wpS_cond (t := true) (by simp [Act.eval, Array.replicate]) ?_
  simp only [if_true]
  apply wpS_region
  simp [wpOpsS, go_sem, hc, hz, bodyPostS, results, Try.results85]

/-- the empty term -/
def zeroT : Value := .agg #[.int .i64 0, .int .i64 0, .bool false, .string { data := #[] }, .slice none 0 0, .slice none 0 0]

set_option maxRecDepth 100000 in
set_option maxHeartbeats 4000000 in
theorem caught_all (rb : Nat) (w : World) (hrb : rb < w.heap.size) (HS : ∀ W, RowKit.Below w.heap.size w W → Calls Try.prog 33 #[.pointer (some ⟨rb, 0, none⟩)] W fun e w' => (∃ v', e = .returned v' ∧ TmQ W v' w' ∧ Kept (fun k => k = rb) W w') ∨ (PanB e ∧ Kept (fun k => k = rb) W w')) : Calls Try.prog 57 #[.func (.func 33) #[.pointer (some ⟨rb, 0, none⟩)] #[]] w fun e w' => (∃ v', e = .returned (.tuple #[v', .int .i64 0]) ∧ TmQ w v' w' ∧ Kept (fun k => k = rb) w w') ∨ (e = .returned (.tuple #[zeroT, .int .i64 30]) ∧ Kept (fun k => k = rb) w w') := by
  have hmf : ∀ (fn : Fn) (first cap : Array Value) (w : World), (Instr.makeFunc fn first cap).run Try.prog w = .ok (.func fn first cap) w := fun _ _ _ _ => rfl
  obtain ⟨W0, hW0⟩ : ∃ W0, (w.alloc (.cells #[.int .i64 0, .int .i64 0, .bool false, .string { data := #[] }, .slice none 0 0, .slice none 0 0] 25)).alloc (.cells #[.int .i64 0] 29) = W0 := ⟨_, rfl⟩
  have hb : RowKit.Below w.heap.size w W0 := by rw [← hW0]; exact ((Below.refl _ _).alloc (Nat.le_refl _) _).alloc (by simp) _
  have HX0 : Hid (W0.heap[w.heap.size]? = some (.cells #[.int .i64 0, .int .i64 0, .bool false, .string { data := #[] }, .slice none 0 0, .slice none 0 0] 25 (0, 0))) := by unfold Hid; rw [← hW0]; exact box_at
  have HE0 : Hid (W0.heap[w.heap.size + 1]? = some (.cells #[.int .i64 0] 29 (0, 0))) := by unfold Hid; rw [← hW0]; exact box_at1
  have HC := HS W0 hb
  have HK0 : Hid (Kept (fun k => k = rb) w W0) := Kept.of_below hb
  have HW0 := Hid.mk hW0
  have hs0 : W0.heap.size = w.heap.size + 1 + 1 := by rw [← hW0]; simp
  have HSZ := Hid.mk hs0
  clear hb hW0 HS hs0
  go_enter_defers Try.func57, Try.ntmps57
  go_wp2_with fail
  rw [HW0.out]
  refine HC.mono ?_
  rintro e w1 (⟨v1, rfl, ⟨tt, ⟨u0, u1, u2, u3, r1, r2, r3, s1', s2', s3', rfl⟩, htf1, hsm1⟩, hk1⟩ | ⟨rfl, hk1⟩)
  · have HTF := Hid.mk htf1
    have HK1 : Hid (Kept (fun k => k = rb) w w1) := HK0.out.trans hk1
    have hX1 := box6 HX0.out hk1 (by omega)
    have hE1 := box6 HE0.out hk1 (by omega)
    obtain ⟨y0, y1, y2, y3, y4, y5, y6⟩ := cells6 hX1
    have yf := frz6 hX1
    have e0 : w1.cell? ⟨w.heap.size + 1, 0, none⟩ = some (.int .i64 0) := by rw [cell_of_row _ _ 0 _ _ _ hE1]; rfl
    have ef : w1.frozen? ⟨w.heap.size + 1, 0, none⟩ = false := by simp [World.frozen?, hE1]
    have el := heap_lt hE1
    have hs1 := hk1.size
    clear htf1 hk1 HC hX1 hE1
    go_wp2
    refine leaves_cons (f := 85) (args := #[.pointer (some ⟨w.heap.size + 1, 0, none⟩)]) (by simp) (by simp [go_sem]) ?_
    refine (catch_idle ⟨w.heap.size + 1, 0, none⟩ _).mono ?_
    rintro e u' w'' ⟨rfl, rfl, rfl⟩
    dsimp only [settle, Leaves]
    refine ⟨.tuple #[.agg #[.int .i64 u0, .int .i64 u1, .bool u2, .string u3, .slice r1 r2 r3, .slice s1' s2' s3'], .int .i64 0], by simp [results, Try.results57, go_sem, y0, y1, y2, y3, y4, y5, e0], Or.inl ⟨_, rfl, ⟨_, ⟨_, _, _, _, _, _, _, _, _, _, rfl⟩, ?_, hsm1⟩, ?_⟩⟩
    · have hz := HSZ.out
      refine HTF.out.move (by simp [World.setCell]) fun k _ h2 => ?_
      have h3 := oldB_no h2
      have st : ∀ (w : World) (b o : Nat) (x : Value), k ≠ b → (w.setCell ⟨b, o, none⟩ x).heap[k]? = w.heap[k]? := fun w b o x h => Below.heap_setCell _ _ _ _ h
      refine ⟨oldB_new (by omega), ?_⟩
      rw [st _ _ 0 _ (by omega), st _ _ 5 _ (by omega), st _ _ 4 _ (by omega), st _ _ 3 _ (by omega), st _ _ 2 _ (by omega), st _ _ 1 _ (by omega), st _ _ 0 _ (by omega)]
    · exact ((((((HK1.out.setNew (p := ⟨w.heap.size, 0, none⟩) (Nat.le_refl _) _).setNew (p := ⟨w.heap.size, 1, none⟩) (Nat.le_refl _) _).setNew (p := ⟨w.heap.size, 2, none⟩) (Nat.le_refl _) _).setNew (p := ⟨w.heap.size, 3, none⟩) (Nat.le_refl _) _).setNew (p := ⟨w.heap.size, 4, none⟩) (Nat.le_refl _) _).setNew (p := ⟨w.heap.size, 5, none⟩) (Nat.le_refl _) _).setNew (p := ⟨w.heap.size + 1, 0, none⟩) (by simp only; omega) _
  · have HK1 : Hid (Kept (fun k => k = rb) w w1) := HK0.out.trans hk1
    have hX1 := box6 HX0.out hk1 (by omega)
    have hE1 := box6 HE0.out hk1 (by omega)
    obtain ⟨y0, y1, y2, y3, y4, y5, y6⟩ := cells6 hX1
    have e0 : w1.cell? ⟨w.heap.size + 1, 0, none⟩ = some (.int .i64 0) := by rw [cell_of_row _ _ 0 _ _ _ hE1]; rfl
    have ef : w1.frozen? ⟨w.heap.size + 1, 0, none⟩ = false := by simp [World.frozen?, hE1]
    have el := heap_lt hE1
    have hs1 := hk1.size
    clear hk1 HC hX1 hE1
    go_wp2
    refine leaves_cons (f := 85) (args := #[.pointer (some ⟨w.heap.size + 1, 0, none⟩)]) (by simp) (by simp [go_sem]) ?_
    refine (catch_panic ⟨w.heap.size + 1, 0, none⟩ 0 _ _ [] _ e0 ef).mono ?_
    rintro e u' w'' ⟨rfl, rfl, rfl⟩
    dsimp only [settle, Leaves]
    refine ⟨.tuple #[zeroT, .int .i64 30], by simp [zeroT, results, Try.results57, go_sem, y0, y1, y2, y3, y4, y5, e0], Or.inr ⟨rfl, ?_⟩⟩
    exact HK1.out.setNew (p := ⟨w.heap.size + 1, 0, none⟩) (by simp only; omega) _

set_option maxRecDepth 100000 in
set_option maxHeartbeats 4000000 in
theorem read_no (rb N : Nat) (bs : List UInt8) (a : Option Addr) (cap : Nat) (w : World) (hR : RD w N rb bs 0) (hB : BL w a bs) (hne : ∀ ad, a = some ad → ad.block ≠ rb) (hl : bs.length ≤ 1000000) (hno : ∀ t, smT 1000000 t → checkT t = 0 → encT t ≠ bs) : Calls Try.prog 32 #[.slice a bs.length cap, .func (.func 33) #[.pointer (some ⟨rb, 0, none⟩)] #[], .func (.func 9) #[] #[]] w fun e w' => e = .returned (.tuple #[zeroT, .int .i64 30]) ∧ Kept (fun k => k = rb) w w' := by
  have hrbs := hR.lt
  obtain ⟨W0, hW0⟩ : ∃ W0, (w.alloc (.cells #[.int .i64 0, .int .i64 0, .bool false, .string { data := #[] }, .slice none 0 0, .slice none 0 0] 25)).alloc (.cells #[.int .i64 0, .int .i64 0, .bool false, .string { data := #[] }, .slice none 0 0, .slice none 0 0] 25) = W0 := ⟨_, rfl⟩
  have hb : RowKit.Below w.heap.size w W0 := by rw [← hW0]; exact ((Below.refl _ _).alloc (Nat.le_refl _) _).alloc (by simp) _
  have HX0 : Hid (W0.heap[w.heap.size]? = some (.cells #[.int .i64 0, .int .i64 0, .bool false, .string { data := #[] }, .slice none 0 0, .slice none 0 0] 25 (0, 0))) := by unfold Hid; rw [← hW0]; exact box_at
  have HX0' : Hid (W0.heap[w.heap.size + 1]? = some (.cells #[.int .i64 0, .int .i64 0, .bool false, .string { data := #[] }, .slice none 0 0, .slice none 0 0] 25 (0, 0))) := by unfold Hid; rw [← hW0]; exact box_at1
  have hs0 : W0.heap.size = w.heap.size + 1 + 1 := by rw [← hW0]; simp
  have HC := caught_all rb W0 (by omega) fun W hbW => (term_all N rb 501 0 (by omega) (by omega) (by omega) bs W ((hR.on hb).on hbW) hl).mono fun e w' h => by
    rcases h.out with ⟨v, bs', h1, h2, -, -, h5⟩ | ⟨h1, h2⟩
    · exact Or.inl ⟨v, h1, h2, h5⟩
    · exact Or.inr ⟨h1, h2⟩
  have HB0 : Hid (BL W0 a bs) := hB.below hb
  have HK0 : Hid (Kept (fun k => k = rb) w W0) := Kept.of_below hb
  have HNE := Hid.mk hne
  have HW0 := Hid.mk hW0
  have HSZ := Hid.mk hs0
  have HNO := Hid.mk hno
  clear hR hB hne hb hW0 hs0 hno
  go_enter Try.func32, Try.ntmps32
  go_wp2_with fail
  rw [HW0.out]
  refine HC.mono ?_
  rintro e w1 (⟨v1, rfl, ⟨tt, ⟨u0, u1, u2, u3, r1, r2, r3, s1', s2', s3', rfl⟩, htf1, hsm1⟩, hk1⟩ | ⟨rfl, hk1⟩)
  · have HK1 : Hid (Kept (fun k => k = rb) w w1) := HK0.out.trans hk1
    have hX1 := box6 HX0.out hk1 (by omega)
    have hX1' := box6 HX0'.out hk1 (by omega)
    have hs1 := hk1.size
    have HB1 : Hid (BL w1 a bs) := HB0.out.move hs1 fun b off e hb' => hk1.block b hb' (HNE.out _ e)
    obtain ⟨W2, hW2⟩ : ∃ W2, w1.alloc (.cells #[.int .i64 u0, .int .i64 u1, .bool u2, .string u3, .slice r1 r2 r3, .slice s1' s2' s3'] 25) = W2 := ⟨_, rfl⟩
    have hb2 : RowKit.Below w1.heap.size w1 W2 := by rw [← hW2]; exact (Below.refl _ _).alloc (Nat.le_refl _) _
    have HO2 : Hid (W2.heap[w1.heap.size]? = some (.cells #[.int .i64 u0, .int .i64 u1, .bool u2, .string u3, .slice r1 r2 r3, .slice s1' s2' s3'] 25 (0, 0))) := by unfold Hid; rw [← hW2]; exact alloc_new _ _
    have HX2 : Hid (W2.heap[w.heap.size]? = some (.cells #[.int .i64 0, .int .i64 0, .bool false, .string { data := #[] }, .slice none 0 0, .slice none 0 0] 25 (0, 0))) := (hb2.block _ (heap_lt hX1)).trans hX1
    have HX2' : Hid (W2.heap[w.heap.size + 1]? = some (.cells #[.int .i64 0, .int .i64 0, .bool false, .string { data := #[] }, .slice none 0 0, .slice none 0 0] 25 (0, 0))) := (hb2.block _ (heap_lt hX1')).trans hX1'
    have HC2 := BTerm_any tt _ W2 (htf1.tv.on hb2) hsm1
    have HB12 := Hid.mk hb2
    obtain ⟨o0, o1, o2, o3, o4, o5, o6⟩ := cells6 HO2.out
    have HW2 := Hid.mk hW2
    have HTR : Hid ((∃ x, x ≠ 0 ∧ termRes tt = .error x) ∨ (termRes tt = .ok (encT tt) ∧ encT tt ≠ bs ∧ (encT tt).length ≤ 1000000)) := by
      unfold Hid termRes
      by_cases h1 : checkT tt ≠ 0
      · exact Or.inl ⟨_, h1, by rw [if_pos h1]⟩
      · rw [if_neg h1]
        by_cases h2 : 1000000 < (encT tt).length
        · exact Or.inl ⟨2, by decide, by rw [if_pos h2]⟩
        · rw [if_neg h2]
          exact Or.inr ⟨rfl, HNO.out tt hsm1 (by omega), by omega⟩
    clear htf1 hk1 HC hX1 hX1' hb2 hW2
    go_wp2_with fail
    rw [HW2.out]
    refine HC2.mono ?_
    rintro e w3 ⟨hans, hb3⟩
    have HB13 : Hid (RowKit.Below w1.heap.size w1 w3) := HB12.out.trans (hb3.mono HB12.out.size)
    have HO3 : Hid (w3.heap[w1.heap.size]? = some (.cells #[.int .i64 u0, .int .i64 u1, .bool u2, .string u3, .slice r1 r2 r3, .slice s1' s2' s3'] 25 (0, 0))) := (hb3.block _ (heap_lt HO2.out)).trans HO2.out
    have HX3 : Hid (w3.heap[w.heap.size]? = some (.cells #[.int .i64 0, .int .i64 0, .bool false, .string { data := #[] }, .slice none 0 0, .slice none 0 0] 25 (0, 0))) := (hb3.block _ (heap_lt HX2.out)).trans HX2.out
    have HX3' : Hid (w3.heap[w.heap.size + 1]? = some (.cells #[.int .i64 0, .int .i64 0, .bool false, .string { data := #[] }, .slice none 0 0, .slice none 0 0] 25 (0, 0))) := (hb3.block _ (heap_lt HX2'.out)).trans HX2'.out
    rcases HTR.out with ⟨x, hx, hr⟩ | ⟨hr, hneq, hlen⟩
    · rw [hr] at hans
      obtain ⟨-, rfl⟩ := hans
      have hx1 : (x != 0) = true := by simpa using hx
      clear hb3 hr HTR
      obtain ⟨y0, y1, y2, y3, y4, y5, y6⟩ := cells6 HX3.out
      have yf := frz6 HX3.out
      obtain ⟨n0, n1, n2, n3, n4, n5, n6⟩ := cells6 HX3'.out
      clear HC2
      go_wp2
      refine bodyPost_ret (v := .tuple #[zeroT, .int .i64 30]) (by simp [zeroT, results, Try.results32, go_sem, y0, y1, y2, y3, y4, y5]) rfl ⟨rfl, ?_⟩
      have hk4 : Kept (fun k => k = rb) w w3 := HK1.out.trans (Kept.of_below HB13.out)
      exact (((((hk4.setNew (p := ⟨w.heap.size, 0, none⟩) (Nat.le_refl _) _).setNew (p := ⟨w.heap.size, 1, none⟩) (Nat.le_refl _) _).setNew (p := ⟨w.heap.size, 2, none⟩) (Nat.le_refl _) _).setNew (p := ⟨w.heap.size, 3, none⟩) (Nat.le_refl _) _).setNew (p := ⟨w.heap.size, 4, none⟩) (Nat.le_refl _) _).setNew (p := ⟨w.heap.size, 5, none⟩) (Nat.le_refl _) _
    · rw [hr] at hans
      obtain ⟨vb, rfl, hO3⟩ := hans
      obtain ⟨a3, c3, rfl, hbl3, -, -, -, -⟩ := hO3.shape
      have HC3 := EqualB_any (encT tt) bs a3 a c3 cap w3 hbl3 (HB1.out.below HB13.out) (by omega)
      rw [decide_eq_false hneq] at HC3
      clear hO3 hbl3 hb3 HC2 o0 o1 o2 o3 o4 o5 o6 hr HTR hneq
      generalize encT tt = es at *
      go_wp2_with fail
      refine HC3.mono ?_
      rintro e w4 ⟨rfl, hg4⟩
      have hb4 := hg4.below
      have HB14 : Hid (RowKit.Below w1.heap.size w1 w4) := HB13.out.trans (hb4.mono HB13.out.size)
      have hX4 := (hb4.block _ (heap_lt HX3.out)).trans HX3.out
      have hX4' := (hb4.block _ (heap_lt HX3'.out)).trans HX3'.out
      obtain ⟨y0, y1, y2, y3, y4, y5, y6⟩ := cells6 hX4
      have yf := frz6 hX4
      obtain ⟨n0, n1, n2, n3, n4, n5, n6⟩ := cells6 hX4'
      clear HC3 hX4 hX4' hb4 hg4
      go_wp2
      refine bodyPost_ret (v := .tuple #[zeroT, .int .i64 30]) (by simp [zeroT, results, Try.results32, go_sem, y0, y1, y2, y3, y4, y5]) rfl ⟨rfl, ?_⟩
      have hk4 : Kept (fun k => k = rb) w w4 := HK1.out.trans (Kept.of_below HB14.out)
      exact (((((hk4.setNew (p := ⟨w.heap.size, 0, none⟩) (Nat.le_refl _) _).setNew (p := ⟨w.heap.size, 1, none⟩) (Nat.le_refl _) _).setNew (p := ⟨w.heap.size, 2, none⟩) (Nat.le_refl _) _).setNew (p := ⟨w.heap.size, 3, none⟩) (Nat.le_refl _) _).setNew (p := ⟨w.heap.size, 4, none⟩) (Nat.le_refl _) _).setNew (p := ⟨w.heap.size, 5, none⟩) (Nat.le_refl _) _
  · have hX1 := box6 HX0.out hk1 (by omega)
    have hX1' := box6 HX0'.out hk1 (by omega)
    have hs1 := hk1.size
    dsimp only [zeroT]
    obtain ⟨W2, hW2⟩ : ∃ W2, w1.alloc (.cells #[.int .i64 0, .int .i64 0, .bool false, .string { data := #[] }, .slice none 0 0, .slice none 0 0] 25) = W2 := ⟨_, rfl⟩
    have hb2 : RowKit.Below w1.heap.size w1 W2 := by rw [← hW2]; exact (Below.refl _ _).alloc (Nat.le_refl _) _
    have HX2 : Hid (W2.heap[w.heap.size]? = some (.cells #[.int .i64 0, .int .i64 0, .bool false, .string { data := #[] }, .slice none 0 0, .slice none 0 0] 25 (0, 0))) := (hb2.block _ (heap_lt hX1)).trans hX1
    have HX2' : Hid (W2.heap[w.heap.size + 1]? = some (.cells #[.int .i64 0, .int .i64 0, .bool false, .string { data := #[] }, .slice none 0 0, .slice none 0 0] 25 (0, 0))) := (hb2.block _ (heap_lt hX1')).trans hX1'
    have HO2 : Hid (W2.heap[w1.heap.size]? = some (.cells #[.int .i64 0, .int .i64 0, .bool false, .string { data := #[] }, .slice none 0 0, .slice none 0 0] 25 (0, 0))) := by unfold Hid; rw [← hW2]; exact alloc_new _ _
    have HK2 : Hid (Kept (fun k => k = rb) w W2) := (HK0.out.trans hk1).trans (Kept.of_below hb2)
    have HW2 := Hid.mk hW2
    obtain ⟨y0, y1, y2, y3, y4, y5, y6⟩ := cells6 HX2.out
    have yf := frz6 HX2.out
    obtain ⟨n0, n1, n2, n3, n4, n5, n6⟩ := cells6 HX2'.out
    obtain ⟨o0, o1, o2, o3, o4, o5, o6⟩ := cells6 HO2.out
    have of := frz6 HO2.out
    have hn1 : w1.heap.size ≠ w.heap.size := by have := HSZ.out; omega
    have hn2 : w1.heap.size ≠ w.heap.size + 1 := by have := HSZ.out; omega
    clear HC hk1 hX1 hX1' hb2 hW2
    go_wp2_with (first | rw [HW2.out] | fail)
    refine bodyPost_ret (v := .tuple #[zeroT, .int .i64 30]) (by simp [zeroT, results, Try.results32, go_sem, y0, y1, y2, y3, y4, y5]) rfl ⟨rfl, ?_⟩
    have hz := HSZ.out
    repeat (refine Kept.setNew ?_ (by simp only; omega) _)
    exact HK2.out

set_option maxRecDepth 100000 in
set_option maxHeartbeats 4000000 in
theorem ReadTerm_no (bs : List UInt8) (a : Option Addr) (cap : Nat) (w : World) (hB : BL w a bs) (hlt : ∀ ad, a = some ad → ad.block < w.heap.size) (hnn : a = none → bs = []) (hcap : bs.length ≤ cap) (hcm : cap ≤ 9223372036854775807) (hl : bs.length ≤ 1000000) (hno : ∀ t, smT 1000000 t → checkT t = 0 → encT t ≠ bs) : Calls Try.prog 12 #[.slice a bs.length cap] w fun e w' => e = .returned (.tuple #[zeroT, .int .i64 30]) ∧ RowKit.Below w.heap.size w w' := by
  obtain ⟨W0, hW0⟩ : ∃ W0, (w.alloc (.cells #[.int .i64 0, .int .i64 0, .bool false, .string { data := #[] }, .slice none 0 0, .slice none 0 0] 25)).alloc (.cells #[.slice a bs.length cap, .int .i64 0] 60) = W0 := ⟨_, rfl⟩
  have hb : RowKit.Below w.heap.size w W0 := by rw [← hW0]; exact ((Below.refl _ _).alloc (Nat.le_refl _) _).alloc (by simp) _
  have HX0 : Hid (W0.heap[w.heap.size]? = some (.cells #[.int .i64 0, .int .i64 0, .bool false, .string { data := #[] }, .slice none 0 0, .slice none 0 0] 25 (0, 0))) := by unfold Hid; rw [← hW0]; exact box_at
  have hr0 : W0.heap[w.heap.size + 1]? = some (.cells #[.slice a bs.length cap, .int .i64 0] 60 (0, 0)) := by rw [← hW0]; exact box_at1
  have hR : RD W0 W0.heap.size (w.heap.size + 1) bs 0 := ⟨heap_lt hr0, Nat.le_refl _, _, _, hr0, hB.below hb, hcap, hcm, fun ad e => by
    have := hlt ad e
    have := hb.size
    omega, hnn⟩
  have HC := read_no (w.heap.size + 1) W0.heap.size bs a cap W0 hR (hB.below hb) (fun ad e => by have := hlt ad e; omega) hl hno
  have HB0 := Hid.mk hb
  have HW0 := Hid.mk hW0
  clear hB hb hW0 hr0 hR hlt hno
  go_enter Try.func12, Try.ntmps12
  go_wp2_with fail
  rw [HW0.out]
  refine HC.mono ?_
  rintro e w1 ⟨rfl, hk1⟩
  have hX1 := box6 HX0.out hk1 (by omega)
  have HB1 : Hid (RowKit.Below w.heap.size w w1) := HB0.out.trans (hk1.below HB0.out.size fun k hk => by omega)
  have hs1 := hk1.size
  have hs0 : w.heap.size < W0.heap.size := heap_lt HX0.out
  obtain ⟨y0, y1, y2, y3, y4, y5, y6⟩ := cells6 hX1
  have yf := frz6 hX1
  clear hk1 HC hX1
  dsimp only [zeroT]
  go_wp2
  refine bodyPost_ret (v := .tuple #[zeroT, .int .i64 30]) (by simp [zeroT, results, Try.results12, go_sem, y0, y1, y2, y3, y4, y5]) rfl ⟨rfl, ?_⟩
  exact HB1.out.trans ((keep6 (P := fun k => k = w.heap.size) rfl).below HB1.out.size (fun k hk => by omega))
end Go.Proofs.Ytahacpbmoijicaa
