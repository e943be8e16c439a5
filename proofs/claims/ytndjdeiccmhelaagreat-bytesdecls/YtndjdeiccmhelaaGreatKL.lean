/- The contracts of caught and read at declarations, and of bytes.ReadDecls. -/
import Derived.Test.YtndjdeiccmhelaaGreatKK
import Derived.Test.YtndjdeiccmhelaaGreatEP
namespace Go.Proofs.YtndjdeiccmhelaaGreat
open Go.RowKit Go.Sort Go.Lib

theorem catch_idleD (p : Addr) (w : World) : CallsD Tryz.prog 100 #[.pointer (some p)] .returning w fun e u' w' => e = .returned (.tuple #[]) ∧ u' = .returning ∧ w' = w := by
  refine callsD_of_wpS Tryz.func100 rfl fun c₀ cs hu => ?_
  apply wpS_seq
  apply wpS_region
  simp [wpOpsS, go_sem, recoverD, hu, Tryz.ntmps100, Exit.thenS]
  refine wpS_cond (t := false) (by simp [Act.eval, Array.replicate]) ?_
  simp only [Bool.false_eq_true, if_false]
  refine wpS_of_wp (wp_skip ?_)
  cases c₀
  simp_all [bodyPostS, results, Tryz.results100]

theorem catch_panicD (p : Addr) (x : Int) (u : TypeId) (pv : Value) (older : List PanicEntry) (w : World) (hc : w.cell? p = some (.int .i64 x)) (hz : w.frozen? p = false) :
    CallsD Tryz.prog 100 #[.pointer (some p)] (.panicking ({ v := .iface u pv, recovered := false } :: older)) w fun e u' w' =>
      e = .returned (.tuple #[]) ∧ u' = .panicking ({ v := .iface u pv, recovered := true } :: older) ∧ w' = w.setCell p (.int .i64 30) := by
  refine callsD_of_wpS Tryz.func100 rfl fun c₀ cs hu => ?_
  apply wpS_seq
  apply wpS_region
  simp [wpOpsS, go_sem, recoverD, hu, Tryz.ntmps100, Exit.thenS]
  refine wpS_cond (t := true) (by simp [Act.eval, Array.replicate]) ?_
  simp only [if_true]
  apply wpS_region
  simp [wpOpsS, go_sem, hc, hz, bodyPostS, results, Tryz.results100]

/-- what was read, ahead of the look whether it is right -/
def CtD (w : World) (rb : Nat) (bs : List UInt8) (e : Ending) (w' : World) : Prop :=
  (∃ (ds : List Dl) (a : Option Addr) (cap : Nat), e = .returned (.tuple #[.slice a ds.length cap, .int .i64 0]) ∧ ds.length ≤ 1000000 ∧ RowX 41 17 ED w' w.heap.size (oldB w) a cap ds ∧ Kept (fun k => k = rb) w w' ∧ ∀ ys, HasD bs ys → ds = ys.map cleanD) ∨ (e = .returned (.tuple #[.slice none 0 0, .int .i64 30]) ∧ Kept (fun k => k = rb) w w' ∧ ∀ ys, ¬ HasD bs ys)

set_option maxRecDepth 100000 in
set_option maxHeartbeats 4000000 in
theorem caughtD_both (N rb : Nat) (bs : List UInt8) (w : World) (hR : RD w N rb bs 0) (hl : bs.length ≤ 1000000) : Calls Tryz.prog 66 #[.func (.func 38) #[.pointer (some ⟨rb, 0, none⟩)] #[]] w (CtD w rb bs) := by
  have hmf : ∀ (fn : Fn) (first cap : Array Value) (w : World), (Instr.makeFunc fn first cap).run Tryz.prog w = .ok (.func fn first cap) w := fun _ _ _ _ => rfl
  have hrb := hR.lt
  obtain ⟨W0, hW0⟩ : ∃ W0, w.alloc (.cells #[.int .i64 0] 26) = W0 := ⟨_, rfl⟩
  have hb : RowKit.Below w.heap.size w W0 := by rw [← hW0]; exact (Below.refl _ _).alloc (Nat.le_refl _) _
  have HE0 : Hid (W0.heap[w.heap.size]? = some (.cells #[.int .i64 0] 26 (0, 0))) := by unfold Hid; rw [← hW0]; exact alloc_new _ _
  have HC := decls_both N rb bs W0 (hR.on hb) hl
  have HK0 : Hid (Kept (fun k => k = rb) w W0) := Kept.of_below hb
  have HW0 := Hid.mk hW0
  have hs0 : W0.heap.size = w.heap.size + 1 := by rw [← hW0]; simp
  have HSZ := Hid.mk hs0
  clear hb hW0 hs0 hR
  go_enter_defers Tryz.func66, Tryz.ntmps66
  go_wp2_with fail
  rw [HW0.out]
  refine HC.mono ?_
  rintro e w1 (⟨ds, v1, bs', rfl, ⟨hdl, a, cap, rfl, hrow⟩, -, -, hk1, hy1⟩ | ⟨rfl, hk1, hy1⟩)
  · have HROW := Hid.mk hrow
    have HK1 : Hid (Kept (fun k => k = rb) w w1) := HK0.out.trans hk1
    have hE1 := box6 HE0.out hk1 (by omega)
    have e0 : w1.cell? ⟨w.heap.size, 0, none⟩ = some (.int .i64 0) := by rw [cell_of_row _ _ 0 _ _ _ hE1]; rfl
    have ef : w1.frozen? ⟨w.heap.size, 0, none⟩ = false := by simp [World.frozen?, hE1]
    have el := heap_lt hE1
    have HY1 := Hid.mk hy1
    clear hrow hk1 HC hE1 hy1
    go_wp2
    refine leaves_cons (f := 100) (args := #[.pointer (some ⟨w.heap.size, 0, none⟩)]) (by simp) (by simp [go_sem]) ?_
    refine (catch_idleD ⟨w.heap.size, 0, none⟩ _).mono ?_
    rintro e u' w'' ⟨rfl, rfl, rfl⟩
    dsimp only [settle, Leaves]
    refine ⟨.tuple #[.slice a ds.length cap, .int .i64 0], by simp [results, Tryz.results66, go_sem, e0], Or.inl ⟨ds, a, cap, rfl, hdl, ?_, HK1.out.setNew (p := ⟨w.heap.size, 0, none⟩) (Nat.le_refl _) _, fun ys hy => (HY1.out ys [] hy.1 (by rw [List.append_nil]; exact hy.2.symm)).1⟩⟩
    have hz := HSZ.out
    refine RowX.weaken ED.moves (W0 := W0) (HROW.out.move ED.moves (fun k hk => oldB_new hk) (by simp [World.setCell]) fun k _ h2 => ?_) (by omega)
    have h3 := oldB_no h2
    exact Below.heap_setCell _ _ _ _ (by simp only; omega)
  · have HK1 : Hid (Kept (fun k => k = rb) w w1) := HK0.out.trans hk1
    have hE1 := box6 HE0.out hk1 (by omega)
    have e0 : w1.cell? ⟨w.heap.size, 0, none⟩ = some (.int .i64 0) := by rw [cell_of_row _ _ 0 _ _ _ hE1]; rfl
    have ef : w1.frozen? ⟨w.heap.size, 0, none⟩ = false := by simp [World.frozen?, hE1]
    have el := heap_lt hE1
    have HY1 := Hid.mk hy1
    clear hk1 HC hE1 hy1
    go_wp2
    refine leaves_cons (f := 100) (args := #[.pointer (some ⟨w.heap.size, 0, none⟩)]) (by simp) (by simp [go_sem]) ?_
    refine (catch_panicD ⟨w.heap.size, 0, none⟩ 0 _ _ [] _ e0 ef).mono ?_
    rintro e u' w'' ⟨rfl, rfl, rfl⟩
    dsimp only [settle, Leaves]
    refine ⟨.tuple #[.slice none 0 0, .int .i64 30], by simp [results, Tryz.results66, go_sem, e0], Or.inr ⟨rfl, HK1.out.setNew (p := ⟨w.heap.size, 0, none⟩) (Nat.le_refl _) _, fun ys hy => HY1.out ys [] hy.1 (by rw [List.append_nil]; exact hy.2.symm)⟩⟩

/-- what ReadDecls answers -/
def DsAns (w : World) (bs : List UInt8) (e : Ending) (w' : World) : Prop := (∃ (ds : List Dl) (a : Option Addr) (cap : Nat), HasD bs ds ∧ ds = ds.map cleanD ∧ e = .returned (.tuple #[.slice a ds.length cap, .int .i64 0]) ∧ RowX 41 17 ED w' w.heap.size (oldB w) a cap ds) ∨ ((∀ ds, ¬ HasD bs ds) ∧ e = .returned (.tuple #[.slice none 0 0, .int .i64 30]))

set_option maxRecDepth 100000 in
set_option maxHeartbeats 4000000 in
theorem readD_both (N rb : Nat) (bs : List UInt8) (a : Option Addr) (cap : Nat) (w : World) (hR : RD w N rb bs 0) (hB : BL w a bs) (hne : ∀ ad, a = some ad → ad.block ≠ rb) (hl : bs.length ≤ 1000000) : Calls Tryz.prog 37 #[.slice a bs.length cap, .func (.func 38) #[.pointer (some ⟨rb, 0, none⟩)] #[], .func (.func 8) #[] #[]] w fun e w' => DsAns w bs e w' ∧ Kept (fun k => k = rb) w w' := by
  have hrb := hR.lt
  have hli : ¬ (1000000 : Int) < (bs.length : Int) := by omega
  have HC := caughtD_both N rb bs w hR hl
  have HB := Hid.mk hB
  have HNE := Hid.mk hne
  clear hR hB hne
  go_enter Tryz.func37, Tryz.ntmps37
  go_wp2_with fail
  refine HC.mono ?_
  rintro e w1 (⟨ds, a1, cap1, rfl, hdl, hrow, hk1, hy1⟩ | ⟨rfl, hk1, hy1⟩)
  · have HROW := Hid.mk hrow
    have HK1 := Hid.mk hk1
    have HY1 := Hid.mk hy1
    have hs1 := hk1.size
    have HB1 : Hid (BL w1 a bs) := HB.out.move hs1 fun b off e hb' => hk1.block b hb' (HNE.out _ e)
    obtain ⟨hdl1, hsm1⟩ := hrow.dl (fun k hk => oldB_new hk)
    have HSM := Hid.mk hsm1
    have HC2 := Decls_any ds a1 cap1 w1 hdl1 hdl hsm1
    clear hrow hk1 hy1 HC hdl1 hsm1
    go_wp2_with fail
    refine HC2.mono ?_
    rintro e w2 ⟨hans, hb2⟩
    have HB2 := Hid.mk hb2
    have hs2 := hb2.size
    have HROW2 : Hid (RowX 41 17 ED w2 w.heap.size (oldB w) a1 cap1 ds) := HROW.out.move ED.moves (fun k hk => oldB_new hk) hb2.size fun k h1 _ => hb2.block k h1
    have HK2 : Hid (Kept (fun k => k = rb) w w2) := HK1.out.trans (Kept.of_below hb2)
    rcases res_cases ds with ⟨x, hx, hr⟩ | hr
    · rw [hr] at hans
      obtain ⟨-, rfl⟩ := hans
      have hx1 : (x != 0) = true := by simpa using hx
      have HNO : Hid (∀ ys, ¬ HasD bs ys) := fun ys hy => by
        have h1 := has_res hy hl
        rw [← HY1.out ys hy, hr] at h1
        cases h1
      clear hb2 hr HC2
      go_wp2
      go_ret2
      exact ⟨Or.inr ⟨HNO.out, rfl⟩, HK2.out⟩
    · have hrk := hr
      rw [hr] at hans
      obtain ⟨vb, rfl, hO3⟩ := hans
      obtain ⟨a3, c3, rfl, hbl3, -, -, -, -⟩ := hO3.shape
      have hhas := res_has HSM.out hrk
      have HC3 := EqualB_any (encDs ds) bs a3 a c3 cap w2 hbl3 (HB1.out.below hb2) (by have := hhas.2; omega)
      by_cases heq : encDs ds = bs
      · rw [decide_eq_true heq] at HC3
        have HH : Hid (HasD bs ds) := by unfold Hid; rw [← heq]; exact hhas.1
        clear hO3 hbl3 hb2 HC2 hr hrk hhas heq
        generalize encDs ds = es at *
        go_wp2_with fail
        refine HC3.mono ?_
        rintro e w4 ⟨rfl, hg4⟩
        have hb4 := hg4.below
        have HROW4 : Hid (RowX 41 17 ED w4 w.heap.size (oldB w) a1 cap1 ds) := HROW2.out.move ED.moves (fun k hk => oldB_new hk) hb4.size fun k h1 _ => hb4.block k h1
        have HK4 : Hid (Kept (fun k => k = rb) w w4) := HK2.out.trans (Kept.of_below hb4)
        clear HC3 hb4 hg4
        go_wp2
        go_ret2
        exact ⟨Or.inl ⟨ds, a1, cap1, HH.out, HY1.out ds HH.out, rfl, HROW4.out⟩, HK4.out⟩
      · rw [decide_eq_false heq] at HC3
        have HNO : Hid (∀ ys, ¬ HasD bs ys) := fun ys hy => by
          have h1 := HY1.out ys hy
          apply heq
          rw [h1, encDs_clean]
          exact hy.2
        clear hO3 hbl3 hb2 HC2 hr hrk hhas heq
        generalize encDs ds = es at *
        go_wp2_with fail
        refine HC3.mono ?_
        rintro e w4 ⟨rfl, hg4⟩
        have hb4 := hg4.below
        have HK4 : Hid (Kept (fun k => k = rb) w w4) := HK2.out.trans (Kept.of_below hb4)
        clear HC3 hb4 hg4
        go_wp2
        go_ret2
        exact ⟨Or.inr ⟨HNO.out, rfl⟩, HK4.out⟩
  · have HK1 := Hid.mk hk1
    have HNO := Hid.mk hy1
    clear HC hk1 hy1
    go_wp2
    go_ret2
    exact ⟨Or.inr ⟨HNO.out, rfl⟩, HK1.out⟩

set_option maxRecDepth 100000 in
set_option maxHeartbeats 4000000 in
theorem ReadDecls_any (bs : List UInt8) (a : Option Addr) (cap : Nat) (w : World) (hB : BL w a bs) (hlt : ∀ ad, a = some ad → ad.block < w.heap.size) (hnn : a = none → bs = []) (hcap : bs.length ≤ cap) (hcm : cap ≤ 9223372036854775807) (hl : bs.length ≤ 1000000) : Calls Tryz.prog 11 #[.slice a bs.length cap] w fun e w' => DsAns w bs e w' ∧ RowKit.Below w.heap.size w w' := by
  obtain ⟨W0, hW0⟩ : ∃ W0, w.alloc (.cells #[.slice a bs.length cap, .int .i64 0] 73) = W0 := ⟨_, rfl⟩
  have hb : RowKit.Below w.heap.size w W0 := by rw [← hW0]; exact (Below.refl _ _).alloc (Nat.le_refl _) _
  have hr0 : W0.heap[w.heap.size]? = some (.cells #[.slice a bs.length cap, .int .i64 0] 73 (0, 0)) := by rw [← hW0]; exact alloc_new _ _
  have hR : RD W0 W0.heap.size w.heap.size bs 0 := ⟨heap_lt hr0, Nat.le_refl _, _, _, hr0, hB.below hb, hcap, hcm, fun ad e => by
    have := hlt ad e
    have := hb.size
    omega, hnn⟩
  have HC := readD_both W0.heap.size w.heap.size bs a cap W0 hR (hB.below hb) (fun ad e => by have := hlt ad e; omega) hl
  have HB0 := Hid.mk hb
  have HW0 := Hid.mk hW0
  clear hB hb hW0 hr0 hR hlt hnn
  go_enter Tryz.func11, Tryz.ntmps11
  go_wp2_with fail
  rw [HW0.out]
  refine HC.mono ?_
  rintro e w1 ⟨hans, hk1⟩
  have HB1 : Hid (RowKit.Below w.heap.size w w1) := HB0.out.trans (hk1.below HB0.out.size fun k hk => by omega)
  have hs0 := HB0.out.size
  rcases hans with ⟨ds, a1, cap1, hh, hcl, rfl, hrow⟩ | ⟨hno, rfl⟩
  · have HH := Hid.mk hh
    have HCL := Hid.mk hcl
    have HROW : Hid (RowX 41 17 ED w1 w.heap.size (oldB w) a1 cap1 ds) := RowX.weaken ED.moves hrow hs0
    clear hh hcl hrow hk1 HC
    go_wp2
    go_ret2
    exact ⟨Or.inl ⟨ds, a1, cap1, HH.out, HCL.out, rfl, HROW.out⟩, HB1.out⟩
  · have HNO := Hid.mk hno
    clear hno hk1 HC
    go_wp2
    go_ret2
    exact ⟨Or.inr ⟨HNO.out, rfl⟩, HB1.out⟩
end Go.Proofs.YtndjdeiccmhelaaGreat
