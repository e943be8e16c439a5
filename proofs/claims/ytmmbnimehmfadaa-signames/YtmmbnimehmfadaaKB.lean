/- The contracts of the writer of package bytes at constructors and declarations. -/
import Derived.Test.YtmmbnimehmfadaaKA
import Derived.Test.YtmmbnimehmfadaaED
namespace Go.Proofs.Ytmmbnimehmfadaa
open Go.RowKit Go.Sort

def encC (c : ByteArray × Tm) : List UInt8 := nameB c.1 ++ encT c.2
def encF (d : Dl) : List UInt8 := if d.kind = 2 then encT d.val else if d.kind = 3 then numB d.params.toNat ++ (numB d.ctors.length ++ d.ctors.flatMap encC) else []
def encD (d : Dl) : List UInt8 := numB d.kind.toNat ++ (nameB d.name ++ (numB d.levels.toNat ++ (encT d.ty ++ encF d)))
def encDs (ds : List Dl) : List UInt8 := numB ds.length ++ ds.flatMap encD

set_option maxRecDepth 100000 in
set_option maxHeartbeats 4000000 in
theorem ctor_any (w0 : World) (wb : Nat) (tot : List UInt8) (nm : ByteArray) (t : Tm) (t0 t1 : Int) (t2 : Bool) (t3 : ByteArray) (t4 : Option Addr) (t5 t6 : Nat) (t7 : Option Addr) (t8 t9 : Nat) (w : World) (hb0 : RowKit.Below w0.heap.size w0 w) (hW : WR w w0.heap.size wb tot) (ht : TV w0 (.agg #[.int .i64 t0, .int .i64 t1, .bool t2, .string t3, .slice t4 t5 t6, .slice t7 t8 t9]) t) (hn : 0 < nm.size ∧ nm.size ≤ 60) (hg : smT 1000000 t ∧ formedB t = true) : Calls Try.prog 53 #[.pointer (some ⟨wb, 0, none⟩), .agg #[.string nm, .int .i64 t0, .int .i64 t1, .bool t2, .string t3, .slice t4 t5 t6, .slice t7 t8 t9]] w (WrPost w0.heap.size wb tot (encC (nm, t)) w) := by
  have hlw := hW.lt
  obtain ⟨W0, hW0⟩ : ∃ W0, w.alloc (.cells #[.string nm, .int .i64 t0, .int .i64 t1, .bool t2, .string t3, .slice t4 t5 t6, .slice t7 t8 t9] 34) = W0 := ⟨_, rfl⟩
  have hb : RowKit.Below w.heap.size w W0 := by rw [← hW0]; exact (Below.refl _ _).alloc (Nat.le_refl _) _
  have HBX : Hid (∀ w', Wrote wb W0 w' → w'.heap[w.heap.size]? = some (.cells #[.string nm, .int .i64 t0, .int .i64 t1, .bool t2, .string t3, .slice t4 t5 t6, .slice t7 t8 t9] 34 (0, 0))) := fun w' h => h.box hW hb (by rw [← hW0]; exact alloc_new _ _) (Nat.le_refl _)
  have HWA : Hid (Wrote wb w W0) := Wrote.below hb hlw
  have HWW0 : Hid (WR W0 w0.heap.size wb tot) := hW.on hb
  have HB00 : Hid (RowKit.Below w0.heap.size w0 W0) := hb0.trans (hb.mono hb0.size)
  have HC := name_any w0.heap.size wb tot nm W0 HWW0.out HB00.out.size hn.1 (by omega)
  have HTM := wterm_any w0 wb t hg.1 hg.2
  have HTV := Hid.mk ht
  have HW0 := Hid.mk hW0
  obtain ⟨q0, q1, q2, q3, q4, q5, q6, q7⟩ := cells7 (HBX.out W0 (Wrote.refl _ _))
  clear hW hb0 hb ht hW0 hg
  go_enter Try.func53, Try.ntmps53
  go_wp2_with fail
  rw [HW0.out]
  refine HC.mono ?_
  rintro e w1 ⟨rfl, hW1, hw1⟩
  have HB1 : Hid (RowKit.Below w0.heap.size w0 w1) := HB00.out.trans (hw1.toBelow HWW0.out HB00.out.size)
  have HC2 := HTM _ (tot ++ nameB nm) w1 HTV.out HB1.out hW1
  have HWT1 := Hid.mk (HWA.out.trans hw1)
  clear q0 q1 q2 q3 q4 q5 q6 q7
  obtain ⟨q0, q1, q2, q3, q4, q5, q6, q7⟩ := cells7 (HBX.out w1 hw1)
  clear hW1 hw1 HC
  go_wp2_with fail
  refine HC2.mono ?_
  rintro e w2 ⟨rfl, hW2, hw2⟩
  have HR : Hid (WR w2 w0.heap.size wb (tot ++ encC (nm, t)) ∧ Wrote wb w w2) := ⟨by unfold encC; rw [← List.append_assoc]; exact hW2, HWT1.out.trans hw2⟩
  clear hW2 hw2 HC2
  go_wp2
  go_end0
  exact ⟨rfl, HR.out.1, HR.out.2⟩

set_option maxRecDepth 100000 in
set_option maxHeartbeats 4000000 in
theorem eachC_any (w0 : World) (wb : Nat) (tot : List UInt8) (cs : List (ByteArray × Tm)) (a : Option Addr) (cap : Nat) (w : World) (hb0 : RowKit.Below w0.heap.size w0 w) (hW : WR w w0.heap.size wb tot) (hS : CK w0 a cs) (hn : cs.length ≤ 1000000) (hr : ∀ c ∈ cs, 0 < c.1.size ∧ c.1.size ≤ 60 ∧ smT 1000000 c.2 ∧ formedB c.2 = true) : Calls Try.prog 52 #[.slice a cs.length cap, .func (.func 53) #[.pointer (some ⟨wb, 0, none⟩)] #[]] w (WrPost w0.heap.size wb tot (cs.flatMap encC) w) := by
  have HB0 := Hid.mk hb0
  have HW := Hid.mk hW
  have HS := Hid.mk hS
  have HR := Hid.mk hr
  clear hb0 hW hS hr
  go_enter Try.func52, Try.ntmps52
  go_wp2
  go_loopw [8] (fun i wr => ∃ k : Nat, k ≤ cs.length ∧ i = .int .i64 k ∧ WR wr w0.heap.size wb (tot ++ (cs.take k).flatMap encC) ∧ Wrote wb w wr) (fun i _ => cs.length - (intOf i).toNat)
  case atStart => exact ⟨0, Nat.zero_le _, rfl, by simpa using HW.out, Wrote.refl _ _⟩
  case round =>
    obtain ⟨k, hk, rfl, hWr, hwr⟩ := hrel
    have HWR := Hid.mk hWr
    have HWT := Hid.mk hwr
    have HBR : Hid (RowKit.Below w0.heap.size w0 wr) := HB0.out.trans (hwr.toBelow HW.out HB0.out.size)
    clear hWr hwr
    by_cases hlt : k < cs.length
    · obtain ⟨cb, co, rfl, hcb0, hcs⟩ := HS.out.resolve_left (by intro e; rw [e] at hlt; simp at hlt)
      have hmem : cs[k] ∈ cs := List.getElem_mem hlt
      obtain ⟨cn, ht⟩ := hcs k _ (List.getElem?_eq_getElem hlt)
      obtain ⟨t0, t1, t2, t3, t4, t5, t6, t7, t8, t9, c0, c1, c2, c3, c4, c5, htv⟩ := ht.valE
      have dn := (HBR.out.cell (p := ⟨cb, co + k * 7, none⟩) hcb0).trans cn
      have d0 : wr.cell? ⟨cb, co + k * 7 + 1, none⟩ = some _ := (HBR.out.cell (p := ⟨cb, co + k * 7 + 1, none⟩) hcb0).trans c0
      have d1 : wr.cell? ⟨cb, co + k * 7 + 2, none⟩ = some _ := (HBR.out.cell (p := ⟨cb, co + k * 7 + 1 + 1, none⟩) hcb0).trans c1
      have d2 : wr.cell? ⟨cb, co + k * 7 + 3, none⟩ = some _ := (HBR.out.cell (p := ⟨cb, co + k * 7 + 1 + 2, none⟩) hcb0).trans c2
      have d3 : wr.cell? ⟨cb, co + k * 7 + 4, none⟩ = some _ := (HBR.out.cell (p := ⟨cb, co + k * 7 + 1 + 3, none⟩) hcb0).trans c3
      have d4 : wr.cell? ⟨cb, co + k * 7 + 5, none⟩ = some _ := (HBR.out.cell (p := ⟨cb, co + k * 7 + 1 + 4, none⟩) hcb0).trans c4
      have d5 : wr.cell? ⟨cb, co + k * 7 + 6, none⟩ = some _ := (HBR.out.cell (p := ⟨cb, co + k * 7 + 1 + 5, none⟩) hcb0).trans c5
      have hbl : cb < wr.heap.size := Nat.lt_of_lt_of_le hcb0 HBR.out.size
      obtain ⟨h1, h2, h3, h4⟩ := HR.out _ hmem
      have HTK : Hid ((cs.take (k + 1)).flatMap encC = (cs.take k).flatMap encC ++ encC cs[k]) := flatMap_take (List.getElem?_eq_getElem hlt)
      generalize cs[k] = kk at *
      obtain ⟨nm, tm⟩ := kk
      simp only at dn h1 h2 h3 h4 htv
      have HC := ctor_any w0 wb (tot ++ (cs.take k).flatMap encC) nm tm t0 t1 t2 t3 t4 t5 t6 t7 t8 t9 (wr.alloc (.cells #[.string nm, .int .i64 t0, .int .i64 t1, .bool t2, .string t3, .slice t4 t5 t6, .slice t7 t8 t9] 34)) (HBR.out.alloc HBR.out.size _) (HWR.out.on ((Below.refl _ _).alloc (Nat.le_refl _) _)) htv ⟨h1, h2⟩ ⟨h3, h4⟩
      have HWA : Hid (Wrote wb wr (wr.alloc (.cells #[.string nm, .int .i64 t0, .int .i64 t1, .bool t2, .string t3, .slice t4 t5 t6, .slice t7 t8 t9] 34))) := Wrote.below ((Below.refl _ _).alloc (Nat.le_refl _) _) HWR.out.lt
      clear c0 c1 c2 c3 c4 c5 cn hmem htv hcb0 ht hcs h1 h2 h3 h4
      go_wp2_with fail
      refine HC.mono ?_
      rintro e w2 ⟨rfl, hW2, hw2⟩
      have HR2 : Hid (WR w2 w0.heap.size wb (tot ++ (cs.take (k + 1)).flatMap encC) ∧ Wrote wb w w2) := ⟨by rw [HTK.out, ← List.append_assoc]; exact hW2, HWT.out.trans (HWA.out.trans hw2)⟩
      clear hW2 hw2 HC HWA
      go_wp2
      refine ⟨⟨k + 1, hlt, by go_num, HR2.out.1, HR2.out.2⟩, by simp [intOf]; omega⟩
    · obtain rfl : k = cs.length := by omega
      go_wp2
      go_end0
      exact ⟨rfl, by have := HWR.out; rwa [List.take_length] at this, HWT.out⟩
end Go.Proofs.Ytmmbnimehmfadaa
