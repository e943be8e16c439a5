/- The contracts of the writer of package bytes: variable, level, each, term, written. -/
import Derived.Test.YtmmbnimehmfadaaEB
import Derived.Test.YtmmbnimehmfadaaWH
namespace Go.Proofs.Ytmmbnimehmfadaa
open Go.RowKit Go.Sort

def varB (p : Int × Int) : List UInt8 := numB p.1.toNat ++ numB p.2.toNat
def levB (l : LvT) : List UInt8 := numB l.1.toNat ++ (numB l.2.length ++ l.2.flatMap varB)

set_option maxRecDepth 100000 in
set_option maxHeartbeats 4000000 in
theorem variable_any (B wb : Nat) (tot : List UInt8) (x y : Int) (w : World) (hW : WR w B wb tot) (hB : B ≤ w.heap.size) (hx0 : 0 ≤ x) (hx : x ≤ 1000) (hy0 : 0 ≤ y) (hy : y ≤ 1000) : Calls Try.prog 68 #[.pointer (some ⟨wb, 0, none⟩), .agg #[.int .i64 x, .int .i64 y]] w (WrPost B wb tot (varB (x, y)) w) := by
  have hlw := hW.lt
  have HC := number_any B wb tot x.toNat (w.alloc (.cells #[.int .i64 x, .int .i64 y] 122)) (hW.on ((Below.refl _ _).alloc (Nat.le_refl _) _)) (by simp; omega) (by omega)
  have HWA : Hid (Wrote wb w (w.alloc (.cells #[.int .i64 x, .int .i64 y] 122))) := Wrote.below ((Below.refl _ _).alloc (Nat.le_refl _) _) hlw
  have HBX : Hid (∀ w', Wrote wb (w.alloc (.cells #[.int .i64 x, .int .i64 y] 122)) w' → w'.heap[w.heap.size]? = some (.cells #[.int .i64 x, .int .i64 y] 122 (0, 0))) := fun w' h => h.box hW ((Below.refl _ _).alloc (Nat.le_refl _) _) (alloc_new _ _) (Nat.le_refl _)
  rw [show ((x.toNat : Nat) : Int) = x by omega] at HC
  have HB := Hid.mk hB
  clear hW hB
  go_enter Try.func68, Try.ntmps68
  go_wp2_with fail
  refine HC.mono ?_
  rintro e w1 ⟨rfl, hW1, hw1⟩
  have HC2 := number_any B wb (tot ++ numB x.toNat) y.toNat w1 hW1 (by have := hw1.kept.size; simp at this; have := HB.out; omega) (by omega)
  rw [show ((y.toNat : Nat) : Int) = y by omega] at HC2
  obtain ⟨x0, x1, -, -, x4⟩ := cells2 (HBX.out w1 hw1)
  have HWA1 := Hid.mk (HWA.out.trans hw1)
  clear hW1 hw1 HC HWA HBX
  go_wp2_with fail
  refine HC2.mono ?_
  rintro e w2 ⟨rfl, hW2, hw2⟩
  have HR : Hid (WR w2 B wb (tot ++ varB (x, y)) ∧ Wrote wb w w2) := ⟨by unfold varB; rw [← List.append_assoc]; exact hW2, HWA1.out.trans hw2⟩
  clear hW2 hw2 HC2 HWA1
  go_wp2
  go_end0
  exact ⟨rfl, HR.out.1, HR.out.2⟩

/-- the numbers of a level that Check takes -/
def rightL (l : LvT) : Prop := 0 ≤ l.1 ∧ l.1 ≤ 1000 ∧ l.2.length ≤ 64 ∧ ∀ p ∈ l.2, 0 ≤ p.1 ∧ p.1 ≤ 1000 ∧ 0 ≤ p.2 ∧ p.2 ≤ 1000

theorem flatMap_take {α : Type} {f : α → List UInt8} {xs : List α} {k : Nat} {x : α} (h : xs[k]? = some x) : (xs.take (k + 1)).flatMap f = (xs.take k).flatMap f ++ f x := by
  obtain ⟨hk, rfl⟩ := List.getElem?_eq_some_iff.1 h
  rw [List.take_succ_eq_append_getElem hk, List.flatMap_append]
  simp

set_option maxRecDepth 100000 in
set_option maxHeartbeats 4000000 in
theorem eachV_any (w0 : World) (wb : Nat) (tot : List UInt8) (xs : List (Int × Int)) (a : Option Addr) (cap : Nat) (w : World) (hb0 : RowKit.Below w0.heap.size w0 w) (hW : WR w w0.heap.size wb tot) (hS : SL w0 a xs) (hn : xs.length ≤ 1000000) (hr : ∀ p ∈ xs, 0 ≤ p.1 ∧ p.1 ≤ 1000 ∧ 0 ≤ p.2 ∧ p.2 ≤ 1000) : Calls Try.prog 67 #[.slice a xs.length cap, .func (.func 68) #[.pointer (some ⟨wb, 0, none⟩)] #[]] w (WrPost w0.heap.size wb tot (xs.flatMap varB) w) := by
  have HB0 := Hid.mk hb0
  have HW := Hid.mk hW
  have HS := Hid.mk hS
  have HR := Hid.mk hr
  clear hb0 hW hS hr
  go_enter Try.func67, Try.ntmps67
  go_wp2
  go_loopw [8] (fun i wr => ∃ k : Nat, k ≤ xs.length ∧ i = .int .i64 k ∧ WR wr w0.heap.size wb (tot ++ (xs.take k).flatMap varB) ∧ Wrote wb w wr) (fun i _ => xs.length - (intOf i).toNat)
  case atStart => exact ⟨0, Nat.zero_le _, rfl, by simpa using HW.out, Wrote.refl _ _⟩
  case round =>
    obtain ⟨k, hk, rfl, hWr, hwr⟩ := hrel
    have HWR := Hid.mk hWr
    have HWT := Hid.mk hwr
    have HBR : Hid (RowKit.Below w0.heap.size w0 wr) := HB0.out.trans (hwr.toBelow HW.out HB0.out.size)
    clear hWr hwr
    by_cases hlt : k < xs.length
    · obtain ⟨b, off, x, y, rfl, hbl, hc0, hc1, hxy⟩ := (HS.out.below HBR.out).at hlt
      obtain ⟨hx0, hx1, hy0, hy1⟩ := HR.out (x, y) (List.mem_of_getElem? hxy.out)
      have HC := variable_any w0.heap.size wb (tot ++ (xs.take k).flatMap varB) x y (wr.alloc (.cells #[.int .i64 x, .int .i64 y] 122)) (HWR.out.on ((Below.refl _ _).alloc (Nat.le_refl _) _)) (by simp; have := HBR.out.size; omega) hx0 hx1 hy0 hy1
      have HWA : Hid (Wrote wb wr (wr.alloc (.cells #[.int .i64 x, .int .i64 y] 122))) := Wrote.below ((Below.refl _ _).alloc (Nat.le_refl _) _) HWR.out.lt
      go_wp2_with fail
      refine HC.mono ?_
      rintro e w2 ⟨rfl, hW2, hw2⟩
      have HR2 : Hid (WR w2 w0.heap.size wb (tot ++ (xs.take (k + 1)).flatMap varB) ∧ Wrote wb w w2) := ⟨by rw [flatMap_take hxy.out, ← List.append_assoc]; exact hW2, HWT.out.trans (HWA.out.trans hw2)⟩
      clear hW2 hw2 HC HWA
      go_wp2
      refine ⟨⟨k + 1, hlt, by go_num, HR2.out.1, HR2.out.2⟩, by simp [intOf]; omega⟩
    · obtain rfl : k = xs.length := by omega
      go_wp2
      go_end0
      exact ⟨rfl, by have := HWR.out; rwa [List.take_length] at this, HWT.out⟩

set_option maxRecDepth 100000 in
set_option maxHeartbeats 4000000 in
theorem level_any (w0 : World) (wb : Nat) (tot : List UInt8) (n : Int) (xs : List (Int × Int)) (a : Option Addr) (cap : Nat) (w : World) (hb0 : RowKit.Below w0.heap.size w0 w) (hW : WR w w0.heap.size wb tot) (hS : SL w0 a xs) (hr : rightL (n, xs)) : Calls Try.prog 61 #[.pointer (some ⟨wb, 0, none⟩), .agg #[.int .i64 n, .slice a xs.length cap]] w (WrPost w0.heap.size wb tot (levB (n, xs)) w) := by
  obtain ⟨hn0, hn1, hxl, hxs⟩ := hr
  simp only at hn0 hn1 hxl hxs
  have hlw := hW.lt
  obtain ⟨W0, hW0⟩ : ∃ W0, w.alloc (.cells #[.int .i64 n, .slice a xs.length cap] 47) = W0 := ⟨_, rfl⟩
  have hb : RowKit.Below w.heap.size w W0 := by rw [← hW0]; exact (Below.refl _ _).alloc (Nat.le_refl _) _
  have HBX : Hid (∀ w', Wrote wb W0 w' → w'.heap[w.heap.size]? = some (.cells #[.int .i64 n, .slice a xs.length cap] 47 (0, 0))) := fun w' h => h.box hW hb (by rw [← hW0]; exact alloc_new _ _) (Nat.le_refl _)
  have HWA : Hid (Wrote wb w W0) := Wrote.below hb hlw
  have hsz := hb0.size
  have HWW0 : Hid (WR W0 w0.heap.size wb tot) := hW.on hb
  have HB00 : Hid (RowKit.Below w0.heap.size w0 W0) := hb0.trans (hb.mono hsz)
  have HC := number_any w0.heap.size wb tot n.toNat W0 HWW0.out HB00.out.size (by omega)
  rw [show ((n.toNat : Nat) : Int) = n by omega] at HC
  have HXS := Hid.mk hxs
  have HS := Hid.mk hS
  have HW0 := Hid.mk hW0
  obtain ⟨q0, q1, -, -, q4⟩ := cells2 (HBX.out W0 (Wrote.refl _ _))
  clear hW hb0 hb hS hxs hW0
  go_enter Try.func61, Try.ntmps61
  go_wp2_with fail
  rw [HW0.out]
  refine HC.mono ?_
  rintro e w1 ⟨rfl, hW1, hw1⟩
  have HB1 : Hid (RowKit.Below w0.heap.size w0 w1) := HB00.out.trans (hw1.toBelow HWW0.out HB00.out.size)
  have HC2 := number_any w0.heap.size wb (tot ++ numB n.toNat) xs.length w1 hW1 HB1.out.size (by omega)
  obtain ⟨x0, x1, -, -, x4⟩ := cells2 (HBX.out w1 hw1)
  have HWT1 := Hid.mk hw1
  have HWR1 := Hid.mk hW1
  clear hW1 hw1 HC q0 q1 q4
  go_wp2_with fail
  refine HC2.mono ?_
  rintro e w2 ⟨rfl, hW2, hw2⟩
  have HB2 : Hid (RowKit.Below w0.heap.size w0 w2) := HB1.out.trans (hw2.toBelow HWR1.out HB1.out.size)
  have HC3 := eachV_any w0 wb (tot ++ numB n.toNat ++ numB xs.length) xs a cap w2 HB2.out hW2 HS.out (by omega) HXS.out
  obtain ⟨y0, y1, -, -, y4⟩ := cells2 (HBX.out w2 (HWT1.out.trans hw2))
  have HWT2 := Hid.mk (HWA.out.trans (HWT1.out.trans hw2))
  clear hW2 hw2 HC2 x0 x1 x4 HWT1 HWR1
  go_wp2_with fail
  refine HC3.mono ?_
  rintro e w3 ⟨rfl, hW3, hw3⟩
  have HR : Hid (WR w3 w0.heap.size wb (tot ++ levB (n, xs)) ∧ Wrote wb w w3) := ⟨by unfold levB; rw [← List.append_assoc, ← List.append_assoc]; exact hW3, HWT2.out.trans hw3⟩
  clear hW3 hw3 HC3
  go_wp2
  go_end0
  exact ⟨rfl, HR.out.1, HR.out.2⟩

set_option maxRecDepth 100000 in
set_option maxHeartbeats 4000000 in
theorem eachL_any (w0 : World) (wb : Nat) (tot : List UInt8) (ls : List LvT) (a : Option Addr) (cap : Nat) (w : World) (hb0 : RowKit.Below w0.heap.size w0 w) (hW : WR w w0.heap.size wb tot) (hS : LN w0 a ls) (hn : ls.length ≤ 1000000) (hr : ∀ l ∈ ls, rightL l) : Calls Try.prog 60 #[.slice a ls.length cap, .func (.func 61) #[.pointer (some ⟨wb, 0, none⟩)] #[]] w (WrPost w0.heap.size wb tot (ls.flatMap levB) w) := by
  have HB0 := Hid.mk hb0
  have HW := Hid.mk hW
  have HS := Hid.mk hS
  have HR := Hid.mk hr
  clear hb0 hW hS hr
  go_enter Try.func60, Try.ntmps60
  go_wp2
  go_loopw [8] (fun i wr => ∃ k : Nat, k ≤ ls.length ∧ i = .int .i64 k ∧ WR wr w0.heap.size wb (tot ++ (ls.take k).flatMap levB) ∧ Wrote wb w wr) (fun i _ => ls.length - (intOf i).toNat)
  case atStart => exact ⟨0, Nat.zero_le _, rfl, by simpa using HW.out, Wrote.refl _ _⟩
  case round =>
    obtain ⟨k, hk, rfl, hWr, hwr⟩ := hrel
    have HWR := Hid.mk hWr
    have HWT := Hid.mk hwr
    have HBR : Hid (RowKit.Below w0.heap.size w0 wr) := HB0.out.trans (hwr.toBelow HW.out HB0.out.size)
    clear hWr hwr
    by_cases hlt : k < ls.length
    · rcases HS.out with h | ⟨b, off, rfl, hbl0, hc⟩
      · rw [h] at hlt; simp at hlt
      obtain ⟨c0, a', cap', c1, hs', -⟩ := hc k ls[k].1 ls[k].2 (by simp [hlt])
      have hmem : ls[k] ∈ ls := List.getElem_mem hlt
      have d0 := (HBR.out.cell (p := ⟨b, off + k * 2, none⟩) hbl0).trans c0
      have d1 := (HBR.out.cell (p := ⟨b, off + k * 2 + 1, none⟩) hbl0).trans c1
      have hbl : b < wr.heap.size := Nat.lt_of_lt_of_le hbl0 HBR.out.size
      have HC := level_any w0 wb (tot ++ (ls.take k).flatMap levB) ls[k].1 ls[k].2 a' cap' (wr.alloc (.cells #[.int .i64 ls[k].1, .slice a' ls[k].2.length cap'] 47)) (HBR.out.alloc HBR.out.size _) (HWR.out.on ((Below.refl _ _).alloc (Nat.le_refl _) _)) hs' (HR.out _ hmem)
      have HWA : Hid (Wrote wb wr (wr.alloc (.cells #[.int .i64 ls[k].1, .slice a' ls[k].2.length cap'] 47))) := Wrote.below ((Below.refl _ _).alloc (Nat.le_refl _) _) HWR.out.lt
      have HTK : Hid ((ls.take (k + 1)).flatMap levB = (ls.take k).flatMap levB ++ levB (ls[k].1, ls[k].2)) := flatMap_take (List.getElem?_eq_getElem hlt)
      clear c0 c1 hc hs' hbl0 hmem
      generalize ls[k] = lk at *
      obtain ⟨ln, lx⟩ := lk
      simp only at HC HWA HTK d0 d1
      go_wp2_with fail
      refine HC.mono ?_
      rintro e w2 ⟨rfl, hW2, hw2⟩
      have HR2 : Hid (WR w2 w0.heap.size wb (tot ++ (ls.take (k + 1)).flatMap levB) ∧ Wrote wb w w2) := ⟨by rw [HTK.out, ← List.append_assoc]; exact hW2, HWT.out.trans (HWA.out.trans hw2)⟩
      clear hW2 hw2 HC HWA
      go_wp2
      refine ⟨⟨k + 1, hlt, by go_num, HR2.out.1, HR2.out.2⟩, by simp [intOf]; omega⟩
    · obtain rfl : k = ls.length := by omega
      go_wp2
      go_end0
      exact ⟨rfl, by have := HWR.out; rwa [List.take_length] at this, HWT.out⟩
end Go.Proofs.Ytmmbnimehmfadaa
