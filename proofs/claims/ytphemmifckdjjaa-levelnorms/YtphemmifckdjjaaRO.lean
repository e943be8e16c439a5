/- The contract of telamonlaw1.Stay where a lent level is as it was. -/
import Derived.Test.YtphemmifckdjjaaRN2
import Derived.Test.YtphemmifckdjjaaLB
namespace Go.Proofs.Ytphemmifckdjjaa
open Go.RowKit Go.Sort Go.Shelf Go.Lib

set_option maxRecDepth 100000 in
set_option maxHeartbeats 4000000 in
theorem Stay_any (n : Int) (xs : List (Int × Int)) (a : Option Addr) (c : Nat) (g cf : Nat) (w : World) (hS : SL w a xs) (hF : SL w (some ⟨g, 0, none⟩) (xs ++ [(-71, 0)])) (hc : xs.length + 1 ≤ cf) (hl : xs.length ≤ 200) :
    Calls Try.prog 14 #[.agg #[.int .i64 n, .slice (some ⟨g, 0, none⟩) xs.length cf], .agg #[.int .i64 n, .slice a xs.length c]] w fun e w' => e = .returned (.bool true) ∧ RowKit.Below w.heap.size w w' := by
  have mx := mixed
  obtain ⟨W0, hW0⟩ : ∃ W0, (w.alloc (.cells #[.int .i64 n, .slice (some ⟨g, 0, none⟩) xs.length cf] 24)).alloc (.cells #[.int .i64 n, .slice a xs.length c] 24) = W0 := ⟨_, rfl⟩
  have hA : Grew w W0 := by rw [← hW0]; exact ((Grew.refl w).alloc _).alloc _
  have HA0 : Hid (LB W0 w.heap.size n (some ⟨g, 0, none⟩) cf xs) := ⟨by rw [← hW0]; exact box_at, (hF.prefix).below hA.below⟩
  have HB0 : Hid (LB W0 (w.heap.size + 1) n a c xs) := ⟨by rw [← hW0]; exact box_at1, hS.below hA.below⟩
  have HE := Exact_any n n xs xs (some ⟨g, 0, none⟩) a cf c W0 HA0.out.sl HB0.out.sl (by omega) (by omega)
  rw [show exactB n xs n xs = true by simp [exactB]] at HE
  have HF := Hid.mk (hF.below hA.below)
  have HW0 := Hid.mk hW0
  have HG0 : Hid (RowKit.Below w.heap.size w W0) := hA.below
  obtain ⟨a0, a1, a2⟩ := HA0.out.cells
  obtain ⟨b0, b1, b2⟩ := HB0.out.cells
  clear hA hW0 hS hF
  go_enter Try.func14, Try.ntmps14
  go_wp2_with fail
  rw [HW0.out]
  refine HE.mono ?_
  rintro e w1 ⟨rfl, hg1⟩
  have HA1 := Hid.mk (HA0.out.on hg1.below)
  have HG1 : Hid (RowKit.Below w.heap.size w w1) := HG0.out.trans (hg1.below.mono HG0.out.size)
  clear a0 a1 a2 b0 b1 b2
  obtain ⟨a0, a1, a2⟩ := HA1.out.cells
  obtain ⟨b, off, x, y, hb, hbl, hc0, hc1, hxy⟩ := (HF.out.below hg1.below).at (k := xs.length) (by simp)
  simp only [Option.some.injEq, Addr.mk.injEq, and_true] at hb
  obtain ⟨rfl, rfl⟩ := hb
  have hx := hxy.out
  simp only [Nat.le_refl, List.getElem?_append_right, Nat.sub_self, List.getElem?_cons_zero, Option.some.injEq, Prod.mk.injEq] at hx
  obtain ⟨rfl, rfl⟩ := hx
  rw [Nat.zero_add] at hc0 hc1
  clear hxy hg1 HE
  have hcI : (xs.length : Int) + 1 ≤ (cf : Int) := by omega
  go_wp2
  go_ret
  exact ⟨rfl, HG1.out⟩
end Go.Proofs.Ytphemmifckdjjaa
