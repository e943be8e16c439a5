/- The contracts of term.Same and telamonref1.Same. -/
import Derived.Test.YtbgkeomlfdmkeaaSB
import Derived.Test.YtbgkeomlfdmkeaaSD
import Derived.Test.YtbgkeomlfdmkeaaRU
namespace Go.Proofs.Ytbgkeomlfdmkeaa
open Go.RowKit Go.Sort

/-- what Same answers -/
def tsameB (a b : Tm) : Bool := decide (checkT a = 0) && decide (checkT b = 0) && sameT a b

theorem fsame_refl (a : Tm) : fsameB a a = true := by
  unfold fsameB
  simp
  repeat' split
  all_goals simp

theorem sameTs_refl : ∀ (ks : List Tm), (∀ k ∈ ks, sameT k k = true) → sameTs ks ks = true
  | [], _ => by rw [sameTs]
  | k :: ks, h => by rw [sameTs, h k (by simp), sameTs_refl ks (fun k' hk' => h k' (by simp [hk']))]; rfl

theorem same_refl (a : Tm) : sameT a a = true := by
  refine Tm.ind (P := fun a => sameT a a = true) ?_ a
  intro f n hd nm ls ks ih
  rw [sameT, fsame_refl]
  exact sameTs_refl ks ih

set_option maxRecDepth 100000 in
set_option maxHeartbeats 2000000 in
theorem Same_any (a b : Tm) (va vb : Value) (w : World) (hva : TV w va a) (hvb : TV w vb b) (hsa : smT 1000000 a) (hsb : smT 1000000 b) : Calls Try.prog 28 #[va, vb] w fun e w' => e = .returned (.bool (tsameB a b)) ∧ RowKit.Below w.heap.size w w' := by
  have HR : Hid (tsameB a b = (decide (checkT a = 0) && decide (checkT b = 0) && sameT a b)) := rfl
  have HCA := fun (W : World) (g : RowKit.Below w.heap.size w W) => Check_any a va W (hva.on g) hsa
  have HCB := fun (W : World) (g : RowKit.Below w.heap.size w W) => Check_any b vb W (hvb.on g) hsb
  have HSM := fun (_ha : checkT a = 0) (_hb : checkT b = 0) (W : World) (g : RowKit.Below w.heap.size w W) => same_any a b va vb W hsa hsb (hva.on g) (hvb.on g)
  generalize tsameB a b = R at HR ⊢
  obtain ⟨la, lc, ka, kc, rfl⟩ := hva.shape
  obtain ⟨la', lc', ka', kc', rfl⟩ := hvb.shape
  clear hva hvb hsa hsb
  generalize checkT a = C at *
  generalize checkT b = D at *
  generalize sameT a b = S at *
  generalize a.form = f at *
  generalize a.n = n at *
  generalize a.hid = hd at *
  generalize a.name = nm at *
  generalize a.levels.length = l1 at *
  generalize a.kids.length = k1 at *
  generalize b.form = f' at *
  generalize b.n = n' at *
  generalize b.hid = hd' at *
  generalize b.name = nm' at *
  generalize b.levels.length = l1' at *
  generalize b.kids.length = k1' at *
  obtain ⟨W0, hW0⟩ : ∃ W0, (w.alloc (.cells #[.int .i64 f, .int .i64 n, .bool hd, .string nm, .slice la l1 lc, .slice ka k1 kc] 25)).alloc (.cells #[.int .i64 f', .int .i64 n', .bool hd', .string nm', .slice la' l1' lc', .slice ka' k1' kc'] 25) = W0 := ⟨_, rfl⟩
  have HG0 : Hid (RowKit.Below w.heap.size w W0) := by unfold Hid; rw [← hW0]; exact ((Below.refl w.heap.size w).alloc (Nat.le_refl _) _).alloc (by simp) _
  have HX0 : Hid (W0.heap[w.heap.size]? = some (.cells #[.int .i64 f, .int .i64 n, .bool hd, .string nm, .slice la l1 lc, .slice ka k1 kc] 25 (0, 0))) := by unfold Hid; rw [← hW0]; exact box_at
  have HY0 : Hid (W0.heap[w.heap.size + 1]? = some (.cells #[.int .i64 f', .int .i64 n', .bool hd', .string nm', .slice la' l1' lc', .slice ka' k1' kc'] 25 (0, 0))) := by unfold Hid; rw [← hW0]; exact box_at1
  have HW0 := Hid.mk hW0
  clear hW0
  by_cases hC : C = 0
  rotate_left
  · have hcb : (C == 0) = false := by simpa using hC
    have HR2 : Hid (R = false) := by unfold Hid; rw [HR.out]; simp [hC]
    clear hC
    go_enter Try.func28, Try.ntmps28
    go_wp2_with fail
    rw [HW0.out]
    refine (HCA _ HG0.out).mono ?_
    rintro e w1 ⟨rfl, hb1⟩
    go_wp2
    go_ret
    exact ⟨by rw [HR2.out]; rfl, HG0.out.trans (hb1.mono HG0.out.size)⟩
  subst hC
  by_cases hD : D = 0
  rotate_left
  · have hcb : (D == 0) = false := by simpa using hD
    have HR2 : Hid (R = false) := by unfold Hid; rw [HR.out]; simp [hD]
    clear hD
    go_enter Try.func28, Try.ntmps28
    go_wp2_with fail
    rw [HW0.out]
    refine (HCA _ HG0.out).mono ?_
    rintro e w1 ⟨rfl, hb1⟩
    have HB1 : Hid (RowKit.Below w.heap.size w w1) := HG0.out.trans (hb1.mono HG0.out.size)
    obtain ⟨y0, y1, y2, y3, y4, y5, y6⟩ := cells6 ((hb1.block (w.heap.size + 1) (heap_lt HY0.out)).trans HY0.out)
    clear hb1
    go_wp2_with fail
    refine (HCB _ HB1.out).mono ?_
    rintro e w2 ⟨rfl, hb2⟩
    go_wp2
    go_ret
    exact ⟨by rw [HR2.out]; rfl, HB1.out.trans (hb2.mono HB1.out.size)⟩
  subst hD
  have HR2 : Hid (R = S) := by unfold Hid; rw [HR.out]; simp
  have HS := HSM rfl rfl
  go_enter Try.func28, Try.ntmps28
  go_wp2_with fail
  rw [HW0.out]
  refine (HCA _ HG0.out).mono ?_
  rintro e w1 ⟨rfl, hb1⟩
  have HB1 : Hid (RowKit.Below w.heap.size w w1) := HG0.out.trans (hb1.mono HG0.out.size)
  have HX1 := Hid.mk ((hb1.block w.heap.size (heap_lt HX0.out)).trans HX0.out)
  have HY1 := Hid.mk ((hb1.block (w.heap.size + 1) (heap_lt HY0.out)).trans HY0.out)
  obtain ⟨y0, y1, y2, y3, y4, y5, y6⟩ := cells6 HY1.out
  clear hb1
  go_wp2_with fail
  refine (HCB _ HB1.out).mono ?_
  rintro e w2 ⟨rfl, hb2⟩
  have HB2 : Hid (RowKit.Below w.heap.size w w2) := HB1.out.trans (hb2.mono HB1.out.size)
  clear y0 y1 y2 y3 y4 y5 y6
  obtain ⟨x0, x1, x2, x3, x4, x5, x6⟩ := cells6 ((hb2.block w.heap.size (heap_lt HX1.out)).trans HX1.out)
  obtain ⟨y0, y1, y2, y3, y4, y5, y6⟩ := cells6 ((hb2.block (w.heap.size + 1) (heap_lt HY1.out)).trans HY1.out)
  clear hb2
  go_wp2_with fail
  refine (HS _ HB2.out).mono ?_
  rintro e w3 ⟨rfl, hb3⟩
  go_wp2
  go_ret
  exact ⟨by rw [HR2.out]; rfl, HB2.out.trans (hb3.below.mono HB2.out.size)⟩

set_option maxRecDepth 100000 in
set_option maxHeartbeats 2000000 in
theorem rSameT_any (a b : Tm) (va vb : Value) (w : World) (hva : TV w va a) (hvb : TV w vb b) (hsa : smT 1000000 a) (hsb : smT 1000000 b) : Calls Try.prog 29 #[va, vb] w fun e w' => e = .returned (.bool (tsameB a b)) ∧ RowKit.Below w.heap.size w w' := by
  have HR : Hid (tsameB a b = (decide (checkT a = 0) && decide (checkT b = 0) && sameT a b)) := rfl
  have HCA := fun (W : World) (g : RowKit.Below w.heap.size w W) => rCheck_any a va W (hva.on g) hsa
  have HCB := fun (W : World) (g : RowKit.Below w.heap.size w W) => rCheck_any b vb W (hvb.on g) hsb
  have HSM := fun (_ha : checkT a = 0) (_hb : checkT b = 0) (W : World) (g : RowKit.Below w.heap.size w W) => rsame_any a b va vb W hsa hsb (check_ok _ha).2.2 (check_ok _hb).2.2 (hva.on g) (hvb.on g)
  generalize tsameB a b = R at HR ⊢
  obtain ⟨la, lc, ka, kc, rfl⟩ := hva.shape
  obtain ⟨la', lc', ka', kc', rfl⟩ := hvb.shape
  clear hva hvb hsa hsb
  generalize checkT a = C at *
  generalize checkT b = D at *
  generalize sameT a b = S at *
  generalize a.form = f at *
  generalize a.n = n at *
  generalize a.hid = hd at *
  generalize a.name = nm at *
  generalize a.levels.length = l1 at *
  generalize a.kids.length = k1 at *
  generalize b.form = f' at *
  generalize b.n = n' at *
  generalize b.hid = hd' at *
  generalize b.name = nm' at *
  generalize b.levels.length = l1' at *
  generalize b.kids.length = k1' at *
  obtain ⟨W0, hW0⟩ : ∃ W0, (w.alloc (.cells #[.int .i64 f, .int .i64 n, .bool hd, .string nm, .slice la l1 lc, .slice ka k1 kc] 25)).alloc (.cells #[.int .i64 f', .int .i64 n', .bool hd', .string nm', .slice la' l1' lc', .slice ka' k1' kc'] 25) = W0 := ⟨_, rfl⟩
  have HG0 : Hid (RowKit.Below w.heap.size w W0) := by unfold Hid; rw [← hW0]; exact ((Below.refl w.heap.size w).alloc (Nat.le_refl _) _).alloc (by simp) _
  have HX0 : Hid (W0.heap[w.heap.size]? = some (.cells #[.int .i64 f, .int .i64 n, .bool hd, .string nm, .slice la l1 lc, .slice ka k1 kc] 25 (0, 0))) := by unfold Hid; rw [← hW0]; exact box_at
  have HY0 : Hid (W0.heap[w.heap.size + 1]? = some (.cells #[.int .i64 f', .int .i64 n', .bool hd', .string nm', .slice la' l1' lc', .slice ka' k1' kc'] 25 (0, 0))) := by unfold Hid; rw [← hW0]; exact box_at1
  have HW0 := Hid.mk hW0
  clear hW0
  by_cases hC : C = 0
  rotate_left
  · have hcb : (C == 0) = false := by simpa using hC
    have HR2 : Hid (R = false) := by unfold Hid; rw [HR.out]; simp [hC]
    clear hC
    go_enter Try.func29, Try.ntmps29
    go_wp2_with fail
    rw [HW0.out]
    refine (HCA _ HG0.out).mono ?_
    rintro e w1 ⟨rfl, hb1⟩
    go_wp2
    go_ret
    exact ⟨by rw [HR2.out]; rfl, HG0.out.trans (hb1.mono HG0.out.size)⟩
  subst hC
  by_cases hD : D = 0
  rotate_left
  · have hcb : (D == 0) = false := by simpa using hD
    have HR2 : Hid (R = false) := by unfold Hid; rw [HR.out]; simp [hD]
    clear hD
    go_enter Try.func29, Try.ntmps29
    go_wp2_with fail
    rw [HW0.out]
    refine (HCA _ HG0.out).mono ?_
    rintro e w1 ⟨rfl, hb1⟩
    have HB1 : Hid (RowKit.Below w.heap.size w w1) := HG0.out.trans (hb1.mono HG0.out.size)
    obtain ⟨y0, y1, y2, y3, y4, y5, y6⟩ := cells6 ((hb1.block (w.heap.size + 1) (heap_lt HY0.out)).trans HY0.out)
    clear hb1
    go_wp2_with fail
    refine (HCB _ HB1.out).mono ?_
    rintro e w2 ⟨rfl, hb2⟩
    go_wp2
    go_ret
    exact ⟨by rw [HR2.out]; rfl, HB1.out.trans (hb2.mono HB1.out.size)⟩
  subst hD
  have HR2 : Hid (R = S) := by unfold Hid; rw [HR.out]; simp
  have HS := HSM rfl rfl
  go_enter Try.func29, Try.ntmps29
  go_wp2_with fail
  rw [HW0.out]
  refine (HCA _ HG0.out).mono ?_
  rintro e w1 ⟨rfl, hb1⟩
  have HB1 : Hid (RowKit.Below w.heap.size w w1) := HG0.out.trans (hb1.mono HG0.out.size)
  have HX1 := Hid.mk ((hb1.block w.heap.size (heap_lt HX0.out)).trans HX0.out)
  have HY1 := Hid.mk ((hb1.block (w.heap.size + 1) (heap_lt HY0.out)).trans HY0.out)
  obtain ⟨y0, y1, y2, y3, y4, y5, y6⟩ := cells6 HY1.out
  clear hb1
  go_wp2_with fail
  refine (HCB _ HB1.out).mono ?_
  rintro e w2 ⟨rfl, hb2⟩
  have HB2 : Hid (RowKit.Below w.heap.size w w2) := HB1.out.trans (hb2.mono HB1.out.size)
  clear y0 y1 y2 y3 y4 y5 y6
  obtain ⟨x0, x1, x2, x3, x4, x5, x6⟩ := cells6 ((hb2.block w.heap.size (heap_lt HX1.out)).trans HX1.out)
  obtain ⟨y0, y1, y2, y3, y4, y5, y6⟩ := cells6 ((hb2.block (w.heap.size + 1) (heap_lt HY1.out)).trans HY1.out)
  clear hb2
  go_wp2_with fail
  refine (HS _ HB2.out).mono ?_
  rintro e w3 ⟨rfl, hb3⟩
  go_wp2
  go_ret
  exact ⟨by rw [HR2.out]; rfl, HB2.out.trans (hb3.mono HB2.out.size)⟩
end Go.Proofs.Ytbgkeomlfdmkeaa
