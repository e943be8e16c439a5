/- The contracts of term.Size, Free, Has. -/
import Derived.Test.YtbgkeomlfdmkeaaWG
namespace Go.Proofs.Ytbgkeomlfdmkeaa
open Go.RowKit Go.Sort

/-- what Size answers -/
def tsizeR (t : Tm) : Int := if checkT t = 0 then sizeT t else 0

theorem check_ok {t : Tm} (h : checkT t = 0) : sizeT t ≤ 20000 ∧ heightT t ≤ 500 ∧ formedB t = true := by
  unfold checkT at h
  split at h
  · rename_i hc
    split at h
    · rename_i hf; exact ⟨hc.1, hc.2, hf⟩
    · cases h
  · cases h

set_option maxRecDepth 100000 in
set_option maxHeartbeats 2000000 in
theorem Size_any (t : Tm) (v : Value) (w : World) (hv : TV w v t) (hsm : smT 1000000 t) : Calls Try.prog 16 #[v] w fun e w' => e = .returned (.int .i64 (tsizeR t)) ∧ RowKit.Below w.heap.size w w' := by
  have HR : Hid (tsizeR t = if checkT t = 0 then (sizeT t : Int) else 0) := rfl
  have HCH := Check_any t v (w.alloc (.cells (v.cells) 25)) (hv.on ((Below.refl _ _).alloc (Nat.le_refl _) _)) hsm
  have HB := fun (h : checkT t = 0) => check_ok h
  have HW1 := fun W (hB : RowKit.Below w.heap.size w W) => count_any 20000 500 (by omega) (by omega) (by omega) t v W (hv.on hB)
  generalize tsizeR t = R at HR ⊢
  obtain ⟨la, lc, ka, kc, rfl⟩ := hv.shape
  clear hv hsm
  simp only [Value.cells] at HCH
  generalize checkT t = C at *
  generalize sizeT t = S at *
  generalize heightT t = H at *
  generalize t.form = f at *
  generalize t.n = n at *
  generalize t.hid = hd at *
  generalize t.name = nm at *
  generalize t.levels.length = l1 at *
  generalize t.kids.length = k1 at *
  by_cases hc : C = 0
  · subst hc
    obtain ⟨h1, h2, -⟩ := HB rfl
    have HCC : Hid ((S : Int) ≤ 20000 ∧ (H : Int) ≤ 500) := ⟨by omega, by omega⟩
    have HR2 : Hid (R = S) := by unfold Hid; rw [HR.out, if_pos rfl]
    clear HB HR
    go_enter Try.func16, Try.ntmps16
    go_wp2_with fail
    refine HCH.mono ?_
    rintro e w1 ⟨rfl, hb1⟩
    have HB1 : Hid (RowKit.Below w.heap.size w w1) := ((Below.refl w.heap.size w).alloc (Nat.le_refl _) _).trans (hb1.mono (by simp))
    obtain ⟨x0, x1, x2, x3, x4, x5, x6⟩ := cells6 ((hb1.block w.heap.size (by simp)).trans (alloc_new _ _))
    clear HCH hb1
    go_wp2_with fail
    refine (HW1 w1 HB1.out).mono ?_
    rintro e w2 ⟨⟨r1, c1, rfl, hq, -⟩, hb2⟩
    obtain ⟨rfl, rfl⟩ := hq HCC.out
    clear hq
    go_wp2
    go_ret
    exact ⟨by rw [HR2.out]; rfl, HB1.out.trans (hb2.mono HB1.out.size)⟩
  · have hcb : (C != 0) = true := by simpa using hc
    have HR2 : Hid (R = 0) := by unfold Hid; rw [HR.out, if_neg hc]
    clear hc HR HB
    go_enter Try.func16, Try.ntmps16
    go_wp2_with fail
    refine HCH.mono ?_
    rintro e w1 ⟨rfl, hb1⟩
    go_wp2
    go_ret
    exact ⟨by rw [HR2.out]; rfl, ((Below.refl w.heap.size w).alloc (Nat.le_refl _) _).trans (hb1.mono (by simp))⟩
end Go.Proofs.Ytbgkeomlfdmkeaa
