/- How arguments of type []int are read. -/
import Derived.Test.YtphemmifckdjjaaRF
import Derived.ChangeSlices
namespace Go.Proofs.Ytphemmifckdjjaa
open Go.ChangeShapes Go.WideShapes Go.ChangeAt Go.RowKit Go.Sort Go.Joins

theorem cellsInt : Try.prog.cellsOf 3 = 1 := by kernel_rfl

theorem open_ints1 {H : Type} {enc : TypeId × Value → H} {W : World} {r : Reach} {b0 : Nat} {v : Value} {d : DataW H} {p : List MemPlace} (hv : Value.okWide Try.prog W r b0 42 v) (h : DataW.Trod enc Try.prog W 0 (fun _ => true) true 42 v d p) :
    ∃ (vs : List Int) (a : Option Addr) (cap : Nat), v = .slice a vs.length cap ∧ IL W a vs := by
  obtain ⟨a0, len0, cap0, rfl⟩ := okWide_slice Try.underlying42 hv
  obtain ⟨fuel, hf⟩ := h
  rcases open_ints Try.underlying42 Try.underlying3 cellsInt hf with ⟨e1, -⟩ | ⟨a, len, cap, zs, e1, -, hl, -, hm, -, hc, hw⟩
  · simp [Value.cells] at e1
    obtain ⟨rfl, rfl, rfl⟩ := e1
    exact ⟨[], none, 0, rfl, Or.inl rfl⟩
  · simp [Value.cells] at e1 hm
    obtain ⟨rfl, rfl, rfl⟩ := e1
    have htl : (zs.take len0).length = len0 := by simp; omega
    refine ⟨zs.take len0, some a, cap0, by rw [htl], ?_⟩
    · rcases Nat.eq_zero_or_pos len0 with hz | hp
      · left; rw [hz]; simp
      · right
        obtain ⟨b, off, spot⟩ := a
        have h0 := hc 0 (by omega)
        have hspot : spot = none := by simpa [Addr.add] using World.cell?_spot h0
        subst hspot
        refine ⟨b, off, rfl, World.block_lt_of_cell? W _ (by simpa [Addr.add] using h0), fun i hi => ?_⟩
        rw [htl] at hi
        have := hc i (by omega)
        rw [add_plain] at this
        rw [this, List.getElem?_take_of_lt hi]
        simp [List.getD]
end Go.Proofs.Ytphemmifckdjjaa
