/- How an argument of type api.Level is read, and what laws over two of them ask. -/
import Derived.Test.YtphemmifckdjjaaRows
import Derived.Test.YtphemmifckdjjaaRE
import Derived.ProofKit
import Derived.OpenShut
import Derived.Below
import Derived.Lib.SmallJoins
import Derived.Deep.SlicePairs
namespace Go.Proofs.Ytphemmifckdjjaa
open Go.ChangeShapes Go.WideShapes Go.ChangeAt Go.RowKit Go.Sort Go.Joins

theorem cellsLevel : Try.prog.cellsOf 24 = 2 := by kernel_rfl
theorem cellsLVar : Try.prog.cellsOf 32 = 2 := by kernel_rfl
theorem own : ownKnob Try.prog.godebug = none := by kernel_rfl
theorem laidOut : laidOutB Try.prog = true := by kernel_rfl

theorem open_level2 {H : Type} {enc : TypeId × Value → H} {W : World} {r : Reach} {b0 : Nat} {v : Value} {d : DataW H} {p : List MemPlace} (hv : Value.okWide Try.prog W r b0 24 v) (h : DataW.Trod enc Try.prog W 0 (fun _ => true) true 24 v d p) :
    ∃ (n : Int) (xs : List (Int × Int)) (a : Option Addr) (cap : Nat), v = .agg #[.int .i64 n, .slice a xs.length cap] ∧ SL W a xs ∧ (a = none → cap = 0) := by
  obtain ⟨c0, c1, y0, y1, m, rfl, -, -, h0, h1⟩ := open_agg2 Try.underlying24 (by kernel_rfl) cellsLevel hv h
  obtain ⟨n, e0, -, -⟩ := DataW.trod_int Try.underlying3 h0
  simp at e0
  subst e0
  rcases Go.Deep.open_slice_pairs Try.underlying22 Try.underlying32 cellsLVar rfl rfl (by kernel_rfl) (by kernel_rfl) h1 with ⟨e1, -⟩ | ⟨a, len, cap, m', k, V0, V1, D0, D1, P0, P1, e1, -, hl, -, hm, -, hc⟩
  · simp at e1
    subst e1
    exact ⟨n, [], none, 0, rfl, Or.inl rfl, fun _ => rfl⟩
  · simp at e1 hm
    subst e1 hm
    have hx : ∀ i, ∃ x y, i < len → W.cell? (a.add (i * 2)) = some (.int .i64 x) ∧ W.cell? (a.add (i * 2 + 1)) = some (.int .i64 y) := fun i => by
      by_cases hi : i < len
      · obtain ⟨q0, q1, t0, t1⟩ := hc i (by omega)
        obtain ⟨x, ex, -, -⟩ := DataW.trod_int Try.underlying3 t0
        obtain ⟨y, ey, -, -⟩ := DataW.trod_int Try.underlying3 t1
        simp at ex ey
        exact ⟨x, y, fun _ => ⟨by rw [q0, ex], by rw [q1, ey]⟩⟩
      · exact ⟨0, 0, fun h => absurd h hi⟩
    obtain ⟨X, hX⟩ := Classical.skolem.1 hx
    obtain ⟨Y, hY⟩ := Classical.skolem.1 hX
    refine ⟨n, (List.range len).map fun i => (X i, Y i), some a, m', by simp, ?_, fun h => by cases h⟩
    rcases Nat.eq_zero_or_pos len with hz | hp
    · left; simp [hz]
    · right
      obtain ⟨b, off, spot⟩ := a
      have hspot : spot = none := by simpa [Addr.add] using World.cell?_spot (hY 0 hp).1
      subst hspot
      refine ⟨b, off, rfl, World.block_lt_of_cell? W _ (by simpa [Addr.add] using (hY 0 hp).1), fun i hi => ?_⟩
      have hi' : i < len := by simpa using hi
      have := hY i hi'
      rw [add_plain, add_plain] at this
      simp only [List.getElem?_map, List.getElem?_range hi', Option.map_some, Option.getD_some]
      exact ⟨this.1, by rw [Nat.add_assoc]; exact this.2⟩

theorem open_level {H : Type} {enc : TypeId × Value → H} {W : World} {r : Reach} {b0 : Nat} {v : Value} {d : DataW H} {p : List MemPlace} (hv : Value.okWide Try.prog W r b0 24 v) (h : DataW.Trod enc Try.prog W 0 (fun _ => true) true 24 v d p) :
    ∃ (n : Int) (xs : List (Int × Int)) (a : Option Addr) (cap : Nat), v = .agg #[.int .i64 n, .slice a xs.length cap] ∧ SL W a xs := by
  obtain ⟨n, xs, a, cap, h1, h2, -⟩ := open_level2 hv h
  exact ⟨n, xs, a, cap, h1, h2⟩
end Go.Proofs.Ytphemmifckdjjaa
