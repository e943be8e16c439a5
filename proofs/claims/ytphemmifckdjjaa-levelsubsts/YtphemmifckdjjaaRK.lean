/- How arguments of type []api.Level are read. -/
import Derived.Test.YtphemmifckdjjaaRJ
import Derived.Test.YtphemmifckdjjaaM
namespace Go.Proofs.Ytphemmifckdjjaa
open Go.ChangeShapes Go.WideShapes Go.ChangeAt Go.RowKit Go.Sort Go.Joins

/-- a slice of pairs, out of its one cell -/
theorem open_pairs {H : Type} {enc : TypeId × Value → H} {W : World} {fuel : Nat} {u : Value} {x : DataW H × List MemPlace} (h : DataW.trod enc Try.prog W 0 (fun _ => true) true fuel 22 [u] = some x) :
    ∃ (xs : List (Int × Int)) (a : Option Addr) (cap : Nat), u = .slice a xs.length cap ∧ SL W a xs ∧ (a = none → cap = 0) := by
  rcases Go.Deep.open_slice_pairs Try.underlying22 Try.underlying32 cellsLVar rfl rfl (by kernel_rfl) (by kernel_rfl) h with ⟨e1, -⟩ | ⟨a, len, cap, m', k, V0, V1, D0, D1, P0, P1, e1, -, hl, -, hm, -, hc⟩
  · simp at e1
    subst e1
    exact ⟨[], none, 0, rfl, Or.inl rfl, fun _ => rfl⟩
  · simp at e1 hm
    subst e1 hm
    have hx : ∀ i, ∃ x y, i < len → W.cell? (a.add (i * 2)) = some (.int .i64 x) ∧ W.cell? (a.add (i * 2 + 1)) = some (.int .i64 y) := fun i => by
      by_cases hi : i < len
      · obtain ⟨q0, q1, t0, t1⟩ := hc i (by omega)
        obtain ⟨x, ex, -, -⟩ := DataW.trod_int Try.underlying3 t0
        obtain ⟨y, ey, -, -⟩ := DataW.trod_int Try.underlying3 t1
        simp at ex ey
        exact ⟨x, y, fun _ => ⟨by rw [q0, ex], by rw [q1, ey]⟩⟩
      · exact ⟨0, 0, fun h => absurd h hi⟩
    obtain ⟨X, hX⟩ := Classical.skolem.1 hx
    obtain ⟨Y, hY⟩ := Classical.skolem.1 hX
    refine ⟨(List.range len).map fun i => (X i, Y i), some a, m', by simp, ?_, fun h => by cases h⟩
    rcases Nat.eq_zero_or_pos len with hz | hp
    · left; simp [hz]
    · right
      obtain ⟨b, off, spot⟩ := a
      have hspot : spot = none := by simpa [Addr.add] using World.cell?_spot (hY 0 hp).1
      subst hspot
      refine ⟨b, off, rfl, World.block_lt_of_cell? W _ (by simpa [Addr.add] using (hY 0 hp).1), fun i hi => ?_⟩
      have hi' : i < len := by simpa using hi
      have := hY i hi'
      rw [add_plain, add_plain] at this
      simp only [List.getElem?_map, List.getElem?_range hi', Option.map_some, Option.getD_some]
      exact ⟨this.1, by rw [Nat.add_assoc]; exact this.2⟩

theorem open_levels {H : Type} {enc : TypeId × Value → H} {W : World} {r : Reach} {b0 : Nat} {v : Value} {d : DataW H} {p : List MemPlace} (hv : Value.okWide Try.prog W r b0 47 v) (h : DataW.Trod enc Try.prog W 0 (fun _ => true) true 47 v d p) :
    ∃ (ls : List (Int × List (Int × Int))) (a : Option Addr) (cap : Nat), v = .slice a ls.length cap ∧ LL W a ls := by
  obtain ⟨a0, len0, cap0, rfl⟩ := okWide_slice Try.underlying47 hv
  obtain ⟨fuel, hf⟩ := h
  rcases Go.Deep.open_slice_pairs Try.underlying47 Try.underlying24 cellsLevel rfl rfl (by kernel_rfl) (by kernel_rfl) hf with ⟨e1, -⟩ | ⟨a, len, cap, m', k, V0, V1, D0, D1, P0, P1, e1, -, hl, -, hm, -, hc⟩
  · simp [Value.cells] at e1
    obtain ⟨rfl, rfl, rfl⟩ := e1
    exact ⟨[], none, 0, rfl, Or.inl rfl⟩
  · simp [Value.cells] at e1 hm
    obtain ⟨rfl, rfl, rfl⟩ := e1
    have hx : ∀ i, ∃ l : Int × List (Int × Int), i < len0 → W.cell? (a.add (i * 2)) = some (.int .i64 l.1) ∧ ∃ a' cap', W.cell? (a.add (i * 2 + 1)) = some (.slice a' l.2.length cap') ∧ SL W a' l.2 := fun i => by
      by_cases hi : i < len0
      · obtain ⟨q0, q1, t0, t1⟩ := hc i (by omega)
        obtain ⟨n, en, -, -⟩ := DataW.trod_int Try.underlying3 t0
        obtain ⟨xs, a', cap', eu, hs, -⟩ := open_pairs t1
        simp at en
        exact ⟨(n, xs), fun _ => ⟨by rw [q0, en], a', cap', by rw [q1, eu], hs⟩⟩
      · exact ⟨(0, []), fun h => absurd h hi⟩
    obtain ⟨L, hL⟩ := Classical.skolem.1 hx
    refine ⟨(List.range len0).map L, some a, cap0, by simp, ?_⟩
    rcases Nat.eq_zero_or_pos len0 with hz | hp
    · left; simp [hz]
    · right
      obtain ⟨b, off, spot⟩ := a
      have hspot : spot = none := by simpa [Addr.add] using World.cell?_spot (hL 0 hp).1
      subst hspot
      refine ⟨b, off, rfl, World.block_lt_of_cell? W _ (by simpa [Addr.add] using (hL 0 hp).1), fun i n xs hi => ?_⟩
      rw [List.getElem?_map] at hi
      have hi' : i < len0 := by
        rcases Nat.lt_or_ge i len0 with h | h
        · exact h
        · rw [List.getElem?_eq_none (by simpa using h)] at hi; simp at hi
      rw [List.getElem?_range hi'] at hi
      simp only [Option.map_some, Option.some.injEq] at hi
      obtain ⟨h1, a', cap', h2, h3⟩ := hL i hi'
      rw [add_plain] at h1 h2
      rw [hi] at h1 h2 h3
      exact ⟨h1, a', cap', by rw [Nat.add_assoc]; exact h2, h3⟩
end Go.Proofs.Ytphemmifckdjjaa
