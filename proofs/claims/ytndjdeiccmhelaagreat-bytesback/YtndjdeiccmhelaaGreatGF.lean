/- How an argument of type api.Term is read. -/
import Derived.Test.YtndjdeiccmhelaaGreatRows
import Derived.Test.YtndjdeiccmhelaaGreatTD
import Derived.ProofKit
import Derived.OpenShut
import Derived.Below
import Derived.Lib.SmallJoins
import Derived.Deep.SlicePairs
import Derived.SizedLaws
import Derived.Test.YtndjdeiccmhelaaGreatGA
import Derived.Test.YtndjdeiccmhelaaGreatGB
import Derived.ChangeSlices
import Derived.Laws.AppendOwnNone
namespace Go.Proofs.YtndjdeiccmhelaaGreat
open Go.ChangeShapes Go.WideShapes Go.ChangeAt Go.RowKit Go.Sort Go.Joins

theorem cellsLevelT : Tryz.prog.cellsOf 105 = 2 := by kernel_rfl
theorem cellsLVarT : Tryz.prog.cellsOf 151 = 2 := by kernel_rfl
theorem cellsTerm : Tryz.prog.cellsOf 38 = 6 := by kernel_rfl
theorem own : ownKnob Tryz.prog.godebug = none := by kernel_rfl
theorem laidOut : laidOutB Tryz.prog = true := by kernel_rfl

mutual
/-- nothing in a term is longer than what is read may be -/
def okT : Tm → Prop
  | .mk _ _ _ nm ls ks => nm.size ≤ 140737488351232 ∧ ls.length ≤ 8796093022208 ∧ (∀ l ∈ ls, l.2.length ≤ 8796093022208) ∧ ks.length ≤ 8796093022208 ∧ okTs ks
def okTs : List Tm → Prop
  | [] => True
  | k :: ks => okT k ∧ okTs ks
end

theorem okTs_iff : ∀ ks : List Tm, okTs ks ↔ ∀ k ∈ ks, okT k
  | [] => by simp [okTs]
  | k :: ks => by simp [okTs, okTs_iff ks]

theorem weights_all {H : Type} {e : TypeId} {n : Nat} {d : DataW H} : ∀ {ds : List (DataW H)}, d ∈ ds → n ∈ d.weights Tryz.prog e → n ∈ DataW.weightsAll Tryz.prog e ds
  | [], h, _ => by simp at h
  | x :: ds, h, hn => by
    simp only [DataW.weightsAll, List.mem_append]
    rcases List.mem_cons.1 h with rfl | h
    · exact Or.inl hn
    · exact Or.inr (weights_all h hn)

theorem bytesLVar : Tryz.prog.bytesOf 151 = 16 := by kernel_rfl
theorem bytesLevel : Tryz.prog.bytesOf 105 = 32 := by kernel_rfl
theorem bytesTerm : Tryz.prog.bytesOf 38 = 88 := by kernel_rfl

theorem weights_slice {H : Type} {t e : TypeId} (hu : Tryz.prog.underlying t = some (.slice e)) (a b : List (DataW H)) : (DataW.slice a b).weights Tryz.prog t = (a.length + b.length) * Tryz.prog.bytesOf e :: (DataW.weightsAll Tryz.prog e a ++ DataW.weightsAll Tryz.prog e b) := by
  simp only [DataW.weights, hu]

theorem weights_agg {H : Type} {t : TypeId} {fs : Array Field} (hu : Tryz.prog.underlying t = some (.struct fs)) (a : List (DataW H)) : (DataW.agg a).weights Tryz.prog t = DataW.weightsEach Tryz.prog (fs.toList.map (·.type)) a := by
  simp only [DataW.weights, hu]

/-- a slice of pairs, out of its one cell -/
theorem open_pairs {H : Type} {enc : TypeId × Value → H} {W : World} {fuel : Nat} {u : Value} {x : DataW H × List MemPlace} (h : DataW.trod enc Tryz.prog W 0 (fun _ => true) true fuel 103 [u] = some x) :
    ∃ (xs : List (Int × Int)) (a : Option Addr) (cap : Nat), u = .slice a xs.length cap ∧ SL W a xs ∧ (a = none → cap = 0) ∧ ((∀ n ∈ x.1.weights Tryz.prog 103, n ≤ reachBytes) → xs.length ≤ 8796093022208) := by
  rcases Go.Deep.open_slice_pairs Tryz.underlying103 Tryz.underlying151 cellsLVarT rfl rfl (by kernel_rfl) (by kernel_rfl) h with ⟨e1, -⟩ | ⟨a, len, cap, m', k, V0, V1, D0, D1, P0, P1, e1, -, hl, -, hm, hx0, hc⟩
  · simp at e1
    subst e1
    exact ⟨[], none, 0, rfl, Or.inl rfl, fun _ => rfl, fun _ => Nat.zero_le _⟩
  · have HX := Hid.mk hx0
    clear hx0
    simp at e1 hm
    subst e1 hm
    have hx : ∀ i, ∃ x y, i < len → W.cell? (a.add (i * 2)) = some (.int .i64 x) ∧ W.cell? (a.add (i * 2 + 1)) = some (.int .i64 y) := fun i => by
      by_cases hi : i < len
      · obtain ⟨q0, q1, t0, t1⟩ := hc i (by omega)
        obtain ⟨x, ex, -, -⟩ := DataW.trod_int Tryz.underlying3 t0
        obtain ⟨y, ey, -, -⟩ := DataW.trod_int Tryz.underlying3 t1
        simp at ex ey
        exact ⟨x, y, fun _ => ⟨by rw [q0, ex], by rw [q1, ey]⟩⟩
      · exact ⟨0, 0, fun h => absurd h hi⟩
    obtain ⟨X, hX⟩ := Classical.skolem.1 hx
    obtain ⟨Y, hY⟩ := Classical.skolem.1 hX
    refine ⟨(List.range len).map fun i => (X i, Y i), some a, m', by simp, ?_, fun h => (by cases h), fun hw => ?_⟩
    rotate_left
    · have h1 := hw ((len + (m' - len)) * 16) (by rw [HX.out, weights_slice Tryz.underlying103, bytesLVar]; simp)
      unfold reachBytes at h1
      simp only [List.length_map, List.length_range]
      omega
    rcases Nat.eq_zero_or_pos len with hz | hp
    · left; simp [hz]
    · right
      obtain ⟨b, off, spot⟩ := a
      have hspot : spot = none := by simpa [Addr.add] using World.cell?_spot (hY 0 hp).1
      subst hspot
      refine ⟨b, off, rfl, World.block_lt_of_cell? W _ (by simpa [Addr.add] using (hY 0 hp).1), fun i hi => ?_⟩
      have hi' : i < len := by simpa using hi
      have := hY i hi'
      rw [add_plain, add_plain] at this
      simp only [List.getElem?_map, List.getElem?_range hi', Option.map_some, Option.getD_some]
      exact ⟨this.1, by rw [Nat.add_assoc]; exact this.2⟩

/-- a slice of levels, out of its one cell -/
theorem open_lvs {H : Type} {enc : TypeId × Value → H} {W : World} {fuel : Nat} {u : Value} {x : DataW H × List MemPlace} (h : DataW.trod enc Tryz.prog W 0 (fun _ => true) true fuel 35 [u] = some x) :
    ∃ (ls : List LvT) (a : Option Addr) (cap : Nat), u = .slice a ls.length cap ∧ LN W a ls ∧ (a = none → cap = 0) ∧ ls.length ≤ cap ∧ cap ≤ 9223372036854775807 ∧ ((∀ n ∈ x.1.weights Tryz.prog 35, n ≤ reachBytes) → ls.length ≤ 8796093022208 ∧ ∀ l ∈ ls, l.2.length ≤ 8796093022208) := by
  rcases Go.Deep.open_slice_pairs Tryz.underlying35 Tryz.underlying105 cellsLevelT rfl rfl (by kernel_rfl) (by kernel_rfl) h with ⟨e1, -⟩ | ⟨a, len0, cap0, m', k, V0, V1, D0, D1, P0, P1, e1, -, hl, hcm, hm, hx0, hc⟩
  · simp at e1
    subst e1
    exact ⟨[], none, 0, rfl, Or.inl rfl, fun _ => rfl, Nat.le_refl _, Nat.zero_le _, fun _ => ⟨Nat.zero_le _, by simp⟩⟩
  · have HX := Hid.mk hx0
    clear hx0
    simp at e1 hm
    subst e1 hm
    have hx : ∀ i, ∃ l : LvT, i < len0 → W.cell? (a.add (i * 2)) = some (.int .i64 l.1) ∧ ∃ a' cap', W.cell? (a.add (i * 2 + 1)) = some (.slice a' l.2.length cap') ∧ SL W a' l.2 ∧ (a' = none → cap' = 0) ∧ ((∀ n ∈ (D1 i).weights Tryz.prog 103, n ≤ reachBytes) → l.2.length ≤ 8796093022208) := fun i => by
      by_cases hi : i < len0
      · obtain ⟨q0, q1, t0, t1⟩ := hc i (by omega)
        obtain ⟨n, en, -, -⟩ := DataW.trod_int Tryz.underlying3 t0
        obtain ⟨xs, a', cap', eu, hs, hn, hw⟩ := open_pairs t1
        simp at en
        exact ⟨(n, xs), fun _ => ⟨by rw [q0, en], a', cap', by rw [q1, eu], hs, hn, hw⟩⟩
      · exact ⟨(0, []), fun h => absurd h hi⟩
    obtain ⟨L, hL⟩ := Classical.skolem.1 hx
    refine ⟨(List.range len0).map L, some a, m', by simp, ?_, fun h => (by cases h), by simpa using hl, (by simpa [maxLen] using hcm), fun hw => ⟨?_, fun l hl' => ?_⟩⟩
    rotate_left
    · have h1 := hw ((len0 + (m' - len0)) * 32) (by rw [HX.out, weights_slice Tryz.underlying35, bytesLevel]; simp)
      unfold reachBytes at h1
      simp only [List.length_map, List.length_range]
      omega
    · obtain ⟨i, hi, rfl⟩ := List.mem_map.1 hl'
      have hi' : i < len0 := by simpa using hi
      obtain ⟨-, a', cap', -, -, -, hb⟩ := hL i hi'
      refine hb fun n hn => hw n ?_
      rw [HX.out, weights_slice Tryz.underlying35]
      refine List.mem_cons_of_mem _ (List.mem_append_left _ (weights_all (d := .agg [D0 i, D1 i]) (List.mem_map.2 ⟨i, hi, rfl⟩) ?_))
      rw [weights_agg Tryz.underlying105]
      exact DataW.weights_mem_each (j := 1) (t := 103) rfl rfl n hn
    rcases Nat.eq_zero_or_pos len0 with hz | hp
    · left; simp [hz]
    · right
      obtain ⟨b, off, spot⟩ := a
      have hspot : spot = none := by simpa [Addr.add] using World.cell?_spot (hL 0 hp).1
      subst hspot
      refine ⟨b, off, rfl, World.block_lt_of_cell? W _ (by simpa [Addr.add] using (hL 0 hp).1), fun i n xs hi => ?_⟩
      rw [List.getElem?_map] at hi
      have hi' : i < len0 := by
        rcases Nat.lt_or_ge i len0 with h | h
        · exact h
        · rw [List.getElem?_eq_none (by simpa using h)] at hi; simp at hi
      rw [List.getElem?_range hi'] at hi
      simp only [Option.map_some, Option.some.injEq] at hi
      obtain ⟨h1, a', cap', h2, h3, h4, -⟩ := hL i hi'
      rw [add_plain] at h1 h2
      rw [hi] at h1 h2 h3
      exact ⟨h1, a', cap', by rw [Nat.add_assoc]; exact h2, h3, h4⟩

theorem cI : Tryz.prog.cellsOf 3 = 1 := by kernel_rfl
theorem cB : Tryz.prog.cellsOf 4 = 1 := by kernel_rfl
theorem cS : Tryz.prog.cellsOf 9 = 1 := by kernel_rfl
theorem cL : Tryz.prog.cellsOf 35 = 1 := by kernel_rfl
theorem cK : Tryz.prog.cellsOf 36 = 1 := by kernel_rfl

theorem list6 : ∀ {cs : List Value}, cs.length = 6 → ∃ v0 v1 v2 v3 v4 v5, cs = [v0, v1, v2, v3, v4, v5]
  | [v0, v1, v2, v3, v4, v5], _ => ⟨v0, v1, v2, v3, v4, v5, rfl⟩

set_option maxRecDepth 100000 in
/-- the fields of a term, out of its six cells; the kids by what the induction gives -/
theorem open_fields {H : Type} {enc : TypeId × Value → H} {W : World} (fuel : Nat) (ih : ∀ m, m < fuel → ∀ (b o : Nat) (cs : List Value) (x : DataW H × List MemPlace), W.cells? 0 ⟨b, o, none⟩ 6 = some cs → DataW.trod enc Tryz.prog W 0 (fun _ => true) true m 38 cs = some x → ∃ t, TC W b o t ∧ ((∀ n ∈ x.1.weights Tryz.prog 38, n ≤ reachBytes) → okT t)) (cs : List Value) (x : DataW H × List MemPlace) (h : DataW.trod enc Tryz.prog W 0 (fun _ => true) true fuel 38 cs = some x) :
    ∃ (f n : Int) (hd : Bool) (nm : ByteArray) (ls : List LvT) (ks : List Tm) (la : Option Addr) (lc : Nat) (ka : Option Addr) (kc kb ko : Nat), cs = [.int .i64 f, .int .i64 n, .bool hd, .string nm, .slice la ls.length lc, .slice ka ks.length kc] ∧ LN W la ls ∧ (la = none → lc = 0) ∧ ls.length ≤ lc ∧ lc ≤ 9223372036854775807 ∧ (ka = none → kc = 0) ∧ ks.length ≤ kc ∧ kc ≤ 9223372036854775807 ∧ (ks ≠ [] → ka = some ⟨kb, ko, none⟩ ∧ kb < W.heap.size) ∧ (∀ i t, ks[i]? = some t → TC W kb (ko + i * 6) t) ∧ ((∀ n ∈ x.1.weights Tryz.prog 38, n ≤ reachBytes) → okT (.mk f n hd nm ls ks)) := by
  obtain ⟨xs, m, rfl, hX, hlen, hxs, hf⟩ := DataW.trod_struct Tryz.underlying38 h
  rw [cellsTerm] at hlen
  obtain ⟨v0, v1, v2, v3, v4, v5, rfl⟩ := list6 hlen
  have h0 : DataW.trod enc Tryz.prog W 0 (fun _ => true) true m 3 [v0] = xs[0]? := by
    have h := hf 0 _ rfl
    change DataW.trod enc Tryz.prog W 0 (fun _ => true) true m 3 (List.take (Tryz.prog.cellsOf 3) [v0, v1, v2, v3, v4, v5]) = _ at h
    rw [cI] at h
    exact h
  have h1 : DataW.trod enc Tryz.prog W 0 (fun _ => true) true m 3 [v1] = xs[1]? := by
    have h := hf 1 _ rfl
    change DataW.trod enc Tryz.prog W 0 (fun _ => true) true m 3 (List.take (Tryz.prog.cellsOf 3) [v1, v2, v3, v4, v5]) = _ at h
    rw [cI] at h
    exact h
  have h2 : DataW.trod enc Tryz.prog W 0 (fun _ => true) true m 4 [v2] = xs[2]? := by
    have h := hf 2 _ rfl
    change DataW.trod enc Tryz.prog W 0 (fun _ => true) true m 4 (List.take (Tryz.prog.cellsOf 4) [v2, v3, v4, v5]) = _ at h
    rw [cB] at h
    exact h
  have h3 : DataW.trod enc Tryz.prog W 0 (fun _ => true) true m 9 [v3] = xs[3]? := by
    have h := hf 3 _ rfl
    change DataW.trod enc Tryz.prog W 0 (fun _ => true) true m 9 (List.take (Tryz.prog.cellsOf 9) [v3, v4, v5]) = _ at h
    rw [cS] at h
    exact h
  have h4 : DataW.trod enc Tryz.prog W 0 (fun _ => true) true m 35 [v4] = xs[4]? := by
    have h := hf 4 _ rfl
    change DataW.trod enc Tryz.prog W 0 (fun _ => true) true m 35 (List.take (Tryz.prog.cellsOf 35) [v4, v5]) = _ at h
    rw [cL] at h
    exact h
  have h5 : DataW.trod enc Tryz.prog W 0 (fun _ => true) true m 36 [v5] = xs[5]? := by
    have h := hf 5 _ rfl
    change DataW.trod enc Tryz.prog W 0 (fun _ => true) true m 36 (List.take (Tryz.prog.cellsOf 36) [v5]) = _ at h
    rw [cK] at h
    exact h
  have hx : xs.length = 6 := hxs
  have HX := Hid.mk hX
  clear hX
  have g : ∀ k, k < 6 → ∃ y, xs[k]? = some y := fun k hk => ⟨xs[k]'(by omega), by simp [hx, hk]⟩
  obtain ⟨y0, g0⟩ := g 0 (by decide)
  obtain ⟨y1, g1⟩ := g 1 (by decide)
  obtain ⟨y2, g2⟩ := g 2 (by decide)
  obtain ⟨y3, g3⟩ := g 3 (by decide)
  obtain ⟨y4, g4⟩ := g 4 (by decide)
  obtain ⟨y5, g5⟩ := g 5 (by decide)
  rw [g0] at h0
  rw [g1] at h1
  rw [g2] at h2
  rw [g3] at h3
  rw [g4] at h4
  rw [g5] at h5
  obtain ⟨f, e0, -, -⟩ := DataW.trod_int Tryz.underlying3 h0
  obtain ⟨n, e1, -, -⟩ := DataW.trod_int Tryz.underlying3 h1
  obtain ⟨hd, e2, -⟩ := DataW.trod_bool Tryz.underlying4 h2
  obtain ⟨nm, e3, x3, -⟩ := DataW.trod_string Tryz.underlying9 h3
  obtain ⟨ls, la, lc, e4, hl, hln, hlc, hlm, hlw⟩ := open_lvs h4
  have W3 : Hid ((∀ n ∈ x.1.weights Tryz.prog 38, n ≤ reachBytes) → nm.size ≤ 140737488351232) := fun hw => by
    have := hw nm.data.toList.length (by
      rw [HX.out, weights_agg Tryz.underlying38]
      refine DataW.weights_mem_each (j := 3) (t := 9) (d := y3.1) rfl (by simp [g3]) _ ?_
      rw [x3]
      simp [DataW.weights])
    unfold reachBytes at this
    simpa using this
  have W4 : Hid ((∀ n ∈ x.1.weights Tryz.prog 38, n ≤ reachBytes) → ls.length ≤ 8796093022208 ∧ ∀ l ∈ ls, l.2.length ≤ 8796093022208) := fun hw => hlw fun n hn => hw n (by
    rw [HX.out, weights_agg Tryz.underlying38]
    exact DataW.weights_mem_each (j := 4) (t := 35) (d := y4.1) rfl (by simp [g4]) _ hn)
  have W5 : Hid ((∀ n ∈ x.1.weights Tryz.prog 38, n ≤ reachBytes) → ∀ n ∈ y5.1.weights Tryz.prog 36, n ≤ reachBytes) := fun hw n hn => hw n (by
    rw [HX.out, weights_agg Tryz.underlying38]
    exact DataW.weights_mem_each (j := 5) (t := 36) (d := y5.1) rfl (by simp [g5]) _ hn)
  clear hlw x3
  simp only [List.cons.injEq, and_true] at e0 e1 e2 e3
  subst e0 e1 e2 e3 e4
  rcases DataW.trod_slice Tryz.underlying36 h5 with ⟨e5, -⟩ | ⟨a, len, cap, elems, rest, m2, hm2, e5, x5, -, hle, hcm, hel, hk, -, -⟩
  · simp only [List.cons.injEq, and_true] at e5
    subst e5
    exact ⟨f, n, hd, nm, ls, [], la, lc, none, 0, 0, 0, rfl, hl, hln, hlc, hlm, fun _ => rfl, Nat.le_refl _, Nat.zero_le _, fun h => absurd rfl h, fun i t hi => (by simp at hi), fun hw => by rw [okT]; exact ⟨W3.out hw, (W4.out hw).1, (W4.out hw).2, Nat.zero_le _, by simp [okTs]⟩⟩
  · simp only [List.cons.injEq, and_true] at e5
    subst e5
    have X5 := Hid.mk x5
    clear x5
    rw [cellsTerm] at hk
    have hcell : ∀ i, i < len → ∃ cs' y, W.cells? 0 (a.add (i * 6)) 6 = some cs' ∧ DataW.trod enc Tryz.prog W 0 (fun _ => true) true m2 38 cs' = some y ∧ ((∀ n ∈ y5.1.weights Tryz.prog 36, n ≤ reachBytes) → ∀ n ∈ y.1.weights Tryz.prog 38, n ≤ reachBytes) := fun i hi => by
      have := hk i hi
      rw [List.getElem?_eq_getElem (by omega)] at this
      obtain ⟨cs', h1, h2⟩ := Option.bind_eq_some_iff.1 this
      refine ⟨cs', _, h1, h2, fun hw n hn => hw n ?_⟩
      rw [X5.out, weights_slice Tryz.underlying36]
      exact List.mem_cons_of_mem _ (List.mem_append_left _ (weights_all (List.mem_map.2 ⟨_, List.getElem_mem _, rfl⟩) hn))
    have W6 : Hid ((∀ n ∈ x.1.weights Tryz.prog 38, n ≤ reachBytes) → len ≤ 8796093022208) := fun hw => by
      have h1 := W5.out hw ((elems.length + rest.length) * 88) (by rw [X5.out, weights_slice Tryz.underlying36, bytesTerm]; simp)
      unfold reachBytes at h1
      omega
    rcases Nat.eq_zero_or_pos len with hz | hp
    · subst hz
      exact ⟨f, n, hd, nm, ls, [], la, lc, some a, cap, 0, 0, rfl, hl, hln, hlc, hlm, fun h => (by cases h), Nat.zero_le _, (by simpa [maxLen] using hcm), fun h => absurd rfl h, fun i t hi => (by simp at hi), fun hw => by rw [okT]; exact ⟨W3.out hw, (W4.out hw).1, (W4.out hw).2, Nat.zero_le _, by simp [okTs]⟩⟩
    · obtain ⟨b, off, spot⟩ := a
      obtain ⟨cs0, y0', q0, -, -⟩ := hcell 0 hp
      have hc0 := (World.cells?_some q0).2.2 0 (by decide)
      have hlen0 := (World.cells?_some q0).2.1
      have hsome : ∃ u, W.cell? ((⟨b, off, spot⟩ : Addr).add (0 * 6) |>.add 0) = some u := ⟨cs0[0]'(by omega), by rw [hc0]; simp [hlen0]⟩
      obtain ⟨u, hu⟩ := hsome
      have hspot : spot = none := by simpa [Addr.add] using World.cell?_spot hu
      subst hspot
      have hblt : b < W.heap.size := World.block_lt_of_cell? W _ (by simpa [Addr.add] using hu)
      have htm : ∀ i, ∃ t, i < len → TC W b (off + i * 6) t ∧ ((∀ n ∈ y5.1.weights Tryz.prog 36, n ≤ reachBytes) → okT t) := fun i => by
        by_cases hi : i < len
        · obtain ⟨cs', y, q1, q2, q3⟩ := hcell i hi
          rw [add_plain] at q1
          obtain ⟨t, ht, hok⟩ := ih m2 (by omega) b (off + i * 6) cs' y q1 q2
          exact ⟨t, fun _ => ⟨ht, fun hw => hok (q3 hw)⟩⟩
        · exact ⟨.mk 0 0 false ByteArray.empty [] [], fun h => absurd h hi⟩
      obtain ⟨F, hF⟩ := Classical.skolem.1 htm
      refine ⟨f, n, hd, nm, ls, (List.range len).map F, la, lc, some ⟨b, off, none⟩, cap, b, off, by simp, hl, hln, hlc, hlm, fun h => (by cases h), by simpa using hle, (by simpa [maxLen] using hcm), fun _ => ⟨rfl, hblt⟩, fun i t hi => ?_, fun hw => ?_⟩
      rotate_left
      · rw [okT, okTs_iff]
        refine ⟨W3.out hw, (W4.out hw).1, (W4.out hw).2, by simpa using W6.out hw, fun k hk' => ?_⟩
        obtain ⟨i, hi, rfl⟩ := List.mem_map.1 hk'
        exact (hF i (by simpa using hi)).2 (W5.out hw)
      rw [List.getElem?_map] at hi
      have hi' : i < len := by
        rcases Nat.lt_or_ge i len with h | h
        · exact h
        · rw [List.getElem?_eq_none (by simpa using h)] at hi; simp at hi
      rw [List.getElem?_range hi'] at hi
      simp only [Option.map_some, Option.some.injEq] at hi
      rw [← hi]
      exact (hF i hi').1

theorem open_cells {H : Type} {enc : TypeId × Value → H} {W : World} (fuel : Nat) : ∀ (b o : Nat) (cs : List Value) (x : DataW H × List MemPlace), W.cells? 0 ⟨b, o, none⟩ 6 = some cs → DataW.trod enc Tryz.prog W 0 (fun _ => true) true fuel 38 cs = some x → ∃ t, TC W b o t ∧ ((∀ n ∈ x.1.weights Tryz.prog 38, n ≤ reachBytes) → okT t) := by
  induction fuel using Nat.strongRecOn with
  | ind fuel ih =>
    intro b o cs x hc ht
    obtain ⟨f, n, hd, nm, ls, ks, la, lc, ka, kc, kb, ko, rfl, hl, hln, hlc, hlm, hkn, hkc, hkm, hk, kids, hok⟩ := open_fields fuel ih cs x ht
    obtain ⟨-, -, hcs⟩ := World.cells?_some hc
    have e0 := hcs 0 (by decide)
    have e1 := hcs 1 (by decide)
    have e2 := hcs 2 (by decide)
    have e3 := hcs 3 (by decide)
    have e4 := hcs 4 (by decide)
    have e5 := hcs 5 (by decide)
    rw [add_plain] at e0 e1 e2 e3 e4 e5
    exact ⟨_, TC.mk e0 e1 e2 e3 e4 e5 hl hln hlc hlm hkn hkc hkm hk kids, hok⟩

set_option maxRecDepth 100000 in
/-- a term that is handed in -/
theorem open_term {H : Type} {enc : TypeId × Value → H} {W : World} {r : Reach} {b0 : Nat} {v : Value} {d : DataW H} {p : List MemPlace} (hv : Value.okWide Tryz.prog W r b0 38 v) (h : DataW.Trod enc Tryz.prog W 0 (fun _ => true) true 38 v d p) : ∃ t, TV W v t ∧ ((∀ n ∈ d.weights Tryz.prog 38, n ≤ reachBytes) → okT t) := by
  obtain ⟨cs, rfl, hsz⟩ := okWide_struct Tryz.underlying38 hv
  obtain ⟨fuel, hf⟩ := h
  obtain ⟨f, n, hd, nm, ls, ks, la, lc, ka, kc, kb, ko, e, hl, hln, hlc, hlm, hkn, hkc, hkm, hk, kids, hok⟩ := open_fields fuel (fun m _ => open_cells m) _ _ hf
  have hcs : cs = #[.int .i64 f, .int .i64 n, .bool hd, .string nm, .slice la ls.length lc, .slice ka ks.length kc] := by
    simp only [Value.cells] at e
    exact Array.ext' (by simpa using e)
  rw [hcs]
  exact ⟨_, TV.mk hl hln hlc hlm hkn hkc hkm hk kids, hok⟩
end Go.Proofs.YtndjdeiccmhelaaGreat

/- The reference's ReadTerm. -/
namespace Go.Proofs.YtndjdeiccmhelaaGreat
open Go.RowKit Go.Sort Go.Lib

/-- the term that has these bytes, if there is one -/
def HasB (bs : List UInt8) (t : Tm) : Prop := smT 1000000 t ∧ checkT t = 0 ∧ encT t = bs

/-- what ReadTerm answers: the term that has these bytes, or ErrByte -/
def RdAns (w : World) (bs : List UInt8) (e : Ending) (w' : World) : Prop := (∃ t v, HasB bs t ∧ e = .returned (.tuple #[v, .int .i64 0]) ∧ ShapeT v ∧ TF w' (oldB w) v (cleanT t)) ∨ ((∀ t, ¬ HasB bs t) ∧ e = .returned (.tuple #[zeroT, .int .i64 30]))

theorem toList_loop (b : ByteArray) : ∀ (k i : Nat) (r : List UInt8), b.size - i = k → ByteArray.toList.loop b i r = r.reverse ++ b.data.toList.drop i
  | 0, i, r, h => by
    rw [ByteArray.toList.loop, if_neg (by omega), List.drop_eq_nil_of_le (by rw [Array.length_toList]; show b.size ≤ i; omega), List.append_nil]
  | k + 1, i, r, h => by
    have hi : i < b.size := by omega
    have hi' : i < b.data.toList.length := by rw [Array.length_toList]; exact hi
    rw [ByteArray.toList.loop, if_pos hi, toList_loop b k (i + 1) _ (by omega), List.reverse_cons, List.append_assoc, List.drop_eq_getElem_cons hi']
    have e : b.get! i = b.data.toList[i] := by
      cases b with
      | mk d => simp only [ByteArray.get!]; rw [Array.getElem_toList]; exact getElem!_pos d i hi
    rw [e]
    rfl

theorem toList_data (b : ByteArray) : b.toList = b.data.toList := by
  rw [ByteArray.toList, toList_loop b _ 0 [] rfl]
  rfl
theorem bytes_ne {xs ys : List UInt8} (h : xs ≠ ys) : ((⟨xs.toArray⟩ : ByteArray).toList == (⟨ys.toArray⟩ : ByteArray).toList) = false := by
  rw [toList_data, toList_data]
  simpa using h

end Go.Proofs.YtndjdeiccmhelaaGreat

/- ReadTerm of package bytes, whatever it reads. -/
namespace Go.Proofs.YtndjdeiccmhelaaGreat
open Go.RowKit Go.Sort Go.Lib

/-- bytes are those of one term at most, but for the fields that its form does not have -/
theorem HasB.one {bs : List UInt8} {t t' : Tm} (h : HasB bs t) (h' : HasB bs t') : cleanT t = cleanT t' := by
  obtain ⟨h1, h2, h3⟩ := h
  obtain ⟨g1, g2, g3⟩ := h'
  obtain ⟨a1, a2, a3⟩ := check_ok h2
  obtain ⟨b1, b2, b3⟩ := check_ok g2
  have e1 := pterm_enc t 500 0 [] h1 a3 a2 (by omega)
  have e2 := pterm_enc t' 500 0 [] g1 b3 b2 (by omega)
  rw [h3] at e1
  rw [g3, e1] at e2
  simp only [Option.some.injEq, Prod.mk.injEq] at e2
  exact e2.1
end Go.Proofs.YtndjdeiccmhelaaGreat

/- How arguments of type []byte are read; append(nil, b...) of bytes; what ReadTerm answers, in one form. -/
namespace Go.Proofs.YtndjdeiccmhelaaGreat
open Go.ChangeShapes Go.WideShapes Go.ChangeAt Go.RowKit Go.Sort Go.Joins

theorem cellsU8 : Tryz.prog.cellsOf 5 = 1 := by kernel_rfl

set_option maxRecDepth 100000 in
theorem okWide_sliceB {W : World} {r : Reach} {b0 : Nat} {a : Option Addr} {n cap : Nat} (hv : Value.okWide Tryz.prog W r b0 25 (.slice a n cap)) : (a = none → n = 0 ∧ cap = 0) ∧ n ≤ cap ∧ cap ≤ 9223372036854775807 ∧ ∀ ad, a = some ad → ad.block < W.heap.size := by
  simp only [Value.okWide, Tryz.underlying25, Cell.okWide] at hv
  cases a with
  | none =>
    unfold Cell.ok at hv
    simp only [Tryz.underlying25] at hv
    split at hv <;> simp_all
  | some ad =>
    unfold Cell.ok at hv
    simp only [Tryz.underlying25] at hv
    obtain ⟨h1, h2, -, -, row, cells, h3, -⟩ := hv
    have hmx : IntKind.i64.max = 9223372036854775807 := by decide
    refine ⟨fun h => (by cases h), h1, by omega, fun ad' e => ?_⟩
    simp only [Option.some.injEq] at e
    subst e
    by_cases hlt : ad.block < W.heap.size
    · exact hlt
    · exfalso
      simp only [World.shape?] at h3
      rw [Array.getElem?_eq_none (by omega)] at h3
      simp at h3

set_option maxRecDepth 100000 in
theorem open_bytes1 {H : Type} {enc : TypeId × Value → H} {W : World} {r : Reach} {b0 : Nat} {v : Value} {d : DataW H} {p : List MemPlace} (hv : Value.okWide Tryz.prog W r b0 25 v) (h : DataW.Trod enc Tryz.prog W 0 (fun _ => true) true 25 v d p) :
    ∃ (bs : List UInt8) (a : Option Addr) (cap : Nat), v = .slice a bs.length cap ∧ BL W a bs ∧ (∀ ad, a = some ad → ad.block < W.heap.size) ∧ (a = none → cap = 0) ∧ bs.length ≤ cap ∧ cap ≤ 9223372036854775807 := by
  obtain ⟨a0, len0, cap0, rfl⟩ := okWide_slice Tryz.underlying25 hv
  obtain ⟨k1, k2, k3, k4⟩ := okWide_sliceB hv
  obtain ⟨fuel, hf⟩ := h
  rcases open_ints Tryz.underlying25 Tryz.underlying5 cellsU8 hf with ⟨e1, -⟩ | ⟨a, len, cap, zs, e1, -, hl, -, hm, -, hc, hw⟩
  · simp [Value.cells] at e1
    obtain ⟨rfl, rfl, rfl⟩ := e1
    exact ⟨[], none, 0, rfl, Or.inl rfl, k4, fun _ => rfl, Nat.le_refl _, by omega⟩
  · simp [Value.cells] at e1 hm
    obtain ⟨rfl, rfl, rfl⟩ := e1
    have htl : ((zs.take len0).map fun n => UInt8.ofNat n.toNat).length = len0 := by simp; omega
    refine ⟨(zs.take len0).map fun n => UInt8.ofNat n.toNat, some a, cap0, by rw [htl], ?_, k4, fun h => (by cases h), by rw [htl]; exact k2, k3⟩
    rcases Nat.eq_zero_or_pos len0 with hz | hp
    · left; rw [hz]; simp
    · right
      obtain ⟨b, off, spot⟩ := a
      have h0 := hc 0 (by omega)
      have hspot : spot = none := by simpa [Addr.add] using World.cell?_spot h0
      subst hspot
      refine ⟨b, off, rfl, World.block_lt_of_cell? W _ (by simpa [Addr.add] using h0), fun i hi => ?_⟩
      rw [htl] at hi
      have := hc i (by omega)
      rw [add_plain] at this
      rw [this]
      have hb := range_u8 hw i
      have e : zs.getD i 0 = zs[i]'(by omega) := by simp [List.getD, List.getElem?_eq_getElem (show i < zs.length by omega)]
      rw [← List.getD_eq_getElem?_getD, e] at hb
      rw [e]
      simp only [List.getElem_map, List.getElem_take, UInt8.toNat_ofNat']
      congr 2
      omega

/-- append([]byte(nil), x...) -/
theorem wpList_appB0 {w : World} {ops : Array Oper} {rest : List Oper} {o : Oper} {a : Act} {Q : Exit → Act → World → Prop} (hgd : o.guard = none) (s x : Operand) (ho : o.op = .call { callee := .builtin .append, args := #[s, x], argTypes := #[25, 25] })
    (B : Nat) (bs : List UInt8) (a1 : Option Addr) (c1 : Nat) (hs : a.eval s = .slice none 0 0) (hx : a.eval x = .slice a1 bs.length c1) (hS : BL w a1 bs) (hn : a1 = none → c1 = 0) (hl : bs.length ≤ 70368744177664) (hB : B ≤ w.heap.size)
    (h : ∀ v' w', OY B w' v' bs → w.grownBy w' none → wpList Tryz.prog ops Q rest (a.put o.dst v') w') : wpList Tryz.prog ops Q (o :: rest) a w := by
  obtain ⟨i0, hi, hz0, hz1, hz2⟩ := info_parts8 infoU8
  have hO : OY B w (.slice none 0 0) [] := OY.nil _ _
  cases a1 with
  | none =>
    have hxe : bs = [] := by
      rcases hS with h | ⟨b, off, ha, _⟩
      · exact h
      · cases ha
    subst hxe
    rw [hn rfl] at hx
    exact wpList_append_own_none hgd s x 25 ho B 5 i0 1 Tryz.underlying25 hi (.slice none 0 0) 0 [] hs hO hx (h _ w hO ⟨rfl, rfl, rfl, Nat.le_refl _, fun _ _ _ => rfl⟩)
  | some ad =>
    refine wpList_append_own _ hgd s x 25 ho B 5 i0 _ 1 1 Tryz.underlying25 hi hz0 hz1 hz2 rfl (by decide) (.slice none 0 0) 0 [] hs hO ad bs.length c1 (flatB bs) hx (by rw [flatB_length]; omega) hS.flat (flatB_one bs) (by unfold maxLen; omega) (by omega) hB ?_
    intro v' w' hown hgr _
    exact h v' w' (by unfold OY; simpa using hown) hgr

/-- what bytes are as a term: the term and the error -/
def RdIs (bs : List UInt8) (t : Tm) (x : Int) : Prop := (∃ t0, HasB bs t0 ∧ t = cleanT t0 ∧ x = 0) ∨ ((∀ t0, ¬ HasB bs t0) ∧ t = .mk 0 0 false { data := #[] } [] [] ∧ x = 30)

theorem RdIs.one {bs : List UInt8} {t t' : Tm} {x x' : Int} (h : RdIs bs t x) (h' : RdIs bs t' x') : t = t' ∧ x = x' := by
  rcases h with ⟨t0, h1, rfl, rfl⟩ | ⟨h1, rfl, rfl⟩ <;> rcases h' with ⟨t1, h2, rfl, rfl⟩ | ⟨h2, rfl, rfl⟩
  · exact ⟨h1.one h2, rfl⟩
  · exact absurd h1 (h2 _)
  · exact absurd h2 (h1 _)
  · exact ⟨rfl, rfl⟩

theorem RdIs.sm {bs : List UInt8} {t : Tm} {x : Int} (h : RdIs bs t x) : smT 1000000 t := by
  rcases h with ⟨t0, h1, rfl, rfl⟩ | ⟨h1, rfl, rfl⟩
  · exact smT_clean 1000000 t0 h1.1
  · exact (smT_mk _ _ _ _ _ _ _).2 ⟨by decide, by simp, by simp, by simp, by simp⟩

theorem RdAns.is {w w' : World} {bs : List UInt8} {e : Ending} (h : RdAns w bs e w') : ∃ v t x, e = .returned (.tuple #[v, .int .i64 x]) ∧ ShapeT v ∧ TF w' (oldB w) v t ∧ RdIs bs t x := by
  rcases h with ⟨t, v, h1, h2, h3, h4⟩ | ⟨h1, h2⟩
  · exact ⟨v, cleanT t, 0, h2, h3, h4, Or.inl ⟨t, h1, rfl, rfl⟩⟩
  · exact ⟨zeroT, .mk 0 0 false { data := #[] } [] [], 30, h2, ⟨_, _, _, _, _, _, _, _, _, _, rfl⟩, TF.leaf _ _ _ _, Or.inr ⟨h1, rfl, rfl⟩⟩
end Go.Proofs.YtndjdeiccmhelaaGreat
