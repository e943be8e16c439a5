/- The contracts of telamonlaw2.count and Big: what is not too much is short everywhere. -/
import Derived.Test.YthdcpodheimhaaaWF
import Derived.Test.YthdcpodheimhaaaTB
import Derived.Test.YthdcpodheimhaaaHN
import Derived.Test.YthdcpodheimhaaaHI
import Derived.Test.YthdcpodheimhaaaCA
namespace Go.Proofs.Ythdcpodheimhaaa
open Go.RowKit Go.Sort

theorem okT_mk (f n : Int) (hd : Bool) (nm : ByteArray) (ls : List LvT) (ks : List Tm) : okT (.mk f n hd nm ls ks) ↔ nm.size ≤ 140737488351232 ∧ ls.length ≤ 8796093022208 ∧ (∀ l ∈ ls, l.2.length ≤ 8796093022208) ∧ ks.length ≤ 8796093022208 ∧ ∀ k ∈ ks, okT k := by
  rw [okT, okTs_iff]

theorem heap_lt' {w : World} {b : Nat} {o : Obj} (h : w.heap[b]? = some o) : b < w.heap.size := (Array.getElem?_eq_some_iff.1 h).1

theorem mem_take_succ {α : Type} {ks : List α} {j : Nat} {k x : α} (h : ks[j]? = some k) (hx : x ∈ ks.take (j + 1)) : x ∈ ks.take j ∨ x = k := by
  obtain ⟨hj, rfl⟩ := List.getElem?_eq_some_iff.1 h
  rw [List.take_succ_eq_append_getElem hj, List.mem_append] at hx
  rcases hx with hx | hx
  · exact Or.inl hx
  · exact Or.inr (by simpa using hx)

set_option maxRecDepth 100000 in
set_option maxHeartbeats 4000000 in
theorem lcount_any (t : Tm) : ∀ (high : Int) (v : Value) (w : World), 0 ≤ high → high ≤ 701 → okT t → TV w v t → Calls Try.prog 22 #[v, .int .i64 3000, .int .i64 high] w fun e w' => (∃ r : Int, e = .returned (.int .i64 r) ∧ 1 ≤ r ∧ r ≤ 9000000000000 + 4000 * (702 - high) ∧ (r ≤ 3000 → smT 1000000 t)) ∧ Grew w w' := by
  refine Tm.ind (P := fun t => ∀ (high : Int) (v : Value) (w : World), 0 ≤ high → high ≤ 701 → okT t → TV w v t → Calls Try.prog 22 #[v, .int .i64 3000, .int .i64 high] w fun e w' => (∃ r : Int, e = .returned (.int .i64 r) ∧ 1 ≤ r ∧ r ≤ 9000000000000 + 4000 * (702 - high) ∧ (r ≤ 3000 → smT 1000000 t)) ∧ Grew w w') ?_ t
  intro f n hd nm ls ks ih high v w hh0 hh1 hok hv
  obtain ⟨o1, o2, o3, o4, o5⟩ := (okT_mk _ _ _ _ _ _).1 hok
  clear hok
  cases hv with
  | @mk _ _ _ _ _ _ la lc ka kc kb ko hl hln hlc hlm hkn hkc hkm hk kids =>
    have HSM := Hid.mk (smT_mk 1000000 f n hd nm ls ks)
    generalize smT 1000000 (.mk f n hd nm ls ks) = S at HSM ⊢
    have HL := Hid.mk hl
    have HO3 := Hid.mk o3
    have HO5 := Hid.mk o5
    have HK := Hid.mk hk
    have HKIDS := Hid.mk kids
    have HIH := Hid.mk ih
    clear hk kids ih hl o3 o5
    obtain ⟨W0, hW0⟩ : ∃ W0, w.alloc (.cells #[.int .i64 f, .int .i64 n, .bool hd, .string nm, .slice la ls.length lc, .slice ka ks.length kc] 25) = W0 := ⟨_, rfl⟩
    have HG0 : Hid (Grew w W0) := by unfold Hid; rw [← hW0]; exact (Grew.refl w).alloc _
    have HX0 : Hid (W0.heap[w.heap.size]? = some (.cells #[.int .i64 f, .int .i64 n, .bool hd, .string nm, .slice la ls.length lc, .slice ka ks.length kc] 25 (0, 0))) := by unfold Hid; rw [← hW0]; exact alloc_new _ _
    have HW0 := Hid.mk hW0
    clear hW0
    by_cases h7 : 700 < high
    · go_enter Try.func22, Try.ntmps22
      go_wp2
      go_ret
      exact ⟨⟨3001, rfl, by omega, by omega, fun h => by omega⟩, by have := HG0.out; rwa [← HW0.out] at this⟩
    · go_enter Try.func22, Try.ntmps22
      go_wp2
      rw [HW0.out]
      go_loopw [7, 8] (fun vn i wr => ∃ (j : Nat) (m : Int), j ≤ ls.length ∧ i = .int .i64 j ∧ vn = .int .i64 m ∧ (j : Int) + 1 ≤ m ∧ (nm.size / 16 : Nat) + 1 ≤ m ∧ m ≤ 8900000000000 ∧ (∀ l ∈ ls.take j, (l.2.length : Int) ≤ m) ∧ Grew W0 wr) (fun _ i _ => ls.length - (intOf i).toNat)
      case atStart => exact ⟨0, 1 + (nm.size : Int) / 16, Nat.zero_le _, rfl, rfl, by omega, by omega, by omega, by simp, Grew.refl _⟩
      case round =>
        obtain ⟨j, m, hj, rfl, rfl, hm1, hm2, hm3, hall, hg⟩ := hrel
        have HG := Hid.mk hg
        have HALL := Hid.mk hall
        clear hg hall
        obtain ⟨x0, x1, x2, x3, x4, x5, x6⟩ := cells6 ((HG.out.below.block w.heap.size (heap_lt' HX0.out)).trans HX0.out)
        by_cases hlt : j < ls.length
        · by_cases hmm : m ≤ 3000
          · obtain ⟨b, off, a1, cap1, rfl, hbl, c0, c1, hs1⟩ := (HL.out.below (HG0.out.trans HG.out).below).at hlt
            have hlen := HO3.out ls[j] (List.getElem_mem hlt)
            have HTK := Hid.mk (fun x => mem_take_succ (x := x) (List.getElem?_eq_getElem hlt))
            have zj : (j : Int) < (ls.length : Int) := by omega
            clear hs1
            generalize ls[j] = l at *
            go_wp2
            refine ⟨⟨j + 1, m + 1 + l.2.length, hlt, by go_num, rfl, by omega, by omega, by omega, fun x hx => ?_, HG.out⟩, by simp [intOf]; omega⟩
            rcases HTK.out x hx with h1 | h1
            · have := HALL.out x h1; omega
            · rw [h1]; omega
          · have HDONE : Hid (m ≤ 3000 → j = ls.length) := fun h => absurd h hmm
            obtain ⟨W1, rfl⟩ : ∃ W, W = wr := ⟨_, rfl⟩
            have HG1 : Hid (Grew w W1) := HG0.out.trans HG.out
            have HX1 : Hid (W1.heap[w.heap.size]? = some (.cells #[.int .i64 f, .int .i64 n, .bool hd, .string nm, .slice la ls.length lc, .slice ka ks.length kc] 25 (0, 0))) := (HG.out.below.block w.heap.size (heap_lt' HX0.out)).trans HX0.out
            go_wp2
            clear x0 x1 x2 x3 x4 x5 x6
            go_loopw [7, 9] (fun vn i wr => ∃ (j : Nat) (m' : Int), j ≤ ks.length ∧ i = .int .i64 j ∧ vn = .int .i64 m' ∧ m ≤ m' ∧ (j : Int) ≤ m' ∧ m' ≤ 9000000000000 + 4000 * (702 - high) ∧ (m' ≤ 3000 → ∀ k ∈ ks.take j, smT 1000000 k) ∧ Grew W1 wr) (fun _ i _ => ks.length - (intOf i).toNat)
            case atStart => exact ⟨0, m, Nat.zero_le _, rfl, rfl, by omega, by omega, by omega, by simp, Grew.refl _⟩
            case round =>
              obtain ⟨i, m', hi, rfl, rfl, hn1, hn2, hn3, hkall, hg⟩ := hrel
              have HG2 := Hid.mk hg
              have HKA := Hid.mk hkall
              clear hg hkall
              obtain ⟨x0, x1, x2, x3, x4, x5, x6⟩ := cells6 ((HG2.out.below.block w.heap.size (heap_lt' HX1.out)).trans HX1.out)
              by_cases hik : i < ks.length
              · by_cases hmm : m' ≤ 3000
                · exfalso; omega
                · go_wp2
                  go_ret
                  exact ⟨⟨m', rfl, by omega, by omega, fun h => by omega⟩, HG1.out.trans HG2.out⟩
              · go_wp2
                go_ret
                refine ⟨⟨m', rfl, by omega, by omega, fun h => HSM.out.2 ⟨?_, ?_, ?_, ?_, ?_⟩⟩, HG1.out.trans HG2.out⟩
                · omega
                · have := HDONE.out (by omega); omega
                · intro l hl
                  have h1 := HDONE.out (by omega)
                  have h2 := HALL.out l (by rw [List.take_of_length_le (by omega)]; exact hl)
                  omega
                · omega
                · have := HKA.out h
                  rwa [List.take_of_length_le (by omega)] at this
        · have HDONE : Hid (m ≤ 3000 → j = ls.length) := fun _ => by omega
          obtain ⟨W1, rfl⟩ : ∃ W, W = wr := ⟨_, rfl⟩
          have HG1 : Hid (Grew w W1) := HG0.out.trans HG.out
          have HX1 : Hid (W1.heap[w.heap.size]? = some (.cells #[.int .i64 f, .int .i64 n, .bool hd, .string nm, .slice la ls.length lc, .slice ka ks.length kc] 25 (0, 0))) := (HG.out.below.block w.heap.size (heap_lt' HX0.out)).trans HX0.out
          go_wp2
          clear x0 x1 x2 x3 x4 x5 x6
          go_loopw [7, 9] (fun vn i wr => ∃ (j : Nat) (m' : Int), j ≤ ks.length ∧ i = .int .i64 j ∧ vn = .int .i64 m' ∧ m ≤ m' ∧ (j : Int) ≤ m' ∧ m' ≤ 9000000000000 + 4000 * (702 - high) ∧ (m' ≤ 3000 → ∀ k ∈ ks.take j, smT 1000000 k) ∧ Grew W1 wr) (fun _ i _ => ks.length - (intOf i).toNat)
          case atStart => exact ⟨0, m, Nat.zero_le _, rfl, rfl, by omega, by omega, by omega, by simp, Grew.refl _⟩
          case round =>
            obtain ⟨i, m', hi, rfl, rfl, hn1, hn2, hn3, hkall, hg⟩ := hrel
            have HG2 := Hid.mk hg
            have HKA := Hid.mk hkall
            clear hg hkall
            obtain ⟨x0, x1, x2, x3, x4, x5, x6⟩ := cells6 ((HG2.out.below.block w.heap.size (heap_lt' HX1.out)).trans HX1.out)
            by_cases hik : i < ks.length
            · by_cases hmm : m' ≤ 3000
              · obtain ⟨rfl, hkb⟩ := HK.out (by intro e; rw [e] at hik; simp at hik)
                have hkt : ks[i]? = some ks[i] := List.getElem?_eq_getElem hik
                have htc := ((HKIDS.out i _ hkt).on (HG1.out.trans HG2.out).below)
                obtain ⟨v0, v1, v2, v3, v4, v5, c0, c1, c2, c3, c4, c5, hv⟩ := htc.val
                have HCALL := HIH.out ks[i] (List.getElem_mem hik) (high + 1) _ wr (by omega) (by omega) (HO5.out _ (List.getElem_mem hik)) hv
                have HTK := Hid.mk (fun x => mem_take_succ (x := x) hkt)
                have zj : (i : Int) < (ks.length : Int) := by omega
                clear hv htc hkt
                generalize ks[i] = k at *
                go_wp2_with fail
                refine HCALL.mono ?_
                rintro e w5 ⟨⟨r, rfl, hr1, hr2, hr3⟩, hg5⟩
                have HR3 := Hid.mk hr3
                clear hr3 HCALL
                go_wp2
                refine ⟨⟨i + 1, m' + r, hik, by go_num, rfl, by omega, by omega, by omega, fun h x hx => ?_, HG2.out.trans hg5⟩, by simp [intOf]; omega⟩
                rcases HTK.out x hx with h1 | h1
                · exact HKA.out (by omega) x h1
                · rw [h1]; exact HR3.out (by omega)
              · go_wp2
                go_ret
                exact ⟨⟨m', rfl, by omega, by omega, fun h => by omega⟩, HG1.out.trans HG2.out⟩
            · go_wp2
              go_ret
              refine ⟨⟨m', rfl, by omega, by omega, fun h => HSM.out.2 ⟨?_, ?_, ?_, ?_, ?_⟩⟩, HG1.out.trans HG2.out⟩
              · omega
              · have := HDONE.out (by omega); omega
              · intro l hl
                have h1 := HDONE.out (by omega)
                have h2 := HALL.out l (by rw [List.take_of_length_le (by omega)]; exact hl)
                omega
              · omega
              · have := HKA.out h
                rwa [List.take_of_length_le (by omega)] at this

theorem Big_any (t : Tm) (v : Value) (w : World) (hok : okT t) (hv : TV w v t) : Calls Try.prog 7 #[v] w fun e w' => (∃ r : Bool, e = .returned (.bool r) ∧ (r = false → smT 1000000 t)) ∧ Grew w w' := by
  have HC := lcount_any t 0 v (w.alloc (.cells v.cells 25)) (by omega) (by omega) hok (hv.on ((Below.refl _ _).alloc (Nat.le_refl _) _))
  obtain ⟨la, lc, ka, kc, rfl⟩ := hv.shape
  simp only [Value.cells] at HC
  clear hv hok
  generalize smT 1000000 t = S at *
  generalize t.form = f at *
  generalize t.n = n at *
  generalize t.hid = hd at *
  generalize t.name = nm at *
  generalize t.levels.length = l1 at *
  generalize t.kids.length = k1 at *
  go_enter Try.func7, Try.ntmps7
  go_wp2_with fail
  refine HC.mono ?_
  rintro e w1 ⟨⟨r, rfl, h1, h2, h3⟩, hg⟩
  have H3 := Hid.mk h3
  clear h3 HC
  go_wp2
  go_ret
  exact ⟨⟨decide (3000 < r), rfl, fun h => H3.out (by have := of_decide_eq_false h; omega)⟩, ((Grew.refl w).alloc _).trans hg⟩
end Go.Proofs.Ythdcpodheimhaaa

/- telamonlaw4.TeleSplit: what is known of the parts that are split off. -/
namespace Go.Proofs.Ythdcpodheimhaaa
open Go.RowKit Go.Sort Go.Shelf Go.Lib

theorem splitT_facts : ∀ (n : Nat) (t : Tm) (l : List (Tm × Bool)) (r : Tm), splitT n t = some (l, r) → GT t → (∀ x ∈ l, GT x.1) ∧ GT r ∧ l.length ≤ heightT t
  | 0, t, l, r, h, hG => by
    simp only [splitT, Option.some.injEq, Prod.mk.injEq] at h
    obtain ⟨rfl, rfl⟩ := h
    exact ⟨fun x hx => (by cases hx), hG, Nat.zero_le _⟩
  | n + 1, t, l, r, h, hG => by
    by_cases h3 : t.form = 3
    · obtain ⟨f, m, hd, nm, ls, ks⟩ := t
      simp only [Tm.form] at h3
      subst h3
      match ks, h, hG with
      | [d, c], h, hG =>
        rw [splitT_pi] at h
        have hd' := GT_kid _ _ _ _ _ _ hG d (by simp)
        have hc' := GT_kid _ _ _ _ _ _ hG c (by simp)
        cases hs : splitT n c with
        | none => rw [hs] at h; cases h
        | some q =>
          obtain ⟨l', r'⟩ := q
          rw [hs] at h
          simp only [Option.some.injEq, Prod.mk.injEq] at h
          obtain ⟨rfl, rfl⟩ := h
          obtain ⟨h1, h2, h3⟩ := splitT_facts n c l' r' hs hc'
          refine ⟨fun x hx => ?_, h2, ?_⟩
          · rcases List.mem_cons.1 hx with rfl | hx
            · exact hd'
            · exact h1 x hx
          · rw [high_two, List.length_cons]; omega
      | [], h, _ => simp [splitT] at h
      | [_], h, _ => simp [splitT] at h
      | _ :: _ :: _ :: _, h, _ => simp [splitT] at h
    · rw [splitT_no n t h3] at h; cases h
end Go.Proofs.Ythdcpodheimhaaa
