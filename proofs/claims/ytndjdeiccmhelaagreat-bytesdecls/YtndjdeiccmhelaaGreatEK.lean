/- Rows of levels that grow, with a footprint. -/
import Derived.Test.YtndjdeiccmhelaaGreatOL
import Derived.Test.YtndjdeiccmhelaaGreatRL
import Derived.Test.YtndjdeiccmhelaaGreatRS
import Derived.Test.YtndjdeiccmhelaaGreatEJ
namespace Go.Proofs.YtndjdeiccmhelaaGreat
open Go.RowKit Go.Sort

theorem ownsG_shape {w : World} {B n size : Nat} {e : TypeId} {v : Value} {xs : List Value} (h : w.ownsRow B e size v n xs) : ∃ a cap, v = .slice a n cap ∧ n ≤ cap ∧ cap ≤ 9223372036854775807 ∧ (a = none → n = 0 ∧ cap = 0) ∧ ∀ ad, a = some ad → ∃ g, ad = ⟨g, 0, none⟩ ∧ B ≤ g ∧ g < w.heap.size := by
  rcases h.2 with ⟨hv, hn⟩ | ⟨g, cap, cur, hv, hg, hh, hc, hm, hs, ht⟩
  · exact ⟨none, 0, by rw [hv, hn], by omega, by omega, fun _ => ⟨hn, rfl⟩, fun ad h => by cases h⟩
  · exact ⟨_, cap, hv, hc, by unfold maxLen at hm; omega, fun h => (by cases h), fun ad h => ⟨g, (by simpa using h.symm), hg, heap_lt hh⟩⟩

theorem ownsG_block {w W : World} {B n cap size : Nat} {e : TypeId} {a : Option Addr} {xs : List Value} (h : w.ownsRow B e size (.slice a n cap) n xs) (hk : ∀ g, a = some ⟨g, 0, none⟩ → W.heap[g]? = w.heap[g]?) : W.ownsRow B e size (.slice a n cap) n xs := by
  rcases h with ⟨h1, h2⟩
  refine ⟨h1, ?_⟩
  rcases h2 with h2 | ⟨g, cap', cur, hv, hg, hh, r⟩
  · exact Or.inl h2
  · refine Or.inr ⟨g, cap', cur, hv, hg, (hk g ?_).trans hh, r⟩
    simp at hv
    exact hv.1

theorem rowG_block {w : World} {B cap n size : Nat} {e : TypeId} {a : Option Addr} {xs : List Value} (h : w.ownsRow B e size (.slice a n cap) n xs) {k : Nat} (hk : ownB a k = true) : B ≤ k ∧ k < w.heap.size := by
  cases a with
  | none => simp [ownB] at hk
  | some ad =>
    obtain ⟨_, _, e, -, -, -, hg⟩ := ownsG_shape h
    simp only [Value.slice.injEq, true_and] at e
    obtain ⟨rfl, rfl⟩ := e
    obtain ⟨g, rfl, h1, h2⟩ := hg ad rfl
    simp [ownB] at hk
    omega

/-- a row of levels of the call's own, which do not look into it, nor into the blocks of P -/
structure RowL (w : World) (B : Nat) (P : Nat → Bool) (a : Option Addr) (cap : Nat) (ls : List LvT) : Prop where
  go : ∃ xs : List Value, w.ownsRow B 105 2 (.slice a ls.length cap) ls.length xs ∧ ∀ j n vs, ls[j]? = some (n, vs) → xs[j * 2]? = some (.int .i64 n) ∧ ∃ a' cap', xs[j * 2 + 1]? = some (.slice a' vs.length cap') ∧ (a' = none → cap' = 0) ∧ SL (maskB (fun k => P k || ownB a k) w) a' vs

theorem RowL.nil (w : World) (B : Nat) (P : Nat → Bool) : RowL w B P none 0 [] := ⟨[], World.ownsRow_nil _ _ _ _, fun j n vs h => by simp at h⟩

theorem RowL.move {w w' : World} {B cap : Nat} {P : Nat → Bool} {a : Option Addr} {ls : List LvT} (h : RowL w B P a cap ls) (hB : ∀ k, B ≤ k → P k = false) (hs : w.heap.size ≤ w'.heap.size) (hk : ∀ k, k < w.heap.size → P k = false → w'.heap[k]? = w.heap[k]?) : RowL w' B P a cap ls := by
  obtain ⟨xs, hown, hkv⟩ := h.go
  refine ⟨xs, ownsG_block hown fun g hg => ?_, fun j n vs hj => ?_⟩
  · subst hg
    obtain ⟨h1, h2⟩ := World.ownsRow.lt hown g rfl
    exact hk g h2 (hB g h1)
  · obtain ⟨c0, a', cap', c1, hn, hS⟩ := hkv j n vs hj
    refine ⟨c0, a', cap', c1, hn, hS.subF (by rw [maskB_size, maskB_size]; exact hs) (maskB_keeps fun k h1 h2 => ⟨h2, hk k h1 ?_⟩)⟩
    rw [Bool.or_eq_false_iff] at h2; exact h2.1

theorem RowL.snoc {w w' : World} {B cap cap' g : Nat} {P : Nat → Bool} {a : Option Addr} {ls : List LvT} {xs : List Value} {n : Int} {vs : List (Int × Int)} {a' : Option Addr} {c' : Nat} (hkv : ∀ j n vs, ls[j]? = some (n, vs) → xs[j * 2]? = some (.int .i64 n) ∧ ∃ a' cap', xs[j * 2 + 1]? = some (.slice a' vs.length cap') ∧ (a' = none → cap' = 0) ∧ SL (maskB (fun k => P k || ownB a k) w) a' vs) (hl : xs.length = ls.length * 2)
    (hown : w'.ownsRow B 105 2 (.slice (some ⟨g, 0, none⟩) (ls.length + 1) cap') (ls.length + 1) (xs ++ [.int .i64 n, .slice a' vs.length c'])) (hgr : w.grownBy w' (Value.slice a ls.length cap).ownBlock) (hat : (Value.slice a ls.length cap).ownBlock = some g ∨ g = w.heap.size)
    (hn : a' = none → c' = 0) (hnew : SL (maskB (fun k => P k || ownB a k) w) a' vs) : RowL w' B P (some ⟨g, 0, none⟩) cap' (ls ++ [(n, vs)]) := by
  have hmv : ∀ k, k < w.heap.size → (P k || ownB a k) = false → (P k || ownB (some ⟨g, 0, none⟩) k) = false ∧ w'.heap[k]? = w.heap[k]? := by
    intro k hk hp
    rw [Bool.or_eq_false_iff] at hp
    refine ⟨?_, hgr.block k hk (ownB_none hp.2)⟩
    rw [Bool.or_eq_false_iff]
    refine ⟨hp.1, ?_⟩
    simp only [ownB, beq_eq_false_iff_ne]
    rcases hat with hat | hat
    · intro e
      exact ownB_none hp.2 (by rw [← e, hat])
    · omega
  have hsz : (maskB (fun k => P k || ownB a k) w).heap.size ≤ (maskB (fun k => P k || ownB (some ⟨g, 0, none⟩) k) w').heap.size := by rw [maskB_size, maskB_size]; exact hgr.size
  refine ⟨_, by rw [List.length_append]; exact hown, fun j m us hj => ?_⟩
  by_cases h : j < ls.length
  · rw [List.getElem?_append_left h] at hj
    obtain ⟨c0, b', cap2, c1, hn2, hS⟩ := hkv j m us hj
    exact ⟨by rw [List.getElem?_append_left (by omega)]; exact c0, b', cap2, by rw [List.getElem?_append_left (by omega)]; exact c1, hn2, hS.subF hsz (maskB_keeps hmv)⟩
  · obtain rfl : j = ls.length := by
      have := (List.getElem?_eq_some_iff.1 hj).1; simp at this; omega
    simp only [List.getElem?_concat_length, Option.some.injEq, Prod.mk.injEq] at hj
    obtain ⟨rfl, rfl⟩ := hj
    refine ⟨?_, a', c', ?_, hn, hnew.subF hsz (maskB_keeps hmv)⟩
    · rw [List.getElem?_append_right (by omega), hl, Nat.sub_self]; rfl
    · rw [List.getElem?_append_right (by omega), hl, Nat.add_sub_cancel_left]; rfl

/-- the row as the levels of a term -/
theorem RowL.ln {w : World} {B cap : Nat} {P : Nat → Bool} {a : Option Addr} {ls : List LvT} (h : RowL w B P a cap ls) (hB : ∀ k, B ≤ k → P k = false) : LN (maskB P w) a ls ∧ (a = none → cap = 0) ∧ ls.length ≤ cap ∧ cap ≤ 9223372036854775807 := by
  obtain ⟨xs, hown, hkv⟩ := h.go
  obtain ⟨a0, cap0, e, hc, hm, hn, hg⟩ := ownsG_shape hown
  simp only [Value.slice.injEq, true_and] at e
  obtain ⟨rfl, rfl⟩ := e
  have hsub : ∀ p v, (maskB (fun k => P k || ownB a k) w).cell? p = some v → (maskB P w).cell? p = some v := maskB_keeps fun k _ hp => ⟨by rw [Bool.or_eq_false_iff] at hp; exact hp.1, rfl⟩
  refine ⟨?_, fun e => (hn e).2, hc, hm⟩
  cases a with
  | none => exact Or.inl (List.length_eq_zero_iff.1 (hn rfl).1)
  | some ad =>
    obtain ⟨g, rfl, hg1, hg2⟩ := hg ad rfl
    refine Or.inr ⟨g, 0, rfl, by rw [maskB_size]; exact hg2, fun i n vs hi => ?_⟩
    have hi' : i < ls.length := (List.getElem?_eq_some_iff.1 hi).1
    obtain ⟨c0, a', cap', c1, hn', hS⟩ := hkv i n vs hi
    have hcell : ∀ o, (maskB P w).cell? ⟨g, o, none⟩ = w.cell? ⟨g, o, none⟩ := fun o => World.cell?_of_block (maskB_no w (hB g hg1))
    refine ⟨?_, a', cap', ?_, hS.subF (by rw [maskB_size, maskB_size]; exact Nat.le_refl _) hsub, hn'⟩
    · rw [Nat.zero_add, hcell, World.ownsRow.cellAt hown (i * 2) (by omega)]; exact c0
    · rw [Nat.zero_add, hcell, World.ownsRow.cellAt hown (i * 2 + 1) (by omega)]; exact c1

theorem OR.slF {B : Nat} {w : World} {v : Value} {xs : List (Int × Int)} {P : Nat → Bool} (h : OR B w v xs) (hP : ∀ k, B ≤ k → P k = false) : ∃ a cap, v = .slice a xs.length cap ∧ SL (maskB P w) a xs ∧ (a = none → cap = 0) := by
  rcases h.2 with ⟨hv, hn⟩ | ⟨g, cap, cur, hv, hg, hh, hc, hm, hs, ht⟩
  · have : xs = [] := List.length_eq_zero_iff.1 hn
    subst this
    exact ⟨none, 0, hv, Or.inl rfl, fun _ => rfl⟩
  · refine ⟨some ⟨g, 0, none⟩, cap, hv, ?_, fun e => by cases e⟩
    obtain ⟨a', cap', e, hS, -⟩ := h.shape
    rw [hv] at e
    simp only [Value.slice.injEq, true_and] at e
    obtain ⟨rfl, rfl⟩ := e
    rcases hS with hS | ⟨b, off, ha, hlt, hS⟩
    · exact Or.inl hS
    · simp only [Option.some.injEq, Addr.mk.injEq, and_true] at ha
      obtain ⟨rfl, rfl⟩ := ha
      have hcell : ∀ o, (maskB P w).cell? ⟨g, o, none⟩ = w.cell? ⟨g, o, none⟩ := fun o => World.cell?_of_block (maskB_no w (hP g hg))
      exact Or.inr ⟨g, 0, rfl, by rw [maskB_size]; exact hlt, fun i hi => ⟨(hcell _).trans (hS i hi).1, (hcell _).trans (hS i hi).2⟩⟩

end Go.Proofs.YtndjdeiccmhelaaGreat

/- The contract of telamonref1.Clean, form by form. -/
namespace Go.Proofs.YtndjdeiccmhelaaGreat
open Go.RowKit Go.Sort

theorem set5_heap {w : World} {b : Nat} {u0 u1 u2 u3 u4 u5 x : Value} {t : TypeId} (h : w.heap[b]? = some (.cells #[u0, u1, u2, u3, u4, u5] t (0, 0))) : (w.setCell ⟨b, 5, none⟩ x).heap[b]? = some (.cells #[u0, u1, u2, u3, u4, x] t (0, 0)) := by
  rw [setCell_eq]; show (w.heap.modify b _)[b]? = _
  rw [Array.getElem?_modify, if_pos rfl, h]; rfl

theorem set4_heap {w : World} {b : Nat} {u0 u1 u2 u3 u4 u5 x : Value} {t : TypeId} (h : w.heap[b]? = some (.cells #[u0, u1, u2, u3, u4, u5] t (0, 0))) : (w.setCell ⟨b, 4, none⟩ x).heap[b]? = some (.cells #[u0, u1, u2, u3, x, u5] t (0, 0)) := by
  rw [setCell_eq]; show (w.heap.modify b _)[b]? = _
  rw [Array.getElem?_modify, if_pos rfl, h]; rfl
end Go.Proofs.YtndjdeiccmhelaaGreat

/- The contracts of the reader of package bytes, where what is read was written: flag, name, variable, level. -/
namespace Go.Proofs.YtndjdeiccmhelaaGreat
open Go.RowKit Go.Sort Go.Lib

set_option maxRecDepth 100000 in
set_option maxHeartbeats 4000000 in
theorem rdflag_any (N rb : Nat) (f : Bool) (rest : List UInt8) (deep : Int) (w : World) (hR : RD w N rb ((if f then 1 else 0) :: rest) deep) : Calls Tryz.prog 122 #[.pointer (some ⟨rb, 0, none⟩)] w fun e w' => e = .returned (.bool f) ∧ RD w' N rb rest deep ∧ Kept (fun k => k = rb) w w' := by
  have HC := rdnum_any N rb (if f then 1 else 0) rest deep w (by rw [numB_flag]; exact hR) (by split <;> omega)
  clear hR
  cases f
  all_goals
    simp only [if_true, if_false, Bool.false_eq_true] at HC
    go_enter Tryz.func122, Tryz.ntmps122
    go_wp2_with fail
    refine HC.mono ?_
    rintro e w1 ⟨rfl, hR1, hk1⟩
    have H1 : Hid (RD w1 N rb rest deep ∧ Kept (fun k => k = rb) w w1) := ⟨hR1, hk1⟩
    clear hR1 hk1
    go_wp2
    go_ret
    exact ⟨rfl, H1.out.1, H1.out.2⟩

set_option maxRecDepth 100000 in
set_option maxHeartbeats 4000000 in
theorem rdname_any (N rb : Nat) (nm : ByteArray) (rest : List UInt8) (deep : Int) (w : World) (hR : RD w N rb (nameB nm ++ rest) deep) (h0 : 0 < nm.size) (hm : nm.size ≤ 1000000) : Calls Tryz.prog 103 #[.pointer (some ⟨rb, 0, none⟩)] w fun e w' => e = .returned (.string nm) ∧ RD w' N rb rest deep ∧ Kept (fun k => k = rb) w w' := by
  have HC := rdnum_any N rb nm.size (nm.data.toList ++ rest) deep w (by unfold nameB at hR; rwa [List.append_assoc] at hR) (by omega)
  have hlen : nm.data.toList.length = nm.size := rfl
  clear hR
  go_enter Tryz.func103, Tryz.ntmps103
  go_wp2_with fail
  refine HC.mono ?_
  rintro e w1 ⟨rfl, hR1, hk1⟩
  have HC2 := take_yes N rb nm.size _ deep w1 hR1 (by rw [List.length_append]; omega) h0
  rw [← hlen, List.take_left, List.drop_left, hlen] at HC2
  have HK1 := Hid.mk hk1
  clear hR1 hk1 HC
  go_wp2_with fail
  refine HC2.mono ?_
  rintro e w2 ⟨b, o, c, rfl, hbl, hR2, hk2⟩
  have H2 : Hid (RD w2 N rb rest deep ∧ Kept (fun k => k = rb) w w2) := ⟨hR2, HK1.out.trans hk2⟩
  have hconv := run_convert_bytes_back (P := Tryz.prog) w2 25 9 5 ⟨b, o, none⟩ c nm.data.toList Tryz.underlying25 Tryz.underlying5 Tryz.underlying9 (fun j hj => hbl.flat j _ (by simp [flatB]; exact ⟨_, by rw [Array.getElem?_eq_getElem (by simpa using hj)], by simp⟩))
  rw [hlen] at hconv
  clear hbl hR2 hk2 HC2
  go_wp2
  go_ret
  exact ⟨rfl, H2.out.1, H2.out.2⟩

set_option maxRecDepth 100000 in
set_option maxHeartbeats 4000000 in
theorem rdvariable_any (N rb : Nat) (x y : Int) (rest : List UInt8) (deep : Int) (w : World) (hR : RD w N rb (varB (x, y) ++ rest) deep) (hx0 : 0 ≤ x) (hx : x ≤ 1000) (hy0 : 0 ≤ y) (hy : y ≤ 1000) : Calls Tryz.prog 135 #[.pointer (some ⟨rb, 0, none⟩)] w fun e w' => e = .returned (.agg #[.int .i64 x, .int .i64 y]) ∧ RD w' N rb rest deep ∧ Kept (fun k => k = rb) w w' := by
  have hlR := hR.2.1
  obtain ⟨W0, hW0⟩ : ∃ W0, w.alloc (.cells #[.int .i64 0, .int .i64 0] 151) = W0 := ⟨_, rfl⟩
  have hb : RowKit.Below w.heap.size w W0 := by rw [← hW0]; exact (Below.refl _ _).alloc (Nat.le_refl _) _
  have HX0 : Hid (W0.heap[w.heap.size]? = some (.cells #[.int .i64 0, .int .i64 0] 151 (0, 0))) := by unfold Hid; rw [← hW0]; exact alloc_new _ _
  have HC := rdnum_any N rb x.toNat (numB y.toNat ++ rest) deep W0 ((by unfold varB at hR; rw [List.append_assoc] at hR; exact hR : RD w N rb (numB x.toNat ++ (numB y.toNat ++ rest)) deep).on hb) (by omega)
  rw [show ((x.toNat : Nat) : Int) = x by omega] at HC
  have HK0 : Hid (Kept (fun k => k = rb) w W0) := Kept.of_below hb
  have HW0 := Hid.mk hW0
  have hrbN := hR.1
  clear hR hb hW0
  go_enter Tryz.func135, Tryz.ntmps135
  go_wp2_with fail
  rw [HW0.out]
  refine HC.mono ?_
  rintro e w1 ⟨rfl, hR1, hk1⟩
  have HC2 := rdnum_any N rb y.toNat rest deep w1 hR1 (by omega)
  rw [show ((y.toNat : Nat) : Int) = y by omega] at HC2
  have HK1 : Hid (Kept (fun k => k = rb) w w1) := HK0.out.trans hk1
  have HX1 : Hid (w1.heap[w.heap.size]? = some (.cells #[.int .i64 0, .int .i64 0] 151 (0, 0))) := (hk1.block _ (heap_lt HX0.out) (by omega)).trans HX0.out
  clear hR1 hk1 HC
  go_wp2_with fail
  refine HC2.mono ?_
  rintro e w2 ⟨rfl, hR2, hk2⟩
  have HR2 := Hid.mk hR2
  have HK2 : Hid (Kept (fun k => k = rb) w w2) := HK1.out.trans hk2
  have hX2 := (hk2.block _ (heap_lt HX1.out) (by omega)).trans HX1.out
  obtain ⟨y0, y1, -, -, y4⟩ := cells2 hX2
  obtain ⟨f0, f1⟩ := frz2 hX2
  clear hR2 hk2 HC2 hX2
  go_wp2
  refine bodyPost_ret (v := .agg #[.int .i64 x, .int .i64 y]) (by simp [results, Tryz.results135, go_sem, y0, y1]) rfl ⟨rfl, ?_, ?_⟩
  · exact (HR2.out.setNew (p := ⟨w.heap.size, 0, none⟩) (by simp only; omega) _).setNew (p := ⟨w.heap.size, 1, none⟩) (by simp only; omega) _
  · exact (HK2.out.setNew (p := ⟨w.heap.size, 0, none⟩) (Nat.le_refl _) _).setNew (p := ⟨w.heap.size, 1, none⟩) (Nat.le_refl _) _
end Go.Proofs.YtndjdeiccmhelaaGreat
