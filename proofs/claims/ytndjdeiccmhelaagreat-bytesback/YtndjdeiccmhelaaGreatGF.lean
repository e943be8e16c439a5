/- What the reference's reader reads of a written term. -/
import Derived.Test.YtndjdeiccmhelaaGreatEZ
import Derived.Test.YtndjdeiccmhelaaGreatGA
import Derived.Test.YtndjdeiccmhelaaGreatRows
import Derived.Test.YtndjdeiccmhelaaGreatTE
import Derived.ProofKit
import Derived.OpenShut
import Derived.Below
import Derived.Lib.SmallJoins
import Derived.Deep.SlicePairs
import Derived.SizedLaws
import Derived.ChangeSlices
import Derived.Laws.AppendOwnNone
namespace Go.Proofs.YtndjdeiccmhelaaGreat
open Go.RowKit Go.Sort Go.Lib

theorem pnum6 {n : Nat} (h : n ≤ 1073741824) (rest : List UInt8) : pnum 6 (numB n ++ rest) = some (n, rest) := pnum_numB rest 5 n (Nat.lt_of_le_of_lt h (by decide))

theorem pvars_enc (rest : List UInt8) : ∀ xs : List (Int × Int), (∀ p ∈ xs, 0 ≤ p.1 ∧ p.1 ≤ 1000 ∧ 0 ≤ p.2 ∧ p.2 ≤ 1000) → pvars xs.length (xs.flatMap varB ++ rest) = some (xs, rest)
  | [], _ => rfl
  | p :: xs, h => by
    obtain ⟨h1, h2, h3, h4⟩ := h p (by simp)
    rw [List.length_cons, pvars, List.flatMap_cons, varB, List.append_assoc, List.append_assoc, pnum6 (by omega)]
    simp only
    rw [pnum6 (by omega)]
    simp only
    rw [pvars_enc rest xs fun q hq => h q (by simp [hq])]
    simp only [Option.map_some, Option.some.injEq, Prod.mk.injEq, and_true, List.cons.injEq]
    have e1 : ((p.1.toNat : Nat) : Int) = p.1 := by omega
    have e2 : ((p.2.toNat : Nat) : Int) = p.2 := by omega
    rw [e1, e2]

theorem plevel_enc (rest : List UInt8) {l : LvT} (h : rightL l) : plevel (levB l ++ rest) = some (l, rest) := by
  obtain ⟨h1, h2, h3, h4⟩ := h
  unfold plevel levB
  rw [List.append_assoc, List.append_assoc, pnum6 (by omega)]
  simp only
  rw [pnum6 (by omega)]
  simp only
  rw [pvars_enc rest l.2 h4]
  have e1 : ((l.1.toNat : Nat) : Int) = l.1 := by omega
  simp only [Option.map_some, e1]

theorem plevels_enc (rest : List UInt8) : ∀ ls : List LvT, (∀ l ∈ ls, canonB l = true) → plevels ls.length (ls.flatMap levB ++ rest) = some (ls, rest)
  | [], _ => rfl
  | l :: ls, h => by
    rw [List.length_cons, plevels, List.flatMap_cons, List.append_assoc, plevel_enc _ (canon_rightL (h l (by simp)))]
    simp only
    rw [plevels_enc rest ls fun q hq => h q (by simp [hq])]
    rfl

theorem ptext_enc (rest : List UInt8) {nm : ByteArray} (h : nm.size ≤ 60) : ptext (nameB nm ++ rest) = some (nm, rest) := by
  have hl : nm.data.toList.length = nm.size := by rw [Array.length_toList]; rfl
  unfold ptext nameB
  rw [List.append_assoc, pnum6 (by omega)]
  simp only
  rw [if_neg (by rw [List.length_append]; omega), ← hl, List.take_left, List.drop_left]

theorem pkids_enc (F : List UInt8 → Nat → Option (Tm × List UInt8 × Nat)) (rest : List UInt8) : ∀ (ks : List Tm) (n : Nat), (∀ k ∈ ks, ∀ rest n, n + sizeT k ≤ 20000 → F (encT k ++ rest) n = some (cleanT k, rest, n + sizeT k)) → n + (ks.map sizeT).sum ≤ 20000 → pkids F ks.length (ks.flatMap encT ++ rest) n = some (ks.map cleanT, rest, n + (ks.map sizeT).sum)
  | [], n, _, _ => rfl
  | k :: ks, n, h, hn => by
    rw [List.map_cons, List.sum_cons] at hn
    rw [List.length_cons, pkids, List.flatMap_cons, List.append_assoc, h k (by simp) _ n (by omega)]
    simp only
    rw [pkids_enc F rest ks (n + sizeT k) (fun q hq => h q (by simp [hq])) (by omega)]
    simp only [Option.map_some, List.map_cons, List.sum_cons, Nat.add_assoc]

theorem kids_low : ∀ (ks : List Tm) (a : Nat), a ≤ ks.foldl (fun m k => max m (heightT k)) a ∧ ∀ k ∈ ks, heightT k ≤ ks.foldl (fun m k => max m (heightT k)) a
  | [], a => ⟨Nat.le_refl _, fun k h => by cases h⟩
  | k :: ks, a => by
    obtain ⟨h1, h2⟩ := kids_low ks (max a (heightT k))
    rw [List.foldl_cons]
    refine ⟨by omega, fun q hq => ?_⟩
    rcases List.mem_cons.1 hq with rfl | h
    · omega
    · exact h2 q h

theorem kid_low {ks : List Tm} {k : Tm} (h : k ∈ ks) : heightT k ≤ (ks.map heightT).foldl max 0 := by
  rw [List.foldl_map]
  exact (kids_low ks 0).2 k h

theorem pfields_enc {f n : Int} {h : Bool} {nm : ByteArray} {ls : List LvT} {ks : List Tm} (hf : formedB (.mk f n h nm ls ks) = true) (hl : ls.length ≤ 1000000) (rest : List UInt8) : pfields f.toNat (fieldB f n h nm ls ++ rest) = some ((if f = 1 ∨ f = 11 then n else 0, if f = 3 ∨ f = 4 ∨ f = 5 then h else false, if f = 10 then nm else ByteArray.empty, if f = 2 ∨ f = 10 then ls else []), rest) := by
  obtain ⟨hk, h1, h2, h10, -⟩ := formed_part hf
  have hff : f = 1 ∨ f = 2 ∨ f = 3 ∨ f = 4 ∨ f = 5 ∨ f = 6 ∨ f = 7 ∨ f = 8 ∨ f = 9 ∨ f = 10 ∨ f = 11 := by
    unfold kidsR at hk
    repeat' split at hk
    all_goals omega
  rcases hff with rfl | rfl | rfl | rfl | rfl | rfl | rfl | rfl | rfl | rfl | rfl
  · obtain ⟨a, b⟩ := h1 (Or.inl rfl)
    show (pnum 6 (numB n.toNat ++ rest)).map _ = _
    rw [pnum6 (by omega)]
    have e1 : ((n.toNat : Nat) : Int) = n := by omega
    simp [e1]; rfl
  · obtain ⟨l, rfl, hc⟩ := h2 rfl
    show (plevel ([l].flatMap levB ++ rest)).map _ = _
    rw [List.flatMap_cons, List.flatMap_nil, List.append_nil, plevel_enc _ (canon_rightL hc)]
    rfl
  · cases h <;> rfl
  · cases h <;> rfl
  · cases h <;> rfl
  · rfl
  · rfl
  · rfl
  · rfl
  · obtain ⟨a, b, c⟩ := h10 rfl
    have e : fieldB 10 n h nm ls ++ rest = nameB nm ++ (numB ls.length ++ (ls.flatMap levB ++ rest)) := by
      show nameB nm ++ (numB ls.length ++ ls.flatMap levB) ++ rest = _
      rw [List.append_assoc, List.append_assoc]
    rw [e]
    show pfields 10 _ = _
    unfold pfields
    rw [if_neg (by decide), if_neg (by decide), if_neg (by decide), if_pos rfl, ptext_enc _ b]
    simp only
    rw [pnum6 (by omega)]
    simp only
    rw [plevels_enc rest ls c]
    rfl
  · obtain ⟨a, b⟩ := h1 (Or.inr rfl)
    show (pnum 6 (numB n.toNat ++ rest)).map _ = _
    rw [pnum6 (by omega)]
    have e1 : ((n.toNat : Nat) : Int) = n := by omega
    simp [e1]; rfl

theorem pterm_enc (t : Tm) : ∀ (d n : Nat) (rest : List UInt8), smT 1000000 t → formedB t = true → heightT t ≤ d → n + sizeT t ≤ 20000 → pterm d (encT t ++ rest) n = some (cleanT t, rest, n + sizeT t) := by
  refine Tm.ind (P := fun t => ∀ (d n : Nat) (rest : List UInt8), smT 1000000 t → formedB t = true → heightT t ≤ d → n + sizeT t ≤ 20000 → pterm d (encT t ++ rest) n = some (cleanT t, rest, n + sizeT t)) ?_ t
  intro f m hd nm ls ks ih d n rest hsm hf hh hn
  obtain ⟨-, hls, -, -, hks⟩ := (smT_mk _ _ _ _ _ _ _).1 hsm
  obtain ⟨hk, -, -, -, hkf⟩ := formed_part hf
  rw [heightT_mk] at hh
  rw [sizeT_mk] at hn
  obtain ⟨d', rfl⟩ : ∃ d', d = d' + 1 := ⟨d - 1, by omega⟩
  have hf0 : 0 ≤ f ∧ f ≤ 11 := by
    unfold kidsR at hk
    repeat' split at hk
    all_goals omega
  have ef : ((f.toNat : Nat) : Int) = f := by omega
  rw [encT_mk, List.append_assoc, pterm, pnum6 (by omega)]
  simp only
  rw [ef, if_neg (by omega), List.append_assoc, pfields_enc hf hls]
  simp only
  have ek : (kidsR f).toNat = ks.length := by omega
  rw [ek, pkids_enc (pterm d') rest ks (n + 1) (fun k hk' rest n hn' => ih k hk' d' n rest (hks k hk') (hkf k hk') (by have := kid_low hk'; omega) hn') (by omega), clean_mk, sizeT_mk]
  simp only [Option.map_some, Nat.add_assoc]
end Go.Proofs.YtndjdeiccmhelaaGreat

/- The reference's ReadTerm. -/
namespace Go.Proofs.YtndjdeiccmhelaaGreat
open Go.RowKit Go.Sort Go.Lib

theorem toList_loop (b : ByteArray) : ∀ (k i : Nat) (r : List UInt8), b.size - i = k → ByteArray.toList.loop b i r = r.reverse ++ b.data.toList.drop i
  | 0, i, r, h => by
    rw [ByteArray.toList.loop, if_neg (by omega), List.drop_eq_nil_of_le (by rw [Array.length_toList]; show b.size ≤ i; omega), List.append_nil]
  | k + 1, i, r, h => by
    have hi : i < b.size := by omega
    have hi' : i < b.data.toList.length := by rw [Array.length_toList]; exact hi
    rw [ByteArray.toList.loop, if_pos hi, toList_loop b k (i + 1) _ (by omega), List.reverse_cons, List.append_assoc, List.drop_eq_getElem_cons hi']
    have e : b.get! i = b.data.toList[i] := by
      cases b with
      | mk d => simp only [ByteArray.get!]; rw [Array.getElem_toList]; exact getElem!_pos d i hi
    rw [e]
    rfl

theorem toList_data (b : ByteArray) : b.toList = b.data.toList := by
  rw [ByteArray.toList, toList_loop b _ 0 [] rfl]
  rfl
theorem bytes_ne {xs ys : List UInt8} (h : xs ≠ ys) : ((⟨xs.toArray⟩ : ByteArray).toList == (⟨ys.toArray⟩ : ByteArray).toList) = false := by
  rw [toList_data, toList_data]
  simpa using h

end Go.Proofs.YtndjdeiccmhelaaGreat

/- How an argument of type api.Term is read. -/
namespace Go.Proofs.YtndjdeiccmhelaaGreat
open Go.ChangeShapes Go.WideShapes Go.ChangeAt Go.RowKit Go.Sort Go.Joins

theorem laidOut : laidOutB Tryz.prog = true := by kernel_rfl

end Go.Proofs.YtndjdeiccmhelaaGreat

/- How arguments of type []byte are read; append(nil, b...) of bytes; what ReadTerm answers, in one form. -/
namespace Go.Proofs.YtndjdeiccmhelaaGreat
open Go.ChangeShapes Go.WideShapes Go.ChangeAt Go.RowKit Go.Sort Go.Joins

theorem cellsU8 : Tryz.prog.cellsOf 5 = 1 := by kernel_rfl

set_option maxRecDepth 100000 in
theorem okWide_sliceB {W : World} {r : Reach} {b0 : Nat} {a : Option Addr} {n cap : Nat} (hv : Value.okWide Tryz.prog W r b0 25 (.slice a n cap)) : (a = none → n = 0 ∧ cap = 0) ∧ n ≤ cap ∧ cap ≤ 9223372036854775807 ∧ ∀ ad, a = some ad → ad.block < W.heap.size := by
  simp only [Value.okWide, Tryz.underlying25, Cell.okWide] at hv
  cases a with
  | none =>
    unfold Cell.ok at hv
    simp only [Tryz.underlying25] at hv
    split at hv <;> simp_all
  | some ad =>
    unfold Cell.ok at hv
    simp only [Tryz.underlying25] at hv
    obtain ⟨h1, h2, -, -, row, cells, h3, -⟩ := hv
    have hmx : IntKind.i64.max = 9223372036854775807 := by decide
    refine ⟨fun h => (by cases h), h1, by omega, fun ad' e => ?_⟩
    simp only [Option.some.injEq] at e
    subst e
    by_cases hlt : ad.block < W.heap.size
    · exact hlt
    · exfalso
      simp only [World.shape?] at h3
      rw [Array.getElem?_eq_none (by omega)] at h3
      simp at h3

set_option maxRecDepth 100000 in
theorem open_bytes1 {H : Type} {enc : TypeId × Value → H} {W : World} {r : Reach} {b0 : Nat} {v : Value} {d : DataW H} {p : List MemPlace} (hv : Value.okWide Tryz.prog W r b0 25 v) (h : DataW.Trod enc Tryz.prog W 0 (fun _ => true) true 25 v d p) :
    ∃ (bs : List UInt8) (a : Option Addr) (cap : Nat), v = .slice a bs.length cap ∧ BL W a bs ∧ (∀ ad, a = some ad → ad.block < W.heap.size) ∧ (a = none → cap = 0) ∧ bs.length ≤ cap ∧ cap ≤ 9223372036854775807 := by
  obtain ⟨a0, len0, cap0, rfl⟩ := okWide_slice Tryz.underlying25 hv
  obtain ⟨k1, k2, k3, k4⟩ := okWide_sliceB hv
  obtain ⟨fuel, hf⟩ := h
  rcases open_ints Tryz.underlying25 Tryz.underlying5 cellsU8 hf with ⟨e1, -⟩ | ⟨a, len, cap, zs, e1, -, hl, -, hm, -, hc, hw⟩
  · simp [Value.cells] at e1
    obtain ⟨rfl, rfl, rfl⟩ := e1
    exact ⟨[], none, 0, rfl, Or.inl rfl, k4, fun _ => rfl, Nat.le_refl _, by omega⟩
  · simp [Value.cells] at e1 hm
    obtain ⟨rfl, rfl, rfl⟩ := e1
    have htl : ((zs.take len0).map fun n => UInt8.ofNat n.toNat).length = len0 := by simp; omega
    refine ⟨(zs.take len0).map fun n => UInt8.ofNat n.toNat, some a, cap0, by rw [htl], ?_, k4, fun h => (by cases h), by rw [htl]; exact k2, k3⟩
    rcases Nat.eq_zero_or_pos len0 with hz | hp
    · left; rw [hz]; simp
    · right
      obtain ⟨b, off, spot⟩ := a
      have h0 := hc 0 (by omega)
      have hspot : spot = none := by simpa [Addr.add] using World.cell?_spot h0
      subst hspot
      refine ⟨b, off, rfl, World.block_lt_of_cell? W _ (by simpa [Addr.add] using h0), fun i hi => ?_⟩
      rw [htl] at hi
      have := hc i (by omega)
      rw [add_plain] at this
      rw [this]
      have hb := range_u8 hw i
      have e : zs.getD i 0 = zs[i]'(by omega) := by simp [List.getD, List.getElem?_eq_getElem (show i < zs.length by omega)]
      rw [← List.getD_eq_getElem?_getD, e] at hb
      rw [e]
      simp only [List.getElem_map, List.getElem_take, UInt8.toNat_ofNat']
      congr 2
      omega

end Go.Proofs.YtndjdeiccmhelaaGreat
