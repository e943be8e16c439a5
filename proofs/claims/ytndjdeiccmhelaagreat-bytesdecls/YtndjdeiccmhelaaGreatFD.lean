/- The contract of term.withKid. -/
import Derived.Test.YtndjdeiccmhelaaGreatRS
import Derived.Test.YtndjdeiccmhelaaGreatOL
import Derived.Test.YtndjdeiccmhelaaGreatWG
import Derived.Test.YtndjdeiccmhelaaGreatRA
import Derived.Test.YtndjdeiccmhelaaGreatWD
import Derived.Deep.AppendLies
import Derived.Test.YtndjdeiccmhelaaGreatFA
import Derived.Test.YtndjdeiccmhelaaGreatRL
import Derived.Test.YtndjdeiccmhelaaGreatEK
import Derived.Test.YtndjdeiccmhelaaGreatEZ
namespace Go.Proofs.YtndjdeiccmhelaaGreat
open Go.RowKit Go.Sort

theorem frz {w : World} {b : Nat} {cs : Array Value} {t : TypeId} (h : w.heap[b]? = some (.cells cs t (0, 0))) : ∀ o, w.frozen? ⟨b, o, none⟩ = false := fun o => by simp [World.frozen?, h]

end Go.Proofs.YtndjdeiccmhelaaGreat

/- The contract of term.bare. -/
namespace Go.Proofs.YtndjdeiccmhelaaGreat
open Go.RowKit Go.Sort

theorem on2 {w : World} {a b c : Obj} : (((w.alloc a).alloc b).alloc c).heap[w.heap.size + 1 + 1]? = some c := by
  have := alloc_new ((w.alloc a).alloc b) c
  have e : ((w.alloc a).alloc b).heap.size = w.heap.size + 1 + 1 := by simp
  rwa [e] at this

theorem on1 {w : World} {a b c : Obj} : (((w.alloc a).alloc b).alloc c).heap[w.heap.size + 1]? = some b := alloc_old box_at1 _

end Go.Proofs.YtndjdeiccmhelaaGreat

/- The contract of term.walk at terms, for every visit. -/
namespace Go.Proofs.YtndjdeiccmhelaaGreat
open Go.RowKit Go.Sort

theorem Kept.imp {P Q : Nat → Prop} {a b : World} (h : Kept P a b) (hPQ : ∀ k, k < a.heap.size → P k → Q k) : Kept Q a b := ⟨h.os, h.tape, h.output, h.size, fun k hk hq => h.block k hk (fun hp => hq (hPQ k hk hp))⟩

end Go.Proofs.YtndjdeiccmhelaaGreat

/- The contract of telamonref1.same at right terms. -/
namespace Go.Proofs.YtndjdeiccmhelaaGreat
open Go.RowKit Go.Sort

theorem formed_len {f n : Int} {hd : Bool} {nm : ByteArray} {ls : List LvT} {ks : List Tm} (h : formedB (.mk f n hd nm ls ks) = true) : (ks.length : Int) = kidsR f ∧ ∀ k ∈ ks, formedB k = true := by
  rw [formedB_mk, Bool.and_eq_true, List.all_eq_true] at h
  have h1 := h.1
  unfold judB at h1
  rw [Bool.and_eq_true, decide_eq_true_eq] at h1
  exact ⟨h1.1, h.2⟩

end Go.Proofs.YtndjdeiccmhelaaGreat

/- Terms with a footprint: a term that does not look into some blocks; rows of such terms that grow. -/
namespace Go.Proofs.YtndjdeiccmhelaaGreat
open Go.RowKit Go.Sort

theorem TF.tv {w : World} {P : Nat → Bool} {v : Value} {t : Tm} (h : TF w P v t) : TV w v t :=
  TV.subF (by rw [maskB_size]; exact Nat.le_refl _) (fun _ _ hc => (maskB_cell hc).2) h

theorem TF.on {w w' : World} {P : Nat → Bool} {v : Value} {t : Tm} (h : TF w P v t) (hb : RowKit.Below w.heap.size w w') : TF w' P v t :=
  h.move hb.size fun k hk hp => ⟨hp, hb.block k hk⟩

end Go.Proofs.YtndjdeiccmhelaaGreat

/- Rows of levels that grow, with a footprint. -/
namespace Go.Proofs.YtndjdeiccmhelaaGreat
open Go.RowKit Go.Sort

/-- append(nil, x...) of pairs, at a step of a region that draws its order -/
theorem step_appV {w : World} {ops : Array Oper} {o : Oper} {a : Act} {K : Act → World → Prop} {Q : Exit → Act → World → Prop} {E : Prop} (hgd : o.guard = none) (s x : Operand) (ho : o.op = .call { callee := .builtin .append, args := #[s, x], argTypes := #[103, 103] })
    (B : Nat) (xs : List (Int × Int)) (a1 : Option Addr) (c1 : Nat) (hs : a.eval s = .slice none 0 0) (hx : a.eval x = .slice a1 xs.length c1) (hS : SL w a1 xs) (hn : a1 = none → c1 = 0) (hl : xs.length ≤ 4398046511104) (hB : B ≤ w.heap.size)
    (h : ∀ v' w', OR B w' v' xs → w.grownBy w' none → K (a.put o.dst v') w') : if Region.wanted o (yielded ops a.tmps) = true then Oper.wp Tryz.prog o a w K Q else E := by
  have hw : Region.wanted o (yielded ops a.tmps) = true := by simp [Region.wanted, hgd]
  rw [if_pos hw]
  obtain ⟨i0, hi, hz0, hz1, hz2⟩ := info_parts infoLVar
  have hO : OR B w (.slice none 0 0) [] := OR.nil _ _
  cases a1 with
  | none =>
    have hxe : xs = [] := by
      rcases hS with h | ⟨b, off, ha, _⟩
      · exact h
      · cases ha
    subst hxe
    rw [hn rfl] at hx
    have hrun := run_append_owned_none (P := Tryz.prog) (w := w) B 103 o.type 151 i0 2 Tryz.underlying103 hi (.slice none 0 0) 0 [] hO
    unfold Oper.wp
    simp only [List.length_nil] at hx
    simp [execOp, ho, resolve, invoke, builtin, hs, hx, hrun, Result.andThen]
    exact h _ w hO ⟨rfl, rfl, rfl, Nat.le_refl _, fun _ _ _ => rfl⟩
  | some ad =>
    have hnews : ∀ j u, (flat xs)[j]? = some u → w.cell? (ad.add j) = some u := by
      rcases hS with h | ⟨b, off, ha, hr⟩
      · subst h; intro j u hu; simp [flat] at hu
      · have ha' : ad = ⟨b, off, none⟩ := by simpa using ha
        subst ha'
        exact SL.flat (Or.inr ⟨b, off, rfl, hr⟩)
    refine wp_append_own _ s x 103 ho B 151 i0 _ 2 16 Tryz.underlying103 hi hz0 hz1 hz2 rfl (by decide) (.slice none 0 0) 0 [] hs hO ad xs.length c1 (flat xs) hx (flat_length xs) hnews (flat_one xs) (by simp [maxLen]; omega) (by omega) hB ?_
    intro v' w' hown hgr _
    exact h v' w' (by unfold OR; simpa using hown) hgr
end Go.Proofs.YtndjdeiccmhelaaGreat

/- What the reference's reader reads of a written term. -/
namespace Go.Proofs.YtndjdeiccmhelaaGreat
open Go.RowKit Go.Sort Go.Lib

theorem pnum6 {n : Nat} (h : n ≤ 1073741824) (rest : List UInt8) : pnum 6 (numB n ++ rest) = some (n, rest) := pnum_numB rest 5 n (Nat.lt_of_le_of_lt h (by decide))

theorem pvars_enc (rest : List UInt8) : ∀ xs : List (Int × Int), (∀ p ∈ xs, 0 ≤ p.1 ∧ p.1 ≤ 1000 ∧ 0 ≤ p.2 ∧ p.2 ≤ 1000) → pvars xs.length (xs.flatMap varB ++ rest) = some (xs, rest)
  | [], _ => rfl
  | p :: xs, h => by
    obtain ⟨h1, h2, h3, h4⟩ := h p (by simp)
    rw [List.length_cons, pvars, List.flatMap_cons, varB, List.append_assoc, List.append_assoc, pnum6 (by omega)]
    simp only
    rw [pnum6 (by omega)]
    simp only
    rw [pvars_enc rest xs fun q hq => h q (by simp [hq])]
    simp only [Option.map_some, Option.some.injEq, Prod.mk.injEq, and_true, List.cons.injEq]
    have e1 : ((p.1.toNat : Nat) : Int) = p.1 := by omega
    have e2 : ((p.2.toNat : Nat) : Int) = p.2 := by omega
    rw [e1, e2]

theorem plevel_enc (rest : List UInt8) {l : LvT} (h : rightL l) : plevel (levB l ++ rest) = some (l, rest) := by
  obtain ⟨h1, h2, h3, h4⟩ := h
  unfold plevel levB
  rw [List.append_assoc, List.append_assoc, pnum6 (by omega)]
  simp only
  rw [pnum6 (by omega)]
  simp only
  rw [pvars_enc rest l.2 h4]
  have e1 : ((l.1.toNat : Nat) : Int) = l.1 := by omega
  simp only [Option.map_some, e1]

theorem plevels_enc (rest : List UInt8) : ∀ ls : List LvT, (∀ l ∈ ls, canonB l = true) → plevels ls.length (ls.flatMap levB ++ rest) = some (ls, rest)
  | [], _ => rfl
  | l :: ls, h => by
    rw [List.length_cons, plevels, List.flatMap_cons, List.append_assoc, plevel_enc _ (canon_rightL (h l (by simp)))]
    simp only
    rw [plevels_enc rest ls fun q hq => h q (by simp [hq])]
    rfl

theorem ptext_enc (rest : List UInt8) {nm : ByteArray} (h : nm.size ≤ 60) : ptext (nameB nm ++ rest) = some (nm, rest) := by
  have hl : nm.data.toList.length = nm.size := by rw [Array.length_toList]; rfl
  unfold ptext nameB
  rw [List.append_assoc, pnum6 (by omega)]
  simp only
  rw [if_neg (by rw [List.length_append]; omega), ← hl, List.take_left, List.drop_left]

theorem pkids_enc (F : List UInt8 → Nat → Option (Tm × List UInt8 × Nat)) (rest : List UInt8) : ∀ (ks : List Tm) (n : Nat), (∀ k ∈ ks, ∀ rest n, n + sizeT k ≤ 20000 → F (encT k ++ rest) n = some (cleanT k, rest, n + sizeT k)) → n + (ks.map sizeT).sum ≤ 20000 → pkids F ks.length (ks.flatMap encT ++ rest) n = some (ks.map cleanT, rest, n + (ks.map sizeT).sum)
  | [], n, _, _ => rfl
  | k :: ks, n, h, hn => by
    rw [List.map_cons, List.sum_cons] at hn
    rw [List.length_cons, pkids, List.flatMap_cons, List.append_assoc, h k (by simp) _ n (by omega)]
    simp only
    rw [pkids_enc F rest ks (n + sizeT k) (fun q hq => h q (by simp [hq])) (by omega)]
    simp only [Option.map_some, List.map_cons, List.sum_cons, Nat.add_assoc]

theorem kids_low : ∀ (ks : List Tm) (a : Nat), a ≤ ks.foldl (fun m k => max m (heightT k)) a ∧ ∀ k ∈ ks, heightT k ≤ ks.foldl (fun m k => max m (heightT k)) a
  | [], a => ⟨Nat.le_refl _, fun k h => by cases h⟩
  | k :: ks, a => by
    obtain ⟨h1, h2⟩ := kids_low ks (max a (heightT k))
    rw [List.foldl_cons]
    refine ⟨by omega, fun q hq => ?_⟩
    rcases List.mem_cons.1 hq with rfl | h
    · omega
    · exact h2 q h

theorem kid_low {ks : List Tm} {k : Tm} (h : k ∈ ks) : heightT k ≤ (ks.map heightT).foldl max 0 := by
  rw [List.foldl_map]
  exact (kids_low ks 0).2 k h

theorem pfields_enc {f n : Int} {h : Bool} {nm : ByteArray} {ls : List LvT} {ks : List Tm} (hf : formedB (.mk f n h nm ls ks) = true) (hl : ls.length ≤ 1000000) (rest : List UInt8) : pfields f.toNat (fieldB f n h nm ls ++ rest) = some ((if f = 1 ∨ f = 11 then n else 0, if f = 3 ∨ f = 4 ∨ f = 5 then h else false, if f = 10 then nm else ByteArray.empty, if f = 2 ∨ f = 10 then ls else []), rest) := by
  obtain ⟨hk, h1, h2, h10, -⟩ := formed_part hf
  have hff : f = 1 ∨ f = 2 ∨ f = 3 ∨ f = 4 ∨ f = 5 ∨ f = 6 ∨ f = 7 ∨ f = 8 ∨ f = 9 ∨ f = 10 ∨ f = 11 := by
    unfold kidsR at hk
    repeat' split at hk
    all_goals omega
  rcases hff with rfl | rfl | rfl | rfl | rfl | rfl | rfl | rfl | rfl | rfl | rfl
  · obtain ⟨a, b⟩ := h1 (Or.inl rfl)
    show (pnum 6 (numB n.toNat ++ rest)).map _ = _
    rw [pnum6 (by omega)]
    have e1 : ((n.toNat : Nat) : Int) = n := by omega
    simp [e1]; rfl
  · obtain ⟨l, rfl, hc⟩ := h2 rfl
    show (plevel ([l].flatMap levB ++ rest)).map _ = _
    rw [List.flatMap_cons, List.flatMap_nil, List.append_nil, plevel_enc _ (canon_rightL hc)]
    rfl
  · cases h <;> rfl
  · cases h <;> rfl
  · cases h <;> rfl
  · rfl
  · rfl
  · rfl
  · rfl
  · obtain ⟨a, b, c⟩ := h10 rfl
    have e : fieldB 10 n h nm ls ++ rest = nameB nm ++ (numB ls.length ++ (ls.flatMap levB ++ rest)) := by
      show nameB nm ++ (numB ls.length ++ ls.flatMap levB) ++ rest = _
      rw [List.append_assoc, List.append_assoc]
    rw [e]
    show pfields 10 _ = _
    unfold pfields
    rw [if_neg (by decide), if_neg (by decide), if_neg (by decide), if_pos rfl, ptext_enc _ b]
    simp only
    rw [pnum6 (by omega)]
    simp only
    rw [plevels_enc rest ls c]
    rfl
  · obtain ⟨a, b⟩ := h1 (Or.inr rfl)
    show (pnum 6 (numB n.toNat ++ rest)).map _ = _
    rw [pnum6 (by omega)]
    have e1 : ((n.toNat : Nat) : Int) = n := by omega
    simp [e1]; rfl

theorem pterm_enc (t : Tm) : ∀ (d n : Nat) (rest : List UInt8), smT 1000000 t → formedB t = true → heightT t ≤ d → n + sizeT t ≤ 20000 → pterm d (encT t ++ rest) n = some (cleanT t, rest, n + sizeT t) := by
  refine Tm.ind (P := fun t => ∀ (d n : Nat) (rest : List UInt8), smT 1000000 t → formedB t = true → heightT t ≤ d → n + sizeT t ≤ 20000 → pterm d (encT t ++ rest) n = some (cleanT t, rest, n + sizeT t)) ?_ t
  intro f m hd nm ls ks ih d n rest hsm hf hh hn
  obtain ⟨-, hls, -, -, hks⟩ := (smT_mk _ _ _ _ _ _ _).1 hsm
  obtain ⟨hk, -, -, -, hkf⟩ := formed_part hf
  rw [heightT_mk] at hh
  rw [sizeT_mk] at hn
  obtain ⟨d', rfl⟩ : ∃ d', d = d' + 1 := ⟨d - 1, by omega⟩
  have hf0 : 0 ≤ f ∧ f ≤ 11 := by
    unfold kidsR at hk
    repeat' split at hk
    all_goals omega
  have ef : ((f.toNat : Nat) : Int) = f := by omega
  rw [encT_mk, List.append_assoc, pterm, pnum6 (by omega)]
  simp only
  rw [ef, if_neg (by omega), List.append_assoc, pfields_enc hf hls]
  simp only
  have ek : (kidsR f).toNat = ks.length := by omega
  rw [ek, pkids_enc (pterm d') rest ks (n + 1) (fun k hk' rest n hn' => ih k hk' d' n rest (hks k hk') (hkf k hk') (by have := kid_low hk'; omega) hn') (by omega), clean_mk, sizeT_mk]
  simp only [Option.map_some, Nat.add_assoc]
end Go.Proofs.YtndjdeiccmhelaaGreat

/- The contract of telamonref1.Clean, form by form. -/
namespace Go.Proofs.YtndjdeiccmhelaaGreat
open Go.RowKit Go.Sort

set_option maxRecDepth 100000 in
set_option maxHeartbeats 8000000 in
theorem Clean6 (n : Int) (hd : Bool) (nm : ByteArray) (ls : List LvT) (ks : List Tm) (ih : ∀ k ∈ ks, ∀ (v : Value) (w : World), smT 1000000 k → formedB k = true → TV w v k → Calls Tryz.prog 40 #[v] w fun e w' => ∃ v', e = .returned v' ∧ ShapeT v' ∧ TF w' (fun k => decide (k < w.heap.size)) v' (cleanT k) ∧ RowKit.Below w.heap.size w w') : ∀ (v : Value) (w : World), smT 1000000 (.mk 6 n hd nm ls ks) → formedB (.mk 6 n hd nm ls ks) = true → TV w v (.mk 6 n hd nm ls ks) → Calls Tryz.prog 40 #[v] w fun e w' => ∃ v', e = .returned v' ∧ ShapeT v' ∧ TF w' (fun k => decide (k < w.heap.size)) v' (cleanT (.mk 6 n hd nm ls ks)) ∧ RowKit.Below w.heap.size w w' := by
  intro v w hsm hfm hv
  obtain ⟨-, s1, s2, s3, s4⟩ := (smT_mk _ _ _ _ _ _ _).1 hsm
  obtain ⟨hkl, hkf⟩ := formed_len hfm
  have mx := mixed
  obtain ⟨i0, hi, iz0, iz1, iz2⟩ := info_parts infoTerm
  obtain ⟨l0, lh, lz0, lz1, lz2⟩ := info_parts infoLevel
  cases hv with
  | @mk _ _ _ _ _ _ la lc ka kc kb ko hl hln hlc hlm hkn hkc hkm hk kids =>
    have HL := Hid.mk hl
    have HK := Hid.mk hk
    have HKIDS := Hid.mk kids
    have HIH := Hid.mk ih
    have HS2 := Hid.mk s2
    have HS4 := Hid.mk s4
    have HKF := Hid.mk hkf
    clear hk kids ih hl hln hkn s2 s4 hsm hkf hfm
    have HR : Hid (cleanT (.mk 6 n hd nm ls ks) = .mk 6 0 false { data := #[] } [] (ks.map cleanT)) := by unfold Hid; rw [clean_mk]; rfl
    generalize cleanT (.mk 6 n hd nm ls ks) = R at HR ⊢
    clear hkl
    obtain ⟨W1, hW1⟩ : ∃ W1, ((w.alloc (.cells #[.int .i64 6, .int .i64 n, .bool hd, .string nm, .slice la ls.length lc, .slice ka ks.length kc] 38)).alloc (.cells #[.int .i64 0, .int .i64 0, .bool false, .string { data := #[] }, .slice none 0 0, .slice none 0 0] 38)).alloc (.cells #[.int .i64 6, .int .i64 0, .bool false, .string { data := #[] }, .slice none 0 0, .slice none 0 0] 38) = W1 := ⟨_, rfl⟩
    have HG1 : Hid (Grew w W1) := by unfold Hid; rw [← hW1]; exact (((Grew.refl w).alloc _).alloc _).alloc _
    have HX1 : Hid (W1.heap[w.heap.size]? = some (.cells #[.int .i64 6, .int .i64 n, .bool hd, .string nm, .slice la ls.length lc, .slice ka ks.length kc] 38 (0, 0))) := by unfold Hid; rw [← hW1]; exact alloc_old box_at _
    have HY1 : Hid (W1.heap[w.heap.size + 1]? = some (.cells #[.int .i64 0, .int .i64 0, .bool false, .string { data := #[] }, .slice none 0 0, .slice none 0 0] 38 (0, 0))) := by unfold Hid; rw [← hW1]; exact on1
    have HZ1 : Hid (W1.heap[w.heap.size + 1 + 1]? = some (.cells #[.int .i64 6, .int .i64 0, .bool false, .string { data := #[] }, .slice none 0 0, .slice none 0 0] 38 (0, 0))) := by unfold Hid; rw [← hW1]; exact on2
    have hsz1 : W1.heap.size = w.heap.size + 1 + 1 + 1 := by rw [← hW1]; simp
    have HW1 := Hid.mk hW1
    clear hW1
    go_enter Tryz.func40, Tryz.ntmps40
    go_wp2
    rw [HW1.out]
    go_loopw [5] (fun i wr => ∃ (j : Nat) (a : Option Addr) (cap : Nat), j ≤ ks.length ∧ i = .int .i64 j ∧ RowF wr (w.heap.size + 3) (fun k => decide (k < w.heap.size + 3)) a cap ((ks.take j).map cleanT) ∧ wr.heap[w.heap.size + 1 + 1]? = some (.cells #[.int .i64 6, .int .i64 0, .bool false, .string { data := #[] }, .slice none 0 0, .slice a j cap] 38 (0, 0)) ∧ Kept (fun k => k = w.heap.size + 1 + 1 ∨ w.heap.size + 3 ≤ k) W1 wr) (fun i _ => ks.length - (intOf i).toNat)
    case atStart => exact ⟨0, none, 0, Nat.zero_le _, rfl, RowF.nil W1 _ _, HZ1.out, Kept.refl _ _⟩
    case round =>
      obtain ⟨j, a, cap, hj, rfl, hrow, hz, hbr⟩ := hrel
      have HROW := Hid.mk hrow
      have HZR := Hid.mk hz
      have HBR := Hid.mk hbr
      have hszr := hbr.size
      clear hrow hz hbr
      have hbx := (HBR.out.block w.heap.size (by omega) (by omega)).trans HX1.out
      have HXR := Hid.mk hbx
      obtain ⟨x0, x1, x2, x3, x4, x5, x6⟩ := cells6 hbx
      obtain ⟨z0, z1, z2, z3, z4, z5, z6⟩ := cells6 HZR.out
      have fz := frz HZR.out
      clear hbx
      by_cases hlt : j < ks.length
      · obtain ⟨rfl, hkb0⟩ := HK.out (by intro e; rw [e] at hlt; simp at hlt)
        have hkt : ks[j]? = some ks[j] := List.getElem?_eq_getElem hlt
        have hmem : ks[j] ∈ ks := List.getElem_mem hlt
        have HLJ : Hid (((ks.take j).map cleanT).length = j) := by unfold Hid; rw [List.length_map, List.length_take]; omega
        have HTK : Hid ((ks.take (j + 1)).map cleanT = (ks.take j).map cleanT ++ [cleanT ks[j]]) := by unfold Hid; rw [List.take_succ_eq_append_getElem hlt, List.map_append]; rfl
        obtain ⟨xs, kvs, hown, hkv⟩ := HROW.out.go
        rw [HLJ.out] at hown
        have HRB : Hid (∀ k, ownB a k = true → w.heap.size + 3 ≤ k ∧ k < wr.heap.size) := fun k hk => row_block hown hk
        have hold : RowKit.Below w.heap.size w wr := HG1.out.below.trans (HBR.out.below (by omega) (fun k hk => by omega))
        obtain ⟨v0, v1, v2, v3, l1, l2, l3, q1, q2, q3, c0, c1, c2, c3, c4, c5, htv⟩ := ((HKIDS.out j _ hkt).on hold).valE
        have hkr : kb < wr.heap.size := World.block_lt_of_cell? wr _ c0
        have HCALL := HIH.out ks[j] hmem _ wr.drew (HS4.out _ hmem) (HKF.out _ hmem) (htv.on (Below.refl _ _).drew)
        have hwd : wr.drew.heap.size = wr.heap.size := rfl
        rw [hwd] at HCALL
        have HOWN := Hid.mk hown
        have HKV := Hid.mk hkv
        have HXL : Hid (xs.length = ((ks.take j).map cleanT).length * 6) := by unfold Hid; rw [HLJ.out, hown.1]
        have zj : (j : Int) < (ks.length : Int) := by omega
        have HCEL : Hid (∀ W : World, (∀ k, k < w.heap.size + 3 → W.heap[k]? = wr.heap[k]?) → W.cell? ⟨w.heap.size + 1 + 1, 5, none⟩ = some (.slice a j cap) ∧ W.cell? ⟨w.heap.size, 5, none⟩ = some (.slice (some ⟨kb, ko, none⟩) ks.length kc) ∧ W.cell? ⟨kb, ko + j * 6, none⟩ = some (.int .i64 v0) ∧ W.cell? ⟨kb, ko + j * 6 + 1, none⟩ = some (.int .i64 v1) ∧ W.cell? ⟨kb, ko + j * 6 + 2, none⟩ = some (.bool v2) ∧ W.cell? ⟨kb, ko + j * 6 + 3, none⟩ = some (.string v3) ∧ W.cell? ⟨kb, ko + j * 6 + 4, none⟩ = some (.slice l1 l2 l3) ∧ W.cell? ⟨kb, ko + j * 6 + 5, none⟩ = some (.slice q1 q2 q3)) := fun W h => by
          have hZ := h (w.heap.size + 1 + 1) (by omega)
          have hX := h w.heap.size (by omega)
          have hB := h kb (by omega)
          exact ⟨(World.cell?_of_block (a := ⟨w.heap.size + 1 + 1, 5, none⟩) hZ).trans z5, (World.cell?_of_block (a := ⟨w.heap.size, 5, none⟩) hX).trans x5, (World.cell?_of_block (a := ⟨kb, ko + j * 6, none⟩) hB).trans c0, (World.cell?_of_block (a := ⟨kb, ko + j * 6 + 1, none⟩) hB).trans c1, (World.cell?_of_block (a := ⟨kb, ko + j * 6 + 2, none⟩) hB).trans c2, (World.cell?_of_block (a := ⟨kb, ko + j * 6 + 3, none⟩) hB).trans c3, (World.cell?_of_block (a := ⟨kb, ko + j * 6 + 4, none⟩) hB).trans c4, (World.cell?_of_block (a := ⟨kb, ko + j * 6 + 5, none⟩) hB).trans c5⟩
        clear htv hkt hmem hown hkv hold hwd
        generalize cleanT ks[j] = RK at *
        generalize (ks.take j).map cleanT = TS at *
        go_wp2_with fail
        refine wp_region_last (S := fun w' => w'.cell? ⟨w.heap.size + 1 + 1, 5, none⟩ = some (.slice a j cap) ∧ w'.cell? ⟨w.heap.size, 5, none⟩ = some (.slice (some ⟨kb, ko, none⟩) ks.length kc) ∧ w'.cell? ⟨kb, ko + j * 6, none⟩ = some (.int .i64 v0) ∧ w'.cell? ⟨kb, ko + j * 6 + 1, none⟩ = some (.int .i64 v1) ∧ w'.cell? ⟨kb, ko + j * 6 + 2, none⟩ = some (.bool v2) ∧ w'.cell? ⟨kb, ko + j * 6 + 3, none⟩ = some (.string v3) ∧ w'.cell? ⟨kb, ko + j * 6 + 4, none⟩ = some (.slice l1 l2 l3) ∧ w'.cell? ⟨kb, ko + j * 6 + 5, none⟩ = some (.slice q1 q2 q3)) 11 mx ?_ (fun hHeld => ?_)
        · (try dsimp only)
          exact HCEL.out _ (fun k _ => rfl)
        refine wpAnyL_take (i := 0) (v := ?_) rfl (by kernel_rfl) (by kernel_rfl) (by kernel_rfl) (by kernel_rfl) (fun _ _ _ h => h) (Or.inl ⟨by rfl, ?_⟩) (by assumption) ?_
        rotate_left
        · (intro w hSw; (try dsimp only at hSw); go_simp; (try with_reducible rfl))
        refine wpAnyL_take (i := 1) (v := ?_) rfl (by kernel_rfl) (by kernel_rfl) (by kernel_rfl) (by kernel_rfl) (fun _ _ _ h => h) (Or.inl ⟨by rfl, ?_⟩) (by assumption) ?_
        rotate_left
        · (intro w hSw; (try dsimp only at hSw); go_simp; (try with_reducible rfl))
        refine wpAnyL_take (i := 2) (v := ?_) rfl (by kernel_rfl) (by kernel_rfl) (by kernel_rfl) (by kernel_rfl) (fun _ _ _ h => h) (Or.inl ⟨by rfl, ?_⟩) (by assumption) ?_
        rotate_left
        · (intro w hSw; (try dsimp only at hSw); go_simp; (try with_reducible rfl))
        refine wpAnyL_take (i := 3) (v := ?_) rfl (by kernel_rfl) (by kernel_rfl) (by kernel_rfl) (by kernel_rfl) (fun _ _ _ h => h) (Or.inl ⟨by rfl, ?_⟩) (by assumption) ?_
        rotate_left
        · (intro w hSw; (try dsimp only at hSw); go_simp; (try with_reducible rfl))
        refine wpAnyL_take (i := 4) (v := ?_) rfl (by kernel_rfl) (by kernel_rfl) (by kernel_rfl) (by kernel_rfl) (fun _ _ _ h => h) (Or.inl ⟨by rfl, ?_⟩) (by assumption) ?_
        rotate_left
        · (intro w hSw; (try dsimp only at hSw); go_simp; (try with_reducible rfl))
        refine wpAnyL_take (i := 5) (v := ?_) rfl (by kernel_rfl) (by kernel_rfl) (by kernel_rfl) (by kernel_rfl) (fun _ _ _ h => h) (Or.inl ⟨by rfl, ?_⟩) (by assumption) ?_
        rotate_left
        · (intro w hSw; (try dsimp only at hSw); go_simp; (try with_reducible rfl))
        refine wpAnyL_take (i := 6) (v := ?_) rfl (by kernel_rfl) (by kernel_rfl) (by kernel_rfl) (by kernel_rfl) (fun _ _ _ h => h) (Or.inl ⟨by rfl, ?_⟩) (by assumption) ?_
        rotate_left
        · (intro w hSw; (try dsimp only at hSw); go_simp; (try with_reducible rfl))
        refine wpAnyL_one (i := 7) (by kernel_rfl) rfl (fun K hK => ?_)
        go_simp
        go_at_call 40
        refine HCALL.mono ?_
        rintro e w5 ⟨v', rfl, ⟨u0, u1, u2, u3, r1, r2, r3, s1', s2', s3', rfl⟩, htf5, hb5⟩
        have HTF5 := Hid.mk htf5
        have HB5 : Hid (RowKit.Below wr.heap.size wr w5) := (Below.refl _ _).drew.trans hb5
        have hsz5 := HB5.out.size
        clear htf5 hb5
        have HOWN6 : Hid ((w5.alloc (.cells #[.int .i64 u0, .int .i64 u1, .bool u2, .string u3, .slice r1 r2 r3, .slice s1' s2' s3'] 38)).ownsRow (w.heap.size + 3) 38 6 (.slice a j cap) j xs) := (owns_block HOWN.out (fun g hg => HB5.out.block g (by subst hg; exact (World.ownsRow.lt HOWN.out g rfl).2))).alloc _
        have HNEWS := Hid.mk (World.news_of_block (cs := #[.int .i64 u0, .int .i64 u1, .bool u2, .string u3, .slice r1 r2 r3, .slice s1' s2' s3']) (t := 38) (fr := (0, 0)) (alloc_new w5 (.cells #[.int .i64 u0, .int .i64 u1, .bool u2, .string u3, .slice r1 r2 r3, .slice s1' s2' s3'] 38)))
        dsimp only
        refine hK.out _ _ ?_ (fun hHeld => ?_)
        · (try dsimp only)
          exact HCEL.out _ (fun k hk => HB5.out.block k (by omega))
        clear hK K
        refine wpAnyL_one (i := 8) (by kernel_rfl) rfl (fun K hK => ?_)
        go_simp
        refine hK.out _ _ ?_ (fun hHeld => ?_)
        · (try dsimp only)
          exact HCEL.out _ (fun k hk => (Below.heap_alloc _ _ k (by omega)).trans (HB5.out.block k (by omega)))
        clear hK K
        refine wpAnyL_one (i := 9) (by kernel_rfl) rfl (fun K hK => ?_)
        refine step_append_lies _ (by rfl) _ _ _ (by rfl) (w.heap.size + 3) 38 i0 _ 6 88 Tryz.underlying36 hi iz0 iz1 iz2 rfl (by decide) (.slice a j cap) j xs (by rfl) HOWN6.out ⟨w5.heap.size, 0, none⟩ 1 1 [.int .i64 u0, .int .i64 u1, .bool u2, .string u3, .slice r1 r2 r3, .slice s1' s2' s3'] (by rfl) (by rfl) HNEWS.out (by simp [Value.oneCell']) (by omega) (by simp [maxLen]; omega) (by omega) (by simp; omega) (w5.heap.size + 1) (by simp) ?_
        intro g7 c7 W7 hown7 hgr7 hat7 hlt7
        have HOWN7 := Hid.mk hown7
        have HGR7 := Hid.mk hgr7
        have HAT7 := Hid.mk hat7
        have HBL7 : Hid (∀ k, k < w5.heap.size + 1 → ownB a k = false → W7.heap[k]? = (w5.alloc (.cells #[.int .i64 u0, .int .i64 u1, .bool u2, .string u3, .slice r1 r2 r3, .slice s1' s2' s3'] 38)).heap[k]?) := fun k hk ho => hgr7.block k (by simpa using hk) (ownB_none ho)
        have HCE7 := Hid.mk (HCEL.out W7 (fun k hk => (HBL7.out k (by omega) (by cases ho : ownB a k with | false => rfl | true => exact absurd (HRB.out k ho).1 (by omega))).trans ((Below.heap_alloc _ _ k (by omega)).trans (HB5.out.block k (by omega)))))
        have HZ7 : Hid (W7.heap[w.heap.size + 1 + 1]? = some (.cells #[.int .i64 6, .int .i64 0, .bool false, .string { data := #[] }, .slice none 0 0, .slice a j cap] 38 (0, 0))) := (HBL7.out _ (by omega) (by cases ho : ownB a (w.heap.size + 1 + 1) with | false => rfl | true => exact absurd (HRB.out _ ho).1 (by omega))).trans ((Below.heap_alloc _ _ _ (by omega)).trans ((HB5.out.block _ (by omega)).trans HZR.out))
        have fz7 := frz HZ7.out
        have z75 := (cells6 HZ7.out).2.2.2.2.2.1
        clear hown7 hgr7 hat7
        refine hK.out _ _ ?_ (fun hHeld => ?_)
        · (try dsimp only)
          exact HCE7.out
        clear hK K
        refine wpAnyL_take (i := 10) (v := ?_) rfl (by kernel_rfl) (by kernel_rfl) (by kernel_rfl) (by kernel_rfl) (fun _ _ _ h => h) (Or.inl ⟨by rfl, ?_⟩) (by assumption) ?_
        rotate_left
        · (intro w hSw; (try dsimp only at hSw); go_simp; (try with_reducible rfl))
        refine wpAnyL_last (by kernel_rfl) rfl (by kernel_rfl) (fun K hK => ?_)
        go_simp
        refine hK.out _ _ ?_
        clear hK K
        go_wp2
        have KZ : Kept (fun k => k = w.heap.size + 1 + 1) W7 (W7.setCell ⟨w.heap.size + 1 + 1, 5, none⟩ (.slice (some ⟨g7, 0, none⟩) (j + 1) c7)) := (Kept.refl (fun k => k = w.heap.size + 1 + 1) W7).setCell (p := ⟨w.heap.size + 1 + 1, 5, none⟩) rfl _
        refine ⟨⟨j + 1, some ⟨g7, 0, none⟩, c7, hlt, by go_num, ?_, set5_heap HZ7.out, ?_⟩, by simp [intOf]; omega⟩
        · rw [HTK.out]
          refine RowF.move (w := W7) ?_ (fun k hk => by simp; omega) KZ.size (fun k h1 h2 => KZ.block k h1 (fun e => by subst e; exact absurd h2 (by simp)))
          refine RowF.snoc (w := w5.alloc (.cells #[.int .i64 u0, .int .i64 u1, .bool u2, .string u3, .slice r1 r2 r3, .slice s1' s2' s3'] 38)) (a := a) (cap := cap) (xs := xs) (kvs := kvs) (fun j' t' hj' => ⟨(HKV.out j' t' hj').1, ((HKV.out j' t' hj').2.on HB5.out).on ((Below.refl _ _).alloc (Nat.le_refl _) _)⟩) HXL.out (by rw [HLJ.out]; exact HOWN7.out) (by rw [HLJ.out]; exact HGR7.out) (by rw [HLJ.out]; simpa using HAT7.out) ?_
          refine HTF5.out.move (by simp) (fun k h1 h2 => ⟨?_, Below.heap_alloc _ _ k h1⟩)
          have h3 : wr.heap.size ≤ k := by simpa using h2
          cases ho : ownB a k with
          | false => simp; omega
          | true => exact absurd (HRB.out k ho).2 (by omega)
        · refine HBR.out.trans (((Kept.of_below HB5.out).alloc (.cells #[.int .i64 u0, .int .i64 u1, .bool u2, .string u3, .slice r1 r2 r3, .slice s1' s2' s3'] 38)).trans (Kept.trans (b := W7) ⟨HGR7.out.os, HGR7.out.tape, HGR7.out.output, HGR7.out.size, fun k hk hn => HGR7.out.block k hk (fun e => ?_)⟩ (KZ.imp (fun k _ h => Or.inl h))))
          have := (World.ownsRow.lt HOWN.out k e.symm).1
          omega
      · obtain rfl : j = ks.length := by omega
        have hby := (HBR.out.block (w.heap.size + 1) (by omega) (by omega)).trans HY1.out
        obtain ⟨y0, y1, y2, y3, y4, y5, y6⟩ := cells6 hby
        have fy := frz hby
        clear hby
        have HLJ : Hid (((ks.take ks.length).map cleanT).length = ks.length) := by unfold Hid; rw [List.length_map, List.length_take]; omega
        have HT : Hid (R = .mk 6 0 false { data := #[] } [] ((ks.take ks.length).map cleanT)) := by unfold Hid; rw [HR.out, List.take_length]
        generalize (ks.take ks.length).map cleanT = TS at *
        go_wp2
        refine bodyPost_ret (v := .agg #[.int .i64 6, .int .i64 0, .bool false, .string { data := #[] }, .slice none 0 0, .slice a ks.length cap]) (by simp [results, Tryz.results40, go_sem, y0, y1, y2, y3, y4, y5]) rfl ⟨_, rfl, ⟨_, _, _, _, _, _, _, _, _, _, rfl⟩, ?_, ?_⟩
        all_goals have KF := keep6 (P := fun k => k = w.heap.size + 1) (w := wr) (b := w.heap.size + 1) (a0 := .int .i64 6) (a1 := .int .i64 0) (a2 := .bool false) (a3 := .string { data := #[] }) (a4 := .slice none 0 0) (a5 := .slice a ks.length cap) rfl
        · rw [HT.out]
          have hrow := HROW.out.move (fun k hk => by simp; omega) KF.size (fun k h1 h2 => KF.block k h1 (fun e => by subst e; exact absurd h2 (by simp)))
          have hd2 := hrow.done (fun k hk => by simp; omega) (f := 6) (n := 0) (hd := false) (nm := { data := #[] }) (la := none) (lc := 0) (ls := []) (Or.inl rfl) (fun _ => rfl) (Nat.le_refl _) (by omega)
          rw [HLJ.out] at hd2
          exact hd2.sub (fun k hk => by simp at hk ⊢; omega)
        · exact HG1.out.below.trans (Below.trans (HBR.out.below (by omega) (fun k hk => by omega)) (KF.below (by omega) (fun k hk => by omega)))

set_option maxRecDepth 100000 in
set_option maxHeartbeats 8000000 in
theorem Clean7 (n : Int) (hd : Bool) (nm : ByteArray) (ls : List LvT) (ks : List Tm) (ih : ∀ k ∈ ks, ∀ (v : Value) (w : World), smT 1000000 k → formedB k = true → TV w v k → Calls Tryz.prog 40 #[v] w fun e w' => ∃ v', e = .returned v' ∧ ShapeT v' ∧ TF w' (fun k => decide (k < w.heap.size)) v' (cleanT k) ∧ RowKit.Below w.heap.size w w') : ∀ (v : Value) (w : World), smT 1000000 (.mk 7 n hd nm ls ks) → formedB (.mk 7 n hd nm ls ks) = true → TV w v (.mk 7 n hd nm ls ks) → Calls Tryz.prog 40 #[v] w fun e w' => ∃ v', e = .returned v' ∧ ShapeT v' ∧ TF w' (fun k => decide (k < w.heap.size)) v' (cleanT (.mk 7 n hd nm ls ks)) ∧ RowKit.Below w.heap.size w w' := by
  intro v w hsm hfm hv
  obtain ⟨-, s1, s2, s3, s4⟩ := (smT_mk _ _ _ _ _ _ _).1 hsm
  obtain ⟨hkl, hkf⟩ := formed_len hfm
  have mx := mixed
  obtain ⟨i0, hi, iz0, iz1, iz2⟩ := info_parts infoTerm
  obtain ⟨l0, lh, lz0, lz1, lz2⟩ := info_parts infoLevel
  cases hv with
  | @mk _ _ _ _ _ _ la lc ka kc kb ko hl hln hlc hlm hkn hkc hkm hk kids =>
    have HL := Hid.mk hl
    have HK := Hid.mk hk
    have HKIDS := Hid.mk kids
    have HIH := Hid.mk ih
    have HS2 := Hid.mk s2
    have HS4 := Hid.mk s4
    have HKF := Hid.mk hkf
    clear hk kids ih hl hln hkn s2 s4 hsm hkf hfm
    have HR : Hid (cleanT (.mk 7 n hd nm ls ks) = .mk 7 0 false { data := #[] } [] (ks.map cleanT)) := by unfold Hid; rw [clean_mk]; rfl
    generalize cleanT (.mk 7 n hd nm ls ks) = R at HR ⊢
    clear hkl
    obtain ⟨W1, hW1⟩ : ∃ W1, ((w.alloc (.cells #[.int .i64 7, .int .i64 n, .bool hd, .string nm, .slice la ls.length lc, .slice ka ks.length kc] 38)).alloc (.cells #[.int .i64 0, .int .i64 0, .bool false, .string { data := #[] }, .slice none 0 0, .slice none 0 0] 38)).alloc (.cells #[.int .i64 7, .int .i64 0, .bool false, .string { data := #[] }, .slice none 0 0, .slice none 0 0] 38) = W1 := ⟨_, rfl⟩
    have HG1 : Hid (Grew w W1) := by unfold Hid; rw [← hW1]; exact (((Grew.refl w).alloc _).alloc _).alloc _
    have HX1 : Hid (W1.heap[w.heap.size]? = some (.cells #[.int .i64 7, .int .i64 n, .bool hd, .string nm, .slice la ls.length lc, .slice ka ks.length kc] 38 (0, 0))) := by unfold Hid; rw [← hW1]; exact alloc_old box_at _
    have HY1 : Hid (W1.heap[w.heap.size + 1]? = some (.cells #[.int .i64 0, .int .i64 0, .bool false, .string { data := #[] }, .slice none 0 0, .slice none 0 0] 38 (0, 0))) := by unfold Hid; rw [← hW1]; exact on1
    have HZ1 : Hid (W1.heap[w.heap.size + 1 + 1]? = some (.cells #[.int .i64 7, .int .i64 0, .bool false, .string { data := #[] }, .slice none 0 0, .slice none 0 0] 38 (0, 0))) := by unfold Hid; rw [← hW1]; exact on2
    have hsz1 : W1.heap.size = w.heap.size + 1 + 1 + 1 := by rw [← hW1]; simp
    have HW1 := Hid.mk hW1
    clear hW1
    go_enter Tryz.func40, Tryz.ntmps40
    go_wp2
    rw [HW1.out]
    go_loopw [5] (fun i wr => ∃ (j : Nat) (a : Option Addr) (cap : Nat), j ≤ ks.length ∧ i = .int .i64 j ∧ RowF wr (w.heap.size + 3) (fun k => decide (k < w.heap.size + 3)) a cap ((ks.take j).map cleanT) ∧ wr.heap[w.heap.size + 1 + 1]? = some (.cells #[.int .i64 7, .int .i64 0, .bool false, .string { data := #[] }, .slice none 0 0, .slice a j cap] 38 (0, 0)) ∧ Kept (fun k => k = w.heap.size + 1 + 1 ∨ w.heap.size + 3 ≤ k) W1 wr) (fun i _ => ks.length - (intOf i).toNat)
    case atStart => exact ⟨0, none, 0, Nat.zero_le _, rfl, RowF.nil W1 _ _, HZ1.out, Kept.refl _ _⟩
    case round =>
      obtain ⟨j, a, cap, hj, rfl, hrow, hz, hbr⟩ := hrel
      have HROW := Hid.mk hrow
      have HZR := Hid.mk hz
      have HBR := Hid.mk hbr
      have hszr := hbr.size
      clear hrow hz hbr
      have hbx := (HBR.out.block w.heap.size (by omega) (by omega)).trans HX1.out
      have HXR := Hid.mk hbx
      obtain ⟨x0, x1, x2, x3, x4, x5, x6⟩ := cells6 hbx
      obtain ⟨z0, z1, z2, z3, z4, z5, z6⟩ := cells6 HZR.out
      have fz := frz HZR.out
      clear hbx
      by_cases hlt : j < ks.length
      · obtain ⟨rfl, hkb0⟩ := HK.out (by intro e; rw [e] at hlt; simp at hlt)
        have hkt : ks[j]? = some ks[j] := List.getElem?_eq_getElem hlt
        have hmem : ks[j] ∈ ks := List.getElem_mem hlt
        have HLJ : Hid (((ks.take j).map cleanT).length = j) := by unfold Hid; rw [List.length_map, List.length_take]; omega
        have HTK : Hid ((ks.take (j + 1)).map cleanT = (ks.take j).map cleanT ++ [cleanT ks[j]]) := by unfold Hid; rw [List.take_succ_eq_append_getElem hlt, List.map_append]; rfl
        obtain ⟨xs, kvs, hown, hkv⟩ := HROW.out.go
        rw [HLJ.out] at hown
        have HRB : Hid (∀ k, ownB a k = true → w.heap.size + 3 ≤ k ∧ k < wr.heap.size) := fun k hk => row_block hown hk
        have hold : RowKit.Below w.heap.size w wr := HG1.out.below.trans (HBR.out.below (by omega) (fun k hk => by omega))
        obtain ⟨v0, v1, v2, v3, l1, l2, l3, q1, q2, q3, c0, c1, c2, c3, c4, c5, htv⟩ := ((HKIDS.out j _ hkt).on hold).valE
        have hkr : kb < wr.heap.size := World.block_lt_of_cell? wr _ c0
        have HCALL := HIH.out ks[j] hmem _ wr.drew (HS4.out _ hmem) (HKF.out _ hmem) (htv.on (Below.refl _ _).drew)
        have hwd : wr.drew.heap.size = wr.heap.size := rfl
        rw [hwd] at HCALL
        have HOWN := Hid.mk hown
        have HKV := Hid.mk hkv
        have HXL : Hid (xs.length = ((ks.take j).map cleanT).length * 6) := by unfold Hid; rw [HLJ.out, hown.1]
        have zj : (j : Int) < (ks.length : Int) := by omega
        have HCEL : Hid (∀ W : World, (∀ k, k < w.heap.size + 3 → W.heap[k]? = wr.heap[k]?) → W.cell? ⟨w.heap.size + 1 + 1, 5, none⟩ = some (.slice a j cap) ∧ W.cell? ⟨w.heap.size, 5, none⟩ = some (.slice (some ⟨kb, ko, none⟩) ks.length kc) ∧ W.cell? ⟨kb, ko + j * 6, none⟩ = some (.int .i64 v0) ∧ W.cell? ⟨kb, ko + j * 6 + 1, none⟩ = some (.int .i64 v1) ∧ W.cell? ⟨kb, ko + j * 6 + 2, none⟩ = some (.bool v2) ∧ W.cell? ⟨kb, ko + j * 6 + 3, none⟩ = some (.string v3) ∧ W.cell? ⟨kb, ko + j * 6 + 4, none⟩ = some (.slice l1 l2 l3) ∧ W.cell? ⟨kb, ko + j * 6 + 5, none⟩ = some (.slice q1 q2 q3)) := fun W h => by
          have hZ := h (w.heap.size + 1 + 1) (by omega)
          have hX := h w.heap.size (by omega)
          have hB := h kb (by omega)
          exact ⟨(World.cell?_of_block (a := ⟨w.heap.size + 1 + 1, 5, none⟩) hZ).trans z5, (World.cell?_of_block (a := ⟨w.heap.size, 5, none⟩) hX).trans x5, (World.cell?_of_block (a := ⟨kb, ko + j * 6, none⟩) hB).trans c0, (World.cell?_of_block (a := ⟨kb, ko + j * 6 + 1, none⟩) hB).trans c1, (World.cell?_of_block (a := ⟨kb, ko + j * 6 + 2, none⟩) hB).trans c2, (World.cell?_of_block (a := ⟨kb, ko + j * 6 + 3, none⟩) hB).trans c3, (World.cell?_of_block (a := ⟨kb, ko + j * 6 + 4, none⟩) hB).trans c4, (World.cell?_of_block (a := ⟨kb, ko + j * 6 + 5, none⟩) hB).trans c5⟩
        clear htv hkt hmem hown hkv hold hwd
        generalize cleanT ks[j] = RK at *
        generalize (ks.take j).map cleanT = TS at *
        go_wp2_with fail
        refine wp_region_last (S := fun w' => w'.cell? ⟨w.heap.size + 1 + 1, 5, none⟩ = some (.slice a j cap) ∧ w'.cell? ⟨w.heap.size, 5, none⟩ = some (.slice (some ⟨kb, ko, none⟩) ks.length kc) ∧ w'.cell? ⟨kb, ko + j * 6, none⟩ = some (.int .i64 v0) ∧ w'.cell? ⟨kb, ko + j * 6 + 1, none⟩ = some (.int .i64 v1) ∧ w'.cell? ⟨kb, ko + j * 6 + 2, none⟩ = some (.bool v2) ∧ w'.cell? ⟨kb, ko + j * 6 + 3, none⟩ = some (.string v3) ∧ w'.cell? ⟨kb, ko + j * 6 + 4, none⟩ = some (.slice l1 l2 l3) ∧ w'.cell? ⟨kb, ko + j * 6 + 5, none⟩ = some (.slice q1 q2 q3)) 11 mx ?_ (fun hHeld => ?_)
        · (try dsimp only)
          exact HCEL.out _ (fun k _ => rfl)
        refine wpAnyL_take (i := 0) (v := ?_) rfl (by kernel_rfl) (by kernel_rfl) (by kernel_rfl) (by kernel_rfl) (fun _ _ _ h => h) (Or.inl ⟨by rfl, ?_⟩) (by assumption) ?_
        rotate_left
        · (intro w hSw; (try dsimp only at hSw); go_simp; (try with_reducible rfl))
        refine wpAnyL_take (i := 1) (v := ?_) rfl (by kernel_rfl) (by kernel_rfl) (by kernel_rfl) (by kernel_rfl) (fun _ _ _ h => h) (Or.inl ⟨by rfl, ?_⟩) (by assumption) ?_
        rotate_left
        · (intro w hSw; (try dsimp only at hSw); go_simp; (try with_reducible rfl))
        refine wpAnyL_take (i := 2) (v := ?_) rfl (by kernel_rfl) (by kernel_rfl) (by kernel_rfl) (by kernel_rfl) (fun _ _ _ h => h) (Or.inl ⟨by rfl, ?_⟩) (by assumption) ?_
        rotate_left
        · (intro w hSw; (try dsimp only at hSw); go_simp; (try with_reducible rfl))
        refine wpAnyL_take (i := 3) (v := ?_) rfl (by kernel_rfl) (by kernel_rfl) (by kernel_rfl) (by kernel_rfl) (fun _ _ _ h => h) (Or.inl ⟨by rfl, ?_⟩) (by assumption) ?_
        rotate_left
        · (intro w hSw; (try dsimp only at hSw); go_simp; (try with_reducible rfl))
        refine wpAnyL_take (i := 4) (v := ?_) rfl (by kernel_rfl) (by kernel_rfl) (by kernel_rfl) (by kernel_rfl) (fun _ _ _ h => h) (Or.inl ⟨by rfl, ?_⟩) (by assumption) ?_
        rotate_left
        · (intro w hSw; (try dsimp only at hSw); go_simp; (try with_reducible rfl))
        refine wpAnyL_take (i := 5) (v := ?_) rfl (by kernel_rfl) (by kernel_rfl) (by kernel_rfl) (by kernel_rfl) (fun _ _ _ h => h) (Or.inl ⟨by rfl, ?_⟩) (by assumption) ?_
        rotate_left
        · (intro w hSw; (try dsimp only at hSw); go_simp; (try with_reducible rfl))
        refine wpAnyL_take (i := 6) (v := ?_) rfl (by kernel_rfl) (by kernel_rfl) (by kernel_rfl) (by kernel_rfl) (fun _ _ _ h => h) (Or.inl ⟨by rfl, ?_⟩) (by assumption) ?_
        rotate_left
        · (intro w hSw; (try dsimp only at hSw); go_simp; (try with_reducible rfl))
        refine wpAnyL_one (i := 7) (by kernel_rfl) rfl (fun K hK => ?_)
        go_simp
        go_at_call 40
        refine HCALL.mono ?_
        rintro e w5 ⟨v', rfl, ⟨u0, u1, u2, u3, r1, r2, r3, s1', s2', s3', rfl⟩, htf5, hb5⟩
        have HTF5 := Hid.mk htf5
        have HB5 : Hid (RowKit.Below wr.heap.size wr w5) := (Below.refl _ _).drew.trans hb5
        have hsz5 := HB5.out.size
        clear htf5 hb5
        have HOWN6 : Hid ((w5.alloc (.cells #[.int .i64 u0, .int .i64 u1, .bool u2, .string u3, .slice r1 r2 r3, .slice s1' s2' s3'] 38)).ownsRow (w.heap.size + 3) 38 6 (.slice a j cap) j xs) := (owns_block HOWN.out (fun g hg => HB5.out.block g (by subst hg; exact (World.ownsRow.lt HOWN.out g rfl).2))).alloc _
        have HNEWS := Hid.mk (World.news_of_block (cs := #[.int .i64 u0, .int .i64 u1, .bool u2, .string u3, .slice r1 r2 r3, .slice s1' s2' s3']) (t := 38) (fr := (0, 0)) (alloc_new w5 (.cells #[.int .i64 u0, .int .i64 u1, .bool u2, .string u3, .slice r1 r2 r3, .slice s1' s2' s3'] 38)))
        dsimp only
        refine hK.out _ _ ?_ (fun hHeld => ?_)
        · (try dsimp only)
          exact HCEL.out _ (fun k hk => HB5.out.block k (by omega))
        clear hK K
        refine wpAnyL_one (i := 8) (by kernel_rfl) rfl (fun K hK => ?_)
        go_simp
        refine hK.out _ _ ?_ (fun hHeld => ?_)
        · (try dsimp only)
          exact HCEL.out _ (fun k hk => (Below.heap_alloc _ _ k (by omega)).trans (HB5.out.block k (by omega)))
        clear hK K
        refine wpAnyL_one (i := 9) (by kernel_rfl) rfl (fun K hK => ?_)
        refine step_append_lies _ (by rfl) _ _ _ (by rfl) (w.heap.size + 3) 38 i0 _ 6 88 Tryz.underlying36 hi iz0 iz1 iz2 rfl (by decide) (.slice a j cap) j xs (by rfl) HOWN6.out ⟨w5.heap.size, 0, none⟩ 1 1 [.int .i64 u0, .int .i64 u1, .bool u2, .string u3, .slice r1 r2 r3, .slice s1' s2' s3'] (by rfl) (by rfl) HNEWS.out (by simp [Value.oneCell']) (by omega) (by simp [maxLen]; omega) (by omega) (by simp; omega) (w5.heap.size + 1) (by simp) ?_
        intro g7 c7 W7 hown7 hgr7 hat7 hlt7
        have HOWN7 := Hid.mk hown7
        have HGR7 := Hid.mk hgr7
        have HAT7 := Hid.mk hat7
        have HBL7 : Hid (∀ k, k < w5.heap.size + 1 → ownB a k = false → W7.heap[k]? = (w5.alloc (.cells #[.int .i64 u0, .int .i64 u1, .bool u2, .string u3, .slice r1 r2 r3, .slice s1' s2' s3'] 38)).heap[k]?) := fun k hk ho => hgr7.block k (by simpa using hk) (ownB_none ho)
        have HCE7 := Hid.mk (HCEL.out W7 (fun k hk => (HBL7.out k (by omega) (by cases ho : ownB a k with | false => rfl | true => exact absurd (HRB.out k ho).1 (by omega))).trans ((Below.heap_alloc _ _ k (by omega)).trans (HB5.out.block k (by omega)))))
        have HZ7 : Hid (W7.heap[w.heap.size + 1 + 1]? = some (.cells #[.int .i64 7, .int .i64 0, .bool false, .string { data := #[] }, .slice none 0 0, .slice a j cap] 38 (0, 0))) := (HBL7.out _ (by omega) (by cases ho : ownB a (w.heap.size + 1 + 1) with | false => rfl | true => exact absurd (HRB.out _ ho).1 (by omega))).trans ((Below.heap_alloc _ _ _ (by omega)).trans ((HB5.out.block _ (by omega)).trans HZR.out))
        have fz7 := frz HZ7.out
        have z75 := (cells6 HZ7.out).2.2.2.2.2.1
        clear hown7 hgr7 hat7
        refine hK.out _ _ ?_ (fun hHeld => ?_)
        · (try dsimp only)
          exact HCE7.out
        clear hK K
        refine wpAnyL_take (i := 10) (v := ?_) rfl (by kernel_rfl) (by kernel_rfl) (by kernel_rfl) (by kernel_rfl) (fun _ _ _ h => h) (Or.inl ⟨by rfl, ?_⟩) (by assumption) ?_
        rotate_left
        · (intro w hSw; (try dsimp only at hSw); go_simp; (try with_reducible rfl))
        refine wpAnyL_last (by kernel_rfl) rfl (by kernel_rfl) (fun K hK => ?_)
        go_simp
        refine hK.out _ _ ?_
        clear hK K
        go_wp2
        have KZ : Kept (fun k => k = w.heap.size + 1 + 1) W7 (W7.setCell ⟨w.heap.size + 1 + 1, 5, none⟩ (.slice (some ⟨g7, 0, none⟩) (j + 1) c7)) := (Kept.refl (fun k => k = w.heap.size + 1 + 1) W7).setCell (p := ⟨w.heap.size + 1 + 1, 5, none⟩) rfl _
        refine ⟨⟨j + 1, some ⟨g7, 0, none⟩, c7, hlt, by go_num, ?_, set5_heap HZ7.out, ?_⟩, by simp [intOf]; omega⟩
        · rw [HTK.out]
          refine RowF.move (w := W7) ?_ (fun k hk => by simp; omega) KZ.size (fun k h1 h2 => KZ.block k h1 (fun e => by subst e; exact absurd h2 (by simp)))
          refine RowF.snoc (w := w5.alloc (.cells #[.int .i64 u0, .int .i64 u1, .bool u2, .string u3, .slice r1 r2 r3, .slice s1' s2' s3'] 38)) (a := a) (cap := cap) (xs := xs) (kvs := kvs) (fun j' t' hj' => ⟨(HKV.out j' t' hj').1, ((HKV.out j' t' hj').2.on HB5.out).on ((Below.refl _ _).alloc (Nat.le_refl _) _)⟩) HXL.out (by rw [HLJ.out]; exact HOWN7.out) (by rw [HLJ.out]; exact HGR7.out) (by rw [HLJ.out]; simpa using HAT7.out) ?_
          refine HTF5.out.move (by simp) (fun k h1 h2 => ⟨?_, Below.heap_alloc _ _ k h1⟩)
          have h3 : wr.heap.size ≤ k := by simpa using h2
          cases ho : ownB a k with
          | false => simp; omega
          | true => exact absurd (HRB.out k ho).2 (by omega)
        · refine HBR.out.trans (((Kept.of_below HB5.out).alloc (.cells #[.int .i64 u0, .int .i64 u1, .bool u2, .string u3, .slice r1 r2 r3, .slice s1' s2' s3'] 38)).trans (Kept.trans (b := W7) ⟨HGR7.out.os, HGR7.out.tape, HGR7.out.output, HGR7.out.size, fun k hk hn => HGR7.out.block k hk (fun e => ?_)⟩ (KZ.imp (fun k _ h => Or.inl h))))
          have := (World.ownsRow.lt HOWN.out k e.symm).1
          omega
      · obtain rfl : j = ks.length := by omega
        have hby := (HBR.out.block (w.heap.size + 1) (by omega) (by omega)).trans HY1.out
        obtain ⟨y0, y1, y2, y3, y4, y5, y6⟩ := cells6 hby
        have fy := frz hby
        clear hby
        have HLJ : Hid (((ks.take ks.length).map cleanT).length = ks.length) := by unfold Hid; rw [List.length_map, List.length_take]; omega
        have HT : Hid (R = .mk 7 0 false { data := #[] } [] ((ks.take ks.length).map cleanT)) := by unfold Hid; rw [HR.out, List.take_length]
        generalize (ks.take ks.length).map cleanT = TS at *
        go_wp2
        refine bodyPost_ret (v := .agg #[.int .i64 7, .int .i64 0, .bool false, .string { data := #[] }, .slice none 0 0, .slice a ks.length cap]) (by simp [results, Tryz.results40, go_sem, y0, y1, y2, y3, y4, y5]) rfl ⟨_, rfl, ⟨_, _, _, _, _, _, _, _, _, _, rfl⟩, ?_, ?_⟩
        all_goals have KF := keep6 (P := fun k => k = w.heap.size + 1) (w := wr) (b := w.heap.size + 1) (a0 := .int .i64 7) (a1 := .int .i64 0) (a2 := .bool false) (a3 := .string { data := #[] }) (a4 := .slice none 0 0) (a5 := .slice a ks.length cap) rfl
        · rw [HT.out]
          have hrow := HROW.out.move (fun k hk => by simp; omega) KF.size (fun k h1 h2 => KF.block k h1 (fun e => by subst e; exact absurd h2 (by simp)))
          have hd2 := hrow.done (fun k hk => by simp; omega) (f := 7) (n := 0) (hd := false) (nm := { data := #[] }) (la := none) (lc := 0) (ls := []) (Or.inl rfl) (fun _ => rfl) (Nat.le_refl _) (by omega)
          rw [HLJ.out] at hd2
          exact hd2.sub (fun k hk => by simp at hk ⊢; omega)
        · exact HG1.out.below.trans (Below.trans (HBR.out.below (by omega) (fun k hk => by omega)) (KF.below (by omega) (fun k hk => by omega)))

set_option maxRecDepth 100000 in
set_option maxHeartbeats 8000000 in
theorem Clean8 (n : Int) (hd : Bool) (nm : ByteArray) (ls : List LvT) (ks : List Tm) (ih : ∀ k ∈ ks, ∀ (v : Value) (w : World), smT 1000000 k → formedB k = true → TV w v k → Calls Tryz.prog 40 #[v] w fun e w' => ∃ v', e = .returned v' ∧ ShapeT v' ∧ TF w' (fun k => decide (k < w.heap.size)) v' (cleanT k) ∧ RowKit.Below w.heap.size w w') : ∀ (v : Value) (w : World), smT 1000000 (.mk 8 n hd nm ls ks) → formedB (.mk 8 n hd nm ls ks) = true → TV w v (.mk 8 n hd nm ls ks) → Calls Tryz.prog 40 #[v] w fun e w' => ∃ v', e = .returned v' ∧ ShapeT v' ∧ TF w' (fun k => decide (k < w.heap.size)) v' (cleanT (.mk 8 n hd nm ls ks)) ∧ RowKit.Below w.heap.size w w' := by
  intro v w hsm hfm hv
  obtain ⟨-, s1, s2, s3, s4⟩ := (smT_mk _ _ _ _ _ _ _).1 hsm
  obtain ⟨hkl, hkf⟩ := formed_len hfm
  have mx := mixed
  obtain ⟨i0, hi, iz0, iz1, iz2⟩ := info_parts infoTerm
  obtain ⟨l0, lh, lz0, lz1, lz2⟩ := info_parts infoLevel
  cases hv with
  | @mk _ _ _ _ _ _ la lc ka kc kb ko hl hln hlc hlm hkn hkc hkm hk kids =>
    have HL := Hid.mk hl
    have HK := Hid.mk hk
    have HKIDS := Hid.mk kids
    have HIH := Hid.mk ih
    have HS2 := Hid.mk s2
    have HS4 := Hid.mk s4
    have HKF := Hid.mk hkf
    clear hk kids ih hl hln hkn s2 s4 hsm hkf hfm
    have HR : Hid (cleanT (.mk 8 n hd nm ls ks) = .mk 8 0 false { data := #[] } [] (ks.map cleanT)) := by unfold Hid; rw [clean_mk]; rfl
    generalize cleanT (.mk 8 n hd nm ls ks) = R at HR ⊢
    clear hkl
    obtain ⟨W1, hW1⟩ : ∃ W1, ((w.alloc (.cells #[.int .i64 8, .int .i64 n, .bool hd, .string nm, .slice la ls.length lc, .slice ka ks.length kc] 38)).alloc (.cells #[.int .i64 0, .int .i64 0, .bool false, .string { data := #[] }, .slice none 0 0, .slice none 0 0] 38)).alloc (.cells #[.int .i64 8, .int .i64 0, .bool false, .string { data := #[] }, .slice none 0 0, .slice none 0 0] 38) = W1 := ⟨_, rfl⟩
    have HG1 : Hid (Grew w W1) := by unfold Hid; rw [← hW1]; exact (((Grew.refl w).alloc _).alloc _).alloc _
    have HX1 : Hid (W1.heap[w.heap.size]? = some (.cells #[.int .i64 8, .int .i64 n, .bool hd, .string nm, .slice la ls.length lc, .slice ka ks.length kc] 38 (0, 0))) := by unfold Hid; rw [← hW1]; exact alloc_old box_at _
    have HY1 : Hid (W1.heap[w.heap.size + 1]? = some (.cells #[.int .i64 0, .int .i64 0, .bool false, .string { data := #[] }, .slice none 0 0, .slice none 0 0] 38 (0, 0))) := by unfold Hid; rw [← hW1]; exact on1
    have HZ1 : Hid (W1.heap[w.heap.size + 1 + 1]? = some (.cells #[.int .i64 8, .int .i64 0, .bool false, .string { data := #[] }, .slice none 0 0, .slice none 0 0] 38 (0, 0))) := by unfold Hid; rw [← hW1]; exact on2
    have hsz1 : W1.heap.size = w.heap.size + 1 + 1 + 1 := by rw [← hW1]; simp
    have HW1 := Hid.mk hW1
    clear hW1
    go_enter Tryz.func40, Tryz.ntmps40
    go_wp2
    rw [HW1.out]
    go_loopw [5] (fun i wr => ∃ (j : Nat) (a : Option Addr) (cap : Nat), j ≤ ks.length ∧ i = .int .i64 j ∧ RowF wr (w.heap.size + 3) (fun k => decide (k < w.heap.size + 3)) a cap ((ks.take j).map cleanT) ∧ wr.heap[w.heap.size + 1 + 1]? = some (.cells #[.int .i64 8, .int .i64 0, .bool false, .string { data := #[] }, .slice none 0 0, .slice a j cap] 38 (0, 0)) ∧ Kept (fun k => k = w.heap.size + 1 + 1 ∨ w.heap.size + 3 ≤ k) W1 wr) (fun i _ => ks.length - (intOf i).toNat)
    case atStart => exact ⟨0, none, 0, Nat.zero_le _, rfl, RowF.nil W1 _ _, HZ1.out, Kept.refl _ _⟩
    case round =>
      obtain ⟨j, a, cap, hj, rfl, hrow, hz, hbr⟩ := hrel
      have HROW := Hid.mk hrow
      have HZR := Hid.mk hz
      have HBR := Hid.mk hbr
      have hszr := hbr.size
      clear hrow hz hbr
      have hbx := (HBR.out.block w.heap.size (by omega) (by omega)).trans HX1.out
      have HXR := Hid.mk hbx
      obtain ⟨x0, x1, x2, x3, x4, x5, x6⟩ := cells6 hbx
      obtain ⟨z0, z1, z2, z3, z4, z5, z6⟩ := cells6 HZR.out
      have fz := frz HZR.out
      clear hbx
      by_cases hlt : j < ks.length
      · obtain ⟨rfl, hkb0⟩ := HK.out (by intro e; rw [e] at hlt; simp at hlt)
        have hkt : ks[j]? = some ks[j] := List.getElem?_eq_getElem hlt
        have hmem : ks[j] ∈ ks := List.getElem_mem hlt
        have HLJ : Hid (((ks.take j).map cleanT).length = j) := by unfold Hid; rw [List.length_map, List.length_take]; omega
        have HTK : Hid ((ks.take (j + 1)).map cleanT = (ks.take j).map cleanT ++ [cleanT ks[j]]) := by unfold Hid; rw [List.take_succ_eq_append_getElem hlt, List.map_append]; rfl
        obtain ⟨xs, kvs, hown, hkv⟩ := HROW.out.go
        rw [HLJ.out] at hown
        have HRB : Hid (∀ k, ownB a k = true → w.heap.size + 3 ≤ k ∧ k < wr.heap.size) := fun k hk => row_block hown hk
        have hold : RowKit.Below w.heap.size w wr := HG1.out.below.trans (HBR.out.below (by omega) (fun k hk => by omega))
        obtain ⟨v0, v1, v2, v3, l1, l2, l3, q1, q2, q3, c0, c1, c2, c3, c4, c5, htv⟩ := ((HKIDS.out j _ hkt).on hold).valE
        have hkr : kb < wr.heap.size := World.block_lt_of_cell? wr _ c0
        have HCALL := HIH.out ks[j] hmem _ wr.drew (HS4.out _ hmem) (HKF.out _ hmem) (htv.on (Below.refl _ _).drew)
        have hwd : wr.drew.heap.size = wr.heap.size := rfl
        rw [hwd] at HCALL
        have HOWN := Hid.mk hown
        have HKV := Hid.mk hkv
        have HXL : Hid (xs.length = ((ks.take j).map cleanT).length * 6) := by unfold Hid; rw [HLJ.out, hown.1]
        have zj : (j : Int) < (ks.length : Int) := by omega
        have HCEL : Hid (∀ W : World, (∀ k, k < w.heap.size + 3 → W.heap[k]? = wr.heap[k]?) → W.cell? ⟨w.heap.size + 1 + 1, 5, none⟩ = some (.slice a j cap) ∧ W.cell? ⟨w.heap.size, 5, none⟩ = some (.slice (some ⟨kb, ko, none⟩) ks.length kc) ∧ W.cell? ⟨kb, ko + j * 6, none⟩ = some (.int .i64 v0) ∧ W.cell? ⟨kb, ko + j * 6 + 1, none⟩ = some (.int .i64 v1) ∧ W.cell? ⟨kb, ko + j * 6 + 2, none⟩ = some (.bool v2) ∧ W.cell? ⟨kb, ko + j * 6 + 3, none⟩ = some (.string v3) ∧ W.cell? ⟨kb, ko + j * 6 + 4, none⟩ = some (.slice l1 l2 l3) ∧ W.cell? ⟨kb, ko + j * 6 + 5, none⟩ = some (.slice q1 q2 q3)) := fun W h => by
          have hZ := h (w.heap.size + 1 + 1) (by omega)
          have hX := h w.heap.size (by omega)
          have hB := h kb (by omega)
          exact ⟨(World.cell?_of_block (a := ⟨w.heap.size + 1 + 1, 5, none⟩) hZ).trans z5, (World.cell?_of_block (a := ⟨w.heap.size, 5, none⟩) hX).trans x5, (World.cell?_of_block (a := ⟨kb, ko + j * 6, none⟩) hB).trans c0, (World.cell?_of_block (a := ⟨kb, ko + j * 6 + 1, none⟩) hB).trans c1, (World.cell?_of_block (a := ⟨kb, ko + j * 6 + 2, none⟩) hB).trans c2, (World.cell?_of_block (a := ⟨kb, ko + j * 6 + 3, none⟩) hB).trans c3, (World.cell?_of_block (a := ⟨kb, ko + j * 6 + 4, none⟩) hB).trans c4, (World.cell?_of_block (a := ⟨kb, ko + j * 6 + 5, none⟩) hB).trans c5⟩
        clear htv hkt hmem hown hkv hold hwd
        generalize cleanT ks[j] = RK at *
        generalize (ks.take j).map cleanT = TS at *
        go_wp2_with fail
        refine wp_region_last (S := fun w' => w'.cell? ⟨w.heap.size + 1 + 1, 5, none⟩ = some (.slice a j cap) ∧ w'.cell? ⟨w.heap.size, 5, none⟩ = some (.slice (some ⟨kb, ko, none⟩) ks.length kc) ∧ w'.cell? ⟨kb, ko + j * 6, none⟩ = some (.int .i64 v0) ∧ w'.cell? ⟨kb, ko + j * 6 + 1, none⟩ = some (.int .i64 v1) ∧ w'.cell? ⟨kb, ko + j * 6 + 2, none⟩ = some (.bool v2) ∧ w'.cell? ⟨kb, ko + j * 6 + 3, none⟩ = some (.string v3) ∧ w'.cell? ⟨kb, ko + j * 6 + 4, none⟩ = some (.slice l1 l2 l3) ∧ w'.cell? ⟨kb, ko + j * 6 + 5, none⟩ = some (.slice q1 q2 q3)) 11 mx ?_ (fun hHeld => ?_)
        · (try dsimp only)
          exact HCEL.out _ (fun k _ => rfl)
        refine wpAnyL_take (i := 0) (v := ?_) rfl (by kernel_rfl) (by kernel_rfl) (by kernel_rfl) (by kernel_rfl) (fun _ _ _ h => h) (Or.inl ⟨by rfl, ?_⟩) (by assumption) ?_
        rotate_left
        · (intro w hSw; (try dsimp only at hSw); go_simp; (try with_reducible rfl))
        refine wpAnyL_take (i := 1) (v := ?_) rfl (by kernel_rfl) (by kernel_rfl) (by kernel_rfl) (by kernel_rfl) (fun _ _ _ h => h) (Or.inl ⟨by rfl, ?_⟩) (by assumption) ?_
        rotate_left
        · (intro w hSw; (try dsimp only at hSw); go_simp; (try with_reducible rfl))
        refine wpAnyL_take (i := 2) (v := ?_) rfl (by kernel_rfl) (by kernel_rfl) (by kernel_rfl) (by kernel_rfl) (fun _ _ _ h => h) (Or.inl ⟨by rfl, ?_⟩) (by assumption) ?_
        rotate_left
        · (intro w hSw; (try dsimp only at hSw); go_simp; (try with_reducible rfl))
        refine wpAnyL_take (i := 3) (v := ?_) rfl (by kernel_rfl) (by kernel_rfl) (by kernel_rfl) (by kernel_rfl) (fun _ _ _ h => h) (Or.inl ⟨by rfl, ?_⟩) (by assumption) ?_
        rotate_left
        · (intro w hSw; (try dsimp only at hSw); go_simp; (try with_reducible rfl))
        refine wpAnyL_take (i := 4) (v := ?_) rfl (by kernel_rfl) (by kernel_rfl) (by kernel_rfl) (by kernel_rfl) (fun _ _ _ h => h) (Or.inl ⟨by rfl, ?_⟩) (by assumption) ?_
        rotate_left
        · (intro w hSw; (try dsimp only at hSw); go_simp; (try with_reducible rfl))
        refine wpAnyL_take (i := 5) (v := ?_) rfl (by kernel_rfl) (by kernel_rfl) (by kernel_rfl) (by kernel_rfl) (fun _ _ _ h => h) (Or.inl ⟨by rfl, ?_⟩) (by assumption) ?_
        rotate_left
        · (intro w hSw; (try dsimp only at hSw); go_simp; (try with_reducible rfl))
        refine wpAnyL_take (i := 6) (v := ?_) rfl (by kernel_rfl) (by kernel_rfl) (by kernel_rfl) (by kernel_rfl) (fun _ _ _ h => h) (Or.inl ⟨by rfl, ?_⟩) (by assumption) ?_
        rotate_left
        · (intro w hSw; (try dsimp only at hSw); go_simp; (try with_reducible rfl))
        refine wpAnyL_one (i := 7) (by kernel_rfl) rfl (fun K hK => ?_)
        go_simp
        go_at_call 40
        refine HCALL.mono ?_
        rintro e w5 ⟨v', rfl, ⟨u0, u1, u2, u3, r1, r2, r3, s1', s2', s3', rfl⟩, htf5, hb5⟩
        have HTF5 := Hid.mk htf5
        have HB5 : Hid (RowKit.Below wr.heap.size wr w5) := (Below.refl _ _).drew.trans hb5
        have hsz5 := HB5.out.size
        clear htf5 hb5
        have HOWN6 : Hid ((w5.alloc (.cells #[.int .i64 u0, .int .i64 u1, .bool u2, .string u3, .slice r1 r2 r3, .slice s1' s2' s3'] 38)).ownsRow (w.heap.size + 3) 38 6 (.slice a j cap) j xs) := (owns_block HOWN.out (fun g hg => HB5.out.block g (by subst hg; exact (World.ownsRow.lt HOWN.out g rfl).2))).alloc _
        have HNEWS := Hid.mk (World.news_of_block (cs := #[.int .i64 u0, .int .i64 u1, .bool u2, .string u3, .slice r1 r2 r3, .slice s1' s2' s3']) (t := 38) (fr := (0, 0)) (alloc_new w5 (.cells #[.int .i64 u0, .int .i64 u1, .bool u2, .string u3, .slice r1 r2 r3, .slice s1' s2' s3'] 38)))
        dsimp only
        refine hK.out _ _ ?_ (fun hHeld => ?_)
        · (try dsimp only)
          exact HCEL.out _ (fun k hk => HB5.out.block k (by omega))
        clear hK K
        refine wpAnyL_one (i := 8) (by kernel_rfl) rfl (fun K hK => ?_)
        go_simp
        refine hK.out _ _ ?_ (fun hHeld => ?_)
        · (try dsimp only)
          exact HCEL.out _ (fun k hk => (Below.heap_alloc _ _ k (by omega)).trans (HB5.out.block k (by omega)))
        clear hK K
        refine wpAnyL_one (i := 9) (by kernel_rfl) rfl (fun K hK => ?_)
        refine step_append_lies _ (by rfl) _ _ _ (by rfl) (w.heap.size + 3) 38 i0 _ 6 88 Tryz.underlying36 hi iz0 iz1 iz2 rfl (by decide) (.slice a j cap) j xs (by rfl) HOWN6.out ⟨w5.heap.size, 0, none⟩ 1 1 [.int .i64 u0, .int .i64 u1, .bool u2, .string u3, .slice r1 r2 r3, .slice s1' s2' s3'] (by rfl) (by rfl) HNEWS.out (by simp [Value.oneCell']) (by omega) (by simp [maxLen]; omega) (by omega) (by simp; omega) (w5.heap.size + 1) (by simp) ?_
        intro g7 c7 W7 hown7 hgr7 hat7 hlt7
        have HOWN7 := Hid.mk hown7
        have HGR7 := Hid.mk hgr7
        have HAT7 := Hid.mk hat7
        have HBL7 : Hid (∀ k, k < w5.heap.size + 1 → ownB a k = false → W7.heap[k]? = (w5.alloc (.cells #[.int .i64 u0, .int .i64 u1, .bool u2, .string u3, .slice r1 r2 r3, .slice s1' s2' s3'] 38)).heap[k]?) := fun k hk ho => hgr7.block k (by simpa using hk) (ownB_none ho)
        have HCE7 := Hid.mk (HCEL.out W7 (fun k hk => (HBL7.out k (by omega) (by cases ho : ownB a k with | false => rfl | true => exact absurd (HRB.out k ho).1 (by omega))).trans ((Below.heap_alloc _ _ k (by omega)).trans (HB5.out.block k (by omega)))))
        have HZ7 : Hid (W7.heap[w.heap.size + 1 + 1]? = some (.cells #[.int .i64 8, .int .i64 0, .bool false, .string { data := #[] }, .slice none 0 0, .slice a j cap] 38 (0, 0))) := (HBL7.out _ (by omega) (by cases ho : ownB a (w.heap.size + 1 + 1) with | false => rfl | true => exact absurd (HRB.out _ ho).1 (by omega))).trans ((Below.heap_alloc _ _ _ (by omega)).trans ((HB5.out.block _ (by omega)).trans HZR.out))
        have fz7 := frz HZ7.out
        have z75 := (cells6 HZ7.out).2.2.2.2.2.1
        clear hown7 hgr7 hat7
        refine hK.out _ _ ?_ (fun hHeld => ?_)
        · (try dsimp only)
          exact HCE7.out
        clear hK K
        refine wpAnyL_take (i := 10) (v := ?_) rfl (by kernel_rfl) (by kernel_rfl) (by kernel_rfl) (by kernel_rfl) (fun _ _ _ h => h) (Or.inl ⟨by rfl, ?_⟩) (by assumption) ?_
        rotate_left
        · (intro w hSw; (try dsimp only at hSw); go_simp; (try with_reducible rfl))
        refine wpAnyL_last (by kernel_rfl) rfl (by kernel_rfl) (fun K hK => ?_)
        go_simp
        refine hK.out _ _ ?_
        clear hK K
        go_wp2
        have KZ : Kept (fun k => k = w.heap.size + 1 + 1) W7 (W7.setCell ⟨w.heap.size + 1 + 1, 5, none⟩ (.slice (some ⟨g7, 0, none⟩) (j + 1) c7)) := (Kept.refl (fun k => k = w.heap.size + 1 + 1) W7).setCell (p := ⟨w.heap.size + 1 + 1, 5, none⟩) rfl _
        refine ⟨⟨j + 1, some ⟨g7, 0, none⟩, c7, hlt, by go_num, ?_, set5_heap HZ7.out, ?_⟩, by simp [intOf]; omega⟩
        · rw [HTK.out]
          refine RowF.move (w := W7) ?_ (fun k hk => by simp; omega) KZ.size (fun k h1 h2 => KZ.block k h1 (fun e => by subst e; exact absurd h2 (by simp)))
          refine RowF.snoc (w := w5.alloc (.cells #[.int .i64 u0, .int .i64 u1, .bool u2, .string u3, .slice r1 r2 r3, .slice s1' s2' s3'] 38)) (a := a) (cap := cap) (xs := xs) (kvs := kvs) (fun j' t' hj' => ⟨(HKV.out j' t' hj').1, ((HKV.out j' t' hj').2.on HB5.out).on ((Below.refl _ _).alloc (Nat.le_refl _) _)⟩) HXL.out (by rw [HLJ.out]; exact HOWN7.out) (by rw [HLJ.out]; exact HGR7.out) (by rw [HLJ.out]; simpa using HAT7.out) ?_
          refine HTF5.out.move (by simp) (fun k h1 h2 => ⟨?_, Below.heap_alloc _ _ k h1⟩)
          have h3 : wr.heap.size ≤ k := by simpa using h2
          cases ho : ownB a k with
          | false => simp; omega
          | true => exact absurd (HRB.out k ho).2 (by omega)
        · refine HBR.out.trans (((Kept.of_below HB5.out).alloc (.cells #[.int .i64 u0, .int .i64 u1, .bool u2, .string u3, .slice r1 r2 r3, .slice s1' s2' s3'] 38)).trans (Kept.trans (b := W7) ⟨HGR7.out.os, HGR7.out.tape, HGR7.out.output, HGR7.out.size, fun k hk hn => HGR7.out.block k hk (fun e => ?_)⟩ (KZ.imp (fun k _ h => Or.inl h))))
          have := (World.ownsRow.lt HOWN.out k e.symm).1
          omega
      · obtain rfl : j = ks.length := by omega
        have hby := (HBR.out.block (w.heap.size + 1) (by omega) (by omega)).trans HY1.out
        obtain ⟨y0, y1, y2, y3, y4, y5, y6⟩ := cells6 hby
        have fy := frz hby
        clear hby
        have HLJ : Hid (((ks.take ks.length).map cleanT).length = ks.length) := by unfold Hid; rw [List.length_map, List.length_take]; omega
        have HT : Hid (R = .mk 8 0 false { data := #[] } [] ((ks.take ks.length).map cleanT)) := by unfold Hid; rw [HR.out, List.take_length]
        generalize (ks.take ks.length).map cleanT = TS at *
        go_wp2
        refine bodyPost_ret (v := .agg #[.int .i64 8, .int .i64 0, .bool false, .string { data := #[] }, .slice none 0 0, .slice a ks.length cap]) (by simp [results, Tryz.results40, go_sem, y0, y1, y2, y3, y4, y5]) rfl ⟨_, rfl, ⟨_, _, _, _, _, _, _, _, _, _, rfl⟩, ?_, ?_⟩
        all_goals have KF := keep6 (P := fun k => k = w.heap.size + 1) (w := wr) (b := w.heap.size + 1) (a0 := .int .i64 8) (a1 := .int .i64 0) (a2 := .bool false) (a3 := .string { data := #[] }) (a4 := .slice none 0 0) (a5 := .slice a ks.length cap) rfl
        · rw [HT.out]
          have hrow := HROW.out.move (fun k hk => by simp; omega) KF.size (fun k h1 h2 => KF.block k h1 (fun e => by subst e; exact absurd h2 (by simp)))
          have hd2 := hrow.done (fun k hk => by simp; omega) (f := 8) (n := 0) (hd := false) (nm := { data := #[] }) (la := none) (lc := 0) (ls := []) (Or.inl rfl) (fun _ => rfl) (Nat.le_refl _) (by omega)
          rw [HLJ.out] at hd2
          exact hd2.sub (fun k hk => by simp at hk ⊢; omega)
        · exact HG1.out.below.trans (Below.trans (HBR.out.below (by omega) (fun k hk => by omega)) (KF.below (by omega) (fun k hk => by omega)))
end Go.Proofs.YtndjdeiccmhelaaGreat

/- The contract of telamonref1.Clean, form by form. -/
namespace Go.Proofs.YtndjdeiccmhelaaGreat
open Go.RowKit Go.Sort

set_option maxRecDepth 100000 in
set_option maxHeartbeats 8000000 in
theorem Clean3 (n : Int) (hd : Bool) (nm : ByteArray) (ls : List LvT) (ks : List Tm) (ih : ∀ k ∈ ks, ∀ (v : Value) (w : World), smT 1000000 k → formedB k = true → TV w v k → Calls Tryz.prog 40 #[v] w fun e w' => ∃ v', e = .returned v' ∧ ShapeT v' ∧ TF w' (fun k => decide (k < w.heap.size)) v' (cleanT k) ∧ RowKit.Below w.heap.size w w') : ∀ (v : Value) (w : World), smT 1000000 (.mk 3 n hd nm ls ks) → formedB (.mk 3 n hd nm ls ks) = true → TV w v (.mk 3 n hd nm ls ks) → Calls Tryz.prog 40 #[v] w fun e w' => ∃ v', e = .returned v' ∧ ShapeT v' ∧ TF w' (fun k => decide (k < w.heap.size)) v' (cleanT (.mk 3 n hd nm ls ks)) ∧ RowKit.Below w.heap.size w w' := by
  intro v w hsm hfm hv
  obtain ⟨-, s1, s2, s3, s4⟩ := (smT_mk _ _ _ _ _ _ _).1 hsm
  obtain ⟨hkl, hkf⟩ := formed_len hfm
  have mx := mixed
  obtain ⟨i0, hi, iz0, iz1, iz2⟩ := info_parts infoTerm
  obtain ⟨l0, lh, lz0, lz1, lz2⟩ := info_parts infoLevel
  cases hv with
  | @mk _ _ _ _ _ _ la lc ka kc kb ko hl hln hlc hlm hkn hkc hkm hk kids =>
    have HL := Hid.mk hl
    have HK := Hid.mk hk
    have HKIDS := Hid.mk kids
    have HIH := Hid.mk ih
    have HS2 := Hid.mk s2
    have HS4 := Hid.mk s4
    have HKF := Hid.mk hkf
    clear hk kids ih hl hln hkn s2 s4 hsm hkf hfm
    have HR : Hid (cleanT (.mk 3 n hd nm ls ks) = .mk 3 0 hd { data := #[] } [] (ks.map cleanT)) := by unfold Hid; rw [clean_mk]; rfl
    generalize cleanT (.mk 3 n hd nm ls ks) = R at HR ⊢
    clear hkl
    obtain ⟨W1, hW1⟩ : ∃ W1, ((w.alloc (.cells #[.int .i64 3, .int .i64 n, .bool hd, .string nm, .slice la ls.length lc, .slice ka ks.length kc] 38)).alloc (.cells #[.int .i64 0, .int .i64 0, .bool false, .string { data := #[] }, .slice none 0 0, .slice none 0 0] 38)).alloc (.cells #[.int .i64 3, .int .i64 0, .bool hd, .string { data := #[] }, .slice none 0 0, .slice none 0 0] 38) = W1 := ⟨_, rfl⟩
    have HG1 : Hid (Grew w W1) := by unfold Hid; rw [← hW1]; exact (((Grew.refl w).alloc _).alloc _).alloc _
    have HX1 : Hid (W1.heap[w.heap.size]? = some (.cells #[.int .i64 3, .int .i64 n, .bool hd, .string nm, .slice la ls.length lc, .slice ka ks.length kc] 38 (0, 0))) := by unfold Hid; rw [← hW1]; exact alloc_old box_at _
    have HY1 : Hid (W1.heap[w.heap.size + 1]? = some (.cells #[.int .i64 0, .int .i64 0, .bool false, .string { data := #[] }, .slice none 0 0, .slice none 0 0] 38 (0, 0))) := by unfold Hid; rw [← hW1]; exact on1
    have HZ1 : Hid (W1.heap[w.heap.size + 1 + 1]? = some (.cells #[.int .i64 3, .int .i64 0, .bool hd, .string { data := #[] }, .slice none 0 0, .slice none 0 0] 38 (0, 0))) := by unfold Hid; rw [← hW1]; exact on2
    have hsz1 : W1.heap.size = w.heap.size + 1 + 1 + 1 := by rw [← hW1]; simp
    have HW1 := Hid.mk hW1
    clear hW1
    go_enter Tryz.func40, Tryz.ntmps40
    go_wp2
    rw [HW1.out]
    go_loopw [5] (fun i wr => ∃ (j : Nat) (a : Option Addr) (cap : Nat), j ≤ ks.length ∧ i = .int .i64 j ∧ RowF wr (w.heap.size + 3) (fun k => decide (k < w.heap.size + 3)) a cap ((ks.take j).map cleanT) ∧ wr.heap[w.heap.size + 1 + 1]? = some (.cells #[.int .i64 3, .int .i64 0, .bool hd, .string { data := #[] }, .slice none 0 0, .slice a j cap] 38 (0, 0)) ∧ Kept (fun k => k = w.heap.size + 1 + 1 ∨ w.heap.size + 3 ≤ k) W1 wr) (fun i _ => ks.length - (intOf i).toNat)
    case atStart => exact ⟨0, none, 0, Nat.zero_le _, rfl, RowF.nil W1 _ _, HZ1.out, Kept.refl _ _⟩
    case round =>
      obtain ⟨j, a, cap, hj, rfl, hrow, hz, hbr⟩ := hrel
      have HROW := Hid.mk hrow
      have HZR := Hid.mk hz
      have HBR := Hid.mk hbr
      have hszr := hbr.size
      clear hrow hz hbr
      have hbx := (HBR.out.block w.heap.size (by omega) (by omega)).trans HX1.out
      have HXR := Hid.mk hbx
      obtain ⟨x0, x1, x2, x3, x4, x5, x6⟩ := cells6 hbx
      obtain ⟨z0, z1, z2, z3, z4, z5, z6⟩ := cells6 HZR.out
      have fz := frz HZR.out
      clear hbx
      by_cases hlt : j < ks.length
      · obtain ⟨rfl, hkb0⟩ := HK.out (by intro e; rw [e] at hlt; simp at hlt)
        have hkt : ks[j]? = some ks[j] := List.getElem?_eq_getElem hlt
        have hmem : ks[j] ∈ ks := List.getElem_mem hlt
        have HLJ : Hid (((ks.take j).map cleanT).length = j) := by unfold Hid; rw [List.length_map, List.length_take]; omega
        have HTK : Hid ((ks.take (j + 1)).map cleanT = (ks.take j).map cleanT ++ [cleanT ks[j]]) := by unfold Hid; rw [List.take_succ_eq_append_getElem hlt, List.map_append]; rfl
        obtain ⟨xs, kvs, hown, hkv⟩ := HROW.out.go
        rw [HLJ.out] at hown
        have HRB : Hid (∀ k, ownB a k = true → w.heap.size + 3 ≤ k ∧ k < wr.heap.size) := fun k hk => row_block hown hk
        have hold : RowKit.Below w.heap.size w wr := HG1.out.below.trans (HBR.out.below (by omega) (fun k hk => by omega))
        obtain ⟨v0, v1, v2, v3, l1, l2, l3, q1, q2, q3, c0, c1, c2, c3, c4, c5, htv⟩ := ((HKIDS.out j _ hkt).on hold).valE
        have hkr : kb < wr.heap.size := World.block_lt_of_cell? wr _ c0
        have HCALL := HIH.out ks[j] hmem _ wr.drew (HS4.out _ hmem) (HKF.out _ hmem) (htv.on (Below.refl _ _).drew)
        have hwd : wr.drew.heap.size = wr.heap.size := rfl
        rw [hwd] at HCALL
        have HOWN := Hid.mk hown
        have HKV := Hid.mk hkv
        have HXL : Hid (xs.length = ((ks.take j).map cleanT).length * 6) := by unfold Hid; rw [HLJ.out, hown.1]
        have zj : (j : Int) < (ks.length : Int) := by omega
        have HCEL : Hid (∀ W : World, (∀ k, k < w.heap.size + 3 → W.heap[k]? = wr.heap[k]?) → W.cell? ⟨w.heap.size + 1 + 1, 5, none⟩ = some (.slice a j cap) ∧ W.cell? ⟨w.heap.size, 5, none⟩ = some (.slice (some ⟨kb, ko, none⟩) ks.length kc) ∧ W.cell? ⟨kb, ko + j * 6, none⟩ = some (.int .i64 v0) ∧ W.cell? ⟨kb, ko + j * 6 + 1, none⟩ = some (.int .i64 v1) ∧ W.cell? ⟨kb, ko + j * 6 + 2, none⟩ = some (.bool v2) ∧ W.cell? ⟨kb, ko + j * 6 + 3, none⟩ = some (.string v3) ∧ W.cell? ⟨kb, ko + j * 6 + 4, none⟩ = some (.slice l1 l2 l3) ∧ W.cell? ⟨kb, ko + j * 6 + 5, none⟩ = some (.slice q1 q2 q3)) := fun W h => by
          have hZ := h (w.heap.size + 1 + 1) (by omega)
          have hX := h w.heap.size (by omega)
          have hB := h kb (by omega)
          exact ⟨(World.cell?_of_block (a := ⟨w.heap.size + 1 + 1, 5, none⟩) hZ).trans z5, (World.cell?_of_block (a := ⟨w.heap.size, 5, none⟩) hX).trans x5, (World.cell?_of_block (a := ⟨kb, ko + j * 6, none⟩) hB).trans c0, (World.cell?_of_block (a := ⟨kb, ko + j * 6 + 1, none⟩) hB).trans c1, (World.cell?_of_block (a := ⟨kb, ko + j * 6 + 2, none⟩) hB).trans c2, (World.cell?_of_block (a := ⟨kb, ko + j * 6 + 3, none⟩) hB).trans c3, (World.cell?_of_block (a := ⟨kb, ko + j * 6 + 4, none⟩) hB).trans c4, (World.cell?_of_block (a := ⟨kb, ko + j * 6 + 5, none⟩) hB).trans c5⟩
        clear htv hkt hmem hown hkv hold hwd
        generalize cleanT ks[j] = RK at *
        generalize (ks.take j).map cleanT = TS at *
        go_wp2_with fail
        refine wp_region_last (S := fun w' => w'.cell? ⟨w.heap.size + 1 + 1, 5, none⟩ = some (.slice a j cap) ∧ w'.cell? ⟨w.heap.size, 5, none⟩ = some (.slice (some ⟨kb, ko, none⟩) ks.length kc) ∧ w'.cell? ⟨kb, ko + j * 6, none⟩ = some (.int .i64 v0) ∧ w'.cell? ⟨kb, ko + j * 6 + 1, none⟩ = some (.int .i64 v1) ∧ w'.cell? ⟨kb, ko + j * 6 + 2, none⟩ = some (.bool v2) ∧ w'.cell? ⟨kb, ko + j * 6 + 3, none⟩ = some (.string v3) ∧ w'.cell? ⟨kb, ko + j * 6 + 4, none⟩ = some (.slice l1 l2 l3) ∧ w'.cell? ⟨kb, ko + j * 6 + 5, none⟩ = some (.slice q1 q2 q3)) 11 mx ?_ (fun hHeld => ?_)
        · (try dsimp only)
          exact HCEL.out _ (fun k _ => rfl)
        refine wpAnyL_take (i := 0) (v := ?_) rfl (by kernel_rfl) (by kernel_rfl) (by kernel_rfl) (by kernel_rfl) (fun _ _ _ h => h) (Or.inl ⟨by rfl, ?_⟩) (by assumption) ?_
        rotate_left
        · (intro w hSw; (try dsimp only at hSw); go_simp; (try with_reducible rfl))
        refine wpAnyL_take (i := 1) (v := ?_) rfl (by kernel_rfl) (by kernel_rfl) (by kernel_rfl) (by kernel_rfl) (fun _ _ _ h => h) (Or.inl ⟨by rfl, ?_⟩) (by assumption) ?_
        rotate_left
        · (intro w hSw; (try dsimp only at hSw); go_simp; (try with_reducible rfl))
        refine wpAnyL_take (i := 2) (v := ?_) rfl (by kernel_rfl) (by kernel_rfl) (by kernel_rfl) (by kernel_rfl) (fun _ _ _ h => h) (Or.inl ⟨by rfl, ?_⟩) (by assumption) ?_
        rotate_left
        · (intro w hSw; (try dsimp only at hSw); go_simp; (try with_reducible rfl))
        refine wpAnyL_take (i := 3) (v := ?_) rfl (by kernel_rfl) (by kernel_rfl) (by kernel_rfl) (by kernel_rfl) (fun _ _ _ h => h) (Or.inl ⟨by rfl, ?_⟩) (by assumption) ?_
        rotate_left
        · (intro w hSw; (try dsimp only at hSw); go_simp; (try with_reducible rfl))
        refine wpAnyL_take (i := 4) (v := ?_) rfl (by kernel_rfl) (by kernel_rfl) (by kernel_rfl) (by kernel_rfl) (fun _ _ _ h => h) (Or.inl ⟨by rfl, ?_⟩) (by assumption) ?_
        rotate_left
        · (intro w hSw; (try dsimp only at hSw); go_simp; (try with_reducible rfl))
        refine wpAnyL_take (i := 5) (v := ?_) rfl (by kernel_rfl) (by kernel_rfl) (by kernel_rfl) (by kernel_rfl) (fun _ _ _ h => h) (Or.inl ⟨by rfl, ?_⟩) (by assumption) ?_
        rotate_left
        · (intro w hSw; (try dsimp only at hSw); go_simp; (try with_reducible rfl))
        refine wpAnyL_take (i := 6) (v := ?_) rfl (by kernel_rfl) (by kernel_rfl) (by kernel_rfl) (by kernel_rfl) (fun _ _ _ h => h) (Or.inl ⟨by rfl, ?_⟩) (by assumption) ?_
        rotate_left
        · (intro w hSw; (try dsimp only at hSw); go_simp; (try with_reducible rfl))
        refine wpAnyL_one (i := 7) (by kernel_rfl) rfl (fun K hK => ?_)
        go_simp
        go_at_call 40
        refine HCALL.mono ?_
        rintro e w5 ⟨v', rfl, ⟨u0, u1, u2, u3, r1, r2, r3, s1', s2', s3', rfl⟩, htf5, hb5⟩
        have HTF5 := Hid.mk htf5
        have HB5 : Hid (RowKit.Below wr.heap.size wr w5) := (Below.refl _ _).drew.trans hb5
        have hsz5 := HB5.out.size
        clear htf5 hb5
        have HOWN6 : Hid ((w5.alloc (.cells #[.int .i64 u0, .int .i64 u1, .bool u2, .string u3, .slice r1 r2 r3, .slice s1' s2' s3'] 38)).ownsRow (w.heap.size + 3) 38 6 (.slice a j cap) j xs) := (owns_block HOWN.out (fun g hg => HB5.out.block g (by subst hg; exact (World.ownsRow.lt HOWN.out g rfl).2))).alloc _
        have HNEWS := Hid.mk (World.news_of_block (cs := #[.int .i64 u0, .int .i64 u1, .bool u2, .string u3, .slice r1 r2 r3, .slice s1' s2' s3']) (t := 38) (fr := (0, 0)) (alloc_new w5 (.cells #[.int .i64 u0, .int .i64 u1, .bool u2, .string u3, .slice r1 r2 r3, .slice s1' s2' s3'] 38)))
        dsimp only
        refine hK.out _ _ ?_ (fun hHeld => ?_)
        · (try dsimp only)
          exact HCEL.out _ (fun k hk => HB5.out.block k (by omega))
        clear hK K
        refine wpAnyL_one (i := 8) (by kernel_rfl) rfl (fun K hK => ?_)
        go_simp
        refine hK.out _ _ ?_ (fun hHeld => ?_)
        · (try dsimp only)
          exact HCEL.out _ (fun k hk => (Below.heap_alloc _ _ k (by omega)).trans (HB5.out.block k (by omega)))
        clear hK K
        refine wpAnyL_one (i := 9) (by kernel_rfl) rfl (fun K hK => ?_)
        refine step_append_lies _ (by rfl) _ _ _ (by rfl) (w.heap.size + 3) 38 i0 _ 6 88 Tryz.underlying36 hi iz0 iz1 iz2 rfl (by decide) (.slice a j cap) j xs (by rfl) HOWN6.out ⟨w5.heap.size, 0, none⟩ 1 1 [.int .i64 u0, .int .i64 u1, .bool u2, .string u3, .slice r1 r2 r3, .slice s1' s2' s3'] (by rfl) (by rfl) HNEWS.out (by simp [Value.oneCell']) (by omega) (by simp [maxLen]; omega) (by omega) (by simp; omega) (w5.heap.size + 1) (by simp) ?_
        intro g7 c7 W7 hown7 hgr7 hat7 hlt7
        have HOWN7 := Hid.mk hown7
        have HGR7 := Hid.mk hgr7
        have HAT7 := Hid.mk hat7
        have HBL7 : Hid (∀ k, k < w5.heap.size + 1 → ownB a k = false → W7.heap[k]? = (w5.alloc (.cells #[.int .i64 u0, .int .i64 u1, .bool u2, .string u3, .slice r1 r2 r3, .slice s1' s2' s3'] 38)).heap[k]?) := fun k hk ho => hgr7.block k (by simpa using hk) (ownB_none ho)
        have HCE7 := Hid.mk (HCEL.out W7 (fun k hk => (HBL7.out k (by omega) (by cases ho : ownB a k with | false => rfl | true => exact absurd (HRB.out k ho).1 (by omega))).trans ((Below.heap_alloc _ _ k (by omega)).trans (HB5.out.block k (by omega)))))
        have HZ7 : Hid (W7.heap[w.heap.size + 1 + 1]? = some (.cells #[.int .i64 3, .int .i64 0, .bool hd, .string { data := #[] }, .slice none 0 0, .slice a j cap] 38 (0, 0))) := (HBL7.out _ (by omega) (by cases ho : ownB a (w.heap.size + 1 + 1) with | false => rfl | true => exact absurd (HRB.out _ ho).1 (by omega))).trans ((Below.heap_alloc _ _ _ (by omega)).trans ((HB5.out.block _ (by omega)).trans HZR.out))
        have fz7 := frz HZ7.out
        have z75 := (cells6 HZ7.out).2.2.2.2.2.1
        clear hown7 hgr7 hat7
        refine hK.out _ _ ?_ (fun hHeld => ?_)
        · (try dsimp only)
          exact HCE7.out
        clear hK K
        refine wpAnyL_take (i := 10) (v := ?_) rfl (by kernel_rfl) (by kernel_rfl) (by kernel_rfl) (by kernel_rfl) (fun _ _ _ h => h) (Or.inl ⟨by rfl, ?_⟩) (by assumption) ?_
        rotate_left
        · (intro w hSw; (try dsimp only at hSw); go_simp; (try with_reducible rfl))
        refine wpAnyL_last (by kernel_rfl) rfl (by kernel_rfl) (fun K hK => ?_)
        go_simp
        refine hK.out _ _ ?_
        clear hK K
        go_wp2
        have KZ : Kept (fun k => k = w.heap.size + 1 + 1) W7 (W7.setCell ⟨w.heap.size + 1 + 1, 5, none⟩ (.slice (some ⟨g7, 0, none⟩) (j + 1) c7)) := (Kept.refl (fun k => k = w.heap.size + 1 + 1) W7).setCell (p := ⟨w.heap.size + 1 + 1, 5, none⟩) rfl _
        refine ⟨⟨j + 1, some ⟨g7, 0, none⟩, c7, hlt, by go_num, ?_, set5_heap HZ7.out, ?_⟩, by simp [intOf]; omega⟩
        · rw [HTK.out]
          refine RowF.move (w := W7) ?_ (fun k hk => by simp; omega) KZ.size (fun k h1 h2 => KZ.block k h1 (fun e => by subst e; exact absurd h2 (by simp)))
          refine RowF.snoc (w := w5.alloc (.cells #[.int .i64 u0, .int .i64 u1, .bool u2, .string u3, .slice r1 r2 r3, .slice s1' s2' s3'] 38)) (a := a) (cap := cap) (xs := xs) (kvs := kvs) (fun j' t' hj' => ⟨(HKV.out j' t' hj').1, ((HKV.out j' t' hj').2.on HB5.out).on ((Below.refl _ _).alloc (Nat.le_refl _) _)⟩) HXL.out (by rw [HLJ.out]; exact HOWN7.out) (by rw [HLJ.out]; exact HGR7.out) (by rw [HLJ.out]; simpa using HAT7.out) ?_
          refine HTF5.out.move (by simp) (fun k h1 h2 => ⟨?_, Below.heap_alloc _ _ k h1⟩)
          have h3 : wr.heap.size ≤ k := by simpa using h2
          cases ho : ownB a k with
          | false => simp; omega
          | true => exact absurd (HRB.out k ho).2 (by omega)
        · refine HBR.out.trans (((Kept.of_below HB5.out).alloc (.cells #[.int .i64 u0, .int .i64 u1, .bool u2, .string u3, .slice r1 r2 r3, .slice s1' s2' s3'] 38)).trans (Kept.trans (b := W7) ⟨HGR7.out.os, HGR7.out.tape, HGR7.out.output, HGR7.out.size, fun k hk hn => HGR7.out.block k hk (fun e => ?_)⟩ (KZ.imp (fun k _ h => Or.inl h))))
          have := (World.ownsRow.lt HOWN.out k e.symm).1
          omega
      · obtain rfl : j = ks.length := by omega
        have hby := (HBR.out.block (w.heap.size + 1) (by omega) (by omega)).trans HY1.out
        obtain ⟨y0, y1, y2, y3, y4, y5, y6⟩ := cells6 hby
        have fy := frz hby
        clear hby
        have HLJ : Hid (((ks.take ks.length).map cleanT).length = ks.length) := by unfold Hid; rw [List.length_map, List.length_take]; omega
        have HT : Hid (R = .mk 3 0 hd { data := #[] } [] ((ks.take ks.length).map cleanT)) := by unfold Hid; rw [HR.out, List.take_length]
        generalize (ks.take ks.length).map cleanT = TS at *
        go_wp2
        refine bodyPost_ret (v := .agg #[.int .i64 3, .int .i64 0, .bool hd, .string { data := #[] }, .slice none 0 0, .slice a ks.length cap]) (by simp [results, Tryz.results40, go_sem, y0, y1, y2, y3, y4, y5]) rfl ⟨_, rfl, ⟨_, _, _, _, _, _, _, _, _, _, rfl⟩, ?_, ?_⟩
        all_goals have KF := keep6 (P := fun k => k = w.heap.size + 1) (w := wr) (b := w.heap.size + 1) (a0 := .int .i64 3) (a1 := .int .i64 0) (a2 := .bool hd) (a3 := .string { data := #[] }) (a4 := .slice none 0 0) (a5 := .slice a ks.length cap) rfl
        · rw [HT.out]
          have hrow := HROW.out.move (fun k hk => by simp; omega) KF.size (fun k h1 h2 => KF.block k h1 (fun e => by subst e; exact absurd h2 (by simp)))
          have hd2 := hrow.done (fun k hk => by simp; omega) (f := 3) (n := 0) (hd := hd) (nm := { data := #[] }) (la := none) (lc := 0) (ls := []) (Or.inl rfl) (fun _ => rfl) (Nat.le_refl _) (by omega)
          rw [HLJ.out] at hd2
          exact hd2.sub (fun k hk => by simp at hk ⊢; omega)
        · exact HG1.out.below.trans (Below.trans (HBR.out.below (by omega) (fun k hk => by omega)) (KF.below (by omega) (fun k hk => by omega)))

set_option maxRecDepth 100000 in
set_option maxHeartbeats 8000000 in
theorem Clean4 (n : Int) (hd : Bool) (nm : ByteArray) (ls : List LvT) (ks : List Tm) (ih : ∀ k ∈ ks, ∀ (v : Value) (w : World), smT 1000000 k → formedB k = true → TV w v k → Calls Tryz.prog 40 #[v] w fun e w' => ∃ v', e = .returned v' ∧ ShapeT v' ∧ TF w' (fun k => decide (k < w.heap.size)) v' (cleanT k) ∧ RowKit.Below w.heap.size w w') : ∀ (v : Value) (w : World), smT 1000000 (.mk 4 n hd nm ls ks) → formedB (.mk 4 n hd nm ls ks) = true → TV w v (.mk 4 n hd nm ls ks) → Calls Tryz.prog 40 #[v] w fun e w' => ∃ v', e = .returned v' ∧ ShapeT v' ∧ TF w' (fun k => decide (k < w.heap.size)) v' (cleanT (.mk 4 n hd nm ls ks)) ∧ RowKit.Below w.heap.size w w' := by
  intro v w hsm hfm hv
  obtain ⟨-, s1, s2, s3, s4⟩ := (smT_mk _ _ _ _ _ _ _).1 hsm
  obtain ⟨hkl, hkf⟩ := formed_len hfm
  have mx := mixed
  obtain ⟨i0, hi, iz0, iz1, iz2⟩ := info_parts infoTerm
  obtain ⟨l0, lh, lz0, lz1, lz2⟩ := info_parts infoLevel
  cases hv with
  | @mk _ _ _ _ _ _ la lc ka kc kb ko hl hln hlc hlm hkn hkc hkm hk kids =>
    have HL := Hid.mk hl
    have HK := Hid.mk hk
    have HKIDS := Hid.mk kids
    have HIH := Hid.mk ih
    have HS2 := Hid.mk s2
    have HS4 := Hid.mk s4
    have HKF := Hid.mk hkf
    clear hk kids ih hl hln hkn s2 s4 hsm hkf hfm
    have HR : Hid (cleanT (.mk 4 n hd nm ls ks) = .mk 4 0 hd { data := #[] } [] (ks.map cleanT)) := by unfold Hid; rw [clean_mk]; rfl
    generalize cleanT (.mk 4 n hd nm ls ks) = R at HR ⊢
    clear hkl
    obtain ⟨W1, hW1⟩ : ∃ W1, ((w.alloc (.cells #[.int .i64 4, .int .i64 n, .bool hd, .string nm, .slice la ls.length lc, .slice ka ks.length kc] 38)).alloc (.cells #[.int .i64 0, .int .i64 0, .bool false, .string { data := #[] }, .slice none 0 0, .slice none 0 0] 38)).alloc (.cells #[.int .i64 4, .int .i64 0, .bool hd, .string { data := #[] }, .slice none 0 0, .slice none 0 0] 38) = W1 := ⟨_, rfl⟩
    have HG1 : Hid (Grew w W1) := by unfold Hid; rw [← hW1]; exact (((Grew.refl w).alloc _).alloc _).alloc _
    have HX1 : Hid (W1.heap[w.heap.size]? = some (.cells #[.int .i64 4, .int .i64 n, .bool hd, .string nm, .slice la ls.length lc, .slice ka ks.length kc] 38 (0, 0))) := by unfold Hid; rw [← hW1]; exact alloc_old box_at _
    have HY1 : Hid (W1.heap[w.heap.size + 1]? = some (.cells #[.int .i64 0, .int .i64 0, .bool false, .string { data := #[] }, .slice none 0 0, .slice none 0 0] 38 (0, 0))) := by unfold Hid; rw [← hW1]; exact on1
    have HZ1 : Hid (W1.heap[w.heap.size + 1 + 1]? = some (.cells #[.int .i64 4, .int .i64 0, .bool hd, .string { data := #[] }, .slice none 0 0, .slice none 0 0] 38 (0, 0))) := by unfold Hid; rw [← hW1]; exact on2
    have hsz1 : W1.heap.size = w.heap.size + 1 + 1 + 1 := by rw [← hW1]; simp
    have HW1 := Hid.mk hW1
    clear hW1
    go_enter Tryz.func40, Tryz.ntmps40
    go_wp2
    rw [HW1.out]
    go_loopw [5] (fun i wr => ∃ (j : Nat) (a : Option Addr) (cap : Nat), j ≤ ks.length ∧ i = .int .i64 j ∧ RowF wr (w.heap.size + 3) (fun k => decide (k < w.heap.size + 3)) a cap ((ks.take j).map cleanT) ∧ wr.heap[w.heap.size + 1 + 1]? = some (.cells #[.int .i64 4, .int .i64 0, .bool hd, .string { data := #[] }, .slice none 0 0, .slice a j cap] 38 (0, 0)) ∧ Kept (fun k => k = w.heap.size + 1 + 1 ∨ w.heap.size + 3 ≤ k) W1 wr) (fun i _ => ks.length - (intOf i).toNat)
    case atStart => exact ⟨0, none, 0, Nat.zero_le _, rfl, RowF.nil W1 _ _, HZ1.out, Kept.refl _ _⟩
    case round =>
      obtain ⟨j, a, cap, hj, rfl, hrow, hz, hbr⟩ := hrel
      have HROW := Hid.mk hrow
      have HZR := Hid.mk hz
      have HBR := Hid.mk hbr
      have hszr := hbr.size
      clear hrow hz hbr
      have hbx := (HBR.out.block w.heap.size (by omega) (by omega)).trans HX1.out
      have HXR := Hid.mk hbx
      obtain ⟨x0, x1, x2, x3, x4, x5, x6⟩ := cells6 hbx
      obtain ⟨z0, z1, z2, z3, z4, z5, z6⟩ := cells6 HZR.out
      have fz := frz HZR.out
      clear hbx
      by_cases hlt : j < ks.length
      · obtain ⟨rfl, hkb0⟩ := HK.out (by intro e; rw [e] at hlt; simp at hlt)
        have hkt : ks[j]? = some ks[j] := List.getElem?_eq_getElem hlt
        have hmem : ks[j] ∈ ks := List.getElem_mem hlt
        have HLJ : Hid (((ks.take j).map cleanT).length = j) := by unfold Hid; rw [List.length_map, List.length_take]; omega
        have HTK : Hid ((ks.take (j + 1)).map cleanT = (ks.take j).map cleanT ++ [cleanT ks[j]]) := by unfold Hid; rw [List.take_succ_eq_append_getElem hlt, List.map_append]; rfl
        obtain ⟨xs, kvs, hown, hkv⟩ := HROW.out.go
        rw [HLJ.out] at hown
        have HRB : Hid (∀ k, ownB a k = true → w.heap.size + 3 ≤ k ∧ k < wr.heap.size) := fun k hk => row_block hown hk
        have hold : RowKit.Below w.heap.size w wr := HG1.out.below.trans (HBR.out.below (by omega) (fun k hk => by omega))
        obtain ⟨v0, v1, v2, v3, l1, l2, l3, q1, q2, q3, c0, c1, c2, c3, c4, c5, htv⟩ := ((HKIDS.out j _ hkt).on hold).valE
        have hkr : kb < wr.heap.size := World.block_lt_of_cell? wr _ c0
        have HCALL := HIH.out ks[j] hmem _ wr.drew (HS4.out _ hmem) (HKF.out _ hmem) (htv.on (Below.refl _ _).drew)
        have hwd : wr.drew.heap.size = wr.heap.size := rfl
        rw [hwd] at HCALL
        have HOWN := Hid.mk hown
        have HKV := Hid.mk hkv
        have HXL : Hid (xs.length = ((ks.take j).map cleanT).length * 6) := by unfold Hid; rw [HLJ.out, hown.1]
        have zj : (j : Int) < (ks.length : Int) := by omega
        have HCEL : Hid (∀ W : World, (∀ k, k < w.heap.size + 3 → W.heap[k]? = wr.heap[k]?) → W.cell? ⟨w.heap.size + 1 + 1, 5, none⟩ = some (.slice a j cap) ∧ W.cell? ⟨w.heap.size, 5, none⟩ = some (.slice (some ⟨kb, ko, none⟩) ks.length kc) ∧ W.cell? ⟨kb, ko + j * 6, none⟩ = some (.int .i64 v0) ∧ W.cell? ⟨kb, ko + j * 6 + 1, none⟩ = some (.int .i64 v1) ∧ W.cell? ⟨kb, ko + j * 6 + 2, none⟩ = some (.bool v2) ∧ W.cell? ⟨kb, ko + j * 6 + 3, none⟩ = some (.string v3) ∧ W.cell? ⟨kb, ko + j * 6 + 4, none⟩ = some (.slice l1 l2 l3) ∧ W.cell? ⟨kb, ko + j * 6 + 5, none⟩ = some (.slice q1 q2 q3)) := fun W h => by
          have hZ := h (w.heap.size + 1 + 1) (by omega)
          have hX := h w.heap.size (by omega)
          have hB := h kb (by omega)
          exact ⟨(World.cell?_of_block (a := ⟨w.heap.size + 1 + 1, 5, none⟩) hZ).trans z5, (World.cell?_of_block (a := ⟨w.heap.size, 5, none⟩) hX).trans x5, (World.cell?_of_block (a := ⟨kb, ko + j * 6, none⟩) hB).trans c0, (World.cell?_of_block (a := ⟨kb, ko + j * 6 + 1, none⟩) hB).trans c1, (World.cell?_of_block (a := ⟨kb, ko + j * 6 + 2, none⟩) hB).trans c2, (World.cell?_of_block (a := ⟨kb, ko + j * 6 + 3, none⟩) hB).trans c3, (World.cell?_of_block (a := ⟨kb, ko + j * 6 + 4, none⟩) hB).trans c4, (World.cell?_of_block (a := ⟨kb, ko + j * 6 + 5, none⟩) hB).trans c5⟩
        clear htv hkt hmem hown hkv hold hwd
        generalize cleanT ks[j] = RK at *
        generalize (ks.take j).map cleanT = TS at *
        go_wp2_with fail
        refine wp_region_last (S := fun w' => w'.cell? ⟨w.heap.size + 1 + 1, 5, none⟩ = some (.slice a j cap) ∧ w'.cell? ⟨w.heap.size, 5, none⟩ = some (.slice (some ⟨kb, ko, none⟩) ks.length kc) ∧ w'.cell? ⟨kb, ko + j * 6, none⟩ = some (.int .i64 v0) ∧ w'.cell? ⟨kb, ko + j * 6 + 1, none⟩ = some (.int .i64 v1) ∧ w'.cell? ⟨kb, ko + j * 6 + 2, none⟩ = some (.bool v2) ∧ w'.cell? ⟨kb, ko + j * 6 + 3, none⟩ = some (.string v3) ∧ w'.cell? ⟨kb, ko + j * 6 + 4, none⟩ = some (.slice l1 l2 l3) ∧ w'.cell? ⟨kb, ko + j * 6 + 5, none⟩ = some (.slice q1 q2 q3)) 11 mx ?_ (fun hHeld => ?_)
        · (try dsimp only)
          exact HCEL.out _ (fun k _ => rfl)
        refine wpAnyL_take (i := 0) (v := ?_) rfl (by kernel_rfl) (by kernel_rfl) (by kernel_rfl) (by kernel_rfl) (fun _ _ _ h => h) (Or.inl ⟨by rfl, ?_⟩) (by assumption) ?_
        rotate_left
        · (intro w hSw; (try dsimp only at hSw); go_simp; (try with_reducible rfl))
        refine wpAnyL_take (i := 1) (v := ?_) rfl (by kernel_rfl) (by kernel_rfl) (by kernel_rfl) (by kernel_rfl) (fun _ _ _ h => h) (Or.inl ⟨by rfl, ?_⟩) (by assumption) ?_
        rotate_left
        · (intro w hSw; (try dsimp only at hSw); go_simp; (try with_reducible rfl))
        refine wpAnyL_take (i := 2) (v := ?_) rfl (by kernel_rfl) (by kernel_rfl) (by kernel_rfl) (by kernel_rfl) (fun _ _ _ h => h) (Or.inl ⟨by rfl, ?_⟩) (by assumption) ?_
        rotate_left
        · (intro w hSw; (try dsimp only at hSw); go_simp; (try with_reducible rfl))
        refine wpAnyL_take (i := 3) (v := ?_) rfl (by kernel_rfl) (by kernel_rfl) (by kernel_rfl) (by kernel_rfl) (fun _ _ _ h => h) (Or.inl ⟨by rfl, ?_⟩) (by assumption) ?_
        rotate_left
        · (intro w hSw; (try dsimp only at hSw); go_simp; (try with_reducible rfl))
        refine wpAnyL_take (i := 4) (v := ?_) rfl (by kernel_rfl) (by kernel_rfl) (by kernel_rfl) (by kernel_rfl) (fun _ _ _ h => h) (Or.inl ⟨by rfl, ?_⟩) (by assumption) ?_
        rotate_left
        · (intro w hSw; (try dsimp only at hSw); go_simp; (try with_reducible rfl))
        refine wpAnyL_take (i := 5) (v := ?_) rfl (by kernel_rfl) (by kernel_rfl) (by kernel_rfl) (by kernel_rfl) (fun _ _ _ h => h) (Or.inl ⟨by rfl, ?_⟩) (by assumption) ?_
        rotate_left
        · (intro w hSw; (try dsimp only at hSw); go_simp; (try with_reducible rfl))
        refine wpAnyL_take (i := 6) (v := ?_) rfl (by kernel_rfl) (by kernel_rfl) (by kernel_rfl) (by kernel_rfl) (fun _ _ _ h => h) (Or.inl ⟨by rfl, ?_⟩) (by assumption) ?_
        rotate_left
        · (intro w hSw; (try dsimp only at hSw); go_simp; (try with_reducible rfl))
        refine wpAnyL_one (i := 7) (by kernel_rfl) rfl (fun K hK => ?_)
        go_simp
        go_at_call 40
        refine HCALL.mono ?_
        rintro e w5 ⟨v', rfl, ⟨u0, u1, u2, u3, r1, r2, r3, s1', s2', s3', rfl⟩, htf5, hb5⟩
        have HTF5 := Hid.mk htf5
        have HB5 : Hid (RowKit.Below wr.heap.size wr w5) := (Below.refl _ _).drew.trans hb5
        have hsz5 := HB5.out.size
        clear htf5 hb5
        have HOWN6 : Hid ((w5.alloc (.cells #[.int .i64 u0, .int .i64 u1, .bool u2, .string u3, .slice r1 r2 r3, .slice s1' s2' s3'] 38)).ownsRow (w.heap.size + 3) 38 6 (.slice a j cap) j xs) := (owns_block HOWN.out (fun g hg => HB5.out.block g (by subst hg; exact (World.ownsRow.lt HOWN.out g rfl).2))).alloc _
        have HNEWS := Hid.mk (World.news_of_block (cs := #[.int .i64 u0, .int .i64 u1, .bool u2, .string u3, .slice r1 r2 r3, .slice s1' s2' s3']) (t := 38) (fr := (0, 0)) (alloc_new w5 (.cells #[.int .i64 u0, .int .i64 u1, .bool u2, .string u3, .slice r1 r2 r3, .slice s1' s2' s3'] 38)))
        dsimp only
        refine hK.out _ _ ?_ (fun hHeld => ?_)
        · (try dsimp only)
          exact HCEL.out _ (fun k hk => HB5.out.block k (by omega))
        clear hK K
        refine wpAnyL_one (i := 8) (by kernel_rfl) rfl (fun K hK => ?_)
        go_simp
        refine hK.out _ _ ?_ (fun hHeld => ?_)
        · (try dsimp only)
          exact HCEL.out _ (fun k hk => (Below.heap_alloc _ _ k (by omega)).trans (HB5.out.block k (by omega)))
        clear hK K
        refine wpAnyL_one (i := 9) (by kernel_rfl) rfl (fun K hK => ?_)
        refine step_append_lies _ (by rfl) _ _ _ (by rfl) (w.heap.size + 3) 38 i0 _ 6 88 Tryz.underlying36 hi iz0 iz1 iz2 rfl (by decide) (.slice a j cap) j xs (by rfl) HOWN6.out ⟨w5.heap.size, 0, none⟩ 1 1 [.int .i64 u0, .int .i64 u1, .bool u2, .string u3, .slice r1 r2 r3, .slice s1' s2' s3'] (by rfl) (by rfl) HNEWS.out (by simp [Value.oneCell']) (by omega) (by simp [maxLen]; omega) (by omega) (by simp; omega) (w5.heap.size + 1) (by simp) ?_
        intro g7 c7 W7 hown7 hgr7 hat7 hlt7
        have HOWN7 := Hid.mk hown7
        have HGR7 := Hid.mk hgr7
        have HAT7 := Hid.mk hat7
        have HBL7 : Hid (∀ k, k < w5.heap.size + 1 → ownB a k = false → W7.heap[k]? = (w5.alloc (.cells #[.int .i64 u0, .int .i64 u1, .bool u2, .string u3, .slice r1 r2 r3, .slice s1' s2' s3'] 38)).heap[k]?) := fun k hk ho => hgr7.block k (by simpa using hk) (ownB_none ho)
        have HCE7 := Hid.mk (HCEL.out W7 (fun k hk => (HBL7.out k (by omega) (by cases ho : ownB a k with | false => rfl | true => exact absurd (HRB.out k ho).1 (by omega))).trans ((Below.heap_alloc _ _ k (by omega)).trans (HB5.out.block k (by omega)))))
        have HZ7 : Hid (W7.heap[w.heap.size + 1 + 1]? = some (.cells #[.int .i64 4, .int .i64 0, .bool hd, .string { data := #[] }, .slice none 0 0, .slice a j cap] 38 (0, 0))) := (HBL7.out _ (by omega) (by cases ho : ownB a (w.heap.size + 1 + 1) with | false => rfl | true => exact absurd (HRB.out _ ho).1 (by omega))).trans ((Below.heap_alloc _ _ _ (by omega)).trans ((HB5.out.block _ (by omega)).trans HZR.out))
        have fz7 := frz HZ7.out
        have z75 := (cells6 HZ7.out).2.2.2.2.2.1
        clear hown7 hgr7 hat7
        refine hK.out _ _ ?_ (fun hHeld => ?_)
        · (try dsimp only)
          exact HCE7.out
        clear hK K
        refine wpAnyL_take (i := 10) (v := ?_) rfl (by kernel_rfl) (by kernel_rfl) (by kernel_rfl) (by kernel_rfl) (fun _ _ _ h => h) (Or.inl ⟨by rfl, ?_⟩) (by assumption) ?_
        rotate_left
        · (intro w hSw; (try dsimp only at hSw); go_simp; (try with_reducible rfl))
        refine wpAnyL_last (by kernel_rfl) rfl (by kernel_rfl) (fun K hK => ?_)
        go_simp
        refine hK.out _ _ ?_
        clear hK K
        go_wp2
        have KZ : Kept (fun k => k = w.heap.size + 1 + 1) W7 (W7.setCell ⟨w.heap.size + 1 + 1, 5, none⟩ (.slice (some ⟨g7, 0, none⟩) (j + 1) c7)) := (Kept.refl (fun k => k = w.heap.size + 1 + 1) W7).setCell (p := ⟨w.heap.size + 1 + 1, 5, none⟩) rfl _
        refine ⟨⟨j + 1, some ⟨g7, 0, none⟩, c7, hlt, by go_num, ?_, set5_heap HZ7.out, ?_⟩, by simp [intOf]; omega⟩
        · rw [HTK.out]
          refine RowF.move (w := W7) ?_ (fun k hk => by simp; omega) KZ.size (fun k h1 h2 => KZ.block k h1 (fun e => by subst e; exact absurd h2 (by simp)))
          refine RowF.snoc (w := w5.alloc (.cells #[.int .i64 u0, .int .i64 u1, .bool u2, .string u3, .slice r1 r2 r3, .slice s1' s2' s3'] 38)) (a := a) (cap := cap) (xs := xs) (kvs := kvs) (fun j' t' hj' => ⟨(HKV.out j' t' hj').1, ((HKV.out j' t' hj').2.on HB5.out).on ((Below.refl _ _).alloc (Nat.le_refl _) _)⟩) HXL.out (by rw [HLJ.out]; exact HOWN7.out) (by rw [HLJ.out]; exact HGR7.out) (by rw [HLJ.out]; simpa using HAT7.out) ?_
          refine HTF5.out.move (by simp) (fun k h1 h2 => ⟨?_, Below.heap_alloc _ _ k h1⟩)
          have h3 : wr.heap.size ≤ k := by simpa using h2
          cases ho : ownB a k with
          | false => simp; omega
          | true => exact absurd (HRB.out k ho).2 (by omega)
        · refine HBR.out.trans (((Kept.of_below HB5.out).alloc (.cells #[.int .i64 u0, .int .i64 u1, .bool u2, .string u3, .slice r1 r2 r3, .slice s1' s2' s3'] 38)).trans (Kept.trans (b := W7) ⟨HGR7.out.os, HGR7.out.tape, HGR7.out.output, HGR7.out.size, fun k hk hn => HGR7.out.block k hk (fun e => ?_)⟩ (KZ.imp (fun k _ h => Or.inl h))))
          have := (World.ownsRow.lt HOWN.out k e.symm).1
          omega
      · obtain rfl : j = ks.length := by omega
        have hby := (HBR.out.block (w.heap.size + 1) (by omega) (by omega)).trans HY1.out
        obtain ⟨y0, y1, y2, y3, y4, y5, y6⟩ := cells6 hby
        have fy := frz hby
        clear hby
        have HLJ : Hid (((ks.take ks.length).map cleanT).length = ks.length) := by unfold Hid; rw [List.length_map, List.length_take]; omega
        have HT : Hid (R = .mk 4 0 hd { data := #[] } [] ((ks.take ks.length).map cleanT)) := by unfold Hid; rw [HR.out, List.take_length]
        generalize (ks.take ks.length).map cleanT = TS at *
        go_wp2
        refine bodyPost_ret (v := .agg #[.int .i64 4, .int .i64 0, .bool hd, .string { data := #[] }, .slice none 0 0, .slice a ks.length cap]) (by simp [results, Tryz.results40, go_sem, y0, y1, y2, y3, y4, y5]) rfl ⟨_, rfl, ⟨_, _, _, _, _, _, _, _, _, _, rfl⟩, ?_, ?_⟩
        all_goals have KF := keep6 (P := fun k => k = w.heap.size + 1) (w := wr) (b := w.heap.size + 1) (a0 := .int .i64 4) (a1 := .int .i64 0) (a2 := .bool hd) (a3 := .string { data := #[] }) (a4 := .slice none 0 0) (a5 := .slice a ks.length cap) rfl
        · rw [HT.out]
          have hrow := HROW.out.move (fun k hk => by simp; omega) KF.size (fun k h1 h2 => KF.block k h1 (fun e => by subst e; exact absurd h2 (by simp)))
          have hd2 := hrow.done (fun k hk => by simp; omega) (f := 4) (n := 0) (hd := hd) (nm := { data := #[] }) (la := none) (lc := 0) (ls := []) (Or.inl rfl) (fun _ => rfl) (Nat.le_refl _) (by omega)
          rw [HLJ.out] at hd2
          exact hd2.sub (fun k hk => by simp at hk ⊢; omega)
        · exact HG1.out.below.trans (Below.trans (HBR.out.below (by omega) (fun k hk => by omega)) (KF.below (by omega) (fun k hk => by omega)))

set_option maxRecDepth 100000 in
set_option maxHeartbeats 8000000 in
theorem Clean5 (n : Int) (hd : Bool) (nm : ByteArray) (ls : List LvT) (ks : List Tm) (ih : ∀ k ∈ ks, ∀ (v : Value) (w : World), smT 1000000 k → formedB k = true → TV w v k → Calls Tryz.prog 40 #[v] w fun e w' => ∃ v', e = .returned v' ∧ ShapeT v' ∧ TF w' (fun k => decide (k < w.heap.size)) v' (cleanT k) ∧ RowKit.Below w.heap.size w w') : ∀ (v : Value) (w : World), smT 1000000 (.mk 5 n hd nm ls ks) → formedB (.mk 5 n hd nm ls ks) = true → TV w v (.mk 5 n hd nm ls ks) → Calls Tryz.prog 40 #[v] w fun e w' => ∃ v', e = .returned v' ∧ ShapeT v' ∧ TF w' (fun k => decide (k < w.heap.size)) v' (cleanT (.mk 5 n hd nm ls ks)) ∧ RowKit.Below w.heap.size w w' := by
  intro v w hsm hfm hv
  obtain ⟨-, s1, s2, s3, s4⟩ := (smT_mk _ _ _ _ _ _ _).1 hsm
  obtain ⟨hkl, hkf⟩ := formed_len hfm
  have mx := mixed
  obtain ⟨i0, hi, iz0, iz1, iz2⟩ := info_parts infoTerm
  obtain ⟨l0, lh, lz0, lz1, lz2⟩ := info_parts infoLevel
  cases hv with
  | @mk _ _ _ _ _ _ la lc ka kc kb ko hl hln hlc hlm hkn hkc hkm hk kids =>
    have HL := Hid.mk hl
    have HK := Hid.mk hk
    have HKIDS := Hid.mk kids
    have HIH := Hid.mk ih
    have HS2 := Hid.mk s2
    have HS4 := Hid.mk s4
    have HKF := Hid.mk hkf
    clear hk kids ih hl hln hkn s2 s4 hsm hkf hfm
    have HR : Hid (cleanT (.mk 5 n hd nm ls ks) = .mk 5 0 hd { data := #[] } [] (ks.map cleanT)) := by unfold Hid; rw [clean_mk]; rfl
    generalize cleanT (.mk 5 n hd nm ls ks) = R at HR ⊢
    clear hkl
    obtain ⟨W1, hW1⟩ : ∃ W1, ((w.alloc (.cells #[.int .i64 5, .int .i64 n, .bool hd, .string nm, .slice la ls.length lc, .slice ka ks.length kc] 38)).alloc (.cells #[.int .i64 0, .int .i64 0, .bool false, .string { data := #[] }, .slice none 0 0, .slice none 0 0] 38)).alloc (.cells #[.int .i64 5, .int .i64 0, .bool hd, .string { data := #[] }, .slice none 0 0, .slice none 0 0] 38) = W1 := ⟨_, rfl⟩
    have HG1 : Hid (Grew w W1) := by unfold Hid; rw [← hW1]; exact (((Grew.refl w).alloc _).alloc _).alloc _
    have HX1 : Hid (W1.heap[w.heap.size]? = some (.cells #[.int .i64 5, .int .i64 n, .bool hd, .string nm, .slice la ls.length lc, .slice ka ks.length kc] 38 (0, 0))) := by unfold Hid; rw [← hW1]; exact alloc_old box_at _
    have HY1 : Hid (W1.heap[w.heap.size + 1]? = some (.cells #[.int .i64 0, .int .i64 0, .bool false, .string { data := #[] }, .slice none 0 0, .slice none 0 0] 38 (0, 0))) := by unfold Hid; rw [← hW1]; exact on1
    have HZ1 : Hid (W1.heap[w.heap.size + 1 + 1]? = some (.cells #[.int .i64 5, .int .i64 0, .bool hd, .string { data := #[] }, .slice none 0 0, .slice none 0 0] 38 (0, 0))) := by unfold Hid; rw [← hW1]; exact on2
    have hsz1 : W1.heap.size = w.heap.size + 1 + 1 + 1 := by rw [← hW1]; simp
    have HW1 := Hid.mk hW1
    clear hW1
    go_enter Tryz.func40, Tryz.ntmps40
    go_wp2
    rw [HW1.out]
    go_loopw [5] (fun i wr => ∃ (j : Nat) (a : Option Addr) (cap : Nat), j ≤ ks.length ∧ i = .int .i64 j ∧ RowF wr (w.heap.size + 3) (fun k => decide (k < w.heap.size + 3)) a cap ((ks.take j).map cleanT) ∧ wr.heap[w.heap.size + 1 + 1]? = some (.cells #[.int .i64 5, .int .i64 0, .bool hd, .string { data := #[] }, .slice none 0 0, .slice a j cap] 38 (0, 0)) ∧ Kept (fun k => k = w.heap.size + 1 + 1 ∨ w.heap.size + 3 ≤ k) W1 wr) (fun i _ => ks.length - (intOf i).toNat)
    case atStart => exact ⟨0, none, 0, Nat.zero_le _, rfl, RowF.nil W1 _ _, HZ1.out, Kept.refl _ _⟩
    case round =>
      obtain ⟨j, a, cap, hj, rfl, hrow, hz, hbr⟩ := hrel
      have HROW := Hid.mk hrow
      have HZR := Hid.mk hz
      have HBR := Hid.mk hbr
      have hszr := hbr.size
      clear hrow hz hbr
      have hbx := (HBR.out.block w.heap.size (by omega) (by omega)).trans HX1.out
      have HXR := Hid.mk hbx
      obtain ⟨x0, x1, x2, x3, x4, x5, x6⟩ := cells6 hbx
      obtain ⟨z0, z1, z2, z3, z4, z5, z6⟩ := cells6 HZR.out
      have fz := frz HZR.out
      clear hbx
      by_cases hlt : j < ks.length
      · obtain ⟨rfl, hkb0⟩ := HK.out (by intro e; rw [e] at hlt; simp at hlt)
        have hkt : ks[j]? = some ks[j] := List.getElem?_eq_getElem hlt
        have hmem : ks[j] ∈ ks := List.getElem_mem hlt
        have HLJ : Hid (((ks.take j).map cleanT).length = j) := by unfold Hid; rw [List.length_map, List.length_take]; omega
        have HTK : Hid ((ks.take (j + 1)).map cleanT = (ks.take j).map cleanT ++ [cleanT ks[j]]) := by unfold Hid; rw [List.take_succ_eq_append_getElem hlt, List.map_append]; rfl
        obtain ⟨xs, kvs, hown, hkv⟩ := HROW.out.go
        rw [HLJ.out] at hown
        have HRB : Hid (∀ k, ownB a k = true → w.heap.size + 3 ≤ k ∧ k < wr.heap.size) := fun k hk => row_block hown hk
        have hold : RowKit.Below w.heap.size w wr := HG1.out.below.trans (HBR.out.below (by omega) (fun k hk => by omega))
        obtain ⟨v0, v1, v2, v3, l1, l2, l3, q1, q2, q3, c0, c1, c2, c3, c4, c5, htv⟩ := ((HKIDS.out j _ hkt).on hold).valE
        have hkr : kb < wr.heap.size := World.block_lt_of_cell? wr _ c0
        have HCALL := HIH.out ks[j] hmem _ wr.drew (HS4.out _ hmem) (HKF.out _ hmem) (htv.on (Below.refl _ _).drew)
        have hwd : wr.drew.heap.size = wr.heap.size := rfl
        rw [hwd] at HCALL
        have HOWN := Hid.mk hown
        have HKV := Hid.mk hkv
        have HXL : Hid (xs.length = ((ks.take j).map cleanT).length * 6) := by unfold Hid; rw [HLJ.out, hown.1]
        have zj : (j : Int) < (ks.length : Int) := by omega
        have HCEL : Hid (∀ W : World, (∀ k, k < w.heap.size + 3 → W.heap[k]? = wr.heap[k]?) → W.cell? ⟨w.heap.size + 1 + 1, 5, none⟩ = some (.slice a j cap) ∧ W.cell? ⟨w.heap.size, 5, none⟩ = some (.slice (some ⟨kb, ko, none⟩) ks.length kc) ∧ W.cell? ⟨kb, ko + j * 6, none⟩ = some (.int .i64 v0) ∧ W.cell? ⟨kb, ko + j * 6 + 1, none⟩ = some (.int .i64 v1) ∧ W.cell? ⟨kb, ko + j * 6 + 2, none⟩ = some (.bool v2) ∧ W.cell? ⟨kb, ko + j * 6 + 3, none⟩ = some (.string v3) ∧ W.cell? ⟨kb, ko + j * 6 + 4, none⟩ = some (.slice l1 l2 l3) ∧ W.cell? ⟨kb, ko + j * 6 + 5, none⟩ = some (.slice q1 q2 q3)) := fun W h => by
          have hZ := h (w.heap.size + 1 + 1) (by omega)
          have hX := h w.heap.size (by omega)
          have hB := h kb (by omega)
          exact ⟨(World.cell?_of_block (a := ⟨w.heap.size + 1 + 1, 5, none⟩) hZ).trans z5, (World.cell?_of_block (a := ⟨w.heap.size, 5, none⟩) hX).trans x5, (World.cell?_of_block (a := ⟨kb, ko + j * 6, none⟩) hB).trans c0, (World.cell?_of_block (a := ⟨kb, ko + j * 6 + 1, none⟩) hB).trans c1, (World.cell?_of_block (a := ⟨kb, ko + j * 6 + 2, none⟩) hB).trans c2, (World.cell?_of_block (a := ⟨kb, ko + j * 6 + 3, none⟩) hB).trans c3, (World.cell?_of_block (a := ⟨kb, ko + j * 6 + 4, none⟩) hB).trans c4, (World.cell?_of_block (a := ⟨kb, ko + j * 6 + 5, none⟩) hB).trans c5⟩
        clear htv hkt hmem hown hkv hold hwd
        generalize cleanT ks[j] = RK at *
        generalize (ks.take j).map cleanT = TS at *
        go_wp2_with fail
        refine wp_region_last (S := fun w' => w'.cell? ⟨w.heap.size + 1 + 1, 5, none⟩ = some (.slice a j cap) ∧ w'.cell? ⟨w.heap.size, 5, none⟩ = some (.slice (some ⟨kb, ko, none⟩) ks.length kc) ∧ w'.cell? ⟨kb, ko + j * 6, none⟩ = some (.int .i64 v0) ∧ w'.cell? ⟨kb, ko + j * 6 + 1, none⟩ = some (.int .i64 v1) ∧ w'.cell? ⟨kb, ko + j * 6 + 2, none⟩ = some (.bool v2) ∧ w'.cell? ⟨kb, ko + j * 6 + 3, none⟩ = some (.string v3) ∧ w'.cell? ⟨kb, ko + j * 6 + 4, none⟩ = some (.slice l1 l2 l3) ∧ w'.cell? ⟨kb, ko + j * 6 + 5, none⟩ = some (.slice q1 q2 q3)) 11 mx ?_ (fun hHeld => ?_)
        · (try dsimp only)
          exact HCEL.out _ (fun k _ => rfl)
        refine wpAnyL_take (i := 0) (v := ?_) rfl (by kernel_rfl) (by kernel_rfl) (by kernel_rfl) (by kernel_rfl) (fun _ _ _ h => h) (Or.inl ⟨by rfl, ?_⟩) (by assumption) ?_
        rotate_left
        · (intro w hSw; (try dsimp only at hSw); go_simp; (try with_reducible rfl))
        refine wpAnyL_take (i := 1) (v := ?_) rfl (by kernel_rfl) (by kernel_rfl) (by kernel_rfl) (by kernel_rfl) (fun _ _ _ h => h) (Or.inl ⟨by rfl, ?_⟩) (by assumption) ?_
        rotate_left
        · (intro w hSw; (try dsimp only at hSw); go_simp; (try with_reducible rfl))
        refine wpAnyL_take (i := 2) (v := ?_) rfl (by kernel_rfl) (by kernel_rfl) (by kernel_rfl) (by kernel_rfl) (fun _ _ _ h => h) (Or.inl ⟨by rfl, ?_⟩) (by assumption) ?_
        rotate_left
        · (intro w hSw; (try dsimp only at hSw); go_simp; (try with_reducible rfl))
        refine wpAnyL_take (i := 3) (v := ?_) rfl (by kernel_rfl) (by kernel_rfl) (by kernel_rfl) (by kernel_rfl) (fun _ _ _ h => h) (Or.inl ⟨by rfl, ?_⟩) (by assumption) ?_
        rotate_left
        · (intro w hSw; (try dsimp only at hSw); go_simp; (try with_reducible rfl))
        refine wpAnyL_take (i := 4) (v := ?_) rfl (by kernel_rfl) (by kernel_rfl) (by kernel_rfl) (by kernel_rfl) (fun _ _ _ h => h) (Or.inl ⟨by rfl, ?_⟩) (by assumption) ?_
        rotate_left
        · (intro w hSw; (try dsimp only at hSw); go_simp; (try with_reducible rfl))
        refine wpAnyL_take (i := 5) (v := ?_) rfl (by kernel_rfl) (by kernel_rfl) (by kernel_rfl) (by kernel_rfl) (fun _ _ _ h => h) (Or.inl ⟨by rfl, ?_⟩) (by assumption) ?_
        rotate_left
        · (intro w hSw; (try dsimp only at hSw); go_simp; (try with_reducible rfl))
        refine wpAnyL_take (i := 6) (v := ?_) rfl (by kernel_rfl) (by kernel_rfl) (by kernel_rfl) (by kernel_rfl) (fun _ _ _ h => h) (Or.inl ⟨by rfl, ?_⟩) (by assumption) ?_
        rotate_left
        · (intro w hSw; (try dsimp only at hSw); go_simp; (try with_reducible rfl))
        refine wpAnyL_one (i := 7) (by kernel_rfl) rfl (fun K hK => ?_)
        go_simp
        go_at_call 40
        refine HCALL.mono ?_
        rintro e w5 ⟨v', rfl, ⟨u0, u1, u2, u3, r1, r2, r3, s1', s2', s3', rfl⟩, htf5, hb5⟩
        have HTF5 := Hid.mk htf5
        have HB5 : Hid (RowKit.Below wr.heap.size wr w5) := (Below.refl _ _).drew.trans hb5
        have hsz5 := HB5.out.size
        clear htf5 hb5
        have HOWN6 : Hid ((w5.alloc (.cells #[.int .i64 u0, .int .i64 u1, .bool u2, .string u3, .slice r1 r2 r3, .slice s1' s2' s3'] 38)).ownsRow (w.heap.size + 3) 38 6 (.slice a j cap) j xs) := (owns_block HOWN.out (fun g hg => HB5.out.block g (by subst hg; exact (World.ownsRow.lt HOWN.out g rfl).2))).alloc _
        have HNEWS := Hid.mk (World.news_of_block (cs := #[.int .i64 u0, .int .i64 u1, .bool u2, .string u3, .slice r1 r2 r3, .slice s1' s2' s3']) (t := 38) (fr := (0, 0)) (alloc_new w5 (.cells #[.int .i64 u0, .int .i64 u1, .bool u2, .string u3, .slice r1 r2 r3, .slice s1' s2' s3'] 38)))
        dsimp only
        refine hK.out _ _ ?_ (fun hHeld => ?_)
        · (try dsimp only)
          exact HCEL.out _ (fun k hk => HB5.out.block k (by omega))
        clear hK K
        refine wpAnyL_one (i := 8) (by kernel_rfl) rfl (fun K hK => ?_)
        go_simp
        refine hK.out _ _ ?_ (fun hHeld => ?_)
        · (try dsimp only)
          exact HCEL.out _ (fun k hk => (Below.heap_alloc _ _ k (by omega)).trans (HB5.out.block k (by omega)))
        clear hK K
        refine wpAnyL_one (i := 9) (by kernel_rfl) rfl (fun K hK => ?_)
        refine step_append_lies _ (by rfl) _ _ _ (by rfl) (w.heap.size + 3) 38 i0 _ 6 88 Tryz.underlying36 hi iz0 iz1 iz2 rfl (by decide) (.slice a j cap) j xs (by rfl) HOWN6.out ⟨w5.heap.size, 0, none⟩ 1 1 [.int .i64 u0, .int .i64 u1, .bool u2, .string u3, .slice r1 r2 r3, .slice s1' s2' s3'] (by rfl) (by rfl) HNEWS.out (by simp [Value.oneCell']) (by omega) (by simp [maxLen]; omega) (by omega) (by simp; omega) (w5.heap.size + 1) (by simp) ?_
        intro g7 c7 W7 hown7 hgr7 hat7 hlt7
        have HOWN7 := Hid.mk hown7
        have HGR7 := Hid.mk hgr7
        have HAT7 := Hid.mk hat7
        have HBL7 : Hid (∀ k, k < w5.heap.size + 1 → ownB a k = false → W7.heap[k]? = (w5.alloc (.cells #[.int .i64 u0, .int .i64 u1, .bool u2, .string u3, .slice r1 r2 r3, .slice s1' s2' s3'] 38)).heap[k]?) := fun k hk ho => hgr7.block k (by simpa using hk) (ownB_none ho)
        have HCE7 := Hid.mk (HCEL.out W7 (fun k hk => (HBL7.out k (by omega) (by cases ho : ownB a k with | false => rfl | true => exact absurd (HRB.out k ho).1 (by omega))).trans ((Below.heap_alloc _ _ k (by omega)).trans (HB5.out.block k (by omega)))))
        have HZ7 : Hid (W7.heap[w.heap.size + 1 + 1]? = some (.cells #[.int .i64 5, .int .i64 0, .bool hd, .string { data := #[] }, .slice none 0 0, .slice a j cap] 38 (0, 0))) := (HBL7.out _ (by omega) (by cases ho : ownB a (w.heap.size + 1 + 1) with | false => rfl | true => exact absurd (HRB.out _ ho).1 (by omega))).trans ((Below.heap_alloc _ _ _ (by omega)).trans ((HB5.out.block _ (by omega)).trans HZR.out))
        have fz7 := frz HZ7.out
        have z75 := (cells6 HZ7.out).2.2.2.2.2.1
        clear hown7 hgr7 hat7
        refine hK.out _ _ ?_ (fun hHeld => ?_)
        · (try dsimp only)
          exact HCE7.out
        clear hK K
        refine wpAnyL_take (i := 10) (v := ?_) rfl (by kernel_rfl) (by kernel_rfl) (by kernel_rfl) (by kernel_rfl) (fun _ _ _ h => h) (Or.inl ⟨by rfl, ?_⟩) (by assumption) ?_
        rotate_left
        · (intro w hSw; (try dsimp only at hSw); go_simp; (try with_reducible rfl))
        refine wpAnyL_last (by kernel_rfl) rfl (by kernel_rfl) (fun K hK => ?_)
        go_simp
        refine hK.out _ _ ?_
        clear hK K
        go_wp2
        have KZ : Kept (fun k => k = w.heap.size + 1 + 1) W7 (W7.setCell ⟨w.heap.size + 1 + 1, 5, none⟩ (.slice (some ⟨g7, 0, none⟩) (j + 1) c7)) := (Kept.refl (fun k => k = w.heap.size + 1 + 1) W7).setCell (p := ⟨w.heap.size + 1 + 1, 5, none⟩) rfl _
        refine ⟨⟨j + 1, some ⟨g7, 0, none⟩, c7, hlt, by go_num, ?_, set5_heap HZ7.out, ?_⟩, by simp [intOf]; omega⟩
        · rw [HTK.out]
          refine RowF.move (w := W7) ?_ (fun k hk => by simp; omega) KZ.size (fun k h1 h2 => KZ.block k h1 (fun e => by subst e; exact absurd h2 (by simp)))
          refine RowF.snoc (w := w5.alloc (.cells #[.int .i64 u0, .int .i64 u1, .bool u2, .string u3, .slice r1 r2 r3, .slice s1' s2' s3'] 38)) (a := a) (cap := cap) (xs := xs) (kvs := kvs) (fun j' t' hj' => ⟨(HKV.out j' t' hj').1, ((HKV.out j' t' hj').2.on HB5.out).on ((Below.refl _ _).alloc (Nat.le_refl _) _)⟩) HXL.out (by rw [HLJ.out]; exact HOWN7.out) (by rw [HLJ.out]; exact HGR7.out) (by rw [HLJ.out]; simpa using HAT7.out) ?_
          refine HTF5.out.move (by simp) (fun k h1 h2 => ⟨?_, Below.heap_alloc _ _ k h1⟩)
          have h3 : wr.heap.size ≤ k := by simpa using h2
          cases ho : ownB a k with
          | false => simp; omega
          | true => exact absurd (HRB.out k ho).2 (by omega)
        · refine HBR.out.trans (((Kept.of_below HB5.out).alloc (.cells #[.int .i64 u0, .int .i64 u1, .bool u2, .string u3, .slice r1 r2 r3, .slice s1' s2' s3'] 38)).trans (Kept.trans (b := W7) ⟨HGR7.out.os, HGR7.out.tape, HGR7.out.output, HGR7.out.size, fun k hk hn => HGR7.out.block k hk (fun e => ?_)⟩ (KZ.imp (fun k _ h => Or.inl h))))
          have := (World.ownsRow.lt HOWN.out k e.symm).1
          omega
      · obtain rfl : j = ks.length := by omega
        have hby := (HBR.out.block (w.heap.size + 1) (by omega) (by omega)).trans HY1.out
        obtain ⟨y0, y1, y2, y3, y4, y5, y6⟩ := cells6 hby
        have fy := frz hby
        clear hby
        have HLJ : Hid (((ks.take ks.length).map cleanT).length = ks.length) := by unfold Hid; rw [List.length_map, List.length_take]; omega
        have HT : Hid (R = .mk 5 0 hd { data := #[] } [] ((ks.take ks.length).map cleanT)) := by unfold Hid; rw [HR.out, List.take_length]
        generalize (ks.take ks.length).map cleanT = TS at *
        go_wp2
        refine bodyPost_ret (v := .agg #[.int .i64 5, .int .i64 0, .bool hd, .string { data := #[] }, .slice none 0 0, .slice a ks.length cap]) (by simp [results, Tryz.results40, go_sem, y0, y1, y2, y3, y4, y5]) rfl ⟨_, rfl, ⟨_, _, _, _, _, _, _, _, _, _, rfl⟩, ?_, ?_⟩
        all_goals have KF := keep6 (P := fun k => k = w.heap.size + 1) (w := wr) (b := w.heap.size + 1) (a0 := .int .i64 5) (a1 := .int .i64 0) (a2 := .bool hd) (a3 := .string { data := #[] }) (a4 := .slice none 0 0) (a5 := .slice a ks.length cap) rfl
        · rw [HT.out]
          have hrow := HROW.out.move (fun k hk => by simp; omega) KF.size (fun k h1 h2 => KF.block k h1 (fun e => by subst e; exact absurd h2 (by simp)))
          have hd2 := hrow.done (fun k hk => by simp; omega) (f := 5) (n := 0) (hd := hd) (nm := { data := #[] }) (la := none) (lc := 0) (ls := []) (Or.inl rfl) (fun _ => rfl) (Nat.le_refl _) (by omega)
          rw [HLJ.out] at hd2
          exact hd2.sub (fun k hk => by simp at hk ⊢; omega)
        · exact HG1.out.below.trans (Below.trans (HBR.out.below (by omega) (fun k hk => by omega)) (KF.below (by omega) (fun k hk => by omega)))

set_option maxRecDepth 100000 in
set_option maxHeartbeats 8000000 in
theorem Clean9 (n : Int) (hd : Bool) (nm : ByteArray) (ls : List LvT) (ks : List Tm) (ih : ∀ k ∈ ks, ∀ (v : Value) (w : World), smT 1000000 k → formedB k = true → TV w v k → Calls Tryz.prog 40 #[v] w fun e w' => ∃ v', e = .returned v' ∧ ShapeT v' ∧ TF w' (fun k => decide (k < w.heap.size)) v' (cleanT k) ∧ RowKit.Below w.heap.size w w') : ∀ (v : Value) (w : World), smT 1000000 (.mk 9 n hd nm ls ks) → formedB (.mk 9 n hd nm ls ks) = true → TV w v (.mk 9 n hd nm ls ks) → Calls Tryz.prog 40 #[v] w fun e w' => ∃ v', e = .returned v' ∧ ShapeT v' ∧ TF w' (fun k => decide (k < w.heap.size)) v' (cleanT (.mk 9 n hd nm ls ks)) ∧ RowKit.Below w.heap.size w w' := by
  intro v w hsm hfm hv
  obtain ⟨-, s1, s2, s3, s4⟩ := (smT_mk _ _ _ _ _ _ _).1 hsm
  obtain ⟨hkl, hkf⟩ := formed_len hfm
  have mx := mixed
  obtain ⟨i0, hi, iz0, iz1, iz2⟩ := info_parts infoTerm
  obtain ⟨l0, lh, lz0, lz1, lz2⟩ := info_parts infoLevel
  cases hv with
  | @mk _ _ _ _ _ _ la lc ka kc kb ko hl hln hlc hlm hkn hkc hkm hk kids =>
    have HL := Hid.mk hl
    have HK := Hid.mk hk
    have HKIDS := Hid.mk kids
    have HIH := Hid.mk ih
    have HS2 := Hid.mk s2
    have HS4 := Hid.mk s4
    have HKF := Hid.mk hkf
    clear hk kids ih hl hln hkn s2 s4 hsm hkf hfm
    have HR : Hid (cleanT (.mk 9 n hd nm ls ks) = .mk 9 0 false { data := #[] } [] (ks.map cleanT)) := by unfold Hid; rw [clean_mk]; rfl
    generalize cleanT (.mk 9 n hd nm ls ks) = R at HR ⊢
    clear hkl
    obtain ⟨W1, hW1⟩ : ∃ W1, ((w.alloc (.cells #[.int .i64 9, .int .i64 n, .bool hd, .string nm, .slice la ls.length lc, .slice ka ks.length kc] 38)).alloc (.cells #[.int .i64 0, .int .i64 0, .bool false, .string { data := #[] }, .slice none 0 0, .slice none 0 0] 38)).alloc (.cells #[.int .i64 9, .int .i64 0, .bool false, .string { data := #[] }, .slice none 0 0, .slice none 0 0] 38) = W1 := ⟨_, rfl⟩
    have HG1 : Hid (Grew w W1) := by unfold Hid; rw [← hW1]; exact (((Grew.refl w).alloc _).alloc _).alloc _
    have HX1 : Hid (W1.heap[w.heap.size]? = some (.cells #[.int .i64 9, .int .i64 n, .bool hd, .string nm, .slice la ls.length lc, .slice ka ks.length kc] 38 (0, 0))) := by unfold Hid; rw [← hW1]; exact alloc_old box_at _
    have HY1 : Hid (W1.heap[w.heap.size + 1]? = some (.cells #[.int .i64 0, .int .i64 0, .bool false, .string { data := #[] }, .slice none 0 0, .slice none 0 0] 38 (0, 0))) := by unfold Hid; rw [← hW1]; exact on1
    have HZ1 : Hid (W1.heap[w.heap.size + 1 + 1]? = some (.cells #[.int .i64 9, .int .i64 0, .bool false, .string { data := #[] }, .slice none 0 0, .slice none 0 0] 38 (0, 0))) := by unfold Hid; rw [← hW1]; exact on2
    have hsz1 : W1.heap.size = w.heap.size + 1 + 1 + 1 := by rw [← hW1]; simp
    have HW1 := Hid.mk hW1
    clear hW1
    go_enter Tryz.func40, Tryz.ntmps40
    go_wp2
    rw [HW1.out]
    go_loopw [5] (fun i wr => ∃ (j : Nat) (a : Option Addr) (cap : Nat), j ≤ ks.length ∧ i = .int .i64 j ∧ RowF wr (w.heap.size + 3) (fun k => decide (k < w.heap.size + 3)) a cap ((ks.take j).map cleanT) ∧ wr.heap[w.heap.size + 1 + 1]? = some (.cells #[.int .i64 9, .int .i64 0, .bool false, .string { data := #[] }, .slice none 0 0, .slice a j cap] 38 (0, 0)) ∧ Kept (fun k => k = w.heap.size + 1 + 1 ∨ w.heap.size + 3 ≤ k) W1 wr) (fun i _ => ks.length - (intOf i).toNat)
    case atStart => exact ⟨0, none, 0, Nat.zero_le _, rfl, RowF.nil W1 _ _, HZ1.out, Kept.refl _ _⟩
    case round =>
      obtain ⟨j, a, cap, hj, rfl, hrow, hz, hbr⟩ := hrel
      have HROW := Hid.mk hrow
      have HZR := Hid.mk hz
      have HBR := Hid.mk hbr
      have hszr := hbr.size
      clear hrow hz hbr
      have hbx := (HBR.out.block w.heap.size (by omega) (by omega)).trans HX1.out
      have HXR := Hid.mk hbx
      obtain ⟨x0, x1, x2, x3, x4, x5, x6⟩ := cells6 hbx
      obtain ⟨z0, z1, z2, z3, z4, z5, z6⟩ := cells6 HZR.out
      have fz := frz HZR.out
      clear hbx
      by_cases hlt : j < ks.length
      · obtain ⟨rfl, hkb0⟩ := HK.out (by intro e; rw [e] at hlt; simp at hlt)
        have hkt : ks[j]? = some ks[j] := List.getElem?_eq_getElem hlt
        have hmem : ks[j] ∈ ks := List.getElem_mem hlt
        have HLJ : Hid (((ks.take j).map cleanT).length = j) := by unfold Hid; rw [List.length_map, List.length_take]; omega
        have HTK : Hid ((ks.take (j + 1)).map cleanT = (ks.take j).map cleanT ++ [cleanT ks[j]]) := by unfold Hid; rw [List.take_succ_eq_append_getElem hlt, List.map_append]; rfl
        obtain ⟨xs, kvs, hown, hkv⟩ := HROW.out.go
        rw [HLJ.out] at hown
        have HRB : Hid (∀ k, ownB a k = true → w.heap.size + 3 ≤ k ∧ k < wr.heap.size) := fun k hk => row_block hown hk
        have hold : RowKit.Below w.heap.size w wr := HG1.out.below.trans (HBR.out.below (by omega) (fun k hk => by omega))
        obtain ⟨v0, v1, v2, v3, l1, l2, l3, q1, q2, q3, c0, c1, c2, c3, c4, c5, htv⟩ := ((HKIDS.out j _ hkt).on hold).valE
        have hkr : kb < wr.heap.size := World.block_lt_of_cell? wr _ c0
        have HCALL := HIH.out ks[j] hmem _ wr.drew (HS4.out _ hmem) (HKF.out _ hmem) (htv.on (Below.refl _ _).drew)
        have hwd : wr.drew.heap.size = wr.heap.size := rfl
        rw [hwd] at HCALL
        have HOWN := Hid.mk hown
        have HKV := Hid.mk hkv
        have HXL : Hid (xs.length = ((ks.take j).map cleanT).length * 6) := by unfold Hid; rw [HLJ.out, hown.1]
        have zj : (j : Int) < (ks.length : Int) := by omega
        have HCEL : Hid (∀ W : World, (∀ k, k < w.heap.size + 3 → W.heap[k]? = wr.heap[k]?) → W.cell? ⟨w.heap.size + 1 + 1, 5, none⟩ = some (.slice a j cap) ∧ W.cell? ⟨w.heap.size, 5, none⟩ = some (.slice (some ⟨kb, ko, none⟩) ks.length kc) ∧ W.cell? ⟨kb, ko + j * 6, none⟩ = some (.int .i64 v0) ∧ W.cell? ⟨kb, ko + j * 6 + 1, none⟩ = some (.int .i64 v1) ∧ W.cell? ⟨kb, ko + j * 6 + 2, none⟩ = some (.bool v2) ∧ W.cell? ⟨kb, ko + j * 6 + 3, none⟩ = some (.string v3) ∧ W.cell? ⟨kb, ko + j * 6 + 4, none⟩ = some (.slice l1 l2 l3) ∧ W.cell? ⟨kb, ko + j * 6 + 5, none⟩ = some (.slice q1 q2 q3)) := fun W h => by
          have hZ := h (w.heap.size + 1 + 1) (by omega)
          have hX := h w.heap.size (by omega)
          have hB := h kb (by omega)
          exact ⟨(World.cell?_of_block (a := ⟨w.heap.size + 1 + 1, 5, none⟩) hZ).trans z5, (World.cell?_of_block (a := ⟨w.heap.size, 5, none⟩) hX).trans x5, (World.cell?_of_block (a := ⟨kb, ko + j * 6, none⟩) hB).trans c0, (World.cell?_of_block (a := ⟨kb, ko + j * 6 + 1, none⟩) hB).trans c1, (World.cell?_of_block (a := ⟨kb, ko + j * 6 + 2, none⟩) hB).trans c2, (World.cell?_of_block (a := ⟨kb, ko + j * 6 + 3, none⟩) hB).trans c3, (World.cell?_of_block (a := ⟨kb, ko + j * 6 + 4, none⟩) hB).trans c4, (World.cell?_of_block (a := ⟨kb, ko + j * 6 + 5, none⟩) hB).trans c5⟩
        clear htv hkt hmem hown hkv hold hwd
        generalize cleanT ks[j] = RK at *
        generalize (ks.take j).map cleanT = TS at *
        go_wp2_with fail
        refine wp_region_last (S := fun w' => w'.cell? ⟨w.heap.size + 1 + 1, 5, none⟩ = some (.slice a j cap) ∧ w'.cell? ⟨w.heap.size, 5, none⟩ = some (.slice (some ⟨kb, ko, none⟩) ks.length kc) ∧ w'.cell? ⟨kb, ko + j * 6, none⟩ = some (.int .i64 v0) ∧ w'.cell? ⟨kb, ko + j * 6 + 1, none⟩ = some (.int .i64 v1) ∧ w'.cell? ⟨kb, ko + j * 6 + 2, none⟩ = some (.bool v2) ∧ w'.cell? ⟨kb, ko + j * 6 + 3, none⟩ = some (.string v3) ∧ w'.cell? ⟨kb, ko + j * 6 + 4, none⟩ = some (.slice l1 l2 l3) ∧ w'.cell? ⟨kb, ko + j * 6 + 5, none⟩ = some (.slice q1 q2 q3)) 11 mx ?_ (fun hHeld => ?_)
        · (try dsimp only)
          exact HCEL.out _ (fun k _ => rfl)
        refine wpAnyL_take (i := 0) (v := ?_) rfl (by kernel_rfl) (by kernel_rfl) (by kernel_rfl) (by kernel_rfl) (fun _ _ _ h => h) (Or.inl ⟨by rfl, ?_⟩) (by assumption) ?_
        rotate_left
        · (intro w hSw; (try dsimp only at hSw); go_simp; (try with_reducible rfl))
        refine wpAnyL_take (i := 1) (v := ?_) rfl (by kernel_rfl) (by kernel_rfl) (by kernel_rfl) (by kernel_rfl) (fun _ _ _ h => h) (Or.inl ⟨by rfl, ?_⟩) (by assumption) ?_
        rotate_left
        · (intro w hSw; (try dsimp only at hSw); go_simp; (try with_reducible rfl))
        refine wpAnyL_take (i := 2) (v := ?_) rfl (by kernel_rfl) (by kernel_rfl) (by kernel_rfl) (by kernel_rfl) (fun _ _ _ h => h) (Or.inl ⟨by rfl, ?_⟩) (by assumption) ?_
        rotate_left
        · (intro w hSw; (try dsimp only at hSw); go_simp; (try with_reducible rfl))
        refine wpAnyL_take (i := 3) (v := ?_) rfl (by kernel_rfl) (by kernel_rfl) (by kernel_rfl) (by kernel_rfl) (fun _ _ _ h => h) (Or.inl ⟨by rfl, ?_⟩) (by assumption) ?_
        rotate_left
        · (intro w hSw; (try dsimp only at hSw); go_simp; (try with_reducible rfl))
        refine wpAnyL_take (i := 4) (v := ?_) rfl (by kernel_rfl) (by kernel_rfl) (by kernel_rfl) (by kernel_rfl) (fun _ _ _ h => h) (Or.inl ⟨by rfl, ?_⟩) (by assumption) ?_
        rotate_left
        · (intro w hSw; (try dsimp only at hSw); go_simp; (try with_reducible rfl))
        refine wpAnyL_take (i := 5) (v := ?_) rfl (by kernel_rfl) (by kernel_rfl) (by kernel_rfl) (by kernel_rfl) (fun _ _ _ h => h) (Or.inl ⟨by rfl, ?_⟩) (by assumption) ?_
        rotate_left
        · (intro w hSw; (try dsimp only at hSw); go_simp; (try with_reducible rfl))
        refine wpAnyL_take (i := 6) (v := ?_) rfl (by kernel_rfl) (by kernel_rfl) (by kernel_rfl) (by kernel_rfl) (fun _ _ _ h => h) (Or.inl ⟨by rfl, ?_⟩) (by assumption) ?_
        rotate_left
        · (intro w hSw; (try dsimp only at hSw); go_simp; (try with_reducible rfl))
        refine wpAnyL_one (i := 7) (by kernel_rfl) rfl (fun K hK => ?_)
        go_simp
        go_at_call 40
        refine HCALL.mono ?_
        rintro e w5 ⟨v', rfl, ⟨u0, u1, u2, u3, r1, r2, r3, s1', s2', s3', rfl⟩, htf5, hb5⟩
        have HTF5 := Hid.mk htf5
        have HB5 : Hid (RowKit.Below wr.heap.size wr w5) := (Below.refl _ _).drew.trans hb5
        have hsz5 := HB5.out.size
        clear htf5 hb5
        have HOWN6 : Hid ((w5.alloc (.cells #[.int .i64 u0, .int .i64 u1, .bool u2, .string u3, .slice r1 r2 r3, .slice s1' s2' s3'] 38)).ownsRow (w.heap.size + 3) 38 6 (.slice a j cap) j xs) := (owns_block HOWN.out (fun g hg => HB5.out.block g (by subst hg; exact (World.ownsRow.lt HOWN.out g rfl).2))).alloc _
        have HNEWS := Hid.mk (World.news_of_block (cs := #[.int .i64 u0, .int .i64 u1, .bool u2, .string u3, .slice r1 r2 r3, .slice s1' s2' s3']) (t := 38) (fr := (0, 0)) (alloc_new w5 (.cells #[.int .i64 u0, .int .i64 u1, .bool u2, .string u3, .slice r1 r2 r3, .slice s1' s2' s3'] 38)))
        dsimp only
        refine hK.out _ _ ?_ (fun hHeld => ?_)
        · (try dsimp only)
          exact HCEL.out _ (fun k hk => HB5.out.block k (by omega))
        clear hK K
        refine wpAnyL_one (i := 8) (by kernel_rfl) rfl (fun K hK => ?_)
        go_simp
        refine hK.out _ _ ?_ (fun hHeld => ?_)
        · (try dsimp only)
          exact HCEL.out _ (fun k hk => (Below.heap_alloc _ _ k (by omega)).trans (HB5.out.block k (by omega)))
        clear hK K
        refine wpAnyL_one (i := 9) (by kernel_rfl) rfl (fun K hK => ?_)
        refine step_append_lies _ (by rfl) _ _ _ (by rfl) (w.heap.size + 3) 38 i0 _ 6 88 Tryz.underlying36 hi iz0 iz1 iz2 rfl (by decide) (.slice a j cap) j xs (by rfl) HOWN6.out ⟨w5.heap.size, 0, none⟩ 1 1 [.int .i64 u0, .int .i64 u1, .bool u2, .string u3, .slice r1 r2 r3, .slice s1' s2' s3'] (by rfl) (by rfl) HNEWS.out (by simp [Value.oneCell']) (by omega) (by simp [maxLen]; omega) (by omega) (by simp; omega) (w5.heap.size + 1) (by simp) ?_
        intro g7 c7 W7 hown7 hgr7 hat7 hlt7
        have HOWN7 := Hid.mk hown7
        have HGR7 := Hid.mk hgr7
        have HAT7 := Hid.mk hat7
        have HBL7 : Hid (∀ k, k < w5.heap.size + 1 → ownB a k = false → W7.heap[k]? = (w5.alloc (.cells #[.int .i64 u0, .int .i64 u1, .bool u2, .string u3, .slice r1 r2 r3, .slice s1' s2' s3'] 38)).heap[k]?) := fun k hk ho => hgr7.block k (by simpa using hk) (ownB_none ho)
        have HCE7 := Hid.mk (HCEL.out W7 (fun k hk => (HBL7.out k (by omega) (by cases ho : ownB a k with | false => rfl | true => exact absurd (HRB.out k ho).1 (by omega))).trans ((Below.heap_alloc _ _ k (by omega)).trans (HB5.out.block k (by omega)))))
        have HZ7 : Hid (W7.heap[w.heap.size + 1 + 1]? = some (.cells #[.int .i64 9, .int .i64 0, .bool false, .string { data := #[] }, .slice none 0 0, .slice a j cap] 38 (0, 0))) := (HBL7.out _ (by omega) (by cases ho : ownB a (w.heap.size + 1 + 1) with | false => rfl | true => exact absurd (HRB.out _ ho).1 (by omega))).trans ((Below.heap_alloc _ _ _ (by omega)).trans ((HB5.out.block _ (by omega)).trans HZR.out))
        have fz7 := frz HZ7.out
        have z75 := (cells6 HZ7.out).2.2.2.2.2.1
        clear hown7 hgr7 hat7
        refine hK.out _ _ ?_ (fun hHeld => ?_)
        · (try dsimp only)
          exact HCE7.out
        clear hK K
        refine wpAnyL_take (i := 10) (v := ?_) rfl (by kernel_rfl) (by kernel_rfl) (by kernel_rfl) (by kernel_rfl) (fun _ _ _ h => h) (Or.inl ⟨by rfl, ?_⟩) (by assumption) ?_
        rotate_left
        · (intro w hSw; (try dsimp only at hSw); go_simp; (try with_reducible rfl))
        refine wpAnyL_last (by kernel_rfl) rfl (by kernel_rfl) (fun K hK => ?_)
        go_simp
        refine hK.out _ _ ?_
        clear hK K
        go_wp2
        have KZ : Kept (fun k => k = w.heap.size + 1 + 1) W7 (W7.setCell ⟨w.heap.size + 1 + 1, 5, none⟩ (.slice (some ⟨g7, 0, none⟩) (j + 1) c7)) := (Kept.refl (fun k => k = w.heap.size + 1 + 1) W7).setCell (p := ⟨w.heap.size + 1 + 1, 5, none⟩) rfl _
        refine ⟨⟨j + 1, some ⟨g7, 0, none⟩, c7, hlt, by go_num, ?_, set5_heap HZ7.out, ?_⟩, by simp [intOf]; omega⟩
        · rw [HTK.out]
          refine RowF.move (w := W7) ?_ (fun k hk => by simp; omega) KZ.size (fun k h1 h2 => KZ.block k h1 (fun e => by subst e; exact absurd h2 (by simp)))
          refine RowF.snoc (w := w5.alloc (.cells #[.int .i64 u0, .int .i64 u1, .bool u2, .string u3, .slice r1 r2 r3, .slice s1' s2' s3'] 38)) (a := a) (cap := cap) (xs := xs) (kvs := kvs) (fun j' t' hj' => ⟨(HKV.out j' t' hj').1, ((HKV.out j' t' hj').2.on HB5.out).on ((Below.refl _ _).alloc (Nat.le_refl _) _)⟩) HXL.out (by rw [HLJ.out]; exact HOWN7.out) (by rw [HLJ.out]; exact HGR7.out) (by rw [HLJ.out]; simpa using HAT7.out) ?_
          refine HTF5.out.move (by simp) (fun k h1 h2 => ⟨?_, Below.heap_alloc _ _ k h1⟩)
          have h3 : wr.heap.size ≤ k := by simpa using h2
          cases ho : ownB a k with
          | false => simp; omega
          | true => exact absurd (HRB.out k ho).2 (by omega)
        · refine HBR.out.trans (((Kept.of_below HB5.out).alloc (.cells #[.int .i64 u0, .int .i64 u1, .bool u2, .string u3, .slice r1 r2 r3, .slice s1' s2' s3'] 38)).trans (Kept.trans (b := W7) ⟨HGR7.out.os, HGR7.out.tape, HGR7.out.output, HGR7.out.size, fun k hk hn => HGR7.out.block k hk (fun e => ?_)⟩ (KZ.imp (fun k _ h => Or.inl h))))
          have := (World.ownsRow.lt HOWN.out k e.symm).1
          omega
      · obtain rfl : j = ks.length := by omega
        have hby := (HBR.out.block (w.heap.size + 1) (by omega) (by omega)).trans HY1.out
        obtain ⟨y0, y1, y2, y3, y4, y5, y6⟩ := cells6 hby
        have fy := frz hby
        clear hby
        have HLJ : Hid (((ks.take ks.length).map cleanT).length = ks.length) := by unfold Hid; rw [List.length_map, List.length_take]; omega
        have HT : Hid (R = .mk 9 0 false { data := #[] } [] ((ks.take ks.length).map cleanT)) := by unfold Hid; rw [HR.out, List.take_length]
        generalize (ks.take ks.length).map cleanT = TS at *
        go_wp2
        refine bodyPost_ret (v := .agg #[.int .i64 9, .int .i64 0, .bool false, .string { data := #[] }, .slice none 0 0, .slice a ks.length cap]) (by simp [results, Tryz.results40, go_sem, y0, y1, y2, y3, y4, y5]) rfl ⟨_, rfl, ⟨_, _, _, _, _, _, _, _, _, _, rfl⟩, ?_, ?_⟩
        all_goals have KF := keep6 (P := fun k => k = w.heap.size + 1) (w := wr) (b := w.heap.size + 1) (a0 := .int .i64 9) (a1 := .int .i64 0) (a2 := .bool false) (a3 := .string { data := #[] }) (a4 := .slice none 0 0) (a5 := .slice a ks.length cap) rfl
        · rw [HT.out]
          have hrow := HROW.out.move (fun k hk => by simp; omega) KF.size (fun k h1 h2 => KF.block k h1 (fun e => by subst e; exact absurd h2 (by simp)))
          have hd2 := hrow.done (fun k hk => by simp; omega) (f := 9) (n := 0) (hd := false) (nm := { data := #[] }) (la := none) (lc := 0) (ls := []) (Or.inl rfl) (fun _ => rfl) (Nat.le_refl _) (by omega)
          rw [HLJ.out] at hd2
          exact hd2.sub (fun k hk => by simp at hk ⊢; omega)
        · exact HG1.out.below.trans (Below.trans (HBR.out.below (by omega) (fun k hk => by omega)) (KF.below (by omega) (fun k hk => by omega)))
end Go.Proofs.YtndjdeiccmhelaaGreat
