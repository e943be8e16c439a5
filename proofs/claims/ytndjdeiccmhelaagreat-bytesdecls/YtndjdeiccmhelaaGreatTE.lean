/- Terms as trees, and how they lie in memory. -/
import Derived.Test.YtndjdeiccmhelaaGreatD
namespace Go.Proofs.YtndjdeiccmhelaaGreat
open Go.RowKit Go.Sort

abbrev LvT := Int × List (Int × Int)

/-- a term, as plain data -/
inductive Tm where
  | mk (form n : Int) (hid : Bool) (name : ByteArray) (ls : List LvT) (ks : List Tm)

/-- A slice at address a holds the levels ls in world w; a nil list has no room. -/
def LN (w : World) (a : Option Addr) (ls : List LvT) : Prop :=
  ls = [] ∨ ∃ b off, a = some ⟨b, off, none⟩ ∧ b < w.heap.size ∧ ∀ i n xs, ls[i]? = some (n, xs) → w.cell? ⟨b, off + i * 2, none⟩ = some (.int .i64 n) ∧ ∃ a' cap', w.cell? ⟨b, off + i * 2 + 1, none⟩ = some (.slice a' xs.length cap') ∧ SL w a' xs ∧ (a' = none → cap' = 0)

theorem LN.toLL {w : World} {a : Option Addr} {ls : List LvT} (h : LN w a ls) : LL w a ls := by
  rcases h with h | ⟨b, off, ha, hlt, hc⟩
  · exact Or.inl h
  · refine Or.inr ⟨b, off, ha, hlt, fun i n xs hi => ?_⟩
    obtain ⟨c0, a', cap', c1, hs, -⟩ := hc i n xs hi
    exact ⟨c0, a', cap', c1, hs⟩

theorem LN.below {w w' : World} {a : Option Addr} {ls : List LvT} (h : LN w a ls) (hb : RowKit.Below w.heap.size w w') : LN w' a ls := by
  rcases h with h | ⟨b, off, ha, hlt, hc⟩
  · exact Or.inl h
  · refine Or.inr ⟨b, off, ha, Nat.lt_of_lt_of_le hlt hb.size, fun i n xs hi => ?_⟩
    obtain ⟨c0, a', cap', c1, hs, hn⟩ := hc i n xs hi
    exact ⟨(hb.cell (p := ⟨b, off + i * 2, none⟩) hlt).trans c0, a', cap', (hb.cell (p := ⟨b, off + i * 2 + 1, none⟩) hlt).trans c1, hs.below hb, hn⟩

/-- the six cells from o on in block b hold t -/
inductive TC (w : World) : Nat → Nat → Tm → Prop where
  | mk {b o : Nat} {f n : Int} {h : Bool} {nm : ByteArray} {ls : List LvT} {ks : List Tm} {la : Option Addr} {lc : Nat} {ka : Option Addr} {kc kb ko : Nat}
    (c0 : w.cell? ⟨b, o, none⟩ = some (.int .i64 f)) (c1 : w.cell? ⟨b, o + 1, none⟩ = some (.int .i64 n)) (c2 : w.cell? ⟨b, o + 2, none⟩ = some (.bool h)) (c3 : w.cell? ⟨b, o + 3, none⟩ = some (.string nm)) (c4 : w.cell? ⟨b, o + 4, none⟩ = some (.slice la ls.length lc)) (c5 : w.cell? ⟨b, o + 5, none⟩ = some (.slice ka ks.length kc))
    (hl : LN w la ls) (hln : la = none → lc = 0) (hlc : ls.length ≤ lc) (hlm : lc ≤ 9223372036854775807) (hkn : ka = none → kc = 0) (hkc : ks.length ≤ kc) (hkm : kc ≤ 9223372036854775807) (hk : ks ≠ [] → ka = some ⟨kb, ko, none⟩ ∧ kb < w.heap.size) (kids : ∀ i t, ks[i]? = some t → TC w kb (ko + i * 6) t) : TC w b o (.mk f n h nm ls ks)

/-- the value v is t in world w -/
inductive TV (w : World) : Value → Tm → Prop where
  | mk {f n : Int} {h : Bool} {nm : ByteArray} {ls : List LvT} {ks : List Tm} {la : Option Addr} {lc : Nat} {ka : Option Addr} {kc kb ko : Nat}
    (hl : LN w la ls) (hln : la = none → lc = 0) (hlc : ls.length ≤ lc) (hlm : lc ≤ 9223372036854775807) (hkn : ka = none → kc = 0) (hkc : ks.length ≤ kc) (hkm : kc ≤ 9223372036854775807) (hk : ks ≠ [] → ka = some ⟨kb, ko, none⟩ ∧ kb < w.heap.size) (kids : ∀ i t, ks[i]? = some t → TC w kb (ko + i * 6) t) : TV w (.agg #[.int .i64 f, .int .i64 n, .bool h, .string nm, .slice la ls.length lc, .slice ka ks.length kc]) (.mk f n h nm ls ks)

theorem TC.lt {w : World} {b o : Nat} {t : Tm} (h : TC w b o t) : b < w.heap.size := by
  cases h with
  | mk c0 => exact World.block_lt_of_cell? w _ c0

theorem TC.on {w w' : World} {b o : Nat} {t : Tm} (h : TC w b o t) (hb : RowKit.Below w.heap.size w w') : TC w' b o t := by
  induction h with
  | @mk b o f n h nm ls ks la lc ka kc kb ko c0 c1 c2 c3 c4 c5 hl hln hlc hlm hkn hkc hkm hk kids ih =>
    have hlt : b < w.heap.size := World.block_lt_of_cell? w _ c0
    refine TC.mk (kb := kb) (ko := ko) ((hb.cell (p := ⟨b, o, none⟩) hlt).trans c0) ((hb.cell (p := ⟨b, o + 1, none⟩) hlt).trans c1) ((hb.cell (p := ⟨b, o + 2, none⟩) hlt).trans c2) ((hb.cell (p := ⟨b, o + 3, none⟩) hlt).trans c3) ((hb.cell (p := ⟨b, o + 4, none⟩) hlt).trans c4) ((hb.cell (p := ⟨b, o + 5, none⟩) hlt).trans c5) (hl.below hb) hln hlc hlm hkn hkc hkm (fun hne => ⟨(hk hne).1, Nat.lt_of_lt_of_le (hk hne).2 hb.size⟩) ih

theorem TV.on {w w' : World} {v : Value} {t : Tm} (h : TV w v t) (hb : RowKit.Below w.heap.size w w') : TV w' v t := by
  cases h with
  | mk hl hln hlc hlm hkn hkc hkm hk kids => exact TV.mk (hl.below hb) hln hlc hlm hkn hkc hkm (fun hne => ⟨(hk hne).1, Nat.lt_of_lt_of_le (hk hne).2 hb.size⟩) (fun i t hi => (kids i t hi).on hb)

/-- a term in its cells, as a value -/
theorem TC.val {w : World} {b o : Nat} {t : Tm} (h : TC w b o t) : ∃ v0 v1 v2 v3 v4 v5, w.cell? ⟨b, o, none⟩ = some v0 ∧ w.cell? ⟨b, o + 1, none⟩ = some v1 ∧ w.cell? ⟨b, o + 2, none⟩ = some v2 ∧ w.cell? ⟨b, o + 3, none⟩ = some v3 ∧ w.cell? ⟨b, o + 4, none⟩ = some v4 ∧ w.cell? ⟨b, o + 5, none⟩ = some v5 ∧ TV w (.agg #[v0, v1, v2, v3, v4, v5]) t := by
  cases h with
  | mk c0 c1 c2 c3 c4 c5 hl hln hlc hlm hkn hkc hkm hk kids => exact ⟨_, _, _, _, _, _, c0, c1, c2, c3, c4, c5, TV.mk hl hln hlc hlm hkn hkc hkm hk kids⟩

/-- a term in its cells, as a value, each cell by its kind -/
theorem TC.valE {w : World} {b o : Nat} {t : Tm} (h : TC w b o t) : ∃ (v0 v1 : Int) (v2 : Bool) (v3 : ByteArray) (l1 : Option Addr) (l2 l3 : Nat) (k1 : Option Addr) (k2 k3 : Nat), w.cell? ⟨b, o, none⟩ = some (.int .i64 v0) ∧ w.cell? ⟨b, o + 1, none⟩ = some (.int .i64 v1) ∧ w.cell? ⟨b, o + 2, none⟩ = some (.bool v2) ∧ w.cell? ⟨b, o + 3, none⟩ = some (.string v3) ∧ w.cell? ⟨b, o + 4, none⟩ = some (.slice l1 l2 l3) ∧ w.cell? ⟨b, o + 5, none⟩ = some (.slice k1 k2 k3) ∧ TV w (.agg #[.int .i64 v0, .int .i64 v1, .bool v2, .string v3, .slice l1 l2 l3, .slice k1 k2 k3]) t := by
  cases h with
  | mk c0 c1 c2 c3 c4 c5 hl hln hlc hlm hkn hkc hkm hk kids => exact ⟨_, _, _, _, _, _, _, _, _, _, c0, c1, c2, c3, c4, c5, TV.mk hl hln hlc hlm hkn hkc hkm hk kids⟩

def Tm.form : Tm → Int | .mk f _ _ _ _ _ => f
def Tm.kids : Tm → List Tm | .mk _ _ _ _ _ ks => ks
def Tm.n : Tm → Int | .mk _ n _ _ _ _ => n
def Tm.hid : Tm → Bool | .mk _ _ h _ _ _ => h
def Tm.name : Tm → ByteArray | .mk _ _ _ nm _ _ => nm
def Tm.levels : Tm → List LvT | .mk _ _ _ _ ls _ => ls
end Go.Proofs.YtndjdeiccmhelaaGreat

/- Induction on terms; a term in a box; the contract of telamonref1.has. -/
namespace Go.Proofs.YtndjdeiccmhelaaGreat
open Go.RowKit Go.Sort

theorem Tm.ind {P : Tm → Prop} (h : ∀ f n hd nm ls ks, (∀ k ∈ ks, P k) → P (.mk f n hd nm ls ks)) (t : Tm) : P t :=
  Tm.rec (motive_1 := P) (motive_2 := fun ks => ∀ k ∈ ks, P k) (fun f n hd nm ls ks ih => h f n hd nm ls ks ih) (by simp) (fun k ks h1 h2 => by
    intro x hx
    rcases List.mem_cons.1 hx with rfl | hx
    · exact h1
    · exact h2 x hx) t

theorem cells6 {w : World} {b : Nat} {v0 v1 v2 v3 v4 v5 : Value} {t : TypeId} (h : w.heap[b]? = some (.cells #[v0, v1, v2, v3, v4, v5] t (0, 0))) :
    w.cell? ⟨b, 0, none⟩ = some v0 ∧ w.cell? ⟨b, 1, none⟩ = some v1 ∧ w.cell? ⟨b, 2, none⟩ = some v2 ∧ w.cell? ⟨b, 3, none⟩ = some v3 ∧ w.cell? ⟨b, 4, none⟩ = some v4 ∧ w.cell? ⟨b, 5, none⟩ = some v5 ∧ b < w.heap.size :=
  ⟨by rw [cell_of_row _ b 0 _ _ _ h]; rfl, by rw [cell_of_row _ b 1 _ _ _ h]; rfl, by rw [cell_of_row _ b 2 _ _ _ h]; rfl, by rw [cell_of_row _ b 3 _ _ _ h]; rfl, by rw [cell_of_row _ b 4 _ _ _ h]; rfl, by rw [cell_of_row _ b 5 _ _ _ h]; rfl, (Array.getElem?_eq_some_iff.1 h).1⟩

end Go.Proofs.YtndjdeiccmhelaaGreat

/- How many parts a term has, how high it is; the contract of telamonref1.parts. -/
namespace Go.Proofs.YtndjdeiccmhelaaGreat
open Go.RowKit Go.Sort

/-- how many parts -/
def sizeT : Tm → Nat
  | .mk _ _ _ _ _ ks => 1 + (ks.attach.map fun k => sizeT k.1).sum
termination_by t => SizeOf.sizeOf t
decreasing_by
  have := List.sizeOf_lt_of_mem k.2
  simp only [Tm.mk.sizeOf_spec]; omega

/-- how high -/
def heightT : Tm → Nat
  | .mk _ _ _ _ _ ks => 1 + (ks.attach.map fun k => heightT k.1).foldl max 0
termination_by t => SizeOf.sizeOf t
decreasing_by
  have := List.sizeOf_lt_of_mem k.2
  simp only [Tm.mk.sizeOf_spec]; omega

theorem sizeT_mk (f n : Int) (hd : Bool) (nm : ByteArray) (ls : List LvT) (ks : List Tm) : sizeT (.mk f n hd nm ls ks) = 1 + (ks.map sizeT).sum := by
  rw [sizeT, List.attach_map_val (f := sizeT)]

theorem heightT_mk (f n : Int) (hd : Bool) (nm : ByteArray) (ls : List LvT) (ks : List Tm) : heightT (.mk f n hd nm ls ks) = 1 + (ks.map heightT).foldl max 0 := by
  rw [heightT, List.attach_map_val (f := heightT)]

theorem take_sum {ks : List Tm} {j : Nat} {k : Tm} (h : ks[j]? = some k) : ((ks.take (j + 1)).map sizeT).sum = ((ks.take j).map sizeT).sum + sizeT k := by
  obtain ⟨hj, rfl⟩ := List.getElem?_eq_some_iff.1 h
  rw [List.take_succ_eq_append_getElem hj, List.map_append, List.sum_append]; simp

theorem take_high {ks : List Tm} {j : Nat} {k : Tm} (h : ks[j]? = some k) : ((ks.take (j + 1)).map heightT).foldl max 0 = max (((ks.take j).map heightT).foldl max 0) (heightT k) := by
  obtain ⟨hj, rfl⟩ := List.getElem?_eq_some_iff.1 h
  rw [List.take_succ_eq_append_getElem hj, List.map_append, List.foldl_append]; simp

theorem sum_take_le (ks : List Tm) (j : Nat) : ((ks.take j).map sizeT).sum ≤ (ks.map sizeT).sum := by
  conv => rhs; rw [← List.take_append_drop j ks]
  rw [List.map_append, List.sum_append]; omega

theorem foldl_max_ge (l : List Nat) (m : Nat) : m ≤ l.foldl max m := by
  induction l generalizing m with
  | nil => exact Nat.le_refl _
  | cons a r ih => exact Nat.le_trans (Nat.le_max_left m a) (ih (max m a))

theorem high_take_le (ks : List Tm) (j : Nat) : ((ks.take j).map heightT).foldl max 0 ≤ (ks.map heightT).foldl max 0 := by
  conv => rhs; rw [← List.take_append_drop j ks]
  rw [List.map_append, List.foldl_append]
  exact foldl_max_ge _ _

/-- what parts answers -/
def partsR (t : Tm) (left high : Int) : Int × Int := if (sizeT t : Int) ≤ left ∧ (heightT t : Int) ≤ high then (sizeT t, heightT t) else (1073741824, 1073741824)

set_option maxRecDepth 100000 in
set_option maxHeartbeats 4000000 in
theorem parts_any (t : Tm) : ∀ (left high : Int) (v : Value) (w : World), left ≤ 20000 → high ≤ 500 → TV w v t → Calls Tryz.prog 98 #[v, .int .i64 left, .int .i64 high] w fun e w' => e = .returned (.tuple #[.int .i64 (partsR t left high).1, .int .i64 (partsR t left high).2]) ∧ Grew w w' := by
  refine Tm.ind (P := fun t => ∀ (left high : Int) (v : Value) (w : World), left ≤ 20000 → high ≤ 500 → TV w v t → Calls Tryz.prog 98 #[v, .int .i64 left, .int .i64 high] w fun e w' => e = .returned (.tuple #[.int .i64 (partsR t left high).1, .int .i64 (partsR t left high).2]) ∧ Grew w w') ?_ t
  intro f n hd nm ls ks ih left high v w hle hhi hv
  cases hv with
  | @mk _ _ _ _ _ _ la lc ka kc kb ko hl hln hlc hlm hkn hkc hkm hk kids =>
    have HS : Hid (sizeT (.mk f n hd nm ls ks) = 1 + (ks.map sizeT).sum) := sizeT_mk f n hd nm ls ks
    have HH : Hid (heightT (.mk f n hd nm ls ks) = 1 + (ks.map heightT).foldl max 0) := heightT_mk f n hd nm ls ks
    have HP : Hid (partsR (.mk f n hd nm ls ks) left high = if (((1 + (ks.map sizeT).sum : Nat) : Int) ≤ left ∧ ((1 + (ks.map heightT).foldl max 0 : Nat) : Int) ≤ high) then ((((1 + (ks.map sizeT).sum : Nat) : Int), ((1 + (ks.map heightT).foldl max 0 : Nat) : Int)) : Int × Int) else (1073741824, 1073741824)) := by
      unfold Hid partsR; rw [HS.out, HH.out]
    generalize partsR (.mk f n hd nm ls ks) left high = R at HP ⊢
    have HK := Hid.mk hk
    have HKIDS := Hid.mk kids
    have HIH := Hid.mk ih
    clear hk kids ih hl HS HH
    obtain ⟨W0, hW0⟩ : ∃ W0, w.alloc (.cells #[.int .i64 f, .int .i64 n, .bool hd, .string nm, .slice la ls.length lc, .slice ka ks.length kc] 38) = W0 := ⟨_, rfl⟩
    have HG0 : Hid (Grew w W0) := by unfold Hid; rw [← hW0]; exact (Grew.refl w).alloc _
    have HX0 : Hid (W0.heap[w.heap.size]? = some (.cells #[.int .i64 f, .int .i64 n, .bool hd, .string nm, .slice la ls.length lc, .slice ka ks.length kc] 38 (0, 0))) := by unfold Hid; rw [← hW0]; exact alloc_new _ _
    have HW0 := Hid.mk hW0
    clear hW0
    rcases (show left < 1 ∨ (1 ≤ left ∧ high < 1) ∨ (1 ≤ left ∧ 1 ≤ high) by omega) with h1 | ⟨h1, h2⟩ | ⟨h1, h2⟩
    · have HR : Hid (R = (1073741824, 1073741824)) := by unfold Hid; rw [HP.out, if_neg (by omega)]
      clear HP
      go_enter Tryz.func98, Tryz.ntmps98
      go_wp2
      go_ret2
      exact ⟨by rw [HR.out]; rfl, by have := HG0.out; rwa [← HW0.out] at this⟩
    · have HR : Hid (R = (1073741824, 1073741824)) := by unfold Hid; rw [HP.out, if_neg (by omega)]
      clear HP
      go_enter Tryz.func98, Tryz.ntmps98
      go_wp2
      go_ret2
      exact ⟨by rw [HR.out]; rfl, by have := HG0.out; rwa [← HW0.out] at this⟩
    · go_enter Tryz.func98, Tryz.ntmps98
      go_wp2
      rw [HW0.out]
      go_loopw [8, 9, 10] (fun vn vh i wr => ∃ j : Nat, j ≤ ks.length ∧ i = .int .i64 j ∧ vn = .int .i64 ((1 + ((ks.take j).map sizeT).sum : Nat) : Int) ∧ vh = .int .i64 ((((ks.take j).map heightT).foldl max 0 : Nat) : Int) ∧ ((1 + ((ks.take j).map sizeT).sum : Nat) : Int) ≤ left ∧ ((((ks.take j).map heightT).foldl max 0 : Nat) : Int) < high ∧ Grew W0 wr) (fun _ _ i _ => ks.length - (intOf i).toNat)
      case atStart => exact ⟨0, Nat.zero_le _, rfl, rfl, rfl, by simpa using h1, by simp; omega, Grew.refl _⟩
      case round =>
        obtain ⟨j, hj, rfl, rfl, rfl, hn1, hh1, hg⟩ := hrel
        have HG := Hid.mk hg
        clear hg
        obtain ⟨x0, x1, x2, x3, x4, x5, x6⟩ := cells6 ((HG.out.below.block w.heap.size (Array.getElem?_eq_some_iff.1 HX0.out).1).trans HX0.out)
        by_cases hlt : j < ks.length
        · obtain ⟨rfl, hkb⟩ := HK.out (by intro e; rw [e] at hlt; simp at hlt)
          have hkt : ks[j]? = some ks[j] := by simp [hlt]
          have htc := ((HKIDS.out j _ hkt).on (HG0.out.trans HG.out).below)
          obtain ⟨v0, v1, v2, v3, v4, v5, c0, c1, c2, c3, c4, c5, hv⟩ := htc.val
          have HTS := Hid.mk (take_sum hkt)
          have HTH := Hid.mk (take_high hkt)
          have HLS := Hid.mk (sum_take_le ks (j + 1))
          have HLH := Hid.mk (high_take_le ks (j + 1))
          obtain ⟨s, hs⟩ : ∃ s, ((ks.take j).map sizeT).sum = s := ⟨_, rfl⟩
          obtain ⟨m, hm⟩ : ∃ m, ((ks.take j).map heightT).foldl max 0 = m := ⟨_, rfl⟩
          rw [hs] at hn1 HTS ⊢
          rw [hm] at hh1 HTH ⊢
          clear hs hm
          have HCALL := HIH.out ks[j] (List.getElem_mem hlt) (left - ((1 + s : Nat) : Int)) (high - 1) _ wr (by omega) (by omega) hv
          have zj : (j : Int) < (ks.length : Int) := by omega
          obtain ⟨k, hk⟩ : ∃ k, ks[j] = k := ⟨_, rfl⟩
          rw [hk] at HTS HTH HCALL
          clear hk hkt htc hv
          have HPK : Hid (partsR k (left - ((1 + s : Nat) : Int)) (high - 1) = if (sizeT k : Int) ≤ left - ((1 + s : Nat) : Int) ∧ (heightT k : Int) ≤ high - 1 then ((sizeT k : Int), (heightT k : Int)) else (1073741824, 1073741824)) := rfl
          generalize sizeT k = sk at *
          generalize heightT k = hk at *
          by_cases hc : (sk : Int) ≤ left - ((1 + s : Nat) : Int) ∧ (hk : Int) ≤ high - 1
          · have e := HPK.out
            rw [if_pos hc] at e
            rw [e] at HCALL
            obtain ⟨hc1, hc2⟩ := hc
            clear HPK e
            by_cases hmk : m < hk
            all_goals
              go_wp2_with fail
              refine HCALL.mono ?_
              rintro e w5 ⟨rfl, hg5⟩
              go_wp2
              refine ⟨⟨j + 1, hlt, by go_num, ?_, ?_, ?_, ?_, HG.out.trans hg5⟩, by simp [intOf]; omega⟩
              · rw [HTS.out]; exact congrArg (Value.int .i64) (by omega)
              · rw [HTH.out]; exact congrArg (Value.int .i64) (by omega)
              · rw [HTS.out]; omega
              · rw [HTH.out]; omega
          · have e := HPK.out
            rw [if_neg hc] at e
            rw [e] at HCALL
            have HR : Hid (R = (1073741824, 1073741824)) := by
              unfold Hid
              have h1' := HTS.out
              have h2' := HTH.out
              have h3' := HLS.out
              have h4' := HLH.out
              rw [HP.out, if_neg (by omega)]
            clear HPK e hc
            obtain ⟨B, hB, hB0, hB1⟩ : ∃ B : Int, (1073741824 : Int) = B ∧ 1000000 ≤ B ∧ B ≤ 2000000000 := ⟨_, rfl, by decide, by decide⟩
            simp only [hB] at HCALL
            clear hB
            go_wp2_with fail
            refine HCALL.mono ?_
            rintro e w5 ⟨rfl, hg5⟩
            go_wp2
            go_ret2
            exact ⟨by rw [HR.out]; rfl, (HG0.out.trans HG.out).trans hg5⟩
        · have hjk : ks.take j = ks := List.take_of_length_le (by omega)
          rw [hjk] at hn1 hh1 ⊢
          have HR : Hid (R = (((1 + (ks.map sizeT).sum : Nat) : Int), ((1 + (ks.map heightT).foldl max 0 : Nat) : Int))) := by
            unfold Hid
            rw [HP.out, if_pos ⟨hn1, by omega⟩]
          obtain ⟨s, hs⟩ : ∃ s, (ks.map sizeT).sum = s := ⟨_, rfl⟩
          obtain ⟨m, hm⟩ : ∃ m, (ks.map heightT).foldl max 0 = m := ⟨_, rfl⟩
          rw [hs, hm] at HR
          rw [hs] at hn1 ⊢
          rw [hm] at hh1 ⊢
          clear hs hm hjk HP
          go_wp2
          go_ret2
          refine ⟨?_, HG0.out.trans HG.out⟩
          rw [HR.out]
          exact congrArg (fun z => Ending.returned (Value.tuple #[.int .i64 ((1 + s : Nat) : Int), .int .i64 z])) (by omega)
end Go.Proofs.YtndjdeiccmhelaaGreat
