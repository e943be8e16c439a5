/- The contracts of level.canonical and level.Norm. -/
import Derived.Test.YtndjdeiccmhelaaGreatG
import Derived.Laws.StructEq
namespace Go.Proofs.YtndjdeiccmhelaaGreat
open Go.RowKit Go.Sort Go.Shelf Go.Lib

/-- A level and a number are answered; the level's list lies in new memory; nothing old has turned. -/
def Res (w w' : World) (e : Ending) (r : Int × List (Int × Int) × Int) : Prop :=
  ∃ v, e = .returned (.tuple #[.agg #[.int .i64 r.1, v], .int .i64 r.2.2]) ∧ OR w.heap.size w' v r.2.1 ∧ RowKit.Below w.heap.size w w'

/-- N of the canonical level -/
def nOf (n : Int) (ys : List (Int × Int)) : Int := if ys.any (fun p => decide (n ≤ p.2)) then 0 else n

/-- what canonical answers -/
def canonR (n : Int) (xs : List (Int × Int)) : Int × List (Int × Int) × Int := if rightB (nOf n (tidyL xs)) (tidyL xs) then (nOf n (tidyL xs), tidyL xs, 0) else (0, [], 13)

theorem nOf_take {n : Int} {ys : List (Int × Int)} {k : Nat} {z : Int × Int} (h : ys[k]? = some z) : nOf n (ys.take (k + 1)) = if n ≤ z.2 then 0 else nOf n (ys.take k) := by
  obtain ⟨hk, rfl⟩ := List.getElem?_eq_some_iff.1 h
  unfold nOf
  rw [List.take_succ_eq_append_getElem hk, List.any_append]
  by_cases h : n ≤ ys[k].2
  · simp [h]
  · have : decide (n ≤ ys[k].2) = false := by simp; omega
    simp only [List.any_cons, List.any_nil, this, Bool.or_false, if_neg h]

theorem OR.setBelow {B : Nat} {w : World} {v : Value} {xs : List (Int × Int)} (h : OR B w v xs) {a : Addr} (ha : a.block < B) (u : Value) : OR B (w.setCell a u) v xs := ownsRow_setCell_below h ha u

set_option maxHeartbeats 2000000 in
theorem canonical_any (n : Int) (a : Option Addr) (cap : Nat) (xs : List (Int × Int)) (w : World) (hS : SL w a xs) (hn : xs.length ≤ 4398046511104) :
    Calls Tryz.prog 144 #[.int .i64 n, .slice a xs.length cap] w fun e w' => Res w w' e (canonR n xs) := by
  have hG := gathered_any a cap xs (w.alloc (.cells #[.int .i64 0, .slice none 0 0] 105)) (hS.below ((Grew.refl w).alloc _).below) hn
  have HL : (tidyL xs).length ≤ xs.length := tidyL_le xs
  have HC : Hid (canonR n xs = if rightB (nOf n (tidyL xs)) (tidyL xs) then (nOf n (tidyL xs), tidyL xs, 0) else (0, [], 13)) := rfl
  generalize canonR n xs = C at HC ⊢
  generalize tidyL xs = ys at hG HL HC ⊢
  clear hS
  go_enter Tryz.func144, Tryz.ntmps144
  go_wp2_with (go_at_call 147; refine hG.mono ?_; rintro e w1 ⟨v, rfl, hO, hB⟩; obtain ⟨a', cap', rfl, hS1, -⟩ := hO.shape)
  have hz := hB.size
  have hz' : w.heap.size + 1 ≤ w1.heap.size := by simpa using hz
  clear hG hz
  have HO := Hid.mk hO
  have HS1 := Hid.mk hS1
  have HB := Hid.mk hB
  clear hO hS1 hB
  go_loopw [16] (fun i wr => ∃ k : Nat, k ≤ ys.length ∧ i = .int .i64 k ∧ RowKit.Below w1.heap.size w1 wr ∧ wr.heap[w1.heap.size]? = some (.cells #[.int .i64 (nOf n (ys.take k)), .slice a' ys.length cap'] 105 (0, 0))) (fun i _ => ys.length - (intOf i).toNat)
  case atStart => exact ⟨0, Nat.zero_le _, rfl, (Below.refl _ _).alloc (Nat.le_refl _) _, by simp only [nOf, List.take_zero, List.any_nil]; exact alloc_new _ _⟩
  case round =>
    obtain ⟨k, hk, rfl, hb, hh⟩ := hrel
    obtain ⟨q0, q1, q2, q3, q4⟩ := cells2 hh
    have HH := Hid.mk hh
    clear hh
    have hbb := hb.size
    by_cases hlt : k < ys.length
    · obtain ⟨b, off, x, y, rfl, hbl, hc0, hc1, hxy⟩ := (HS1.out.below hb).at hlt
      have HE := Hid.mk (nOf_take (n := n) hxy.out)
      generalize nOf n (ys.take k) = m at *
      by_cases hge : n ≤ y
      · go_wp2
        refine ⟨⟨k + 1, hlt, by go_num, (hb.setCell (p := ⟨w1.heap.size, 0, none⟩) (Nat.le_refl _) _).alloc (by simpa using hbb) _, ?_⟩, by simp [intOf]; omega⟩
        rw [HE.out, if_pos hge]
        exact alloc_old (heap_set0 HH.out) _
      · go_wp2
        refine ⟨⟨k + 1, hlt, by go_num, hb.alloc hbb _, ?_⟩, by simp [intOf]; omega⟩
        rw [HE.out, if_neg (by simpa using hge)]
        exact alloc_old HH.out _
    · have hk' : k = ys.length := by omega
      subst hk'
      rw [List.take_length] at q0 HH
      have HR := right_any (nOf n ys) ys a' cap' wr (HS1.out.below hb) (by omega)
      have hR0 : w1.heap[w.heap.size]? = some (.cells #[.int .i64 0, .slice none 0 0] 105 (0, 0)) := (HB.out.block w.heap.size (by simp)).trans (alloc_new _ _)
      have hR1 := (hb.block w.heap.size (by omega)).trans hR0
      generalize nOf n ys = m at *
      have hbB : RowKit.Below w.heap.size w wr := (((Below.refl w.heap.size w).alloc (Nat.le_refl _) _).trans (HB.out.mono (by simp))).trans (hb.mono (by omega))
      have HOr := Hid.mk (HO.out.below hb)
      cases hr : rightB m ys
      · simp only [hr] at HR
        go_wp2_with (go_at_call 143; refine HR.mono ?_; rintro e w2 ⟨rfl, hg2⟩; obtain ⟨p0, p1, p2, p3, p4⟩ := cells2 ((hg2.below.block w.heap.size (by omega)).trans hR1))
        have hCe := HC.out
        rw [hr, if_neg (by simp)] at hCe
        subst hCe
        refine bodyPost_ret (v := .tuple #[.agg #[.int .i64 0, .slice none 0 0], .int .i64 13]) (by simp [results, Tryz.results144, go_sem, p0, p1]) rfl ⟨_, rfl, OR.nil _ _, ?_⟩
        exact ((hbB.trans (hg2.below.mono (by omega))).setCell (p := ⟨w.heap.size, 0, none⟩) (Nat.le_refl _) _).setCell (p := ⟨w.heap.size, 1, none⟩) (Nat.le_refl _) _
      · simp only [hr] at HR
        go_wp2_with (go_at_call 143; refine HR.mono ?_; rintro e w2 ⟨rfl, hg2⟩; obtain ⟨p0, p1, p2, p3, p4⟩ := cells2 ((hg2.below.block w.heap.size (by omega)).trans hR1); obtain ⟨r0, r1, r2, r3, r4⟩ := cells2 ((hg2.below.block w1.heap.size (by omega)).trans HH.out))
        have hCe := HC.out
        rw [hr, if_pos rfl] at hCe
        subst hCe
        refine bodyPost_ret (v := .tuple #[.agg #[.int .i64 m, .slice a' ys.length cap'], .int .i64 0]) (by simp [results, Tryz.results144, go_sem, p0, p1]) rfl ⟨_, rfl, ?_, ?_⟩
        · exact OR.mono (((HOr.out.below hg2.below).setBelow (a := ⟨w.heap.size, 0, none⟩) (by simp) _).setBelow (a := ⟨w.heap.size, 1, none⟩) (by simp) _) (by simp)
        · exact ((hbB.trans (hg2.below.mono (by omega))).setCell (p := ⟨w.heap.size, 0, none⟩) (Nat.le_refl _) _).setCell (p := ⟨w.heap.size, 1, none⟩) (Nat.le_refl _) _
end Go.Proofs.YtndjdeiccmhelaaGreat

/- The contracts of level.Norm, level.raised and level.Suc. -/
namespace Go.Proofs.YtndjdeiccmhelaaGreat
open Go.RowKit Go.Sort Go.Shelf Go.Lib

/-- what Norm answers -/
def normR (n : Int) (xs : List (Int × Int)) : Int × List (Int × Int) × Int := if rightB n xs then canonR n xs else (0, [], 13)

set_option maxHeartbeats 1000000 in
theorem Norm_any (n : Int) (xs : List (Int × Int)) (a : Option Addr) (cap : Nat) (w : World) (hS : SL w a xs) (hn : xs.length ≤ 4398046511104) :
    Calls Tryz.prog 137 #[.agg #[.int .i64 n, .slice a xs.length cap]] w fun e w' => Res w w' e (normR n xs) := by
  have HR := right_any n xs a cap ((w.alloc (.cells #[.int .i64 n, .slice a xs.length cap] 105)).alloc (.cells #[.int .i64 0, .slice none 0 0] 105)) (hS.below (((Grew.refl w).alloc _).alloc _).below) (by omega)
  have HC : Hid (normR n xs = if rightB n xs then canonR n xs else (0, [], 13)) := rfl
  have HCa := fun (W : World) (h : SL W a xs) => canonical_any n a cap xs W h hn
  generalize canonR n xs = C at HC HCa
  generalize normR n xs = D at HC ⊢
  have HS := Hid.mk hS
  clear hS
  have hA : Grew w ((w.alloc (.cells #[.int .i64 n, .slice a xs.length cap] 105)).alloc (.cells #[.int .i64 0, .slice none 0 0] 105)) := ((Grew.refl w).alloc _).alloc _
  have HA := Hid.mk hA
  clear hA
  cases hr : rightB n xs
  · rw [hr, if_neg (by simp)] at HC
    simp only [hr] at HR
    go_enter Tryz.func137, Tryz.ntmps137
    go_wp2_with (go_at_call 143; refine HR.mono ?_; rintro e w1 ⟨rfl, hg⟩; obtain ⟨p0, p1, p2, p3, p4⟩ := cells2 ((hg.below.block (w.heap.size + 1) (by simp)).trans box_at1))
    have hCe := HC.out
    subst hCe
    refine bodyPost_ret (v := .tuple #[.agg #[.int .i64 0, .slice none 0 0], .int .i64 13]) (by simp [results, Tryz.results137, go_sem, p0, p1]) rfl ⟨_, rfl, OR.nil _ _, ?_⟩
    exact ((HA.out.trans hg).below.setCell (p := ⟨w.heap.size + 1, 0, none⟩) (Nat.le_succ _) _).setCell (p := ⟨w.heap.size + 1, 1, none⟩) (Nat.le_succ _) _
  · rw [hr, if_pos rfl] at HC
    simp only [hr] at HR
    go_enter Tryz.func137, Tryz.ntmps137
    go_wp2_with (first | (go_at_call 143; refine HR.mono ?_; rintro e w1 ⟨rfl, hg⟩; obtain ⟨r0, r1, r2, r3, r4⟩ := cells2 ((hg.below.block w.heap.size (by simp; omega)).trans box_at); have hR1 := (hg.below.block (w.heap.size + 1) (by simp)).trans box_at1; have hlt1 : w.heap.size + 1 < w1.heap.size := (Array.getElem?_eq_some_iff.1 hR1).1) | (go_at_call 144; refine (HCa _ (by exact HS.out.below (HA.out.trans hg).below)).mono ?_; rintro e w2 ⟨v, rfl, hO, hb2⟩; obtain ⟨a', cap', rfl, -⟩ := hO.shape; obtain ⟨p0, p1, p2, p3, p4⟩ := cells2 ((hb2.block (w.heap.size + 1) hlt1).trans hR1)))
    have hCe := HC.out
    subst hCe
    refine bodyPost_ret (v := .tuple #[.agg #[.int .i64 D.1, .slice a' D.2.1.length cap'], .int .i64 D.2.2]) (by simp [results, Tryz.results137, go_sem, p0, p1]) rfl ⟨_, rfl, ?_, ?_⟩
    · exact OR.mono ((hO.setBelow (a := ⟨w.heap.size + 1, 0, none⟩) hlt1 _).setBelow (a := ⟨w.heap.size + 1, 1, none⟩) hlt1 _) (by omega)
    · exact (((HA.out.trans hg).below.trans (hb2.mono (by omega))).setCell (p := ⟨w.heap.size + 1, 0, none⟩) (Nat.le_succ _) _).setCell (p := ⟨w.heap.size + 1, 1, none⟩) (Nat.le_succ _) _
end Go.Proofs.YtndjdeiccmhelaaGreat

/- The contracts of telamonlaw1.V and telamonref1.ExactLevel. -/
namespace Go.Proofs.YtndjdeiccmhelaaGreat
open Go.RowKit Go.Sort Go.Shelf Go.Lib

def exactB (na : Int) (xs : List (Int × Int)) (nb : Int) (ys : List (Int × Int)) : Bool := decide (na = nb) && decide (xs = ys)

theorem exact_len {na nb : Int} {xs ys : List (Int × Int)} (h : xs.length ≠ ys.length) : exactB na xs nb ys = false := by
  simp [exactB]; intro _ e; exact h (by rw [e])

theorem exact_at {na nb : Int} {xs ys : List (Int × Int)} {k : Nat} {p q : Int × Int} (h1 : xs[k]? = some p) (h2 : ys[k]? = some q) (h : p ≠ q) : exactB na xs nb ys = false := by
  simp [exactB]; intro _ e; rw [e, h2] at h1; exact h (by simpa using h1.symm)

theorem take_eq {xs ys : List (Int × Int)} {k : Nat} {p : Int × Int} (h1 : xs[k]? = some p) (h2 : ys[k]? = some p) (h : xs.take k = ys.take k) : xs.take (k + 1) = ys.take (k + 1) := by
  rw [List.take_add_one, List.take_add_one, h, h1, h2]

theorem run_neqLVar (x y x' y' : Int) (w : World) : Sem.run Tryz.prog (binOp .neq 151 (.agg #[.int .i64 x, .int .i64 y]) (.agg #[.int .i64 x', .int .i64 y'])) w = .ok (.bool (!(x == x' && y == y'))) w := by
  have u3 := Tryz.underlying3
  have a3 := Tryz.isAgg3
  have z3 := Tryz.sizeOf3
  have hS : Tryz.prog.underlying 151 = some (.struct (Tryz.prog.fieldsOf 151)) := by kernel_rfl
  have hp : Tryz.prog.stoodInHeld 151 = false := by kernel_rfl
  rw [run_neq_struct, show (10000 : Nat) = 9999 + 1 from rfl, run_equalIn_agg w 9999 151 _ _ hS hp]
  simp only [Program.fieldsOf, Tryz.underlying151]
  go_simp
  by_cases h1 : x = x' <;> by_cases h2 : y = y' <;> simp [h1, h2]

theorem run_guardLVar (op : BinOp) (a b : Operand) (p q : Array Value) (w : World) : Sem.run Tryz.prog (eqGuard op 151 a b (.agg p) (.agg q)) w = .ok () w := run_eqGuard_agg w op 151 a b p q (by kernel_rfl)

set_option maxHeartbeats 2000000 in
theorem Exact_any (na nb : Int) (xs ys : List (Int × Int)) (aa ab : Option Addr) (ca cb : Nat) (w : World) (hSa : SL w aa xs) (hSb : SL w ab ys) (hxn : xs.length ≤ 4398046511104) (_hyn : ys.length ≤ 4398046511104) :
    Calls Tryz.prog 71 #[.agg #[.int .i64 na, .slice aa xs.length ca], .agg #[.int .i64 nb, .slice ab ys.length cb]] w fun e w' => e = .returned (.bool (exactB na xs nb ys)) ∧ Grew w w' := by
  obtain ⟨W0, hW0⟩ : ∃ W0, (w.alloc (.cells #[.int .i64 na, .slice aa xs.length ca] 105)).alloc (.cells #[.int .i64 nb, .slice ab ys.length cb] 105) = W0 := ⟨_, rfl⟩
  have HA : Hid (Grew w W0) := by rw [← hW0]; exact ((Grew.refl w).alloc _).alloc _
  have HB0 : Hid (W0.heap[w.heap.size]? = some (.cells #[.int .i64 na, .slice aa xs.length ca] 105 (0, 0))) := by rw [← hW0]; exact box_at
  have HB1 : Hid (W0.heap[w.heap.size + 1]? = some (.cells #[.int .i64 nb, .slice ab ys.length cb] 105 (0, 0))) := by rw [← hW0]; exact box_at1
  have HSZ : Hid (W0.heap.size = w.heap.size + 2) := by unfold Hid; rw [← hW0]; simp
  have HW0 := Hid.mk hW0
  have HSa := Hid.mk hSa
  have HSb := Hid.mk hSb
  have mx := mixed
  clear hW0 hSa hSb
  by_cases hN : na = nb
  · subst hN
    by_cases hL : xs.length = ys.length
    · have hL' : ((xs.length : Int) != (ys.length : Int)) = false := by simp [hL]
      have HL := Hid.mk hL
      clear hL
      go_enter Tryz.func71, Tryz.ntmps71
      go_wp2
      rw [HW0.out]
      go_loopw [5] (fun i wr => ∃ k : Nat, k ≤ xs.length ∧ i = .int .i64 k ∧ Grew W0 wr ∧ xs.take k = ys.take k) (fun i _ => xs.length - (intOf i).toNat)
      case atStart => exact ⟨0, Nat.zero_le _, rfl, Grew.refl _, rfl⟩
      case round =>
        obtain ⟨k, hk, rfl, hb, htk⟩ := hrel
        have HT := Hid.mk htk
        clear htk
        obtain ⟨a0, a1, -, -, -⟩ := cells2 ((hb.below.block w.heap.size (by rw [HSZ.out]; omega)).trans HB0.out)
        obtain ⟨b0, b1, -, -, -⟩ := cells2 ((hb.below.block (w.heap.size + 1) (by rw [HSZ.out]; omega)).trans HB1.out)
        have hgw := HA.out.trans hb
        by_cases hlt : k < xs.length
        · obtain ⟨b, off, x, y, rfl, hbl, hc0, hc1, hxy⟩ := (HSa.out.below hgw.below).at hlt
          obtain ⟨b', off', x', y', rfl, hbl', hc0', hc1', hxy'⟩ := (HSb.out.below hgw.below).at (k := k) (by rw [← HL.out]; exact hlt)
          have z1 : (k : Int) < (xs.length : Int) := by omega
          have z2 : (k : Int) < (ys.length : Int) := by have := HL.out; omega
          have hq := fun W => run_neqLVar x y x' y' W
          have hgu := run_guardLVar
          by_cases he : x = x' ∧ y = y'
          · have hb1 : (x == x' && y == y') = true := by simp [he.1, he.2]
            simp only [hb1] at hq
            have HX : Hid (xs[k]? = some (x', y')) := by have := hxy.out; rwa [he.1, he.2] at this
            clear he hb1
            go_wp2_with fail
            go_quiet (fail)
            go_wp2
            refine ⟨⟨k + 1, hlt, by go_num, hb.drewN _, take_eq HX.out hxy'.out HT.out⟩, by simp [intOf]; omega⟩
          · have hb1 : (x == x' && y == y') = false := by rw [Bool.eq_false_iff]; simpa using he
            simp only [hb1] at hq
            have HE : Hid (exactB na xs na ys = false) := exact_at hxy.out hxy'.out (by simpa using he)
            clear he hb1
            go_wp2_with fail
            go_quiet (fail)
            go_wp2
            go_ret
            exact ⟨by rw [HE.out]; rfl, (HA.out.trans hb).drewN _⟩
        · have HE : Hid (exactB na xs na ys = true) := by
            have h1 : xs.take k = xs := List.take_of_length_le (by omega)
            have h2 : ys.take k = ys := List.take_of_length_le (by have := HL.out; omega)
            have h3 := HT.out
            rw [h1, h2] at h3
            unfold Hid; simp [exactB, h3]
          go_wp2
          go_ret
          exact ⟨by rw [HE.out]; rfl, HA.out.trans hb⟩
    · have hL' : ((xs.length : Int) != (ys.length : Int)) = true := by simp; omega
      have HE : Hid (exactB na xs na ys = false) := exact_len hL
      clear hL
      go_enter Tryz.func71, Tryz.ntmps71
      go_wp2
      go_ret
      exact ⟨by rw [HE.out]; rfl, by have := HA.out; rwa [← HW0.out] at this⟩
  · have hN' : (na != nb) = true := by simp [hN]
    have HE : Hid (exactB na xs nb ys = false) := by unfold Hid; simp [exactB, hN]
    clear hN
    go_enter Tryz.func71, Tryz.ntmps71
    go_wp2
    go_ret
    exact ⟨by rw [HE.out]; rfl, by have := HA.out; rwa [← HW0.out] at this⟩
end Go.Proofs.YtndjdeiccmhelaaGreat

/- The contract of telamonref1.right. -/
namespace Go.Proofs.YtndjdeiccmhelaaGreat
open Go.RowKit Go.Sort

theorem inR_no {x : Int} (h : inR x = false) : x < 0 ∨ 1000 < x := by simp [inR] at h; omega
theorem inR_yes {x : Int} (h : inR x = true) : 0 ≤ x ∧ x ≤ 1000 := by simpa [inR] using h

set_option maxHeartbeats 2000000 in
theorem rright_any (n : Int) (xs : List (Int × Int)) (a : Option Addr) (cap : Nat) (w : World) (hS : SL w a xs) (hn : xs.length ≤ 35184372088832) :
    Calls Tryz.prog 140 #[.agg #[.int .i64 n, .slice a xs.length cap]] w fun e w' => e = .returned (.bool (rightB n xs)) ∧ Grew w w' := by
  have HS := Hid.mk hS
  clear hS
  by_cases hlen : xs.length ≤ 64
  · cases hN : inR n
    · have HE : Hid (rightB n xs = false) := by unfold Hid; simp [rightB, hN]
      rcases inR_no hN with h | h
      all_goals
        clear hN
        go_enter Tryz.func140, Tryz.ntmps140
        go_wp2
        go_ret
        exact ⟨by rw [HE.out]; rfl, (Grew.refl _).alloc _⟩
    · obtain ⟨hn0, hn1⟩ := inR_yes hN
      have HN := Hid.mk hN
      clear hN
      go_enter Tryz.func140, Tryz.ntmps140
      go_wp2
      go_loopw [3] (fun i wr => ∃ k : Nat, k ≤ xs.length ∧ i = .int .i64 k ∧ Grew (w.alloc (.cells #[.int .i64 n, .slice a xs.length cap] 105)) wr ∧ (xs.take k).all (fun p => inR p.1 && inR p.2) = true) (fun i _ => xs.length - (intOf i).toNat)
      case atStart => exact ⟨0, Nat.zero_le _, rfl, Grew.refl _, by simp⟩
      case round =>
        obtain ⟨k, hk, rfl, hb, hall⟩ := hrel
        have HA := Hid.mk hall
        clear hall
        obtain ⟨q0, q1, -, -, q4⟩ := cells2 ((hb.below.block w.heap.size (by simp)).trans (alloc_new _ _))
        have hgw : Grew w wr := ((Grew.refl w).alloc _).trans hb
        by_cases hlt : k < xs.length
        · obtain ⟨b, off, x, y, rfl, hbl, hc0, hc1, hxy⟩ := (HS.out.below hgw.below).at hlt
          cases hx : inR x && inR y
          · have HE : Hid (rightB n xs = false) := by unfold Hid; simp [rightB, all_no (p := fun p => inR p.1 && inR p.2) hxy.out hx]
            have hbad : x < 0 ∨ 1000 < x ∨ (0 ≤ x ∧ x ≤ 1000 ∧ y < 0) ∨ (0 ≤ x ∧ x ≤ 1000 ∧ 1000 < y) := by
              simp [inR] at hx; omega
            clear hx
            rcases hbad with h | h | ⟨h0, h1, h⟩ | ⟨h0, h1, h⟩
            all_goals
              go_wp2
              go_ret
              exact ⟨by rw [HE.out]; rfl, hgw.alloc _⟩
          · have H1 := Hid.mk hx
            obtain ⟨h1, h2⟩ : (0 ≤ x ∧ x ≤ 1000) ∧ (0 ≤ y ∧ y ≤ 1000) := by simpa [inR] using hx
            obtain ⟨h10, h11⟩ := h1
            obtain ⟨h20, h21⟩ := h2
            clear hx
            go_wp2
            refine ⟨⟨k + 1, hlt, by go_num, hb.alloc _, by rw [take_all hxy.out, HA.out]; simpa using H1.out⟩, by simp [intOf]; omega⟩
        · go_wp2
          go_ret
          have hk' : k = xs.length := by omega
          subst hk'
          have hA := HA.out
          rw [List.take_length] at hA
          exact ⟨by simp only [rightB, HN.out, hA]; simp [hlen], hgw⟩
  · have HE : Hid (rightB n xs = false) := by unfold Hid; simp [rightB, hlen]
    rcases (show n < 0 ∨ 1000 < n ∨ (0 ≤ n ∧ n ≤ 1000) by omega) with h | h | ⟨h0, h1⟩
    all_goals
      go_enter Tryz.func140, Tryz.ntmps140
      go_wp2
      go_ret
      exact ⟨by rw [HE.out]; rfl, (Grew.refl _).alloc _⟩
end Go.Proofs.YtndjdeiccmhelaaGreat
