/- The contracts of level.canonical and level.Norm. -/
import Derived.Test.YtmmbnimehmfadaaG
import Derived.Laws.StructEq
import Derived.Test.YtmmbnimehmfadaaKP
import Derived.Deep.RegionHeld3
namespace Go.Proofs.Ytmmbnimehmfadaa
open Go.RowKit Go.Sort Go.Shelf Go.Lib

/-- A level and a number are answered; the level's list lies in new memory; nothing old has turned. -/
def Res (w w' : World) (e : Ending) (r : Int × List (Int × Int) × Int) : Prop :=
  ∃ v, e = .returned (.tuple #[.agg #[.int .i64 r.1, v], .int .i64 r.2.2]) ∧ OR w.heap.size w' v r.2.1 ∧ RowKit.Below w.heap.size w w'

/-- N of the canonical level -/
def nOf (n : Int) (ys : List (Int × Int)) : Int := if ys.any (fun p => decide (n ≤ p.2)) then 0 else n

/-- what canonical answers -/
def canonR (n : Int) (xs : List (Int × Int)) : Int × List (Int × Int) × Int := if rightB (nOf n (tidyL xs)) (tidyL xs) then (nOf n (tidyL xs), tidyL xs, 0) else (0, [], 13)

theorem nOf_take {n : Int} {ys : List (Int × Int)} {k : Nat} {z : Int × Int} (h : ys[k]? = some z) : nOf n (ys.take (k + 1)) = if n ≤ z.2 then 0 else nOf n (ys.take k) := by
  obtain ⟨hk, rfl⟩ := List.getElem?_eq_some_iff.1 h
  unfold nOf
  rw [List.take_succ_eq_append_getElem hk, List.any_append]
  by_cases h : n ≤ ys[k].2
  · simp [h]
  · have : decide (n ≤ ys[k].2) = false := by simp; omega
    simp only [List.any_cons, List.any_nil, this, Bool.or_false, if_neg h]

theorem OR.setBelow {B : Nat} {w : World} {v : Value} {xs : List (Int × Int)} (h : OR B w v xs) {a : Addr} (ha : a.block < B) (u : Value) : OR B (w.setCell a u) v xs := ownsRow_setCell_below h ha u

set_option maxHeartbeats 2000000 in
theorem canonical_any (n : Int) (a : Option Addr) (cap : Nat) (xs : List (Int × Int)) (w : World) (hS : SL w a xs) (hn : xs.length ≤ 4398046511104) :
    Calls Try.prog 73 #[.int .i64 n, .slice a xs.length cap] w fun e w' => Res w w' e (canonR n xs) := by
  have hG := gathered_any a cap xs (w.alloc (.cells #[.int .i64 0, .slice none 0 0] 47)) (hS.below ((Grew.refl w).alloc _).below) hn
  have HL : (tidyL xs).length ≤ xs.length := tidyL_le xs
  have HC : Hid (canonR n xs = if rightB (nOf n (tidyL xs)) (tidyL xs) then (nOf n (tidyL xs), tidyL xs, 0) else (0, [], 13)) := rfl
  generalize canonR n xs = C at HC ⊢
  generalize tidyL xs = ys at hG HL HC ⊢
  clear hS
  go_enter Try.func73, Try.ntmps73
  go_wp2_with (go_at_call 76; refine hG.mono ?_; rintro e w1 ⟨v, rfl, hO, hB⟩; obtain ⟨a', cap', rfl, hS1, -⟩ := hO.shape)
  have hz := hB.size
  have hz' : w.heap.size + 1 ≤ w1.heap.size := by simpa using hz
  clear hG hz
  have HO := Hid.mk hO
  have HS1 := Hid.mk hS1
  have HB := Hid.mk hB
  clear hO hS1 hB
  go_loopw [16] (fun i wr => ∃ k : Nat, k ≤ ys.length ∧ i = .int .i64 k ∧ RowKit.Below w1.heap.size w1 wr ∧ wr.heap[w1.heap.size]? = some (.cells #[.int .i64 (nOf n (ys.take k)), .slice a' ys.length cap'] 47 (0, 0))) (fun i _ => ys.length - (intOf i).toNat)
  case atStart => exact ⟨0, Nat.zero_le _, rfl, (Below.refl _ _).alloc (Nat.le_refl _) _, by simp only [nOf, List.take_zero, List.any_nil]; exact alloc_new _ _⟩
  case round =>
    obtain ⟨k, hk, rfl, hb, hh⟩ := hrel
    obtain ⟨q0, q1, q2, q3, q4⟩ := cells2 hh
    have HH := Hid.mk hh
    clear hh
    have hbb := hb.size
    by_cases hlt : k < ys.length
    · obtain ⟨b, off, x, y, rfl, hbl, hc0, hc1, hxy⟩ := (HS1.out.below hb).at hlt
      have HE := Hid.mk (nOf_take (n := n) hxy.out)
      generalize nOf n (ys.take k) = m at *
      by_cases hge : n ≤ y
      · go_wp2
        refine ⟨⟨k + 1, hlt, by go_num, (hb.setCell (p := ⟨w1.heap.size, 0, none⟩) (Nat.le_refl _) _).alloc (by simpa using hbb) _, ?_⟩, by simp [intOf]; omega⟩
        rw [HE.out, if_pos hge]
        exact alloc_old (heap_set0 HH.out) _
      · go_wp2
        refine ⟨⟨k + 1, hlt, by go_num, hb.alloc hbb _, ?_⟩, by simp [intOf]; omega⟩
        rw [HE.out, if_neg (by simpa using hge)]
        exact alloc_old HH.out _
    · have hk' : k = ys.length := by omega
      subst hk'
      rw [List.take_length] at q0 HH
      have HR := right_any (nOf n ys) ys a' cap' wr (HS1.out.below hb) (by omega)
      have hR0 : w1.heap[w.heap.size]? = some (.cells #[.int .i64 0, .slice none 0 0] 47 (0, 0)) := (HB.out.block w.heap.size (by simp)).trans (alloc_new _ _)
      have hR1 := (hb.block w.heap.size (by omega)).trans hR0
      generalize nOf n ys = m at *
      have hbB : RowKit.Below w.heap.size w wr := (((Below.refl w.heap.size w).alloc (Nat.le_refl _) _).trans (HB.out.mono (by simp))).trans (hb.mono (by omega))
      have HOr := Hid.mk (HO.out.below hb)
      cases hr : rightB m ys
      · simp only [hr] at HR
        go_wp2_with (go_at_call 72; refine HR.mono ?_; rintro e w2 ⟨rfl, hg2⟩; obtain ⟨p0, p1, p2, p3, p4⟩ := cells2 ((hg2.below.block w.heap.size (by omega)).trans hR1))
        have hCe := HC.out
        rw [hr, if_neg (by simp)] at hCe
        subst hCe
        refine bodyPost_ret (v := .tuple #[.agg #[.int .i64 0, .slice none 0 0], .int .i64 13]) (by simp [results, Try.results73, go_sem, p0, p1]) rfl ⟨_, rfl, OR.nil _ _, ?_⟩
        exact ((hbB.trans (hg2.below.mono (by omega))).setCell (p := ⟨w.heap.size, 0, none⟩) (Nat.le_refl _) _).setCell (p := ⟨w.heap.size, 1, none⟩) (Nat.le_refl _) _
      · simp only [hr] at HR
        go_wp2_with (go_at_call 72; refine HR.mono ?_; rintro e w2 ⟨rfl, hg2⟩; obtain ⟨p0, p1, p2, p3, p4⟩ := cells2 ((hg2.below.block w.heap.size (by omega)).trans hR1); obtain ⟨r0, r1, r2, r3, r4⟩ := cells2 ((hg2.below.block w1.heap.size (by omega)).trans HH.out))
        have hCe := HC.out
        rw [hr, if_pos rfl] at hCe
        subst hCe
        refine bodyPost_ret (v := .tuple #[.agg #[.int .i64 m, .slice a' ys.length cap'], .int .i64 0]) (by simp [results, Try.results73, go_sem, p0, p1]) rfl ⟨_, rfl, ?_, ?_⟩
        · exact OR.mono (((HOr.out.below hg2.below).setBelow (a := ⟨w.heap.size, 0, none⟩) (by simp) _).setBelow (a := ⟨w.heap.size, 1, none⟩) (by simp) _) (by simp)
        · exact ((hbB.trans (hg2.below.mono (by omega))).setCell (p := ⟨w.heap.size, 0, none⟩) (Nat.le_refl _) _).setCell (p := ⟨w.heap.size, 1, none⟩) (Nat.le_refl _) _
end Go.Proofs.Ytmmbnimehmfadaa

/- The contracts of level.Norm, level.raised and level.Suc. -/
namespace Go.Proofs.Ytmmbnimehmfadaa
open Go.RowKit Go.Sort Go.Shelf Go.Lib

/-- what Norm answers -/
def normR (n : Int) (xs : List (Int × Int)) : Int × List (Int × Int) × Int := if rightB n xs then canonR n xs else (0, [], 13)

set_option maxHeartbeats 1000000 in
theorem Norm_any (n : Int) (xs : List (Int × Int)) (a : Option Addr) (cap : Nat) (w : World) (hS : SL w a xs) (hn : xs.length ≤ 4398046511104) :
    Calls Try.prog 69 #[.agg #[.int .i64 n, .slice a xs.length cap]] w fun e w' => Res w w' e (normR n xs) := by
  have HR := right_any n xs a cap ((w.alloc (.cells #[.int .i64 n, .slice a xs.length cap] 47)).alloc (.cells #[.int .i64 0, .slice none 0 0] 47)) (hS.below (((Grew.refl w).alloc _).alloc _).below) (by omega)
  have HC : Hid (normR n xs = if rightB n xs then canonR n xs else (0, [], 13)) := rfl
  have HCa := fun (W : World) (h : SL W a xs) => canonical_any n a cap xs W h hn
  generalize canonR n xs = C at HC HCa
  generalize normR n xs = D at HC ⊢
  have HS := Hid.mk hS
  clear hS
  have hA : Grew w ((w.alloc (.cells #[.int .i64 n, .slice a xs.length cap] 47)).alloc (.cells #[.int .i64 0, .slice none 0 0] 47)) := ((Grew.refl w).alloc _).alloc _
  have HA := Hid.mk hA
  clear hA
  cases hr : rightB n xs
  · rw [hr, if_neg (by simp)] at HC
    simp only [hr] at HR
    go_enter Try.func69, Try.ntmps69
    go_wp2_with (go_at_call 72; refine HR.mono ?_; rintro e w1 ⟨rfl, hg⟩; obtain ⟨p0, p1, p2, p3, p4⟩ := cells2 ((hg.below.block (w.heap.size + 1) (by simp)).trans box_at1))
    have hCe := HC.out
    subst hCe
    refine bodyPost_ret (v := .tuple #[.agg #[.int .i64 0, .slice none 0 0], .int .i64 13]) (by simp [results, Try.results69, go_sem, p0, p1]) rfl ⟨_, rfl, OR.nil _ _, ?_⟩
    exact ((HA.out.trans hg).below.setCell (p := ⟨w.heap.size + 1, 0, none⟩) (Nat.le_succ _) _).setCell (p := ⟨w.heap.size + 1, 1, none⟩) (Nat.le_succ _) _
  · rw [hr, if_pos rfl] at HC
    simp only [hr] at HR
    go_enter Try.func69, Try.ntmps69
    go_wp2_with (first | (go_at_call 72; refine HR.mono ?_; rintro e w1 ⟨rfl, hg⟩; obtain ⟨r0, r1, r2, r3, r4⟩ := cells2 ((hg.below.block w.heap.size (by simp; omega)).trans box_at); have hR1 := (hg.below.block (w.heap.size + 1) (by simp)).trans box_at1; have hlt1 : w.heap.size + 1 < w1.heap.size := (Array.getElem?_eq_some_iff.1 hR1).1) | (go_at_call 73; refine (HCa _ (by exact HS.out.below (HA.out.trans hg).below)).mono ?_; rintro e w2 ⟨v, rfl, hO, hb2⟩; obtain ⟨a', cap', rfl, -⟩ := hO.shape; obtain ⟨p0, p1, p2, p3, p4⟩ := cells2 ((hb2.block (w.heap.size + 1) hlt1).trans hR1)))
    have hCe := HC.out
    subst hCe
    refine bodyPost_ret (v := .tuple #[.agg #[.int .i64 D.1, .slice a' D.2.1.length cap'], .int .i64 D.2.2]) (by simp [results, Try.results69, go_sem, p0, p1]) rfl ⟨_, rfl, ?_, ?_⟩
    · exact OR.mono ((hO.setBelow (a := ⟨w.heap.size + 1, 0, none⟩) hlt1 _).setBelow (a := ⟨w.heap.size + 1, 1, none⟩) hlt1 _) (by omega)
    · exact (((HA.out.trans hg).below.trans (hb2.mono (by omega))).setCell (p := ⟨w.heap.size + 1, 0, none⟩) (Nat.le_succ _) _).setCell (p := ⟨w.heap.size + 1, 1, none⟩) (Nat.le_succ _) _
end Go.Proofs.Ytmmbnimehmfadaa

/- The contracts of telamonlaw1.V and telamonref1.ExactLevel. -/
namespace Go.Proofs.Ytmmbnimehmfadaa
open Go.RowKit Go.Sort Go.Shelf Go.Lib

def exactB (na : Int) (xs : List (Int × Int)) (nb : Int) (ys : List (Int × Int)) : Bool := decide (na = nb) && decide (xs = ys)

theorem exact_len {na nb : Int} {xs ys : List (Int × Int)} (h : xs.length ≠ ys.length) : exactB na xs nb ys = false := by
  simp [exactB]; intro _ e; exact h (by rw [e])

theorem exact_at {na nb : Int} {xs ys : List (Int × Int)} {k : Nat} {p q : Int × Int} (h1 : xs[k]? = some p) (h2 : ys[k]? = some q) (h : p ≠ q) : exactB na xs nb ys = false := by
  simp [exactB]; intro _ e; rw [e, h2] at h1; exact h (by simpa using h1.symm)

theorem take_eq {xs ys : List (Int × Int)} {k : Nat} {p : Int × Int} (h1 : xs[k]? = some p) (h2 : ys[k]? = some p) (h : xs.take k = ys.take k) : xs.take (k + 1) = ys.take (k + 1) := by
  rw [List.take_add_one, List.take_add_one, h, h1, h2]

theorem run_neqLVar (x y x' y' : Int) (w : World) : Sem.run Try.prog (binOp .neq 122 (.agg #[.int .i64 x, .int .i64 y]) (.agg #[.int .i64 x', .int .i64 y'])) w = .ok (.bool (!(x == x' && y == y'))) w := by
  have u3 := Try.underlying3
  have a3 := Try.isAgg3
  have z3 := Try.sizeOf3
  have hS : Try.prog.underlying 122 = some (.struct (Try.prog.fieldsOf 122)) := by kernel_rfl
  have hp : Try.prog.stoodInHeld 122 = false := by kernel_rfl
  rw [run_neq_struct, show (10000 : Nat) = 9999 + 1 from rfl, run_equalIn_agg w 9999 122 _ _ hS hp]
  simp only [Program.fieldsOf, Try.underlying122]
  go_simp
  by_cases h1 : x = x' <;> by_cases h2 : y = y' <;> simp [h1, h2]

theorem run_guardLVar (op : BinOp) (a b : Operand) (p q : Array Value) (w : World) : Sem.run Try.prog (eqGuard op 122 a b (.agg p) (.agg q)) w = .ok () w := run_eqGuard_agg w op 122 a b p q (by kernel_rfl)

end Go.Proofs.Ytmmbnimehmfadaa

/- The contract of telamonref1.Exactly at two values that are one term. -/
namespace Go.Proofs.Ytmmbnimehmfadaa
open Go.RowKit Go.Sort

theorem LN.at {w : World} {a : Option Addr} {ls : List LvT} (h : LN w a ls) {k : Nat} (hk : k < ls.length) :
    ∃ b off a' cap', a = some ⟨b, off, none⟩ ∧ b < w.heap.size ∧ w.cell? ⟨b, off + k * 2, none⟩ = some (.int .i64 ls[k].1) ∧ w.cell? ⟨b, off + k * 2 + 1, none⟩ = some (.slice a' ls[k].2.length cap') ∧ SL w a' ls[k].2 := by
  rcases h with h | ⟨b, off, ha, hlt, hc⟩
  · subst h; simp at hk
  · obtain ⟨c0, a', cap', c1, hs, -⟩ := hc k ls[k].1 ls[k].2 (by simp [hk])
    exact ⟨b, off, a', cap', ha, hlt, c0, c1, hs⟩

end Go.Proofs.Ytmmbnimehmfadaa
