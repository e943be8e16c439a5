/- The contracts of the writer of package bytes: variable, level, each, term, written. -/
import Derived.Test.YtndjdeiccmhelaaGreatEB
import Derived.Test.YtndjdeiccmhelaaGreatWG
import Derived.Lib.AppendStr
import Derived.Deep.RegionHeld3
namespace Go.Proofs.YtndjdeiccmhelaaGreat
open Go.RowKit Go.Sort

def varB (p : Int × Int) : List UInt8 := numB p.1.toNat ++ numB p.2.toNat
def levB (l : LvT) : List UInt8 := numB l.1.toNat ++ (numB l.2.length ++ l.2.flatMap varB)

set_option maxRecDepth 100000 in
set_option maxHeartbeats 4000000 in
theorem variable_any (B wb : Nat) (tot : List UInt8) (x y : Int) (w : World) (hW : WR w B wb tot) (hB : B ≤ w.heap.size) (hx0 : 0 ≤ x) (hx : x ≤ 1000) (hy0 : 0 ≤ y) (hy : y ≤ 1000) : Calls Tryz.prog 118 #[.pointer (some ⟨wb, 0, none⟩), .agg #[.int .i64 x, .int .i64 y]] w (WrPost B wb tot (varB (x, y)) w) := by
  have hlw := hW.lt
  have HC := number_any B wb tot x.toNat (w.alloc (.cells #[.int .i64 x, .int .i64 y] 151)) (hW.on ((Below.refl _ _).alloc (Nat.le_refl _) _)) (by simp; omega) (by omega)
  have HWA : Hid (Wrote wb w (w.alloc (.cells #[.int .i64 x, .int .i64 y] 151))) := Wrote.below ((Below.refl _ _).alloc (Nat.le_refl _) _) hlw
  have HBX : Hid (∀ w', Wrote wb (w.alloc (.cells #[.int .i64 x, .int .i64 y] 151)) w' → w'.heap[w.heap.size]? = some (.cells #[.int .i64 x, .int .i64 y] 151 (0, 0))) := fun w' h => h.box hW ((Below.refl _ _).alloc (Nat.le_refl _) _) (alloc_new _ _) (Nat.le_refl _)
  rw [show ((x.toNat : Nat) : Int) = x by omega] at HC
  have HB := Hid.mk hB
  clear hW hB
  go_enter Tryz.func118, Tryz.ntmps118
  go_wp2_with fail
  refine HC.mono ?_
  rintro e w1 ⟨rfl, hW1, hw1⟩
  have HC2 := number_any B wb (tot ++ numB x.toNat) y.toNat w1 hW1 (by have := hw1.kept.size; simp at this; have := HB.out; omega) (by omega)
  rw [show ((y.toNat : Nat) : Int) = y by omega] at HC2
  obtain ⟨x0, x1, -, -, x4⟩ := cells2 (HBX.out w1 hw1)
  have HWA1 := Hid.mk (HWA.out.trans hw1)
  clear hW1 hw1 HC HWA HBX
  go_wp2_with fail
  refine HC2.mono ?_
  rintro e w2 ⟨rfl, hW2, hw2⟩
  have HR : Hid (WR w2 B wb (tot ++ varB (x, y)) ∧ Wrote wb w w2) := ⟨by unfold varB; rw [← List.append_assoc]; exact hW2, HWA1.out.trans hw2⟩
  clear hW2 hw2 HC2 HWA1
  go_wp2
  go_end0
  exact ⟨rfl, HR.out.1, HR.out.2⟩

/-- the numbers of a level that Check takes -/
def rightL (l : LvT) : Prop := 0 ≤ l.1 ∧ l.1 ≤ 1000 ∧ l.2.length ≤ 64 ∧ ∀ p ∈ l.2, 0 ≤ p.1 ∧ p.1 ≤ 1000 ∧ 0 ≤ p.2 ∧ p.2 ≤ 1000

theorem flatMap_take {α : Type} {f : α → List UInt8} {xs : List α} {k : Nat} {x : α} (h : xs[k]? = some x) : (xs.take (k + 1)).flatMap f = (xs.take k).flatMap f ++ f x := by
  obtain ⟨hk, rfl⟩ := List.getElem?_eq_some_iff.1 h
  rw [List.take_succ_eq_append_getElem hk, List.flatMap_append]
  simp

set_option maxRecDepth 100000 in
set_option maxHeartbeats 4000000 in
theorem eachV_any (w0 : World) (wb : Nat) (tot : List UInt8) (xs : List (Int × Int)) (a : Option Addr) (cap : Nat) (w : World) (hb0 : RowKit.Below w0.heap.size w0 w) (hW : WR w w0.heap.size wb tot) (hS : SL w0 a xs) (hn : xs.length ≤ 1000000) (hr : ∀ p ∈ xs, 0 ≤ p.1 ∧ p.1 ≤ 1000 ∧ 0 ≤ p.2 ∧ p.2 ≤ 1000) : Calls Tryz.prog 117 #[.slice a xs.length cap, .func (.func 118) #[.pointer (some ⟨wb, 0, none⟩)] #[]] w (WrPost w0.heap.size wb tot (xs.flatMap varB) w) := by
  have HB0 := Hid.mk hb0
  have HW := Hid.mk hW
  have HS := Hid.mk hS
  have HR := Hid.mk hr
  clear hb0 hW hS hr
  go_enter Tryz.func117, Tryz.ntmps117
  go_wp2
  go_loopw [8] (fun i wr => ∃ k : Nat, k ≤ xs.length ∧ i = .int .i64 k ∧ WR wr w0.heap.size wb (tot ++ (xs.take k).flatMap varB) ∧ Wrote wb w wr) (fun i _ => xs.length - (intOf i).toNat)
  case atStart => exact ⟨0, Nat.zero_le _, rfl, by simpa using HW.out, Wrote.refl _ _⟩
  case round =>
    obtain ⟨k, hk, rfl, hWr, hwr⟩ := hrel
    have HWR := Hid.mk hWr
    have HWT := Hid.mk hwr
    have HBR : Hid (RowKit.Below w0.heap.size w0 wr) := HB0.out.trans (hwr.toBelow HW.out HB0.out.size)
    clear hWr hwr
    by_cases hlt : k < xs.length
    · obtain ⟨b, off, x, y, rfl, hbl, hc0, hc1, hxy⟩ := (HS.out.below HBR.out).at hlt
      obtain ⟨hx0, hx1, hy0, hy1⟩ := HR.out (x, y) (List.mem_of_getElem? hxy.out)
      have HC := variable_any w0.heap.size wb (tot ++ (xs.take k).flatMap varB) x y (wr.alloc (.cells #[.int .i64 x, .int .i64 y] 151)) (HWR.out.on ((Below.refl _ _).alloc (Nat.le_refl _) _)) (by simp; have := HBR.out.size; omega) hx0 hx1 hy0 hy1
      have HWA : Hid (Wrote wb wr (wr.alloc (.cells #[.int .i64 x, .int .i64 y] 151))) := Wrote.below ((Below.refl _ _).alloc (Nat.le_refl _) _) HWR.out.lt
      go_wp2_with fail
      refine HC.mono ?_
      rintro e w2 ⟨rfl, hW2, hw2⟩
      have HR2 : Hid (WR w2 w0.heap.size wb (tot ++ (xs.take (k + 1)).flatMap varB) ∧ Wrote wb w w2) := ⟨by rw [flatMap_take hxy.out, ← List.append_assoc]; exact hW2, HWT.out.trans (HWA.out.trans hw2)⟩
      clear hW2 hw2 HC HWA
      go_wp2
      refine ⟨⟨k + 1, hlt, by go_num, HR2.out.1, HR2.out.2⟩, by simp [intOf]; omega⟩
    · obtain rfl : k = xs.length := by omega
      go_wp2
      go_end0
      exact ⟨rfl, by have := HWR.out; rwa [List.take_length] at this, HWT.out⟩

set_option maxRecDepth 100000 in
set_option maxHeartbeats 4000000 in
theorem level_any (w0 : World) (wb : Nat) (tot : List UInt8) (n : Int) (xs : List (Int × Int)) (a : Option Addr) (cap : Nat) (w : World) (hb0 : RowKit.Below w0.heap.size w0 w) (hW : WR w w0.heap.size wb tot) (hS : SL w0 a xs) (hr : rightL (n, xs)) : Calls Tryz.prog 93 #[.pointer (some ⟨wb, 0, none⟩), .agg #[.int .i64 n, .slice a xs.length cap]] w (WrPost w0.heap.size wb tot (levB (n, xs)) w) := by
  obtain ⟨hn0, hn1, hxl, hxs⟩ := hr
  simp only at hn0 hn1 hxl hxs
  have hlw := hW.lt
  obtain ⟨W0, hW0⟩ : ∃ W0, w.alloc (.cells #[.int .i64 n, .slice a xs.length cap] 105) = W0 := ⟨_, rfl⟩
  have hb : RowKit.Below w.heap.size w W0 := by rw [← hW0]; exact (Below.refl _ _).alloc (Nat.le_refl _) _
  have HBX : Hid (∀ w', Wrote wb W0 w' → w'.heap[w.heap.size]? = some (.cells #[.int .i64 n, .slice a xs.length cap] 105 (0, 0))) := fun w' h => h.box hW hb (by rw [← hW0]; exact alloc_new _ _) (Nat.le_refl _)
  have HWA : Hid (Wrote wb w W0) := Wrote.below hb hlw
  have hsz := hb0.size
  have HWW0 : Hid (WR W0 w0.heap.size wb tot) := hW.on hb
  have HB00 : Hid (RowKit.Below w0.heap.size w0 W0) := hb0.trans (hb.mono hsz)
  have HC := number_any w0.heap.size wb tot n.toNat W0 HWW0.out HB00.out.size (by omega)
  rw [show ((n.toNat : Nat) : Int) = n by omega] at HC
  have HXS := Hid.mk hxs
  have HS := Hid.mk hS
  have HW0 := Hid.mk hW0
  obtain ⟨q0, q1, -, -, q4⟩ := cells2 (HBX.out W0 (Wrote.refl _ _))
  clear hW hb0 hb hS hxs hW0
  go_enter Tryz.func93, Tryz.ntmps93
  go_wp2_with fail
  rw [HW0.out]
  refine HC.mono ?_
  rintro e w1 ⟨rfl, hW1, hw1⟩
  have HB1 : Hid (RowKit.Below w0.heap.size w0 w1) := HB00.out.trans (hw1.toBelow HWW0.out HB00.out.size)
  have HC2 := number_any w0.heap.size wb (tot ++ numB n.toNat) xs.length w1 hW1 HB1.out.size (by omega)
  obtain ⟨x0, x1, -, -, x4⟩ := cells2 (HBX.out w1 hw1)
  have HWT1 := Hid.mk hw1
  have HWR1 := Hid.mk hW1
  clear hW1 hw1 HC q0 q1 q4
  go_wp2_with fail
  refine HC2.mono ?_
  rintro e w2 ⟨rfl, hW2, hw2⟩
  have HB2 : Hid (RowKit.Below w0.heap.size w0 w2) := HB1.out.trans (hw2.toBelow HWR1.out HB1.out.size)
  have HC3 := eachV_any w0 wb (tot ++ numB n.toNat ++ numB xs.length) xs a cap w2 HB2.out hW2 HS.out (by omega) HXS.out
  obtain ⟨y0, y1, -, -, y4⟩ := cells2 (HBX.out w2 (HWT1.out.trans hw2))
  have HWT2 := Hid.mk (HWA.out.trans (HWT1.out.trans hw2))
  clear hW2 hw2 HC2 x0 x1 x4 HWT1 HWR1
  go_wp2_with fail
  refine HC3.mono ?_
  rintro e w3 ⟨rfl, hW3, hw3⟩
  have HR : Hid (WR w3 w0.heap.size wb (tot ++ levB (n, xs)) ∧ Wrote wb w w3) := ⟨by unfold levB; rw [← List.append_assoc, ← List.append_assoc]; exact hW3, HWT2.out.trans hw3⟩
  clear hW3 hw3 HC3
  go_wp2
  go_end0
  exact ⟨rfl, HR.out.1, HR.out.2⟩

set_option maxRecDepth 100000 in
set_option maxHeartbeats 4000000 in
theorem eachL_any (w0 : World) (wb : Nat) (tot : List UInt8) (ls : List LvT) (a : Option Addr) (cap : Nat) (w : World) (hb0 : RowKit.Below w0.heap.size w0 w) (hW : WR w w0.heap.size wb tot) (hS : LN w0 a ls) (hn : ls.length ≤ 1000000) (hr : ∀ l ∈ ls, rightL l) : Calls Tryz.prog 92 #[.slice a ls.length cap, .func (.func 93) #[.pointer (some ⟨wb, 0, none⟩)] #[]] w (WrPost w0.heap.size wb tot (ls.flatMap levB) w) := by
  have HB0 := Hid.mk hb0
  have HW := Hid.mk hW
  have HS := Hid.mk hS
  have HR := Hid.mk hr
  clear hb0 hW hS hr
  go_enter Tryz.func92, Tryz.ntmps92
  go_wp2
  go_loopw [8] (fun i wr => ∃ k : Nat, k ≤ ls.length ∧ i = .int .i64 k ∧ WR wr w0.heap.size wb (tot ++ (ls.take k).flatMap levB) ∧ Wrote wb w wr) (fun i _ => ls.length - (intOf i).toNat)
  case atStart => exact ⟨0, Nat.zero_le _, rfl, by simpa using HW.out, Wrote.refl _ _⟩
  case round =>
    obtain ⟨k, hk, rfl, hWr, hwr⟩ := hrel
    have HWR := Hid.mk hWr
    have HWT := Hid.mk hwr
    have HBR : Hid (RowKit.Below w0.heap.size w0 wr) := HB0.out.trans (hwr.toBelow HW.out HB0.out.size)
    clear hWr hwr
    by_cases hlt : k < ls.length
    · rcases HS.out with h | ⟨b, off, rfl, hbl0, hc⟩
      · rw [h] at hlt; simp at hlt
      obtain ⟨c0, a', cap', c1, hs', -⟩ := hc k ls[k].1 ls[k].2 (by simp [hlt])
      have hmem : ls[k] ∈ ls := List.getElem_mem hlt
      have d0 := (HBR.out.cell (p := ⟨b, off + k * 2, none⟩) hbl0).trans c0
      have d1 := (HBR.out.cell (p := ⟨b, off + k * 2 + 1, none⟩) hbl0).trans c1
      have hbl : b < wr.heap.size := Nat.lt_of_lt_of_le hbl0 HBR.out.size
      have HC := level_any w0 wb (tot ++ (ls.take k).flatMap levB) ls[k].1 ls[k].2 a' cap' (wr.alloc (.cells #[.int .i64 ls[k].1, .slice a' ls[k].2.length cap'] 105)) (HBR.out.alloc HBR.out.size _) (HWR.out.on ((Below.refl _ _).alloc (Nat.le_refl _) _)) hs' (HR.out _ hmem)
      have HWA : Hid (Wrote wb wr (wr.alloc (.cells #[.int .i64 ls[k].1, .slice a' ls[k].2.length cap'] 105))) := Wrote.below ((Below.refl _ _).alloc (Nat.le_refl _) _) HWR.out.lt
      have HTK : Hid ((ls.take (k + 1)).flatMap levB = (ls.take k).flatMap levB ++ levB (ls[k].1, ls[k].2)) := flatMap_take (List.getElem?_eq_getElem hlt)
      clear c0 c1 hc hs' hbl0 hmem
      generalize ls[k] = lk at *
      obtain ⟨ln, lx⟩ := lk
      simp only at HC HWA HTK d0 d1
      go_wp2_with fail
      refine HC.mono ?_
      rintro e w2 ⟨rfl, hW2, hw2⟩
      have HR2 : Hid (WR w2 w0.heap.size wb (tot ++ (ls.take (k + 1)).flatMap levB) ∧ Wrote wb w w2) := ⟨by rw [HTK.out, ← List.append_assoc]; exact hW2, HWT.out.trans (HWA.out.trans hw2)⟩
      clear hW2 hw2 HC HWA
      go_wp2
      refine ⟨⟨k + 1, hlt, by go_num, HR2.out.1, HR2.out.2⟩, by simp [intOf]; omega⟩
    · obtain rfl : k = ls.length := by omega
      go_wp2
      go_end0
      exact ⟨rfl, by have := HWR.out; rwa [List.take_length] at this, HWT.out⟩
end Go.Proofs.YtndjdeiccmhelaaGreat

/- The contracts of the reference's num, text and level. -/
namespace Go.Proofs.YtndjdeiccmhelaaGreat
open Go.RowKit Go.Sort Go.Lib

/-- v' is v grown, and nothing else has turned -/
structure GrwV (v v' : Value) (w w' : World) : Prop where
  kept : Kept (fun k => v.ownBlock = some k) w w'
  row : ∀ k, v'.ownBlock = some k → v.ownBlock = some k ∨ w.heap.size ≤ k

theorem GrwV.refl (v : Value) (w : World) : GrwV v v w w := ⟨Kept.refl _ _, fun _ h => Or.inl h⟩

theorem GrwV.trans {v x y : Value} {a b c : World} (h : GrwV v x a b) (k : GrwV x y b c) : GrwV v y a c := by
  refine ⟨⟨k.kept.os.trans h.kept.os, k.kept.tape.trans h.kept.tape, k.kept.output.trans h.kept.output, Nat.le_trans h.kept.size k.kept.size, fun i hi hp => ?_⟩, fun i hi => ?_⟩
  · refine (k.kept.block i (Nat.lt_of_lt_of_le hi h.kept.size) fun hq => ?_).trans (h.kept.block i hi hp)
    rcases h.row i hq with hq | hq
    · exact hp hq
    · omega
  · rcases k.row i hi with hq | hq
    · exact h.row i hq
    · have := h.kept.size; exact Or.inr (by omega)

theorem GrwV.below (v : Value) {w w' : World} (h : RowKit.Below w.heap.size w w') : GrwV v v w w' := ⟨Kept.of_below h, fun _ h => Or.inl h⟩

theorem GrwV.toBelow {v v' : Value} {w w' : World} {B : Nat} {bs : List UInt8} (h : GrwV v v' w w') (hO : OY B w v bs) (hB : B ≤ w.heap.size) : RowKit.Below B w w' := h.kept.below hB fun _ hk => (hO.lt hk).1

theorem GrwV.box {v v' : Value} {B k : Nat} {w w1 w' : World} {bs : List UInt8} {o : Obj} (h : GrwV v v' w1 w') (hO : OY B w v bs) (hk : w1.heap[k]? = some o) (hkw : w.heap.size ≤ k) : w'.heap[k]? = some o :=
  (h.kept.block k (Array.getElem?_eq_some_iff.1 hk).1 fun hp => by have := (hO.lt hp).2; omega).trans hk

theorem numB_len (k : Nat) : ∀ n, n < 128 ^ (k + 1) → (numB n).length ≤ k + 1 := by
  induction k with
  | zero => intro n hn; rw [numB_small (by simpa using hn)]; simp
  | succ k ih =>
    intro n hn
    by_cases h : n < 128
    · rw [numB_small h]; simp
    · rw [numB_big (by omega), List.length_cons]
      have := ih (n / 128) (by rw [Nat.div_lt_iff_lt_mul (by decide)]; exact hn)
      omega

theorem numB_9 {n : Nat} (h : n < 9223372036854775808) : (numB n).length ≤ 9 := numB_len 8 n (by omega)

/-- what a writing step of the reference does -/
def RfPost (B : Nat) (v : Value) (bs news : List UInt8) (w : World) (e : Ending) (w' : World) : Prop := ∃ v', e = .returned v' ∧ OY B w' v' (bs ++ news) ∧ GrwV v v' w w'

theorem add128 (m : Nat) : ((m : Int) % 128) + 128 = ((UInt8.ofNat (m % 128 + 128)).toNat : Int) := by
  rw [UInt8.toNat_ofNat_of_lt' (by show m % 128 + 128 < 256; omega)]
  omega

theorem small128 {m : Nat} (h : m < 128) : (m : Int) = ((UInt8.ofNat m).toNat : Int) := by
  rw [UInt8.toNat_ofNat_of_lt' (by show m < 256; omega)]

/-- one byte more -/
theorem GrwV.app {g cap : Nat} {v u : Value} {w wr w' : World} {o : Obj} (h : GrwV v u w wr) (hg : (wr.alloc o).grownBy w' u.ownBlock) (hat : u.ownBlock = some g ∨ g = (wr.alloc o).heap.size) (n : Nat) : GrwV v (.slice (some ⟨g, 0, none⟩) n cap) w w' := by
  refine h.trans ⟨⟨hg.os, hg.tape, hg.output, by have := hg.size; simp at this; omega, fun k hk hp => ?_⟩, fun k hk => ?_⟩
  · exact (hg.block k (by simp; omega) (fun e => hp e.symm)).trans (Below.heap_alloc _ _ _ hk)
  · simp only [Value.ownBlock, Option.some.injEq] at hk
    subst hk
    rcases hat with h | h
    · exact Or.inl h
    · simp at h; exact Or.inr (by omega)

set_option maxRecDepth 100000 in
set_option maxHeartbeats 4000000 in
theorem rnum_any (B : Nat) (v : Value) (bs : List UInt8) (n : Nat) (w : World) (hO : OY B w v bs) (hB : B ≤ w.heap.size) (hn : n < 9223372036854775808) (hl : bs.length ≤ 70368744170000) : Calls Tryz.prog 34 #[v, .int .i64 (n : Int)] w (RfPost B v bs (numB n) w) := by
  have hn9 := numB_9 hn
  go_enter Tryz.func34, Tryz.ntmps34
  go_wp2
  go_loopw [0, 1] (fun u i wr => ∃ (m : Nat) (done : List UInt8), i = .int .i64 m ∧ m ≤ n ∧ numB n = done ++ numB m ∧ OY B wr u (bs ++ done) ∧ GrwV v u w wr) (fun _ i _ => (intOf i).toNat)
  case atStart => exact ⟨n, [], rfl, Nat.le_refl _, rfl, by simpa using hO, GrwV.refl _ _⟩
  case round =>
    obtain ⟨m, done, rfl, hm, hd, hOr, hgr⟩ := hrel
    have hdl : done.length ≤ 8 := by
      have h1 := congrArg List.length hd
      rw [List.length_append] at h1
      have h2 : 0 < (numB m).length := by
        cases h : numB m with
        | nil => exact absurd h (numB_ne m)
        | cons a l => simp
      omega
    have HD := Hid.mk hd
    have HO := Hid.mk hOr
    have HG := Hid.mk hgr
    have hsz := hgr.kept.size
    clear hd hOr hgr
    by_cases hbig : 128 ≤ m
    · have HS1 : Hid (BL (wr.alloc (.cells #[.int .u8 ((m : Int) % 128 + 128)] 5)) (some ⟨wr.heap.size, 0, none⟩) [UInt8.ofNat (m % 128 + 128)]) := by unfold Hid; rw [add128 m]; exact news1 _
      have HO1 : Hid (OY B (wr.alloc (.cells #[.int .u8 ((m : Int) % 128 + 128)] 5)) _ (bs ++ done)) := HO.out.alloc _
      have hB1 : B ≤ (wr.alloc (.cells #[.int .u8 ((m : Int) % 128 + 128)] 5)).heap.size := by simp; omega
      go_wp2_with (at_builtin; refine wpList_appB rfl _ _ rfl B _ (bs ++ done) [UInt8.ofNat (m % 128 + 128)] ⟨wr.heap.size, 0, none⟩ 1 1 rfl rfl rfl HO1.out HS1.out (by simp) (by simp; omega) hB1 ?_; intro g7 c7 W7 hown7 hgr7 hat7; have HOWN7 := Hid.mk hown7; have HG7 := Hid.mk (GrwV.app (cap := c7) HG.out hgr7 hat7 (bs ++ done ++ [UInt8.ofNat (m % 128 + 128)]).length); clear hown7 hgr7 hat7)
      have hlen : (bs ++ done ++ [UInt8.ofNat (m % 128 + 128)]).length = bs.length + (done.length + 1) := by simp
      have h7 := HOWN7.out
      have g7' := HG7.out
      rw [hlen] at h7 g7'
      refine ⟨⟨m / 128, done ++ [UInt8.ofNat (m % 128 + 128)], by rw [Int.natCast_ediv]; rfl, by omega, ?_, by rw [← List.append_assoc]; exact h7, g7'⟩, by simp [intOf]; omega⟩
      rw [HD.out, numB_big hbig, List.append_assoc]; rfl
    · have hbig' : m < 128 := by omega
      have HS1 : Hid (BL (wr.alloc (.cells #[.int .u8 (m : Int)] 5)) (some ⟨wr.heap.size, 0, none⟩) [UInt8.ofNat m]) := by unfold Hid; rw [small128 hbig']; exact news1 _
      have HO1 : Hid (OY B (wr.alloc (.cells #[.int .u8 (m : Int)] 5)) _ (bs ++ done)) := HO.out.alloc _
      have hB1 : B ≤ (wr.alloc (.cells #[.int .u8 (m : Int)] 5)).heap.size := by simp; omega
      go_wp2_with (at_builtin; refine wpList_appB rfl _ _ rfl B _ (bs ++ done) [UInt8.ofNat m] ⟨wr.heap.size, 0, none⟩ 1 1 rfl rfl rfl HO1.out HS1.out (by simp) (by simp; omega) hB1 ?_; intro g7 c7 W7 hown7 hgr7 hat7; have HOWN7 := Hid.mk hown7; have HG7 := Hid.mk (GrwV.app (cap := c7) HG.out hgr7 hat7 (bs ++ done ++ [UInt8.ofNat m]).length); clear hown7 hgr7 hat7)
      have hlen : (bs ++ done ++ [UInt8.ofNat m]).length = bs.length + (done.length + 1) := by simp
      have h7 := HOWN7.out
      have g7' := HG7.out
      rw [hlen] at h7 g7'
      go_ret
      refine ⟨_, rfl, ?_, g7'⟩
      rw [HD.out, numB_small hbig', ← List.append_assoc]
      exact h7

/-- the bytes of a string, appended -/
theorem appS_any {w : World} {ops : Array Oper} {rest : List Oper} {o : Oper} {a : Act} {Q : Exit → Act → World → Prop} (hgd : o.guard = none) (s x : Operand) (ho : o.op = .call { callee := .builtin .append, args := #[s, x], argTypes := #[25, 9] })
    (B : Nat) (v : Value) (bs : List UInt8) (nm : ByteArray) (hs : a.eval s = v) (hx : a.eval x = .string nm) (hO : OY B w v bs) (hne : 0 < nm.size) (hl : bs.length + nm.size ≤ 70368744177664) (hB : B ≤ w.heap.size)
    (h : ∀ v' w', OY B w' v' (bs ++ nm.data.toList) → GrwV v v' w w' → wpList Tryz.prog ops Q rest (a.put o.dst v') w') : wpList Tryz.prog ops Q (o :: rest) a w := by
  obtain ⟨i0, hi, hz0, hz1, hz2⟩ := info_parts8 infoU8
  refine wpList_plain hgd fun K hK => ?_
  obtain ⟨v', w', hr, h2, h3, -⟩ := run_append_own_string (P := Tryz.prog) w B 25 9 o.type 5 i0 Tryz.underlying25 Tryz.underlying9 hi hz0 hz1 hz2 v bs.length (flatB bs) hO nm (by unfold maxLen; omega) (by omega) hB
  have hloc : v'.ownBlock = v.ownBlock ∨ v'.ownBlock = some w.heap.size := by
    rcases hO.2 with ⟨rfl, hn⟩ | ⟨g, cap, cur, rfl, hbg, hg, hnc, hcm, hcs, htake⟩
    · have hr1 := run_append_nil_string (P := Tryz.prog) w 25 9 o.type 5 i0 (.int .u8 0) Tryz.underlying25 Tryz.underlying9 hi hz0 nm (by omega) (by omega) (by rw [hz2]; omega)
      rw [hr1] at hr
      simp only [Result.ok.injEq] at hr
      rw [← hr.1]
      exact Or.inr rfl
    · by_cases hroom : bs.length + nm.size ≤ cap
      · have hr1 := run_append_room_string (P := Tryz.prog) w 25 9 o.type 5 i0 Tryz.underlying25 Tryz.underlying9 hi hz1 g bs.length cap cur hg nm hroom (by omega)
        rw [hr1] at hr
        simp only [Result.ok.injEq] at hr
        rw [← hr.1]
        exact Or.inl rfl
      · have holds : ∀ j u, (flatB bs)[j]? = some u → w.cell? ((⟨g, 0, none⟩ : Addr).add j) = some u := World.ownsRow.cells (show w.ownsRow B 5 1 _ bs.length (flatB bs) from hO) (g := g) rfl
        have hr1 := run_append_grow_string (P := Tryz.prog) w 25 9 o.type 5 i0 (.int .u8 0) Tryz.underlying25 Tryz.underlying9 hi hz0 ⟨g, 0, none⟩ bs.length cap (flatB bs) (by rw [hz1, flatB_length]; omega) holds nm (by omega) (by omega) (by rw [hz2]; exact growslice_fits (by omega) (by omega))
        rw [hr1] at hr
        simp only [Result.ok.injEq] at hr
        rw [← hr.1]
        exact Or.inr rfl
  unfold Oper.wp execOp
  simp only [ho, resolve, invoke, builtin, Sem.run_bind, Sem.run_pure, Result.andThen_ok, List.map_toArray, List.map_cons, List.map_nil, hs, hx, hr]
  refine hK _ _ (h v' w' ?_ ⟨⟨h3.os, h3.tape, h3.output, h3.size, fun k hk hp => h3.block k hk (fun e => hp e.symm)⟩, fun k hk => ?_⟩)
  · unfold OY
    rw [List.length_append, flatB_append]
    have e1 : nm.data.toList.length = nm.size := rfl
    have e2 : flatB nm.data.toList = strCells nm := by simp [flatB, strCells]
    rw [e1, e2]
    exact h2
  · rcases hloc with h | h
    · exact Or.inl (by rw [← h]; exact hk)
    · rw [h] at hk
      simp only [Option.some.injEq] at hk
      exact Or.inr (by omega)

set_option maxRecDepth 100000 in
set_option maxHeartbeats 4000000 in
theorem rtext_any (B : Nat) (v : Value) (bs : List UInt8) (nm : ByteArray) (w : World) (hO : OY B w v bs) (hB : B ≤ w.heap.size) (hm0 : 0 < nm.size) (hm : nm.size ≤ 1000000000) (hl : bs.length ≤ 70000000000000) : Calls Tryz.prog 35 #[v, .string nm] w (RfPost B v bs (nameB nm) w) := by
  have HC := rnum_any B v bs nm.size w hO hB (by omega) (by omega)
  have hn9 := numB_9 (n := nm.size) (by omega)
  go_enter Tryz.func35, Tryz.ntmps35
  go_wp2_with fail
  refine HC.mono ?_
  rintro e w1 ⟨v1, rfl, hO1, hg1⟩
  have HO1 := Hid.mk hO1
  have HG1 := Hid.mk hg1
  have hsz := hg1.kept.size
  clear hO1 hg1 HC
  go_wp2_with (at_builtin; refine appS_any rfl _ _ rfl B v1 (bs ++ numB nm.size) nm rfl rfl HO1.out hm0 (by simp; omega) (by omega) ?_; intro v2 w2 hO2 hg2; have HO2 := Hid.mk hO2; have HG2 := Hid.mk (HG1.out.trans hg2); clear hO2 hg2)
  go_ret
  refine ⟨_, rfl, ?_, HG2.out⟩
  unfold nameB
  rw [← List.append_assoc]
  exact HO2.out
end Go.Proofs.YtndjdeiccmhelaaGreat
