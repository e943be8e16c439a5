/- The contract of term's leveling.part. -/
import Derived.Test.YtbgkeomlfdmkeaaLVC
namespace Go.Proofs.Ytbgkeomlfdmkeaa
open Go.RowKit Go.Sort

/-- a part with its levels replaced, or an error -/
def levOut (f : Int) (nm : ByteArray) (s : Bool) : Option (List LvT) → Except Int (Bool × Tm)
  | some r => .ok (s || !r.isEmpty, .mk f 0 false nm r [])
  | none => .error 13

theorem cf_leveling (xs : Array Value) (w : World) : Sem.run Try.prog (callFunc 55 xs) w = .ok (.enter 55 xs) w := by simp [callFunc, go_sem, Try.func55]; rfl

set_option maxRecDepth 100000 in
set_option maxHeartbeats 8000000 in
theorem part2 (L : Nat) (args : List LvT) (aa : Option Addr) (acap : Nat) (w0 : World) (hal : args.length ≤ 1000000) (hac : args.length ≤ acap) (hax : ∀ l ∈ args, l.2.length ≤ 1000000) (hA : LL w0 aa args) (s : Bool) (n : Int) (hd : Bool) (nm : ByteArray) (ls : List LvT) (la ka : Option Addr) (lc kc : Nat) (b p : Int) (w : World) (hI : levI L args aa acap s w) (hl : LN w la ls) (hll : ls.length ≤ 1000000) (hlx : ∀ l ∈ ls, l.2.length ≤ 1000000) (hB : RowKit.Below w0.heap.size w0 w) (hL0 : w0.heap.size ≤ L) :
    Calls Try.prog 55 #[.pointer (some ⟨L, 0, none⟩), .agg #[.int .i64 2, .int .i64 n, .bool hd, .string nm, .slice la ls.length lc, .slice ka 0 kc], .agg #[.int .i64 b, .int .i64 p]] w fun e w' => Kept (fun k => k = L) w w' ∧ OutV (levI L args aa acap) w.heap.size 0 (levOut 2 ByteArray.empty s (levL args ls)) e w' := by
  have HBA := fun (W : World) (hb : RowKit.Below w.heap.size w W) => bareL2 n hd nm la ka lc 0 kc ls W rfl (hl.below hb) hll hlx
  obtain ⟨W0, hW0⟩ : ∃ W0, ((w.alloc (.cells #[.int .i64 2, .int .i64 n, .bool hd, .string nm, .slice la ls.length lc, .slice ka 0 kc] 25)).alloc (.cells #[.int .i64 b, .int .i64 p] 58)).alloc (.cells #[.int .i64 0, .int .i64 0, .bool false, .string { data := #[] }, .slice none 0 0, .slice none 0 0] 25) = W0 := ⟨_, rfl⟩
  have HG0 : Hid (Grew w W0) := by unfold Hid; rw [← hW0]; exact (((Grew.refl w).alloc _).alloc _).alloc _
  have HY0 : Hid (W0.heap[w.heap.size + 1 + 1]? = some (.cells #[.int .i64 0, .int .i64 0, .bool false, .string { data := #[] }, .slice none 0 0, .slice none 0 0] 25 (0, 0))) := by unfold Hid; rw [← hW0]; exact on2
  have hsz0 : W0.heap.size = w.heap.size + 1 + 1 + 1 := by rw [← hW0]; simp
  have HW0 := Hid.mk hW0
  have HI := Hid.mk hI
  have HLX := Hid.mk hlx
  have HAX := Hid.mk hax
  have HB := Hid.mk hB
  have HA := Hid.mk hA
  have hLl := heap_lt hI.1
  have HC := HBA W0 HG0.out.below
  clear hW0 hI hlx hax hB hA hl HBA
  go_enter Try.func55, Try.ntmps55
  go_wp2_with fail
  rw [HW0.out]
  refine HC.mono ?_
  rintro e w1 ⟨lo, lq, rfl, hlo, hb1⟩
  have hs1 := hb1.size
  obtain ⟨w2, hw2⟩ : ∃ w2, w1.alloc (.cells #[.int .i64 2, .int .i64 0, .bool false, .string ByteArray.empty, .slice lo ls.length lq, .slice none 0 0] 25) = w2 := ⟨_, rfl⟩
  have hb12 : RowKit.Below w1.heap.size w1 w2 := by rw [← hw2]; exact (Below.refl _ _).alloc (Nat.le_refl _) _
  have HZ2 : Hid (w2.heap[w1.heap.size]? = some (.cells #[.int .i64 2, .int .i64 0, .bool false, .string ByteArray.empty, .slice lo ls.length lq, .slice none 0 0] 25 (0, 0))) := by unfold Hid; rw [← hw2]; exact alloc_new _ _
  have hs2 : w2.heap.size = w1.heap.size + 1 := by rw [← hw2]; simp
  have HLO2 : Hid (LO w2 W0.heap.size w2.heap.size (.slice lo ls.length lq) ls) := (hlo.on (Agree.of_below hb12 (Nat.le_refl _))).mono (Nat.le_refl _) hb12.size
  have HB02 : Hid (RowKit.Below W0.heap.size W0 w2) := hb1.trans (hb12.mono hs1)
  have HB2 : Hid (RowKit.Below w.heap.size w w2) := HG0.out.below.trans (HB02.out.mono HG0.out.below.size)
  have HI2 : Hid (levI L args aa acap s w2) := ⟨(HB2.out.block L hLl).trans HI.out.1, HI.out.2⟩
  have HY2 := Hid.mk ((HB02.out.block (w.heap.size + 1 + 1) (heap_lt HY0.out)).trans HY0.out)
  have HW2 := Hid.mk hw2
  clear hw2 hb1 hb12 hlo HC HI
  go_wp2
  rw [HW2.out]
  go_loopw [18] (fun i wr => ∃ (j : Nat) (d : List LvT) (s' : Bool), j ≤ ls.length ∧ i = .int .i64 j ∧ levL args (ls.take j) = some d ∧ s' = (s || !d.isEmpty) ∧ LO wr W0.heap.size wr.heap.size (.slice lo ls.length lq) (d ++ ls.drop j) ∧ levI L args aa acap s' wr ∧ Kept (fun k => k = L ∨ (W0.heap.size ≤ k ∧ k ≠ w1.heap.size)) w2 wr) (fun i _ => ls.length - (intOf i).toNat)
  case atStart => exact ⟨0, [], s, Nat.zero_le _, rfl, rfl, by simp, HLO2.out, HI2.out, Kept.refl _ _⟩
  case round =>
    obtain ⟨j, d, s', hj, rfl, hd1, hs', hlo, hi', hk⟩ := hrel
    have hdl := levL_len hd1
    rw [List.length_take, Nat.min_eq_left hj] at hdl
    have HD1 := Hid.mk hd1
    have HS' := Hid.mk hs'
    have HLO := Hid.mk hlo
    have HIR := Hid.mk hi'
    have HKR := Hid.mk hk
    have hszr := hk.size
    have hbz := (hk.block w1.heap.size (by omega) (by omega)).trans HZ2.out
    have hby := (hk.block (w.heap.size + 1 + 1) (by omega) (by omega)).trans HY2.out
    have HZR := Hid.mk hbz
    have HYR := Hid.mk hby
    obtain ⟨z0, z1, z2, z3, z4, z5, z6⟩ := cells6 hbz
    obtain ⟨y0, y1, y2, y3, y4, y5, y6⟩ := cells6 hby
    have fy := frz hby
    clear hd1 hs' hlo hi' hk hbz hby
    by_cases hlt : j < ls.length
    · have hkt : ls[j]? = some ls[j] := List.getElem?_eq_getElem hlt
      have hmem : ls[j] ∈ ls := List.getElem_mem hlt
      have hmix : (d ++ ls.drop j).length = ls.length := by rw [List.length_append, List.length_drop]; omega
      have hget : (d ++ ls.drop j)[j]? = some (ls[j].1, ls[j].2) := by rw [List.getElem?_append_right (by omega), List.getElem?_drop, hdl, Nat.sub_self, Nat.add_zero]; exact hkt
      have hset : ∀ x : LvT, (d ++ ls.drop j).set j x = (d ++ [x]) ++ ls.drop (j + 1) := fun x => by
        rw [List.set_append_right _ _ (by omega), hdl, Nat.sub_self, List.drop_eq_getElem_cons hlt, List.set_cons_zero, List.append_assoc]; rfl
      obtain ⟨g, hg0⟩ : ∃ g, lo = some ⟨g, 0, none⟩ := by
        rcases HLO.out with ⟨h, -⟩ | ⟨g, cap, cur, hv, -⟩
        · rw [h] at hget; simp at hget
        · simp at hv; exact ⟨g, hv.1⟩
      subst hg0
      obtain ⟨cur, hh, hg1, hg2, hc0, va, vc, hc1, hvn, hso⟩ : ∃ cur, wr.heap[g]? = some (.cells cur 43 (0, 0)) ∧ W0.heap.size ≤ g ∧ g < wr.heap.size ∧ wr.cell? ⟨g, j * 2, none⟩ = some (.int .i64 ls[j].1) ∧ ∃ va vc, wr.cell? ⟨g, j * 2 + 1, none⟩ = some (.slice va ls[j].2.length vc) ∧ (va = none → vc = 0) ∧ SO wr W0.heap.size wr.heap.size va ls[j].2 := by
        rcases HLO.out with ⟨h, -⟩ | ⟨g', cap, cur, hv, h1, h2, hh, hc, hm, hs, hr⟩
        · rw [h] at hget; simp at hget
        · simp at hv
          obtain ⟨rfl, -, -⟩ := hv
          obtain ⟨c0, a', cap', c1, hn', hS'⟩ := hr j _ _ hget
          exact ⟨cur, hh, h1, h2, c0, a', cap', c1, hn', hS'⟩
      have hxl := HLX.out ls[j] hmem
      have HBR0 : Hid (RowKit.Below w0.heap.size w0 wr) := HB.out.trans ((HB2.out.mono HB.out.size).trans (HKR.out.below (by have := HB.out.size; have := HB2.out.size; omega) (fun k hk => by have := HB.out.size; omega)))
      have HLV := fun (W : World) (hb : RowKit.Below wr.heap.size wr W) => level_any L args aa acap s' ls[j].1 ls[j].2 va vc W ((hb.block L (heap_lt HIR.out.1)).trans HIR.out.1) (HA.out.below (HBR0.out.trans (hb.mono HBR0.out.size))) (hso.sl.below hb) hxl hal hac HAX.out HIR.out.2
      have HERR := Hid.mk (substR_err ls[j].1 ls[j].2 args)
      have HRIGHT := Hid.mk (fun (h : (substR ls[j].1 ls[j].2 args).2.2 = 0) => substR_right h)
      have HTAKE := Hid.mk (fun (h : (substR ls[j].1 ls[j].2 args).2.2 = 0) => levL_take hkt HD1.out h)
      have HBAD := Hid.mk (fun (h : (substR ls[j].1 ls[j].2 args).2.2 ≠ 0) => levL_bad hkt HD1.out h)
      have hLr := heap_lt HIR.out.1
      have hgz : g ≠ w1.heap.size := by rintro rfl; rw [HZR.out] at hh; simp at hh
      have HH := Hid.mk hh
      have HSO := Hid.mk hso
      have HSET := Hid.mk hset
      have zj : (j : Int) < (ls.length : Int) := by omega
      generalize substR ls[j].1 ls[j].2 args = C at *
      generalize ls[j].1 = n1 at *
      generalize ls[j].2 = x1 at *
      clear hkt hmem hget hh hso hset hvn
      obtain ⟨w3, hw3⟩ : ∃ w3, wr.alloc (.cells #[.int .i64 n1, .slice va x1.length vc] 43) = w3 := ⟨_, rfl⟩
      have hb3 : RowKit.Below wr.heap.size wr w3 := by rw [← hw3]; exact (Below.refl _ _).alloc (Nat.le_refl _) _
      have hs3 : w3.heap.size = wr.heap.size + 1 := by rw [← hw3]; simp
      have HCALL := HLV w3 hb3
      have HB3 := Hid.mk hb3
      have HW3 := Hid.mk hw3
      clear hw3 hb3 HLV
      go_wp2_with fail
      rw [HW3.out]
      refine HCALL.mono ?_
      rintro e w4 ⟨v4, rfl, hO4, hK4, hL4⟩
      obtain ⟨a4, c4, rfl, -, -⟩ := hO4.shape
      have HO4 := Hid.mk hO4
      have HK4 := Hid.mk hK4
      have HL4 := Hid.mk hL4
      have hs4 := hK4.size
      have hg4 := (hK4.block g (by omega) (by omega)).trans (HB3.out.block g hg2)
      have HG4 := Hid.mk hg4
      have hZ4 := (hK4.block w1.heap.size (by omega) (by omega)).trans ((HB3.out.block _ z6).trans HZR.out)
      have hY4 := (hK4.block (w.heap.size + 1 + 1) (by omega) (by omega)).trans ((HB3.out.block _ y6).trans HYR.out)
      obtain ⟨p0, p1, p2, p3, p4, p5, p6⟩ := cells6 hZ4
      obtain ⟨q0, q1, q2, q3, q4, q5, q6⟩ := cells6 hY4
      have fq := frz hY4
      have fg : ∀ o, w4.frozen? ⟨g, o, none⟩ = false := frz (hg4.trans HH.out)
      have e0 := (World.cell?_of_block (a := ⟨g, j * 2, none⟩) hg4).trans hc0
      have e1 := (World.cell?_of_block (a := ⟨g, j * 2 + 1, none⟩) hg4).trans hc1
      have hgl4 : g < w4.heap.size := by omega
      clear hO4 hK4 hL4 hg4 hZ4 hY4 HCALL z0 z1 z2 z3 z4 z5 z6 y0 y1 y2 y3 y4 y5 y6 hc0 hc1
      by_cases hC : C.2.2 = 0
      · have hCb : (C.2.2 == 0) = true := by simpa using hC
        have hCn : (C.2.2 != 0) = false := by simpa using hC
        go_wp2
        have hLO4 : LO w4 W0.heap.size w4.heap.size (.slice (some ⟨g, 0, none⟩) (d ++ ls.drop j).length lq) (d ++ ls.drop j) := by
          rw [hmix]
          exact (HLO.out.on (fun k h1 h2 => (HK4.out.block k (by omega) (by omega)).trans (HB3.out.block k h2))).mono (Nat.le_refl _) (by omega)
        obtain ⟨hso4, hn4⟩ := HO4.out.so (B := W0.heap.size) (E := w4.heap.size) (by omega) (Nat.le_refl _)
        have hput := hLO4.put (j := j) (n := C.1) (by omega) hso4 hn4
        have hlen : ((d ++ ls.drop j).set j (C.1, C.2.1)).length = ls.length := by rw [List.length_set, hmix]
        rw [hlen, HSET.out] at hput
        refine ⟨⟨j + 1, d ++ [(C.1, C.2.1)], (C.2.2 == 0), hlt, by go_num, HTAKE.out hC, by rw [hCb]; simp, ?_, ?_, ?_⟩, by simp [intOf]; omega⟩
        · exact (hput.on (fun k h1 h2 => Below.heap_alloc _ _ k (by simpa using h2))).mono (Nat.le_refl _) (by simp)
        · have hLg : L ≠ g := by omega
          refine ⟨alloc_old ((Below.heap_setCell _ _ _ _ hLg).trans ((Below.heap_setCell _ _ _ _ hLg).trans HL4.out)) _, fun _ => HRIGHT.out hC⟩
        · exact HKR.out.trans (((((Kept.of_below HB3.out).trans (HK4.out.imp (fun k _ h => Or.inl h))).setCell (p := ⟨g, j * 2, none⟩) (Or.inr ⟨hg1, hgz⟩) _).setCell (p := ⟨g, j * 2 + 1, none⟩) (Or.inr ⟨hg1, hgz⟩) _).alloc _)
      · have hCb : (C.2.2 == 0) = false := by simpa using hC
        have hCn : (C.2.2 != 0) = true := by simpa using hC
        have HC13 : Hid (C.2.2 = 13) := by
          rcases HERR.out with h | h
          · exact absurd h hC
          · unfold Hid; rw [h]
        go_wp2
        refine bodyPost_ret (v := .tuple #[(.agg #[.int .i64 0, .int .i64 0, .bool false, .string { data := #[] }, .slice none 0 0, .slice none 0 0] : Value), .int .i64 C.2.2]) (by simp [results, Try.results55, go_sem, q0, q1, q2, q3, q4, q5, q6]) rfl ⟨?_, ?_⟩
        · refine Kept.imp (P := fun k => k = L ∨ w.heap.size ≤ k) ?_ (fun k hk h => by omega)
          exact (((((((((Kept.of_below HB2.out).trans (HKR.out.imp (fun k _ h => by omega))).trans (Kept.of_below HB3.out)).trans (HK4.out.imp (fun k _ h => Or.inl h))).setCell (p := ⟨w.heap.size + 1 + 1, 0, none⟩) (Or.inr (by dsimp only; omega)) _).setCell (p := ⟨w.heap.size + 1 + 1, 1, none⟩) (Or.inr (by dsimp only; omega)) _).setCell (p := ⟨w.heap.size + 1 + 1, 2, none⟩) (Or.inr (by dsimp only; omega)) _).setCell (p := ⟨w.heap.size + 1 + 1, 3, none⟩) (Or.inr (by dsimp only; omega)) _).setCell (p := ⟨w.heap.size + 1 + 1, 4, none⟩) (Or.inr (by dsimp only; omega)) _).setCell (p := ⟨w.heap.size + 1 + 1, 5, none⟩) (Or.inr (by dsimp only; omega)) _ |>.alloc _
        · rw [HBAD.out hC, HC13.out]
          exact ⟨by decide, _, ⟨_, _, _, _, _, _, _, _, _, _, rfl⟩, rfl⟩
    · obtain rfl : j = ls.length := by omega
      rw [List.take_length] at HD1
      have HE : Hid (levOut 2 ByteArray.empty s (levL args ls) = .ok (s || !d.isEmpty, .mk 2 0 false ByteArray.empty d [])) := by unfold Hid; rw [HD1.out]; rfl
      have hdrop : d ++ ls.drop ls.length = d := by simp
      rw [hdrop] at HLO
      have hss := HS'.out
      subst hss
      go_wp2
      refine bodyPost_ret (v := .tuple #[.agg #[.int .i64 2, .int .i64 0, .bool false, .string ByteArray.empty, .slice lo ls.length lq, .slice none 0 0], .int .i64 0]) (by simp [results, Try.results55, go_sem, y0, y1, y2, y3, y4, y5]) rfl ⟨?_, ?_⟩
      all_goals have KF := keep6 (P := fun k => k = w.heap.size + 1 + 1) (w := wr) (b := w.heap.size + 1 + 1) (a0 := .int .i64 2) (a1 := .int .i64 0) (a2 := .bool false) (a3 := .string ByteArray.empty) (a4 := .slice lo ls.length lq) (a5 := .slice none 0 0) rfl
      · refine Kept.imp (P := fun k => k = L ∨ w.heap.size ≤ k) ?_ (fun k hk h => by omega)
        exact ((Kept.of_below HB2.out).trans (HKR.out.imp (fun k _ h => by omega))).trans (KF.imp (fun k _ h => by omega))
      · rw [HE.out]
        refine ⟨⟨_, rfl, Or.inl ⟨rfl, ?_⟩, fun h => absurd h (Nat.lt_irrefl _)⟩, (KF.block L (heap_lt HIR.out.1) (by omega)).trans HIR.out.1, HIR.out.2⟩
        have hlo : LO wr W0.heap.size wr.heap.size (.slice lo d.length lq) d := by rw [hdl]; exact HLO.out
        have hlo2 := (hlo.on (fun k h1 h2 => KF.block k h2 (by omega))).mono (B' := w.heap.size) (E' := wr.heap.size) (by omega) (Nat.le_refl _)
        have hto := TO.leaf (f := 2) (n := 0) (h := false) (nm := ByteArray.empty) hlo2 (by omega) KF.size
        rw [hdl] at hto
        exact hto

set_option maxRecDepth 100000 in
set_option maxHeartbeats 8000000 in
theorem part10 (L : Nat) (args : List LvT) (aa : Option Addr) (acap : Nat) (w0 : World) (hal : args.length ≤ 1000000) (hac : args.length ≤ acap) (hax : ∀ l ∈ args, l.2.length ≤ 1000000) (hA : LL w0 aa args) (s : Bool) (n : Int) (hd : Bool) (nm : ByteArray) (ls : List LvT) (la ka : Option Addr) (lc kc : Nat) (b p : Int) (w : World) (hI : levI L args aa acap s w) (hl : LN w la ls) (hll : ls.length ≤ 1000000) (hlx : ∀ l ∈ ls, l.2.length ≤ 1000000) (hB : RowKit.Below w0.heap.size w0 w) (hL0 : w0.heap.size ≤ L) :
    Calls Try.prog 55 #[.pointer (some ⟨L, 0, none⟩), .agg #[.int .i64 10, .int .i64 n, .bool hd, .string nm, .slice la ls.length lc, .slice ka 0 kc], .agg #[.int .i64 b, .int .i64 p]] w fun e w' => Kept (fun k => k = L) w w' ∧ OutV (levI L args aa acap) w.heap.size 0 (levOut 10 nm s (levL args ls)) e w' := by
  have HBA := fun (W : World) (hb : RowKit.Below w.heap.size w W) => bareL10 n hd nm la ka lc 0 kc ls W rfl (hl.below hb) hll hlx
  obtain ⟨W0, hW0⟩ : ∃ W0, ((w.alloc (.cells #[.int .i64 10, .int .i64 n, .bool hd, .string nm, .slice la ls.length lc, .slice ka 0 kc] 25)).alloc (.cells #[.int .i64 b, .int .i64 p] 58)).alloc (.cells #[.int .i64 0, .int .i64 0, .bool false, .string { data := #[] }, .slice none 0 0, .slice none 0 0] 25) = W0 := ⟨_, rfl⟩
  have HG0 : Hid (Grew w W0) := by unfold Hid; rw [← hW0]; exact (((Grew.refl w).alloc _).alloc _).alloc _
  have HY0 : Hid (W0.heap[w.heap.size + 1 + 1]? = some (.cells #[.int .i64 0, .int .i64 0, .bool false, .string { data := #[] }, .slice none 0 0, .slice none 0 0] 25 (0, 0))) := by unfold Hid; rw [← hW0]; exact on2
  have hsz0 : W0.heap.size = w.heap.size + 1 + 1 + 1 := by rw [← hW0]; simp
  have HW0 := Hid.mk hW0
  have HI := Hid.mk hI
  have HLX := Hid.mk hlx
  have HAX := Hid.mk hax
  have HB := Hid.mk hB
  have HA := Hid.mk hA
  have hLl := heap_lt hI.1
  have HC := HBA W0 HG0.out.below
  clear hW0 hI hlx hax hB hA hl HBA
  go_enter Try.func55, Try.ntmps55
  go_wp2_with fail
  rw [HW0.out]
  refine HC.mono ?_
  rintro e w1 ⟨lo, lq, rfl, hlo, hb1⟩
  have hs1 := hb1.size
  obtain ⟨w2, hw2⟩ : ∃ w2, w1.alloc (.cells #[.int .i64 10, .int .i64 0, .bool false, .string nm, .slice lo ls.length lq, .slice none 0 0] 25) = w2 := ⟨_, rfl⟩
  have hb12 : RowKit.Below w1.heap.size w1 w2 := by rw [← hw2]; exact (Below.refl _ _).alloc (Nat.le_refl _) _
  have HZ2 : Hid (w2.heap[w1.heap.size]? = some (.cells #[.int .i64 10, .int .i64 0, .bool false, .string nm, .slice lo ls.length lq, .slice none 0 0] 25 (0, 0))) := by unfold Hid; rw [← hw2]; exact alloc_new _ _
  have hs2 : w2.heap.size = w1.heap.size + 1 := by rw [← hw2]; simp
  have HLO2 : Hid (LO w2 W0.heap.size w2.heap.size (.slice lo ls.length lq) ls) := (hlo.on (Agree.of_below hb12 (Nat.le_refl _))).mono (Nat.le_refl _) hb12.size
  have HB02 : Hid (RowKit.Below W0.heap.size W0 w2) := hb1.trans (hb12.mono hs1)
  have HB2 : Hid (RowKit.Below w.heap.size w w2) := HG0.out.below.trans (HB02.out.mono HG0.out.below.size)
  have HI2 : Hid (levI L args aa acap s w2) := ⟨(HB2.out.block L hLl).trans HI.out.1, HI.out.2⟩
  have HY2 := Hid.mk ((HB02.out.block (w.heap.size + 1 + 1) (heap_lt HY0.out)).trans HY0.out)
  have HW2 := Hid.mk hw2
  clear hw2 hb1 hb12 hlo HC HI
  go_wp2
  rw [HW2.out]
  go_loopw [18] (fun i wr => ∃ (j : Nat) (d : List LvT) (s' : Bool), j ≤ ls.length ∧ i = .int .i64 j ∧ levL args (ls.take j) = some d ∧ s' = (s || !d.isEmpty) ∧ LO wr W0.heap.size wr.heap.size (.slice lo ls.length lq) (d ++ ls.drop j) ∧ levI L args aa acap s' wr ∧ Kept (fun k => k = L ∨ (W0.heap.size ≤ k ∧ k ≠ w1.heap.size)) w2 wr) (fun i _ => ls.length - (intOf i).toNat)
  case atStart => exact ⟨0, [], s, Nat.zero_le _, rfl, rfl, by simp, HLO2.out, HI2.out, Kept.refl _ _⟩
  case round =>
    obtain ⟨j, d, s', hj, rfl, hd1, hs', hlo, hi', hk⟩ := hrel
    have hdl := levL_len hd1
    rw [List.length_take, Nat.min_eq_left hj] at hdl
    have HD1 := Hid.mk hd1
    have HS' := Hid.mk hs'
    have HLO := Hid.mk hlo
    have HIR := Hid.mk hi'
    have HKR := Hid.mk hk
    have hszr := hk.size
    have hbz := (hk.block w1.heap.size (by omega) (by omega)).trans HZ2.out
    have hby := (hk.block (w.heap.size + 1 + 1) (by omega) (by omega)).trans HY2.out
    have HZR := Hid.mk hbz
    have HYR := Hid.mk hby
    obtain ⟨z0, z1, z2, z3, z4, z5, z6⟩ := cells6 hbz
    obtain ⟨y0, y1, y2, y3, y4, y5, y6⟩ := cells6 hby
    have fy := frz hby
    clear hd1 hs' hlo hi' hk hbz hby
    by_cases hlt : j < ls.length
    · have hkt : ls[j]? = some ls[j] := List.getElem?_eq_getElem hlt
      have hmem : ls[j] ∈ ls := List.getElem_mem hlt
      have hmix : (d ++ ls.drop j).length = ls.length := by rw [List.length_append, List.length_drop]; omega
      have hget : (d ++ ls.drop j)[j]? = some (ls[j].1, ls[j].2) := by rw [List.getElem?_append_right (by omega), List.getElem?_drop, hdl, Nat.sub_self, Nat.add_zero]; exact hkt
      have hset : ∀ x : LvT, (d ++ ls.drop j).set j x = (d ++ [x]) ++ ls.drop (j + 1) := fun x => by
        rw [List.set_append_right _ _ (by omega), hdl, Nat.sub_self, List.drop_eq_getElem_cons hlt, List.set_cons_zero, List.append_assoc]; rfl
      obtain ⟨g, hg0⟩ : ∃ g, lo = some ⟨g, 0, none⟩ := by
        rcases HLO.out with ⟨h, -⟩ | ⟨g, cap, cur, hv, -⟩
        · rw [h] at hget; simp at hget
        · simp at hv; exact ⟨g, hv.1⟩
      subst hg0
      obtain ⟨cur, hh, hg1, hg2, hc0, va, vc, hc1, hvn, hso⟩ : ∃ cur, wr.heap[g]? = some (.cells cur 43 (0, 0)) ∧ W0.heap.size ≤ g ∧ g < wr.heap.size ∧ wr.cell? ⟨g, j * 2, none⟩ = some (.int .i64 ls[j].1) ∧ ∃ va vc, wr.cell? ⟨g, j * 2 + 1, none⟩ = some (.slice va ls[j].2.length vc) ∧ (va = none → vc = 0) ∧ SO wr W0.heap.size wr.heap.size va ls[j].2 := by
        rcases HLO.out with ⟨h, -⟩ | ⟨g', cap, cur, hv, h1, h2, hh, hc, hm, hs, hr⟩
        · rw [h] at hget; simp at hget
        · simp at hv
          obtain ⟨rfl, -, -⟩ := hv
          obtain ⟨c0, a', cap', c1, hn', hS'⟩ := hr j _ _ hget
          exact ⟨cur, hh, h1, h2, c0, a', cap', c1, hn', hS'⟩
      have hxl := HLX.out ls[j] hmem
      have HBR0 : Hid (RowKit.Below w0.heap.size w0 wr) := HB.out.trans ((HB2.out.mono HB.out.size).trans (HKR.out.below (by have := HB.out.size; have := HB2.out.size; omega) (fun k hk => by have := HB.out.size; omega)))
      have HLV := fun (W : World) (hb : RowKit.Below wr.heap.size wr W) => level_any L args aa acap s' ls[j].1 ls[j].2 va vc W ((hb.block L (heap_lt HIR.out.1)).trans HIR.out.1) (HA.out.below (HBR0.out.trans (hb.mono HBR0.out.size))) (hso.sl.below hb) hxl hal hac HAX.out HIR.out.2
      have HERR := Hid.mk (substR_err ls[j].1 ls[j].2 args)
      have HRIGHT := Hid.mk (fun (h : (substR ls[j].1 ls[j].2 args).2.2 = 0) => substR_right h)
      have HTAKE := Hid.mk (fun (h : (substR ls[j].1 ls[j].2 args).2.2 = 0) => levL_take hkt HD1.out h)
      have HBAD := Hid.mk (fun (h : (substR ls[j].1 ls[j].2 args).2.2 ≠ 0) => levL_bad hkt HD1.out h)
      have hLr := heap_lt HIR.out.1
      have hgz : g ≠ w1.heap.size := by rintro rfl; rw [HZR.out] at hh; simp at hh
      have HH := Hid.mk hh
      have HSO := Hid.mk hso
      have HSET := Hid.mk hset
      have zj : (j : Int) < (ls.length : Int) := by omega
      generalize substR ls[j].1 ls[j].2 args = C at *
      generalize ls[j].1 = n1 at *
      generalize ls[j].2 = x1 at *
      clear hkt hmem hget hh hso hset hvn
      obtain ⟨w3, hw3⟩ : ∃ w3, wr.alloc (.cells #[.int .i64 n1, .slice va x1.length vc] 43) = w3 := ⟨_, rfl⟩
      have hb3 : RowKit.Below wr.heap.size wr w3 := by rw [← hw3]; exact (Below.refl _ _).alloc (Nat.le_refl _) _
      have hs3 : w3.heap.size = wr.heap.size + 1 := by rw [← hw3]; simp
      have HCALL := HLV w3 hb3
      have HB3 := Hid.mk hb3
      have HW3 := Hid.mk hw3
      clear hw3 hb3 HLV
      go_wp2_with fail
      rw [HW3.out]
      refine HCALL.mono ?_
      rintro e w4 ⟨v4, rfl, hO4, hK4, hL4⟩
      obtain ⟨a4, c4, rfl, -, -⟩ := hO4.shape
      have HO4 := Hid.mk hO4
      have HK4 := Hid.mk hK4
      have HL4 := Hid.mk hL4
      have hs4 := hK4.size
      have hg4 := (hK4.block g (by omega) (by omega)).trans (HB3.out.block g hg2)
      have HG4 := Hid.mk hg4
      have hZ4 := (hK4.block w1.heap.size (by omega) (by omega)).trans ((HB3.out.block _ z6).trans HZR.out)
      have hY4 := (hK4.block (w.heap.size + 1 + 1) (by omega) (by omega)).trans ((HB3.out.block _ y6).trans HYR.out)
      obtain ⟨p0, p1, p2, p3, p4, p5, p6⟩ := cells6 hZ4
      obtain ⟨q0, q1, q2, q3, q4, q5, q6⟩ := cells6 hY4
      have fq := frz hY4
      have fg : ∀ o, w4.frozen? ⟨g, o, none⟩ = false := frz (hg4.trans HH.out)
      have e0 := (World.cell?_of_block (a := ⟨g, j * 2, none⟩) hg4).trans hc0
      have e1 := (World.cell?_of_block (a := ⟨g, j * 2 + 1, none⟩) hg4).trans hc1
      have hgl4 : g < w4.heap.size := by omega
      clear hO4 hK4 hL4 hg4 hZ4 hY4 HCALL z0 z1 z2 z3 z4 z5 z6 y0 y1 y2 y3 y4 y5 y6 hc0 hc1
      by_cases hC : C.2.2 = 0
      · have hCb : (C.2.2 == 0) = true := by simpa using hC
        have hCn : (C.2.2 != 0) = false := by simpa using hC
        go_wp2
        have hLO4 : LO w4 W0.heap.size w4.heap.size (.slice (some ⟨g, 0, none⟩) (d ++ ls.drop j).length lq) (d ++ ls.drop j) := by
          rw [hmix]
          exact (HLO.out.on (fun k h1 h2 => (HK4.out.block k (by omega) (by omega)).trans (HB3.out.block k h2))).mono (Nat.le_refl _) (by omega)
        obtain ⟨hso4, hn4⟩ := HO4.out.so (B := W0.heap.size) (E := w4.heap.size) (by omega) (Nat.le_refl _)
        have hput := hLO4.put (j := j) (n := C.1) (by omega) hso4 hn4
        have hlen : ((d ++ ls.drop j).set j (C.1, C.2.1)).length = ls.length := by rw [List.length_set, hmix]
        rw [hlen, HSET.out] at hput
        refine ⟨⟨j + 1, d ++ [(C.1, C.2.1)], (C.2.2 == 0), hlt, by go_num, HTAKE.out hC, by rw [hCb]; simp, ?_, ?_, ?_⟩, by simp [intOf]; omega⟩
        · exact (hput.on (fun k h1 h2 => Below.heap_alloc _ _ k (by simpa using h2))).mono (Nat.le_refl _) (by simp)
        · have hLg : L ≠ g := by omega
          refine ⟨alloc_old ((Below.heap_setCell _ _ _ _ hLg).trans ((Below.heap_setCell _ _ _ _ hLg).trans HL4.out)) _, fun _ => HRIGHT.out hC⟩
        · exact HKR.out.trans (((((Kept.of_below HB3.out).trans (HK4.out.imp (fun k _ h => Or.inl h))).setCell (p := ⟨g, j * 2, none⟩) (Or.inr ⟨hg1, hgz⟩) _).setCell (p := ⟨g, j * 2 + 1, none⟩) (Or.inr ⟨hg1, hgz⟩) _).alloc _)
      · have hCb : (C.2.2 == 0) = false := by simpa using hC
        have hCn : (C.2.2 != 0) = true := by simpa using hC
        have HC13 : Hid (C.2.2 = 13) := by
          rcases HERR.out with h | h
          · exact absurd h hC
          · unfold Hid; rw [h]
        go_wp2
        refine bodyPost_ret (v := .tuple #[(.agg #[.int .i64 0, .int .i64 0, .bool false, .string { data := #[] }, .slice none 0 0, .slice none 0 0] : Value), .int .i64 C.2.2]) (by simp [results, Try.results55, go_sem, q0, q1, q2, q3, q4, q5, q6]) rfl ⟨?_, ?_⟩
        · refine Kept.imp (P := fun k => k = L ∨ w.heap.size ≤ k) ?_ (fun k hk h => by omega)
          exact (((((((((Kept.of_below HB2.out).trans (HKR.out.imp (fun k _ h => by omega))).trans (Kept.of_below HB3.out)).trans (HK4.out.imp (fun k _ h => Or.inl h))).setCell (p := ⟨w.heap.size + 1 + 1, 0, none⟩) (Or.inr (by dsimp only; omega)) _).setCell (p := ⟨w.heap.size + 1 + 1, 1, none⟩) (Or.inr (by dsimp only; omega)) _).setCell (p := ⟨w.heap.size + 1 + 1, 2, none⟩) (Or.inr (by dsimp only; omega)) _).setCell (p := ⟨w.heap.size + 1 + 1, 3, none⟩) (Or.inr (by dsimp only; omega)) _).setCell (p := ⟨w.heap.size + 1 + 1, 4, none⟩) (Or.inr (by dsimp only; omega)) _).setCell (p := ⟨w.heap.size + 1 + 1, 5, none⟩) (Or.inr (by dsimp only; omega)) _ |>.alloc _
        · rw [HBAD.out hC, HC13.out]
          exact ⟨by decide, _, ⟨_, _, _, _, _, _, _, _, _, _, rfl⟩, rfl⟩
    · obtain rfl : j = ls.length := by omega
      rw [List.take_length] at HD1
      have HE : Hid (levOut 10 nm s (levL args ls) = .ok (s || !d.isEmpty, .mk 10 0 false nm d [])) := by unfold Hid; rw [HD1.out]; rfl
      have hdrop : d ++ ls.drop ls.length = d := by simp
      rw [hdrop] at HLO
      have hss := HS'.out
      subst hss
      go_wp2
      refine bodyPost_ret (v := .tuple #[.agg #[.int .i64 10, .int .i64 0, .bool false, .string nm, .slice lo ls.length lq, .slice none 0 0], .int .i64 0]) (by simp [results, Try.results55, go_sem, y0, y1, y2, y3, y4, y5]) rfl ⟨?_, ?_⟩
      all_goals have KF := keep6 (P := fun k => k = w.heap.size + 1 + 1) (w := wr) (b := w.heap.size + 1 + 1) (a0 := .int .i64 10) (a1 := .int .i64 0) (a2 := .bool false) (a3 := .string nm) (a4 := .slice lo ls.length lq) (a5 := .slice none 0 0) rfl
      · refine Kept.imp (P := fun k => k = L ∨ w.heap.size ≤ k) ?_ (fun k hk h => by omega)
        exact ((Kept.of_below HB2.out).trans (HKR.out.imp (fun k _ h => by omega))).trans (KF.imp (fun k _ h => by omega))
      · rw [HE.out]
        refine ⟨⟨_, rfl, Or.inl ⟨rfl, ?_⟩, fun h => absurd h (Nat.lt_irrefl _)⟩, (KF.block L (heap_lt HIR.out.1) (by omega)).trans HIR.out.1, HIR.out.2⟩
        have hlo : LO wr W0.heap.size wr.heap.size (.slice lo d.length lq) d := by rw [hdl]; exact HLO.out
        have hlo2 := (hlo.on (fun k h1 h2 => KF.block k h2 (by omega))).mono (B' := w.heap.size) (E' := wr.heap.size) (by omega) (Nat.le_refl _)
        have hto := TO.leaf (f := 10) (n := 0) (h := false) (nm := nm) hlo2 (by omega) KF.size
        rw [hdl] at hto
        exact hto

set_option maxRecDepth 100000 in
set_option maxHeartbeats 8000000 in
theorem partN (L : Nat) (args : List LvT) (aa : Option Addr) (acap : Nat) (s : Bool) (t : Tm) (v : Value) (b p : Int) (w : World) (hv : TV w v t) (hsm : smT 1000000 t) (hf : ¬ (t.form = 2 ∨ t.form = 10)) (hI : levI L args aa acap s w) :
    Calls Try.prog 55 #[.pointer (some ⟨L, 0, none⟩), v, .agg #[.int .i64 b, .int .i64 p]] w fun e w' => Kept (fun k => k = L) w w' ∧ OutV (levI L args aa acap) w.heap.size t.kids.length (.ok (s, bareT t)) e w' := by
  have HBA := fun (W : World) (hb : RowKit.Below w.heap.size w W) => bare_any t v W (hv.on hb) hsm (fun h => absurd h hf)
  have hlv : (bareT t).levels = [] := by cases t; simp only [Tm.form] at hf; simp only [bareT, Tm.levels]; rw [if_neg hf]
  have HBK := Hid.mk (bareT_kids t)
  have HLV : Hid ((bareT t).levels.length = 0) := by unfold Hid; rw [hlv]; rfl
  obtain ⟨la, lc, ka, kc, rfl⟩ := hv.shape
  clear hv hsm hf hlv
  generalize bareT t = r at *
  generalize t.form = f at *
  generalize t.n = n at *
  generalize t.hid = hd at *
  generalize t.name = nm at *
  generalize t.levels.length = l1 at *
  generalize t.kids.length = k1 at *
  obtain ⟨W0, hW0⟩ : ∃ W0, ((w.alloc (.cells #[.int .i64 f, .int .i64 n, .bool hd, .string nm, .slice la l1 lc, .slice ka k1 kc] 25)).alloc (.cells #[.int .i64 b, .int .i64 p] 58)).alloc (.cells #[.int .i64 0, .int .i64 0, .bool false, .string { data := #[] }, .slice none 0 0, .slice none 0 0] 25) = W0 := ⟨_, rfl⟩
  have HG0 : Hid (Grew w W0) := by unfold Hid; rw [← hW0]; exact (((Grew.refl w).alloc _).alloc _).alloc _
  have HY0 : Hid (W0.heap[w.heap.size + 1 + 1]? = some (.cells #[.int .i64 0, .int .i64 0, .bool false, .string { data := #[] }, .slice none 0 0, .slice none 0 0] 25 (0, 0))) := by unfold Hid; rw [← hW0]; exact on2
  have hsz0 : W0.heap.size = w.heap.size + 1 + 1 + 1 := by rw [← hW0]; simp
  have HW0 := Hid.mk hW0
  have HI := Hid.mk hI
  have hLl := heap_lt hI.1
  have HC := HBA W0 HG0.out.below
  clear hW0 hI HBA
  go_enter Try.func55, Try.ntmps55
  go_wp2_with fail
  rw [HW0.out]
  refine HC.mono ?_
  rintro e w1 ⟨v1, rfl, hfr, hb1⟩
  have hs1 := hb1.size
  obtain ⟨o1, o3, q1, q2, q3, rfl⟩ := hfr.shapeL
  rw [HLV.out] at hfr ⊢
  have HFR := Hid.mk hfr
  have HB1 := Hid.mk hb1
  have hby := (hb1.block (w.heap.size + 1 + 1) (by omega)).trans HY0.out
  obtain ⟨y0, y1, y2, y3, y4, y5, y6⟩ := cells6 hby
  have fy := frz hby
  clear hfr hb1 hby HC
  generalize r.form = rf at *
  generalize r.n = rn at *
  generalize r.hid = rh at *
  generalize r.name = rm at *
  go_wp2
  refine wp_loop_rounds 1 ?_
  rw [rounds_succ]
  go_wp2
  refine bodyPost_ret (v := .tuple #[.agg #[.int .i64 rf, .int .i64 rn, .bool rh, .string rm, .slice o1 0 o3, .slice q1 q2 q3], .int .i64 0]) (by simp [results, Try.results55, go_sem, y0, y1, y2, y3, y4, y5, y6]) rfl ⟨?_, ?_⟩
  all_goals have KF := (keep6 (P := fun k => k = w.heap.size + 1 + 1) (w := w1) (b := w.heap.size + 1 + 1) (a0 := .int .i64 rf) (a1 := .int .i64 rn) (a2 := .bool rh) (a3 := .string rm) (a4 := .slice o1 0 o3) (a5 := .slice q1 q2 q3) rfl).alloc (.cells #[.int .i64 rf, .int .i64 rn, .bool rh, .string rm, .slice o1 0 o3, .slice q1 q2 q3] 25)
  · refine Kept.imp (P := fun k => k = L ∨ w.heap.size ≤ k) ?_ (fun k hk h => by omega)
    exact (Kept.of_below (HG0.out.below.trans (HB1.out.mono HG0.out.below.size))).trans (KF.imp (fun k _ h => by omega))
  · refine ⟨⟨_, rfl, HFR.out.fin (fun _ => HBK.out) (by omega) (by omega), fun _ => HBK.out⟩, ?_, HI.out.2⟩
    exact (KF.block L (by omega) (by omega)).trans ((HB1.out.block L (by omega)).trans ((HG0.out.below.block L hLl).trans HI.out.1))

theorem lev_visits (L : Nat) (args : List LvT) (aa : Option Addr) (acap : Nat) (w0 : World) (hal : args.length ≤ 1000000) (hac : args.length ≤ acap) (hax : ∀ l ∈ args, l.2.length ≤ 1000000) (hA : LL w0 aa args) (hL0 : w0.heap.size ≤ L) : VisitsT GT (fun k => k = L) (levI L args aa acap) w0 55 #[.pointer (some ⟨L, 0, none⟩)] (levV args) := by
  intro s t v b p w hG hI hv0 hB hb0 hbp hp
  have hv := hv0.on hB
  obtain ⟨hsm, hfm⟩ := hG
  by_cases hf : t.form = 2 ∨ t.form = 10
  · have hk0 := GT_leaf ⟨hsm, hfm⟩ (by omega)
    cases hv with
    | @mk f n hd nm ls ks la lc ka kc kb ko hl hln hlc hlm hkn hkc hkm hk kids =>
      simp only [Tm.form, Tm.kids] at hf hk0
      subst hk0
      obtain ⟨-, s1, s2, -, -⟩ := (smT_mk _ _ _ _ _ _ _).1 hsm
      rcases hf with rfl | rfl
      · exact part2 L args aa acap w0 hal hac hax hA s n hd nm ls la ka lc kc b p w hI hl s1 s2 hB hL0
      · exact part10 L args aa acap w0 hal hac hax hA s n hd nm ls la ka lc kc b p w hI hl s1 s2 hB hL0
  · have h := partN L args aa acap s t v b p w hv hsm hf hI
    have hlv : (bareT t).levels = [] := by cases t; simp only [Tm.form] at hf; simp only [bareT, Tm.levels]; rw [if_neg hf]
    have e : levV args s t b p = .ok (s, bareT t) := by
      unfold levV
      rw [hlv]
      have : (bareT t).setL [] = bareT t := by have := Tm.setL_self (bareT t); rwa [hlv] at this
      simp [levL, this]
    rw [e]
    exact h
end Go.Proofs.Ytbgkeomlfdmkeaa
