/- The reference's Split, at right terms. -/
import Derived.Test.YthdcpodheimhaaaHF
namespace Go.Proofs.Ythdcpodheimhaaa
open Go.RowKit Go.Sort

/-- append of one Hid onto a row of the call's own -/
theorem wpList_appH {w : World} {ops : Array Oper} {rest : List Oper} {o : Oper} {a : Act} {Q : Exit → Act → World → Prop} (hgd : o.guard = none) (s x : Operand) (ho : o.op = .call { callee := .builtin .append, args := #[s, x], argTypes := #[28, 28] })
    (B : Nat) (v : Value) (hs : List Bool) (h1 : Bool) (b : Nat) (hsv : a.eval s = v) (hx : a.eval x = .slice (some ⟨b, 0, none⟩) 1 1) (hO : OB1 B w v hs) (hnews : w.cell? ⟨b, 0, none⟩ = some (.bool h1)) (hlen : hs.length ≤ 1500000000000) (hB : B ≤ w.heap.size)
    (h : ∀ v' w', OB1 B w' v' (hs ++ [h1]) → w.grownBy w' v.ownBlock → wpList Try.prog ops Q rest (a.put o.dst v') w') : wpList Try.prog ops Q (o :: rest) a w := by
  obtain ⟨i0, hi, hz0, hz1, hz2⟩ := info_parts infoB1
  refine wpList_append_lies _ hgd s x 28 ho B 4 i0 _ 1 1 Try.underlying28 hi hz0 hz1 hz2 rfl (by decide) v hs.length (hs.map Value.bool) hsv hO ⟨b, 0, none⟩ 1 1 [.bool h1] hx rfl (fun j u hu => ?_) (by simp [Value.oneCell']) (by omega) (by simp [maxLen]; omega) (by omega) hB _ rfl ?_
  · cases j with
    | zero =>
      simp only [List.getElem?_cons_zero, Option.some.injEq] at hu
      subst hu
      simpa [Addr.add] using hnews
    | succ j => simp at hu
  · intro g cap w' hown hgr _ _
    refine h _ w' ?_ hgr
    unfold OB1
    rw [List.length_append, List.map_append]
    exact hown

/-- what the reference's Split answers: the terms are those that were handed in -/
def RsRes (w' : World) (e : Ending) : Option (List (Tm × Bool) × Tm) → Prop
  | some (l, r) => ∃ (B : Nat) (P : Nat → Bool) (a : Option Addr) (cap : Nat) (hv rv : Value), e = .returned (.tuple #[.slice a l.length cap, hv, rv, .bool true]) ∧ RowF w' B P a cap (l.map fun x => x.1) ∧ OB1 B w' hv (l.map fun x => x.2) ∧ ShapeT rv ∧ TV w' rv r
  | none => e = .returned (.tuple #[.slice none 0 0, .slice none 0 0, zeroV, .bool false])

set_option maxRecDepth 100000 in
set_option maxHeartbeats 8000000 in
theorem rSplit_walk (N : Int) (t t' : Tm) (v v' : Value) (xs : List (Value × Tm)) (w : World) (hv : TV w v t) (hN0 : 0 ≤ N) (hN : N ≤ 9223372036854775807) (hrow : PiRow w xs v t v' t') (hend : (xs.length : Int) = N ∨ ((xs.length : Int) < N ∧ t'.form ≠ 3)) (hxl : xs.length ≤ 500) : Calls Try.prog 10 #[v, .int .i64 N] w fun e w' => RowKit.Below w.heap.size w w' ∧ RsRes w' e (if (xs.length : Int) = N then some (xs.map (fun x => (domT x.2, x.2.hid)), t') else none) := by
  obtain ⟨R, hR⟩ : ∃ R, (if (xs.length : Int) = N then some (xs.map (fun x => (domT x.2, x.2.hid)), t') else none) = R := ⟨_, rfl⟩
  rw [hR]
  have HRES := Hid.mk hR
  clear hR
  have HV := Hid.mk hv
  have HROW := Hid.mk hrow
  have HEND := Hid.mk hend
  obtain ⟨la, lc, ka, kc, rfl⟩ := hv.shape
  clear hv hrow hend
  generalize t.form = f at *
  generalize t.n = n at *
  generalize t.hid = hd at *
  generalize t.name = nm at *
  generalize t.levels.length = l1 at *
  generalize t.kids.length = k1 at *
  obtain ⟨W0, hW0⟩ : ∃ W0, (w.alloc (.cells #[.int .i64 f, .int .i64 n, .bool hd, .string nm, .slice la l1 lc, .slice ka k1 kc] 25)).alloc (.cells #[.int .i64 0, .int .i64 0, .bool false, .string { data := #[] }, .slice none 0 0, .slice none 0 0] 25) = W0 := ⟨_, rfl⟩
  have hb0 : RowKit.Below w.heap.size w W0 := by rw [← hW0]; exact ((Below.refl _ _).alloc (Nat.le_refl _) _).alloc (by simp) _
  have HX0 : Hid (W0.heap[w.heap.size]? = some (.cells #[.int .i64 f, .int .i64 n, .bool hd, .string nm, .slice la l1 lc, .slice ka k1 kc] 25 (0, 0))) := by unfold Hid; rw [← hW0]; exact box_at
  have HR0 : Hid (W0.heap[w.heap.size + 1]? = some (.cells #[.int .i64 0, .int .i64 0, .bool false, .string { data := #[] }, .slice none 0 0, .slice none 0 0] 25 (0, 0))) := by unfold Hid; rw [← hW0]; exact box_at1
  have hs0 : W0.heap.size = w.heap.size + 2 := by rw [← hW0]; simp
  have HB0 := Hid.mk hb0
  have HS0 := Hid.mk hs0
  have HW0 := Hid.mk hW0
  have hN1 : ¬ N < 0 := by omega
  have mx := mixed
  clear hW0 hb0 hs0
  go_enter Try.func10, Try.ntmps10
  go_wp2
  rw [HW0.out]
  go_loopw [8, 9, 10] (fun (u8 u9 i : Value) (wr : World) => ∃ (pre rest : List (Value × Tm)) (tk : Tm) (f n : Int) (hd : Bool) (nm : ByteArray) (la ka : Option Addr) (l1 lc k1 kc : Nat) (a : Option Addr) (cap : Nat) (a9 : Option Addr) (cap9 : Nat), i = .int .i64 (pre.length : Int) ∧ u8 = .slice a pre.length cap ∧ u9 = .slice a9 pre.length cap9 ∧ pre ++ rest = xs ∧ PiRow w rest (.agg #[.int .i64 f, .int .i64 n, .bool hd, .string nm, .slice la l1 lc, .slice ka k1 kc]) tk v' t' ∧ wr.heap[w.heap.size]? = some (.cells #[.int .i64 f, .int .i64 n, .bool hd, .string nm, .slice la l1 lc, .slice ka k1 kc] 25 (0, 0)) ∧ RowF wr (w.heap.size + 2) (fun k => decide (w.heap.size ≤ k)) a cap (pre.map fun x => domT x.2) ∧ OB1 (w.heap.size + 2) wr (.slice a9 pre.length cap9) (pre.map fun x => x.2.hid) ∧ Kept (fun k => k = w.heap.size) W0 wr) (fun _ _ i _ => xs.length + 1 - (intOf i).toNat)
  case atStart => exact ⟨[], xs, t, f, n, hd, nm, la, ka, l1, lc, k1, kc, none, 0, none, 0, rfl, rfl, rfl, rfl, HROW.out, HX0.out, RowF.nil _ _ _, OB1.nil _ _, Kept.refl _ _⟩
  case round =>
    obtain ⟨pre, rest, tk, f, n, hd, nm, la, ka, l1, lc, k1, kc, a, cap, a9, cap9, rfl, rfl, rfl, hpr, hrk, hX, hRow, hO, hK⟩ := hrel
    have HPR := Hid.mk hpr
    have HRK := Hid.mk hrk
    have HX := Hid.mk hX
    have HROWR := Hid.mk hRow
    have HO := Hid.mk hO
    have HK := Hid.mk hK
    have hlp : pre.length + rest.length = xs.length := by rw [← hpr]; simp
    have hszr := hK.size
    have HZ := Hid.mk ((hK.block _ (heap_lt HR0.out) (by omega)).trans HR0.out)
    have hs0 := HS0.out
    obtain ⟨x0, x1, x2, x3, x4, x5, x6⟩ := cells6 hX
    have xf := frz hX
    obtain ⟨y0, y1, y2, y3, y4, y5, y6⟩ := cells6 HZ.out
    have yf := frz HZ.out
    have HS0' := Hid.mk hs0
    clear hpr hrk hX hRow hO hK hs0
    by_cases hlt : (pre.length : Int) < N
    · cases rest with
      | nil =>
        have hf3 : (f != 3) = true := by
          have h := HRK.out
          have hv := h.tv
          cases h with
          | nil _ =>
            obtain ⟨_, _, _, _, e⟩ := hv.shape
            simp only [Value.agg.injEq, Array.mk.injEq, List.cons.injEq, Value.int.injEq, true_and] at e
            rcases HEND.out with he | ⟨-, he⟩
            · simp at hlp; omega
            · rw [e.1]; simpa using he
        go_wp2
        refine bodyPost_ret (v := .tuple #[.slice none 0 0, .slice none 0 0, zeroV, .bool false]) (by simp [results, Try.results10, go_sem, zeroV, y0, y1, y2, y3, y4, y5]) rfl ⟨?_, ?_⟩
        · have hs0 := HS0'.out
          exact ((HB0.out.trans (HK.out.below (by omega) (fun k hk => by omega))).trans ((keep6 (P := fun k => k = w.heap.size + 1) rfl).below (by omega) (fun k hk => by omega)))
        · simp only [List.length_nil, Nat.add_zero] at hlp
          rw [← HRES.out, if_neg (by omega)]
          rfl
      | cons x rest =>
        obtain ⟨kb, ko, ls, d, t1, q0, q1, q2, q3, e1, e2, e3, g1, g2, g3, hx2, rfl, rfl, rfl, hkb, hkc, htx, hc1, hr1⟩ : ∃ (kb ko : Nat) (ls : List LvT) (d t1 : Tm) (q0 q1 : Int) (q2 : Bool) (q3 : ByteArray) (e1 : Option Addr) (e2 e3 : Nat) (g1 : Option Addr) (g2 g3 : Nat), x.2 = .mk 3 n hd nm ls [d, t1] ∧ f = 3 ∧ ka = some ⟨kb, ko, none⟩ ∧ k1 = 2 ∧ kb < w.heap.size ∧ 2 ≤ kc ∧ TV w (.agg #[.int .i64 3, .int .i64 n, .bool hd, .string nm, .slice la l1 lc, .slice (some ⟨kb, ko, none⟩) 2 kc]) (.mk 3 n hd nm ls [d, t1]) ∧ CellsAt w kb (ko + 6) (.agg #[.int .i64 q0, .int .i64 q1, .bool q2, .string q3, .slice e1 e2 e3, .slice g1 g2 g3]) ∧ PiRow w rest (.agg #[.int .i64 q0, .int .i64 q1, .bool q2, .string q3, .slice e1 e2 e3, .slice g1 g2 g3]) t1 v' t' := by
          generalize hvv : (Value.agg #[.int .i64 f, .int .i64 n, .bool hd, .string nm, .slice la l1 lc, .slice ka k1 kc]) = vv at *
          have h := HRK.out
          cases h with
          | cons hv hkb hkc hc hr =>
            simp only [Value.agg.injEq, Array.mk.injEq, List.cons.injEq, Value.int.injEq, Value.bool.injEq, Value.string.injEq, Value.slice.injEq, true_and, and_true] at hvv
            obtain ⟨rfl, rfl, rfl, rfl, ⟨rfl, rfl, rfl⟩, rfl, rfl, rfl⟩ := hvv
            have hc' := hc
            obtain ⟨q0, q1, q2, q3, e1, e2, e3, g1, g2, g3, rfl, -⟩ := hc'
            exact ⟨_, _, _, _, _, q0, q1, q2, q3, e1, e2, e3, g1, g2, g3, rfl, rfl, rfl, rfl, hkb, hkc, hv, hc, hr⟩
        obtain ⟨d0, d1, d2, d3, d4, d5, d6, d7, d8, d9, hdc, hdt⟩ := pi_dom htx
        have hold : ∀ k, k < w.heap.size → wr.heap[k]? = w.heap[k]? := fun k hk => (HK.out.block k (by have := HS0'.out; omega) (by omega)).trans (HB0.out.block k hk)
        have hdc2 := hdc.same (hold kb hkb)
        obtain ⟨p0, p1, p2, p3, p4, p5, p6, p7, p8, p9, hpe, c0, c1, c2, c3, c4, c5⟩ := hdc2
        simp only [Value.agg.injEq, Array.mk.injEq, List.cons.injEq, Value.int.injEq, Value.bool.injEq, Value.string.injEq, Value.slice.injEq, true_and, and_true] at hpe
        obtain ⟨rfl, rfl, rfl, rfl, ⟨rfl, rfl, rfl⟩, rfl, rfl, rfl⟩ := hpe
        have HOLD := Hid.mk hold
        have HDT := Hid.mk hdt
        have HC1 := Hid.mk hc1
        have HR1 := Hid.mk hr1
        obtain ⟨ys, kvs, hown, hkv⟩ := HROWR.out.go
        have hlm : (pre.map fun x => domT x.2).length = pre.length := by rw [List.length_map]
        rw [hlm] at hown
        have HOWN := Hid.mk hown
        have HKV := Hid.mk hkv
        have hysl : ys.length = pre.length * 6 := hown.1
        have hpl : pre.length ≤ 500 := by omega
        have hkbr : kb < wr.heap.size := by have := HS0'.out; omega
        clear hdc hdt hc1 hr1 htx hown hkv hold
        have HOWN1 : Hid ((wr.alloc (.cells #[.int .i64 d0, .int .i64 d1, .bool d2, .string d3, .slice d4 d5 d6, .slice d7 d8 d9] 25)).ownsRow (w.heap.size + 2) 25 6 (.slice a pre.length cap) pre.length ys) := HOWN.out.alloc _
        have HNB := Hid.mk (World.news_of_block (cs := #[.int .i64 d0, .int .i64 d1, .bool d2, .string d3, .slice d4 d5 d6, .slice d7 d8 d9]) (t := 25) (fr := (0, 0)) (alloc_new wr (.cells #[.int .i64 d0, .int .i64 d1, .bool d2, .string d3, .slice d4 d5 d6, .slice d7 d8 d9] 25)))
        have hB1 : w.heap.size + 2 ≤ (wr.alloc (.cells #[.int .i64 d0, .int .i64 d1, .bool d2, .string d3, .slice d4 d5 d6, .slice d7 d8 d9] 25)).heap.size := by have := HS0'.out; simp; omega
        have HRB : Hid (∀ k, ownB a k = true → w.heap.size + 2 ≤ k ∧ k < wr.heap.size) := fun k hk => row_block HOWN.out hk
        have HF7 : Hid (∀ (g7 c7 : Nat) (W7 : World), W7.ownsRow (w.heap.size + 2) 25 6 (.slice (some ⟨g7, 0, none⟩) (pre.length + 1) c7) (pre.length + 1) (ys ++ [.int .i64 d0, .int .i64 d1, .bool d2, .string d3, .slice d4 d5 d6, .slice d7 d8 d9]) → (wr.alloc (.cells #[.int .i64 d0, .int .i64 d1, .bool d2, .string d3, .slice d4 d5 d6, .slice d7 d8 d9] 25)).grownBy W7 (Value.slice a pre.length cap).ownBlock → ((Value.slice a pre.length cap).ownBlock = some g7 ∨ g7 = (wr.alloc (.cells #[.int .i64 d0, .int .i64 d1, .bool d2, .string d3, .slice d4 d5 d6, .slice d7 d8 d9] 25)).heap.size) →
            (∀ k, k < w.heap.size + 2 → W7.heap[k]? = wr.heap[k]?) ∧ OB1 (w.heap.size + 2) W7 (.slice a9 pre.length cap9) (pre.map fun x => x.2.hid) ∧ RowF W7 (w.heap.size + 2) (fun k => decide (w.heap.size ≤ k)) (some ⟨g7, 0, none⟩) c7 ((pre.map fun x => domT x.2) ++ [d]) ∧ wr.heap.size ≤ W7.heap.size ∧ W7.os = wr.os ∧ W7.tape = wr.tape ∧ W7.output = wr.output) := by
          intro g7 c7 W7 hown7 hgr7 hat7
          have hs0 := HS0'.out
          have hk7 : ∀ k, k < wr.heap.size → ownB a k = false → W7.heap[k]? = wr.heap[k]? := fun k hk ho => (hgr7.block k (by simp; omega) (ownB_none ho)).trans (Below.heap_alloc _ _ k hk)
          refine ⟨fun k hk => hk7 k (by omega) ?_, HO.out.move fun k hk => hk7 k (HO.out.lt hk).2 (own_apart HOWN.out HO.out hk), ?_, by have := hgr7.size; simp at this; omega, hgr7.os, hgr7.tape, hgr7.output⟩
          · cases e : ownB a k with
            | false => rfl
            | true => have := HRB.out k e; omega
          · refine RowF.snoc (w := wr.alloc (.cells #[.int .i64 d0, .int .i64 d1, .bool d2, .string d3, .slice d4 d5 d6, .slice d7 d8 d9] 25)) (cap := cap) (fun j t hj => ⟨(HKV.out j t hj).1, (HKV.out j t hj).2.on ((Below.refl _ _).alloc (Nat.le_refl _) _)⟩) (by rw [hlm]; exact hysl) (by rw [hlm]; exact hown7) (by rw [hlm]; exact hgr7) (by rw [hlm]; exact hat7) ?_
            refine TF.move (w := w) (P := fun k => decide (w.heap.size ≤ k)) (HDT.out.tf (fun k hk => by simp; omega)) (by simp; omega) (fun k hk hp => ⟨?_, (Below.heap_alloc _ _ k (by omega)).trans (HOLD.out k hk)⟩)
            rw [Bool.or_eq_false_iff]
            refine ⟨hp, ?_⟩
            cases e : ownB a k with
            | false => rfl
            | true => have := HRB.out k e; omega
        clear y0 y1 y2 y3 y4 y5 y6 yf
        go_wp2_with (first
          | (at_builtin; refine wpList_appF rfl _ _ rfl (w.heap.size + 2) (.slice a pre.length cap) pre.length ys [.int .i64 d0, .int .i64 d1, .bool d2, .string d3, .slice d4 d5 d6, .slice d7 d8 d9] wr.heap.size 1 rfl rfl HOWN1.out rfl HNB.out (by simp [Value.oneCell']) (by omega) hB1 ?_; intro g7 c7 W7 hown7 hgr7 hat7; obtain ⟨hold7, hO7, hrow7, hs7, ho7, ht7, hu7⟩ := HF7.out g7 c7 W7 hown7 hgr7 hat7; have HOLD7 := Hid.mk hold7; have HO7 := Hid.mk hO7; have HROW7 := Hid.mk hrow7; have HOT7 : Hid (W7.os = wr.os ∧ W7.tape = wr.tape ∧ W7.output = wr.output) := ⟨ho7, ht7, hu7⟩; clear x0 x1 x2 x3 x4 x5 x6 xf hown7 hgr7 hat7 hO7 hrow7 ho7 ht7 hu7; obtain ⟨x0, x1, x2, x3, x4, x5, x6⟩ := cells6 ((hold7 w.heap.size (by omega)).trans HX.out); clear hold7)
          | (at_builtin; refine wpList_appH rfl _ _ rfl (w.heap.size + 2) (.slice a9 pre.length cap9) (pre.map fun x => x.2.hid) hd W7.heap.size rfl rfl (HO7.out.move fun k hk => Below.heap_alloc _ _ k (HO7.out.lt hk).2) (cells1 (alloc_new W7 (.cells #[.bool hd] 4))).1 (by rw [List.length_map]; omega) (by have := HS0'.out; simp; omega) ?_; intro v9 W9 hO9 hgr9; obtain ⟨ha9, hc9, hve9⟩ := hO9.shape; subst hve9; have HO9 := Hid.mk hO9; have HK79 : Hid (∀ k, k < W7.heap.size → (Value.slice a9 pre.length cap9).ownBlock ≠ some k → W9.heap[k]? = W7.heap[k]?) := (fun k hk hne => (hgr9.block k (by simp; omega) (fun e => hne e.symm)).trans (Below.heap_alloc _ _ k hk)); have hs9 : W7.heap.size ≤ W9.heap.size := (by have := hgr9.size; simp at this; omega); have HOT9 : Hid (W9.os = wr.os ∧ W9.tape = wr.tape ∧ W9.output = wr.output) := ⟨hgr9.os.trans HOT7.out.1, hgr9.tape.trans HOT7.out.2.1, hgr9.output.trans HOT7.out.2.2⟩; have HOLD9 : Hid (∀ k, k < w.heap.size + 2 → W9.heap[k]? = wr.heap[k]?) := (fun k hk => (HK79.out k (by have := HS0'.out; omega) (fun e => by have := (HO7.out.lt e).1; omega)).trans (HOLD7.out k hk)); have HX9 := Hid.mk ((HOLD9.out w.heap.size (by omega)).trans HX.out); have hcc := HC1.out.same ((HOLD9.out kb (by omega)).trans (HOLD.out kb hkb)); obtain ⟨b0, b1, b2, b3, b4, b5, b6, b7, b8, b9, hbe, k0, k1', k2, k3, k4, k5⟩ := hcc; simp only [Value.agg.injEq, Array.mk.injEq, List.cons.injEq, Value.int.injEq, Value.bool.injEq, Value.string.injEq, Value.slice.injEq, true_and, and_true] at hbe; obtain ⟨rfl, rfl, rfl, rfl, ⟨rfl, rfl, rfl⟩, rfl, rfl, rfl⟩ := hbe; have hkb9 : kb < W9.heap.size := (by omega); clear x0 x1 x2 x3 x4 x5 x6 hO9 hgr9; obtain ⟨x0, x1, x2, x3, x4, x5, x6⟩ := cells6 HX9.out; have xf := frz HX9.out))
        have hs0 := HS0'.out
        obtain ⟨ys7, kvs7, ho7, -⟩ := HROW7.out.go
        have hgB : ∀ k, ownB (some ⟨g7, 0, none⟩) k = true → w.heap.size + 2 ≤ k ∧ k < W7.heap.size := fun k hk => row_block ho7 hk
        have key : ∀ WN, Kept (fun k => k = w.heap.size) W9 WN → WN.heap[w.heap.size]? = some (.cells #[.int .i64 q0, .int .i64 q1, .bool q2, .string q3, .slice e1 e2 e3, .slice g1 g2 g3] 25 (0, 0)) → ((fun (u8 u9 i : Value) (wr : World) => ∃ (pre rest : List (Value × Tm)) (tk : Tm) (f n : Int) (hd : Bool) (nm : ByteArray) (la ka : Option Addr) (l1 lc k1 kc : Nat) (a : Option Addr) (cap : Nat) (a9 : Option Addr) (cap9 : Nat), i = .int .i64 (pre.length : Int) ∧ u8 = .slice a pre.length cap ∧ u9 = .slice a9 pre.length cap9 ∧ pre ++ rest = xs ∧ PiRow w rest (.agg #[.int .i64 f, .int .i64 n, .bool hd, .string nm, .slice la l1 lc, .slice ka k1 kc]) tk v' t' ∧ wr.heap[w.heap.size]? = some (.cells #[.int .i64 f, .int .i64 n, .bool hd, .string nm, .slice la l1 lc, .slice ka k1 kc] 25 (0, 0)) ∧ RowF wr (w.heap.size + 2) (fun k => decide (w.heap.size ≤ k)) a cap (pre.map fun x => domT x.2) ∧ OB1 (w.heap.size + 2) wr (.slice a9 pre.length cap9) (pre.map fun x => x.2.hid) ∧ Kept (fun k => k = w.heap.size) W0 wr)) (.slice (some ⟨g7, 0, none⟩) (pre.length + 1) c7) (.slice ha9 (pre.length + 1) hc9) (.int .i64 ((pre.length : Int) + 1)) WN := by
          intro WN hKN hXN
          have hsN := hKN.size
          have hL : (pre ++ [x]).length = pre.length + 1 := by simp
          have hr7 : RowF WN (w.heap.size + 2) (fun k => decide (w.heap.size ≤ k)) (some ⟨g7, 0, none⟩) c7 ((pre.map fun x => domT x.2) ++ [d]) := by
            refine HROW7.out.go2 (by omega) (fun k hk => ?_) (fun k h1 h2 h3 => ⟨h2, ?_⟩)
            · have hkB := hgB k hk
              refine (hKN.block k (by omega) (by omega)).trans (HK79.out k hkB.2 (fun e => ?_))
              rw [own_apart ho7 HO7.out e] at hk; cases hk
            · rw [decide_eq_false_iff_not] at h2
              exact (hKN.block k (by omega) (by omega)).trans (HK79.out k h1 (fun e => by have := (HO7.out.lt e).1; omega))
          have ho9 : OB1 (w.heap.size + 2) WN (.slice ha9 (pre.length + 1) hc9) ((pre.map fun x => x.2.hid) ++ [hd]) := by
            have h := HO9.out
            rw [show ((pre.map fun x => x.2.hid) ++ [hd]).length = pre.length + 1 by simp] at h
            exact h.move fun k hk => hKN.block k (h.lt hk).2 (by have := (h.lt hk).1; omega)
          have e1' : (pre ++ [x]).map (fun x => domT x.2) = (pre.map fun x => domT x.2) ++ [d] := by rw [List.map_append]; simp [hx2, domT]
          have e2' : (pre ++ [x]).map (fun x => x.2.hid) = (pre.map fun x => x.2.hid) ++ [hd] := by rw [List.map_append]; simp [hx2, Tm.hid]
          refine ⟨pre ++ [x], rest, t1, q0, q1, q2, q3, e1, g1, e2, e3, g2, g3, some ⟨g7, 0, none⟩, c7, ha9, hc9, ?_, by rw [hL], by rw [hL], by rw [List.append_assoc]; exact HPR.out, HR1.out, hXN, by rw [e1']; exact hr7, by rw [e2', hL]; exact ho9, ⟨hKN.os.trans (HOT9.out.1.trans HK.out.os), hKN.tape.trans (HOT9.out.2.1.trans HK.out.tape), hKN.output.trans (HOT9.out.2.2.trans HK.out.output), by omega, fun k hk hne => (hKN.block k (by omega) hne).trans ((HOLD9.out k (by omega)).trans (HK.out.block k hk hne))⟩⟩
          rw [hL]
          rfl
        refine ⟨key _ (keep6 rfl) (set6 HX9.out), ?_⟩
        simp only [List.length_cons] at hlp
        clear key
        simp only [intOf]
        omega
    · have hrest : rest = [] := by
        rcases HEND.out with he | ⟨he, -⟩
        · exact List.length_eq_zero_iff.1 (by omega)
        · omega
      subst hrest
      have HXS : Hid (xs = pre) := by unfold Hid; have := HPR.out; rw [List.append_nil] at this; exact this.symm
      have HNE : Hid ((xs.length : Int) = N) := by unfold Hid; simp only [List.length_nil, Nat.add_zero] at hlp; rcases HEND.out with h | h <;> omega
      have hve : (.agg #[.int .i64 f, .int .i64 n, .bool hd, .string nm, .slice la l1 lc, .slice ka k1 kc]) = v' ∧ TV w (.agg #[.int .i64 f, .int .i64 n, .bool hd, .string nm, .slice la l1 lc, .slice ka k1 kc]) t' := by
        have h := HRK.out
        generalize (Value.agg #[.int .i64 f, .int .i64 n, .bool hd, .string nm, .slice la l1 lc, .slice ka k1 kc]) = vv at h ⊢
        cases h with | nil hv => exact ⟨rfl, hv⟩
      have HTV := Hid.mk hve.2
      clear hve
      have HCEL : Hid (∀ Wx : World, (∀ k, k = w.heap.size → Wx.heap[k]? = wr.heap[k]?) → (fun w' => w'.cell? ⟨w.heap.size, 0, none⟩ = some (.int .i64 f) ∧ w'.cell? ⟨w.heap.size, 1, none⟩ = some (.int .i64 n) ∧ w'.cell? ⟨w.heap.size, 2, none⟩ = some (.bool hd) ∧ w'.cell? ⟨w.heap.size, 3, none⟩ = some (.string nm) ∧ w'.cell? ⟨w.heap.size, 4, none⟩ = some (.slice la l1 lc) ∧ w'.cell? ⟨w.heap.size, 5, none⟩ = some (.slice ka k1 kc)) Wx) := fun Wx h => by
        obtain ⟨c0, c1, c2, c3, c4, c5, -⟩ := cells6 ((h _ rfl).trans HX.out)
        exact ⟨c0, c1, c2, c3, c4, c5⟩
      have HKZ1 : Hid (Kept (fun k => k = w.heap.size + 1) wr (set6W wr (w.heap.size + 1) (.int .i64 f) (.int .i64 n) (.bool hd) (.string nm) (.slice la l1 lc) (.slice ka k1 kc)).drew) := (keep6 (P := fun k => k = w.heap.size + 1) rfl).drew
      have HKZ2 : Hid (∀ k, k = w.heap.size → (set6W wr (w.heap.size + 1) (.int .i64 f) (.int .i64 n) (.bool hd) (.string nm) (.slice la l1 lc) (.slice ka k1 kc)).drew.heap[k]? = wr.heap[k]?) := fun k hk => HKZ1.out.block k (by omega) (by omega)
      go_wp2_with fail
      refine wp_region_late (S := fun w' => w'.cell? ⟨w.heap.size, 0, none⟩ = some (.int .i64 f) ∧ w'.cell? ⟨w.heap.size, 1, none⟩ = some (.int .i64 n) ∧ w'.cell? ⟨w.heap.size, 2, none⟩ = some (.bool hd) ∧ w'.cell? ⟨w.heap.size, 3, none⟩ = some (.string nm) ∧ w'.cell? ⟨w.heap.size, 4, none⟩ = some (.slice la l1 lc) ∧ w'.cell? ⟨w.heap.size, 5, none⟩ = some (.slice ka k1 kc)) (fun _ => false) mx ?_ (fun hHeld => ?_)
      · (try dsimp only)
        exact HCEL.out _ (fun j _ => rfl)
      refine wpAnyM_take (i := 0) (v := ?_) rfl (by kernel_rfl) (by kernel_rfl) (by kernel_rfl) (by kernel_rfl) (fun _ _ _ h => h) (Or.inl ⟨by rfl, ?_⟩) (by assumption) ?_
      rotate_left
      · (intro w hSw; (try dsimp only at hSw); go_simp; (try with_reducible rfl))
      refine wpAnyM_take (i := 1) (v := ?_) rfl (by kernel_rfl) (by kernel_rfl) (by kernel_rfl) (by kernel_rfl) (fun _ _ _ h => h) (Or.inl ⟨by rfl, ?_⟩) (by assumption) ?_
      rotate_left
      · (intro w hSw; (try dsimp only at hSw); go_simp; (try with_reducible rfl))
      refine wpAnyM_take (i := 2) (v := ?_) rfl (by kernel_rfl) (by kernel_rfl) (by kernel_rfl) (by kernel_rfl) (fun _ _ _ h => h) (Or.inl ⟨by rfl, ?_⟩) (by assumption) ?_
      rotate_left
      · (intro w hSw; (try dsimp only at hSw); go_simp; (try with_reducible rfl))
      refine wpAnyM_one (i := 3) (by kernel_rfl) ?_
      refine ⟨_, rfl, fun K hK => ?_⟩
      go_simp
      refine hK.out _ _ (fun _ => ?_) (fun hHeld => ?_)
      · (try dsimp only)
        exact hHeld
      replace hHeld := hHeld rfl
      clear hK K
      refine wpAnyM_one (i := 4) (by kernel_rfl) ?_
      refine ⟨_, rfl, fun K hK => ?_⟩
      go_simp
      refine hK.out _ _ (fun _ => ?_) (fun hHeld => ?_)
      · (try dsimp only)
        exact hHeld
      replace hHeld := hHeld rfl
      clear hK K
      refine wpAnyM_one (i := 5) (by kernel_rfl) ?_
      refine ⟨_, rfl, fun K hK => ?_⟩
      go_simp
      refine hK.out _ _ (fun _ => ?_) (fun hHeld => ?_)
      · (try dsimp only)
        exact HCEL.out _ HKZ2.out
      replace hHeld := hHeld rfl
      clear hK K
      refine wpAnyM_one (i := 6) (by kernel_rfl) ?_
      refine ⟨_, rfl, fun K hK => ?_⟩
      go_simp
      refine hK.out _ _ (fun _ => ?_) (fun hHeld => ?_)
      · (try dsimp only)
        exact hHeld
      replace hHeld := hHeld rfl
      clear hK K
      refine wpAnyM_done (by kernel_rfl) ?_ _
      clear hHeld
      go_wp2
      have hs0 := HS0'.out
      have hsZ := HKZ1.out.size
      have hbZ : RowKit.Below w.heap.size w (set6W wr (w.heap.size + 1) (.int .i64 f) (.int .i64 n) (.bool hd) (.string nm) (.slice la l1 lc) (.slice ka k1 kc)).drew := (HB0.out.trans (HK.out.below (by omega) (fun k hk => by omega))).trans (HKZ1.out.below (by omega) (fun k hk => by omega))
      refine bodyPost_ret (v := .tuple #[.slice a pre.length cap, .slice a9 pre.length cap9, .agg #[.int .i64 f, .int .i64 n, .bool hd, .string nm, .slice la l1 lc, .slice ka k1 kc], .bool true]) (by simp [results, Try.results10, go_sem, y0, y1, y2, y3, y4, y5]) rfl ⟨hbZ, ?_⟩
      rw [← HRES.out, if_pos HNE.out, HXS.out]
      refine ⟨w.heap.size + 2, fun k => decide (w.heap.size ≤ k), a, cap, .slice a9 pre.length cap9, _, by rw [List.length_map], ?_, ?_, ⟨_, _, _, _, _, _, _, _, _, _, rfl⟩, HTV.out.on hbZ⟩
      · rw [List.map_map]
        obtain ⟨ys, kvs, ho, -⟩ := HROWR.out.go
        refine HROWR.out.go2 hsZ (fun k hk => ?_) (fun k h1 h2 h3 => ⟨h2, ?_⟩)
        · have := row_block ho hk
          exact HKZ1.out.block k this.2 (by omega)
        · rw [decide_eq_false_iff_not] at h2
          exact HKZ1.out.block k h1 (by omega)
      · rw [List.map_map]
        exact HO.out.move fun k hk => by
          have := HO.out.lt hk
          exact HKZ1.out.block k this.2 (by omega)
end Go.Proofs.Ythdcpodheimhaaa
