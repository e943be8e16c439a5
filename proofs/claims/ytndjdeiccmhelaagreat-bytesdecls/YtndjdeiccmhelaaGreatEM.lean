/- Terms of the call's own that may be written over: their rows lie in blocks that none of P is, and nothing in them is frozen. -/
import Derived.Test.YtndjdeiccmhelaaGreatEK
import Derived.Test.YtndjdeiccmhelaaGreatEL
import Derived.Test.YtndjdeiccmhelaaGreatOL
namespace Go.Proofs.YtndjdeiccmhelaaGreat
open Go.RowKit Go.Sort

/-- n levels that may be written over -/
def LvW (w : World) (P : Nat → Bool) (la : Option Addr) (n : Nat) : Prop :=
  n = 0 ∨ ∃ g cur, la = some ⟨g, 0, none⟩ ∧ P g = false ∧ w.heap[g]? = some (.cells cur 105 (0, 0)) ∧ n * 2 ≤ cur.size

/-- a term of at most so great a height that may be written over, its rows too -/
def WK (P : Nat → Bool) : Nat → World → Value → Prop
  | 0, _, _ => False
  | d + 1, w, v => ∃ (v0 v1 : Int) (v2 : Bool) (v3 : ByteArray) (la : Option Addr) (ln lc : Nat) (ka : Option Addr) (kn kc : Nat), v = .agg #[.int .i64 v0, .int .i64 v1, .bool v2, .string v3, .slice la ln lc, .slice ka kn kc] ∧ LvW w P la ln ∧ ln ≤ 9223372036854775807 ∧ kn ≤ 9223372036854775807 ∧
      (kn = 0 ∨ ∃ g cur, ka = some ⟨g, 0, none⟩ ∧ P g = false ∧ w.heap[g]? = some (.cells cur 38 (0, 0)) ∧ kn * 6 ≤ cur.size ∧ ∀ i, i < kn → ∃ kv, CellsAt w g (i * 6) kv ∧ WK P d w kv)

theorem CellsAt.same {w w' : World} {g o : Nat} {v : Value} (h : CellsAt w g o v) (hg : w'.heap[g]? = w.heap[g]?) : CellsAt w' g o v := by
  obtain ⟨v0, v1, v2, v3, l1, l2, l3, k1, k2, k3, hv, c0, c1, c2, c3, c4, c5⟩ := h
  have hc : ∀ o, w'.cell? ⟨g, o, none⟩ = w.cell? ⟨g, o, none⟩ := fun o => World.cell?_of_block hg
  exact ⟨v0, v1, v2, v3, l1, l2, l3, k1, k2, k3, hv, (hc _).trans c0, (hc _).trans c1, (hc _).trans c2, (hc _).trans c3, (hc _).trans c4, (hc _).trans c5⟩

theorem LvW.move {P Q : Nat → Bool} {w w' : World} (hk : ∀ k, k < w.heap.size → P k = false → Q k = false ∧ w'.heap[k]? = w.heap[k]?) {la : Option Addr} {n : Nat} (h : LvW w P la n) : LvW w' Q la n := by
  rcases h with h | ⟨g, cur, h1, h2, h3, h4⟩
  · exact Or.inl h
  · obtain ⟨a, b⟩ := hk g (heap_lt h3) h2
    exact Or.inr ⟨g, cur, h1, a, b.trans h3, h4⟩

theorem WK.move {P Q : Nat → Bool} {w w' : World} (hk : ∀ k, k < w.heap.size → P k = false → Q k = false ∧ w'.heap[k]? = w.heap[k]?) : ∀ (d : Nat) (v : Value), WK P d w v → WK Q d w' v
  | 0, _, h => h.elim
  | d + 1, _, h => by
    obtain ⟨v0, v1, v2, v3, la, ln, lc, ka, kn, kc, hv, hl, hlm, hkm, h⟩ := h
    refine ⟨v0, v1, v2, v3, la, ln, lc, ka, kn, kc, hv, hl.move hk, hlm, hkm, ?_⟩
    rcases h with h | ⟨g, cur, h1, h2, h3, h4, h5⟩
    · exact Or.inl h
    · obtain ⟨a, b⟩ := hk g (heap_lt h3) h2
      refine Or.inr ⟨g, cur, h1, a, b.trans h3, h4, fun i hi => ?_⟩
      obtain ⟨kv, c, e⟩ := h5 i hi
      exact ⟨kv, c.same b, WK.move hk d kv e⟩

theorem WK.up {P : Nat → Bool} {w : World} : ∀ (d e : Nat) (v : Value), d ≤ e → WK P d w v → WK P e w v
  | 0, _, _, _, h => h.elim
  | d + 1, 0, _, h, _ => by omega
  | d + 1, e + 1, _, hde, h => by
    obtain ⟨v0, v1, v2, v3, la, ln, lc, ka, kn, kc, hv, hl, hlm, hkm, h⟩ := h
    refine ⟨v0, v1, v2, v3, la, ln, lc, ka, kn, kc, hv, hl, hlm, hkm, ?_⟩
    rcases h with h | ⟨g, cur, h1, h2, h3, h4, h5⟩
    · exact Or.inl h
    · refine Or.inr ⟨g, cur, h1, h2, h3, h4, fun i hi => ?_⟩
      obtain ⟨kv, c, e'⟩ := h5 i hi
      exact ⟨kv, c, WK.up d e kv (by omega) e'⟩

theorem WK.all {P : Nat → Bool} {w : World} (f : Nat → Value) : ∀ n, (∀ j, j < n → ∃ d, WK P d w (f j)) → ∃ D, ∀ j, j < n → WK P D w (f j)
  | 0, _ => ⟨0, fun j h => by omega⟩
  | n + 1, h => by
    obtain ⟨D, hD⟩ := WK.all f n fun j hj => h j (by omega)
    obtain ⟨d, hd⟩ := h n (by omega)
    refine ⟨max D d, fun j hj => ?_⟩
    by_cases e : j = n
    · subst e; exact hd.up _ _ _ (Nat.le_max_right _ _)
    · exact (hD j (by omega)).up _ _ _ (Nat.le_max_left _ _)

theorem WK.leaf {P : Nat → Bool} {w : World} (d : Nat) (f n : Int) (h : Bool) (nm : ByteArray) : WK P (d + 1) w (.agg #[.int .i64 f, .int .i64 n, .bool h, .string nm, .slice none 0 0, .slice none 0 0]) :=
  ⟨f, n, h, nm, none, 0, 0, none, 0, 0, rfl, Or.inl rfl, by omega, by omega, Or.inl rfl⟩

/-- the value v is t, does not look into the blocks of P, and may be written over -/
def TFW (w : World) (P : Nat → Bool) (v : Value) (t : Tm) : Prop := TF w P v t ∧ ∃ d, WK P d w v

theorem TFW.move {w w' : World} {P Q : Nat → Bool} {v : Value} {t : Tm} (h : TFW w P v t) (hs : w.heap.size ≤ w'.heap.size) (hk : ∀ k, k < w.heap.size → P k = false → Q k = false ∧ w'.heap[k]? = w.heap[k]?) : TFW w' Q v t := by
  obtain ⟨h1, d, h2⟩ := h
  exact ⟨h1.move hs hk, d, WK.move hk d v h2⟩

/-- a row of such terms of the call's own, which do not look into it, nor into the blocks of P -/
structure RowFW (w : World) (B : Nat) (P : Nat → Bool) (a : Option Addr) (cap : Nat) (ts : List Tm) : Prop where
  go : ∃ (xs : List Value) (kvs : Nat → Value), w.ownsRow B 38 6 (.slice a ts.length cap) ts.length xs ∧ ∀ j t, ts[j]? = some t → SixAt xs (j * 6) (kvs j) ∧ TFW w (fun k => P k || ownB a k) (kvs j) t

theorem RowFW.nil (w : World) (B : Nat) (P : Nat → Bool) : RowFW w B P none 0 [] := ⟨[], fun _ => .bool false, World.ownsRow_nil _ _ _ _, fun j t h => by simp at h⟩

theorem RowFW.row {w : World} {B cap : Nat} {P : Nat → Bool} {a : Option Addr} {ts : List Tm} (h : RowFW w B P a cap ts) : RowF w B P a cap ts := by
  obtain ⟨xs, kvs, hown, hkv⟩ := h.go
  exact ⟨xs, kvs, hown, fun j t hj => ⟨(hkv j t hj).1, (hkv j t hj).2.1⟩⟩

theorem RowFW.move {w w' : World} {B cap : Nat} {P : Nat → Bool} {a : Option Addr} {ts : List Tm} (h : RowFW w B P a cap ts) (hB : ∀ k, B ≤ k → P k = false) (hs : w.heap.size ≤ w'.heap.size) (hk : ∀ k, k < w.heap.size → P k = false → w'.heap[k]? = w.heap[k]?) : RowFW w' B P a cap ts := by
  obtain ⟨xs, kvs, hown, hkv⟩ := h.go
  refine ⟨xs, kvs, owns_block hown fun g hg => ?_, fun j t hj => ⟨(hkv j t hj).1, (hkv j t hj).2.move hs fun k h1 h2 => ⟨h2, hk k h1 ?_⟩⟩⟩
  · subst hg
    obtain ⟨h1, h2⟩ := World.ownsRow.lt hown g rfl
    exact hk g h2 (hB g h1)
  · rw [Bool.or_eq_false_iff] at h2; exact h2.1

/-- one more -/
theorem RowFW.snoc {w w' : World} {B cap cap' g : Nat} {P : Nat → Bool} {a : Option Addr} {ts : List Tm} {xs : List Value} {kvs : Nat → Value} {t : Tm} {v0 v1 : Int} {v2 : Bool} {v3 : ByteArray} {l1 : Option Addr} {l2 l3 : Nat} {k1 : Option Addr} {k2 k3 : Nat} (hkv : ∀ j t, ts[j]? = some t → SixAt xs (j * 6) (kvs j) ∧ TFW w (fun k => P k || ownB a k) (kvs j) t) (hl : xs.length = ts.length * 6)
    (hown : w'.ownsRow B 38 6 (.slice (some ⟨g, 0, none⟩) (ts.length + 1) cap') (ts.length + 1) (xs ++ [.int .i64 v0, .int .i64 v1, .bool v2, .string v3, .slice l1 l2 l3, .slice k1 k2 k3])) (hgr : w.grownBy w' (Value.slice a ts.length cap).ownBlock) (hat : (Value.slice a ts.length cap).ownBlock = some g ∨ g = w.heap.size)
    (hnew : TFW w (fun k => P k || ownB a k) (.agg #[.int .i64 v0, .int .i64 v1, .bool v2, .string v3, .slice l1 l2 l3, .slice k1 k2 k3]) t) : RowFW w' B P (some ⟨g, 0, none⟩) cap' (ts ++ [t]) := by
  have hmv : ∀ k, k < w.heap.size → (P k || ownB a k) = false → (P k || ownB (some ⟨g, 0, none⟩) k) = false ∧ w'.heap[k]? = w.heap[k]? := by
    intro k hk hp
    rw [Bool.or_eq_false_iff] at hp
    refine ⟨?_, hgr.block k hk (ownB_none hp.2)⟩
    rw [Bool.or_eq_false_iff]
    refine ⟨hp.1, ?_⟩
    simp only [ownB, beq_eq_false_iff_ne]
    rcases hat with hat | hat
    · intro e
      exact ownB_none hp.2 (by rw [← e, hat])
    · omega
  refine ⟨_, fun j => if j < ts.length then kvs j else (.agg #[.int .i64 v0, .int .i64 v1, .bool v2, .string v3, .slice l1 l2 l3, .slice k1 k2 k3]), by rw [List.length_append]; exact hown, fun j t' hj => ?_⟩
  by_cases h : j < ts.length
  · rw [List.getElem?_append_left h] at hj
    simp only [h, if_true]
    exact ⟨(hkv j t' hj).1.left (by rw [hl]; omega), (hkv j t' hj).2.move hgr.size hmv⟩
  · obtain rfl : j = ts.length := by
      have := (List.getElem?_eq_some_iff.1 hj).1; simp at this; omega
    simp only [List.getElem?_concat_length, Option.some.injEq] at hj
    subst hj
    simp only [Nat.lt_irrefl, if_false]
    refine ⟨⟨v0, v1, v2, v3, l1, l2, l3, k1, k2, k3, rfl, ?_, ?_, ?_, ?_, ?_, ?_⟩, hnew.move hgr.size hmv⟩
    all_goals rw [List.getElem?_append_right (by omega), hl]
    · rw [Nat.sub_self]; rfl
    · rw [Nat.add_sub_cancel_left]; rfl
    · rw [Nat.add_sub_cancel_left]; rfl
    · rw [Nat.add_sub_cancel_left]; rfl
    · rw [Nat.add_sub_cancel_left]; rfl
    · rw [Nat.add_sub_cancel_left]; rfl

/-- the row as the kids of a term -/
theorem RowFW.done {w : World} {B cap : Nat} {P : Nat → Bool} {a : Option Addr} {ts : List Tm} (h : RowFW w B P a cap ts) (hB : ∀ k, B ≤ k → P k = false) {f n : Int} {hd : Bool} {nm : ByteArray} : TFW w P (.agg #[.int .i64 f, .int .i64 n, .bool hd, .string nm, .slice none 0 0, .slice a ts.length cap]) (.mk f n hd nm [] ts) := by
  refine ⟨h.row.done hB (la := none) (lc := 0) (ls := []) (Or.inl rfl) (fun _ => rfl) (Nat.le_refl _) (by omega), ?_⟩
  obtain ⟨xs, kvs, hown, hkv⟩ := h.go
  have hx : ∀ j, j < ts.length → ∃ d, WK P d w (kvs j) := fun j hj => by
    obtain ⟨-, -, d, hd⟩ := hkv j ts[j] (List.getElem?_eq_getElem hj)
    exact ⟨d, hd.move (fun k _ hp => ⟨by rw [Bool.or_eq_false_iff] at hp; exact hp.1, rfl⟩) _ _⟩
  obtain ⟨D, hD⟩ := WK.all kvs ts.length hx
  refine ⟨D + 1, f, n, hd, nm, none, 0, 0, a, ts.length, cap, rfl, Or.inl rfl, by omega, ?_, ?_⟩
  · obtain ⟨_, _, e, hc, hm, -⟩ := ownsG_shape hown
    simp only [Value.slice.injEq, true_and] at e
    obtain ⟨rfl, rfl⟩ := e
    omega
  · rcases hown.2 with ⟨-, hn⟩ | ⟨g, cap', cur, hv, hg, hh, hc, hm, hs, ht⟩
    · exact Or.inl hn
    · simp only [Value.slice.injEq, true_and] at hv
      obtain ⟨rfl, rfl⟩ := hv
      exact Or.inr ⟨g, cur, rfl, hB g hg, hh, by rw [hs]; exact Nat.mul_le_mul_right _ hc, fun i hi => ⟨kvs i, (hkv i ts[i] (List.getElem?_eq_getElem hi)).1.cells hown (by omega), hD i hi⟩⟩

theorem RowL.lvw {w : World} {B cap : Nat} {P : Nat → Bool} {a : Option Addr} {ls : List LvT} (h : RowL w B P a cap ls) (hB : ∀ k, B ≤ k → P k = false) : LvW w P a ls.length ∧ ls.length ≤ 9223372036854775807 := by
  obtain ⟨xs, hown, -⟩ := h.go
  refine ⟨?_, ?_⟩
  · rcases hown.2 with ⟨-, hn⟩ | ⟨g, cap', cur, hv, hg, hh, hc, hm, hs, ht⟩
    · exact Or.inl hn
    · simp only [Value.slice.injEq, true_and] at hv
      obtain ⟨rfl, rfl⟩ := hv
      exact Or.inr ⟨g, cur, rfl, hB g hg, hh, by rw [hs]; exact Nat.mul_le_mul_right _ hc⟩
  · obtain ⟨_, _, e, hc, hm, -⟩ := ownsG_shape hown
    simp only [Value.slice.injEq, true_and] at e
    obtain ⟨rfl, rfl⟩ := e
    omega

/-- a term whose levels are such a row -/
theorem RowL.tfw {w : World} {B cap : Nat} {P : Nat → Bool} {a : Option Addr} {ls : List LvT} (h : RowL w B P a cap ls) (hB : ∀ k, B ≤ k → P k = false) {f n : Int} {hd : Bool} {nm : ByteArray} : TFW w P (.agg #[.int .i64 f, .int .i64 n, .bool hd, .string nm, .slice a ls.length cap, .slice none 0 0]) (.mk f n hd nm ls []) := by
  obtain ⟨hln, hn, hc, hm⟩ := h.ln hB
  obtain ⟨h1, h2⟩ := h.lvw hB
  exact ⟨TV.mk (kb := 0) (ko := 0) (ks := []) hln hn hc hm (fun _ => rfl) (Nat.le_refl _) (by omega) (fun h => absurd rfl h) (fun i t hi => by simp at hi), 1, f, n, hd, nm, a, ls.length, cap, none, 0, 0, rfl, h1, h2, by omega, Or.inl rfl⟩
end Go.Proofs.YtndjdeiccmhelaaGreat

/- The contract of several at terms; what is known of a reader's cells. -/
namespace Go.Proofs.YtndjdeiccmhelaaGreat
open Go.RowKit Go.Sort Go.Lib

theorem RD.deepAt {w : World} {N rb : Nat} {bs : List UInt8} {deep : Int} (h : RD w N rb bs deep) : w.cell? ⟨rb, 1, none⟩ = some (.int .i64 deep) ∧ w.frozen? ⟨rb, 1, none⟩ = false := by
  obtain ⟨-, -, a, cap, hh, -⟩ := h
  exact ⟨(cells2 hh).2.1, (frz2 hh).2⟩

theorem RD.setDeep {w : World} {N rb : Nat} {bs : List UInt8} {deep : Int} (h : RD w N rb bs deep) (d : Int) : RD (w.setCell ⟨rb, 1, none⟩ (.int .i64 d)) N rb bs d := by
  obtain ⟨h1, h2, a, cap, hh, hB, hc, hm, hne, hn⟩ := h
  have hk : Kept (fun k => k = rb) w (w.setCell ⟨rb, 1, none⟩ (.int .i64 d)) := (Kept.refl (fun k => k = rb) w).setCell (p := ⟨rb, 1, none⟩) rfl _
  exact ⟨h1, Nat.le_trans h2 hk.size, a, cap, set_at1 hh, hB.move hk.size fun b off e hb => hk.block b hb (hne _ e).1, hc, hm, hne, hn⟩

/-- what the reader makes of the bytes of a term -/
def RdT (N rb : Nat) (t : Tm) : Prop := ∀ (rest : List UInt8) (deep : Int) (w : World), RD w N rb (encT t ++ rest) deep → 0 ≤ deep → deep + heightT t ≤ 500 → Calls Tryz.prog 104 #[.pointer (some ⟨rb, 0, none⟩)] w fun e w' => ∃ v', e = .returned v' ∧ ShapeT v' ∧ TFW w' (oldB w) v' (cleanT t) ∧ RD w' N rb rest deep ∧ Kept (fun k => k = rb) w w'

set_option maxRecDepth 100000 in
set_option maxHeartbeats 4000000 in
theorem severalT_any (N rb : Nat) (ks : List Tm) (rest : List UInt8) (deep : Int) (w : World) (hR : RD w N rb (ks.flatMap encT ++ rest) deep) (hn : ks.length ≤ 1000000) (hd0 : 0 ≤ deep) (hdh : ∀ k ∈ ks, deep + heightT k ≤ 500) (hr : ∀ k ∈ ks, RdT N rb k) : Calls Tryz.prog 123 #[.int .i64 (ks.length : Int), .func (.func 104) #[.pointer (some ⟨rb, 0, none⟩)] #[]] w fun e w' => ∃ a cap, e = .returned (.slice a ks.length cap) ∧ RowFW w' w.heap.size (oldB w) a cap (ks.map cleanT) ∧ RD w' N rb rest deep ∧ Kept (fun k => k = rb) w w' := by
  have hlR := hR.2.1
  have hrb := hR.1
  have HR := Hid.mk hR
  have HP := Hid.mk hr
  have HDH := Hid.mk hdh
  clear hR hr hdh
  go_enter Tryz.func123, Tryz.ntmps123
  go_wp2
  go_loopw [5, 7] (fun u i wr => ∃ (k : Nat) (a : Option Addr) (cap : Nat), k ≤ ks.length ∧ i = .int .i64 k ∧ u = .slice a k cap ∧ RowFW wr w.heap.size (oldB w) a cap ((ks.take k).map cleanT) ∧ RD wr N rb ((ks.drop k).flatMap encT ++ rest) deep ∧ Kept (fun k => k = rb) w wr) (fun _ i _ => ks.length - (intOf i).toNat)
  case atStart => exact ⟨0, none, 0, Nat.zero_le _, rfl, rfl, by simpa using RowFW.nil _ _ _, by simpa using HR.out, Kept.refl _ _⟩
  case round =>
    obtain ⟨k, a, cap, hk, rfl, rfl, hOr, hRr, hkr⟩ := hrel
    have HROW := Hid.mk hOr
    have HRR := Hid.mk hRr
    have HKR := Hid.mk hkr
    have hsz := hkr.size
    clear hOr hRr hkr
    by_cases hlt : k < ks.length
    · have HTK : Hid ((ks.take (k + 1)).map cleanT = (ks.take k).map cleanT ++ [cleanT ks[k]]) := by
        unfold Hid; rw [List.take_succ_eq_append_getElem hlt, List.map_append]; rfl
      have hdr : ks.drop k = ks[k] :: ks.drop (k + 1) := List.drop_eq_getElem_cons hlt
      have hRk := HRR.out
      rw [hdr, List.flatMap_cons, List.append_assoc] at hRk
      have hmem : ks[k] ∈ ks := List.getElem_mem hlt
      have HC := HP.out _ hmem _ deep wr hRk hd0 (HDH.out _ hmem)
      clear hdr hRk hmem
      generalize ks[k] = p at *
      have htl : ((ks.take k).map cleanT).length = k := by rw [List.length_map, List.length_take]; omega
      generalize (ks.take k).map cleanT = TS at *
      go_wp2_with fail
      refine HC.mono ?_
      rintro e w1 ⟨v1, rfl, ⟨u0, u1, u2, u3, r1, r2, r3, s1', s2', s3', rfl⟩, htf1, hR1, hk1⟩
      have HR1 := Hid.mk hR1
      have HK1 := Hid.mk (HKR.out.trans hk1)
      have hsz1 := hk1.size
      have HROW1 : Hid (RowFW (w1.alloc (.cells #[.int .i64 u0, .int .i64 u1, .bool u2, .string u3, .slice r1 r2 r3, .slice s1' s2' s3'] 38)) w.heap.size (oldB w) a cap TS) := (HROW.out.move (fun k hk => oldB_new hk) hk1.size fun k h1 h2 => hk1.block k h1 (by have := oldB_no h2; omega)).move (fun k hk => oldB_new hk) (by simp) fun k h1 _ => Below.heap_alloc _ _ _ h1
      obtain ⟨xs, kvs, hown, hkv⟩ := HROW1.out.go
      have hRB : ∀ j, ownB a j = true → w.heap.size ≤ j ∧ j < wr.heap.size := fun j hj => by
        obtain ⟨ys, kvs0, hown0, -⟩ := HROW.out.go
        exact row_block hown0 hj
      have HNEW : Hid (TFW (w1.alloc (.cells #[.int .i64 u0, .int .i64 u1, .bool u2, .string u3, .slice r1 r2 r3, .slice s1' s2' s3'] 38)) (fun k => oldB w k || ownB a k) (.agg #[.int .i64 u0, .int .i64 u1, .bool u2, .string u3, .slice r1 r2 r3, .slice s1' s2' s3']) (cleanT p)) := htf1.move (by simp) fun j h1 h2 => ⟨by
        have := oldB_no h2
        rw [oldB_new (by omega), Bool.false_or]
        cases ho : ownB a j
        · rfl
        · have := (hRB j ho).2; omega, Below.heap_alloc _ _ _ h1⟩
      rw [htl] at hown
      have HOWN := Hid.mk hown
      have HKV := Hid.mk hkv
      have HXL : Hid (xs.length = TS.length * 6) := by unfold Hid; rw [htl, hown.1]
      have HNB := Hid.mk (World.news_of_block (cs := #[.int .i64 u0, .int .i64 u1, .bool u2, .string u3, .slice r1 r2 r3, .slice s1' s2' s3']) (t := 38) (fr := (0, 0)) (alloc_new w1 (.cells #[.int .i64 u0, .int .i64 u1, .bool u2, .string u3, .slice r1 r2 r3, .slice s1' s2' s3'] 38)))
      have hB1 : w.heap.size ≤ (w1.alloc (.cells #[.int .i64 u0, .int .i64 u1, .bool u2, .string u3, .slice r1 r2 r3, .slice s1' s2' s3'] 38)).heap.size := by simp; omega
      clear hR1 hk1 HC htf1 hown hkv
      go_wp2_with (at_builtin; refine wpList_appF rfl _ _ rfl w.heap.size (.slice a k cap) k xs [.int .i64 u0, .int .i64 u1, .bool u2, .string u3, .slice r1 r2 r3, .slice s1' s2' s3'] w1.heap.size 1 rfl rfl HOWN.out rfl HNB.out (by simp [Value.oneCell']) (by omega) hB1 ?_; intro g7 c7 W7 hown7 hgr7 hat7; have HOWN7 := Hid.mk hown7; have HGR7 := Hid.mk hgr7; have HAT7 := Hid.mk hat7; clear hown7 hgr7 hat7)
      have hag : ∀ j, j < w.heap.size → W7.heap[j]? = w1.heap[j]? := fun j hj => (HGR7.out.block j (by simp; omega) (fun e => by have := (World.ownsRow.lt HOWN.out j e.symm).1; omega)).trans (Below.heap_alloc _ _ _ (by omega))
      have hs7 : w1.heap.size ≤ W7.heap.size := by have := HGR7.out.size; simp at this; omega
      refine ⟨⟨k + 1, some ⟨g7, 0, none⟩, c7, hlt, by go_num, rfl, ?_, HR1.out.move hs7 (fun j hj => hag j (by omega)), ⟨HGR7.out.os.trans HK1.out.os, HGR7.out.tape.trans HK1.out.tape, HGR7.out.output.trans HK1.out.output, Nat.le_trans HK1.out.size hs7, fun j hj hp => (hag j hj).trans (HK1.out.block j hj hp)⟩⟩, by simp [intOf]; omega⟩
      rw [HTK.out]
      exact RowFW.snoc (cap := cap) HKV.out HXL.out (by rw [htl]; exact HOWN7.out) (by rw [htl]; exact HGR7.out) (by rw [htl]; exact HAT7.out) HNEW.out
    · obtain rfl : k = ks.length := by omega
      go_wp2
      go_ret
      refine ⟨_, _, rfl, by have := HROW.out; rwa [List.take_length] at this, by have := HRR.out; rwa [List.drop_length, List.flatMap_nil, List.nil_append] at this, HKR.out⟩
end Go.Proofs.YtndjdeiccmhelaaGreat
