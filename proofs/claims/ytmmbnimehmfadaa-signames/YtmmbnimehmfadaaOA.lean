/- Terms in memory of their own. -/
import Derived.Test.YtmmbnimehmfadaaWH
namespace Go.Proofs.Ytmmbnimehmfadaa
open Go.RowKit Go.Sort

/-- the pairs xs lie at address a, in a block from B on and ahead of E -/
def SO (w : World) (B E : Nat) (a : Option Addr) (xs : List (Int × Int)) : Prop :=
  xs = [] ∨ ∃ b, a = some ⟨b, 0, none⟩ ∧ B ≤ b ∧ b < E ∧ b < w.heap.size ∧ ∀ i, i < xs.length → w.cell? ⟨b, i * 2, none⟩ = some (.int .i64 (xs[i]?.getD (0, 0)).1) ∧ w.cell? ⟨b, i * 2 + 1, none⟩ = some (.int .i64 (xs[i]?.getD (0, 0)).2)

theorem SO.sl {w : World} {B E : Nat} {a : Option Addr} {xs : List (Int × Int)} (h : SO w B E a xs) : SL w a xs := by
  rcases h with h | ⟨b, ha, -, -, hlt, hc⟩
  · exact Or.inl h
  · exact Or.inr ⟨b, 0, ha, hlt, fun i hi => by have := hc i hi; simpa using this⟩

/-- two worlds that agree on the blocks from B on and ahead of E -/
def Agree (B E : Nat) (w w' : World) : Prop := ∀ k, B ≤ k → k < E → w'.heap[k]? = w.heap[k]?

theorem Agree.mono {B E B' E' : Nat} {w w' : World} (h : Agree B E w w') (hB : B ≤ B') (hE : E' ≤ E) : Agree B' E' w w' := fun k h1 h2 => h k (by omega) (by omega)

theorem Agree.cell {B E : Nat} {w w' : World} (h : Agree B E w w') {p : Addr} (h1 : B ≤ p.block) (h2 : p.block < E) : w'.cell? p = w.cell? p := World.cell?_of_block (w := w) (h p.block h1 h2)

theorem heap_lt {w : World} {b : Nat} {o : Obj} (h : w.heap[b]? = some o) : b < w.heap.size := (Array.getElem?_eq_some_iff.1 h).1

theorem lt_of_agree {w w' : World} {b : Nat} (h : w'.heap[b]? = w.heap[b]?) (hb : b < w.heap.size) : b < w'.heap.size := by
  rw [Array.getElem?_eq_getElem hb] at h
  exact heap_lt h

theorem SO.on {w w' : World} {B E : Nat} {a : Option Addr} {xs : List (Int × Int)} (h : SO w B E a xs) (hag : Agree B E w w') : SO w' B E a xs := by
  rcases h with h | ⟨b, ha, h1, h2, hlt, hc⟩
  · exact Or.inl h
  · exact Or.inr ⟨b, ha, h1, h2, lt_of_agree (hag b h1 h2) hlt, fun i hi => ⟨(hag.cell (p := ⟨b, i * 2, none⟩) h1 h2).trans (hc i hi).1, (hag.cell (p := ⟨b, i * 2 + 1, none⟩) h1 h2).trans (hc i hi).2⟩⟩

theorem SO.mono {w : World} {B E B' E' : Nat} {a : Option Addr} {xs : List (Int × Int)} (h : SO w B E a xs) (hB : B' ≤ B) (hE : E ≤ E') : SO w B' E' a xs := by
  rcases h with h | ⟨b, ha, h1, h2, r⟩
  · exact Or.inl h
  · exact Or.inr ⟨b, ha, by omega, by omega, r⟩

/-- the slice value v holds the levels ls, all of it in blocks from B on and ahead of E -/
def LO (w : World) (B E : Nat) (v : Value) (ls : List LvT) : Prop :=
  (ls = [] ∧ v = .slice none 0 0) ∨ ∃ g cap cur, v = .slice (some ⟨g, 0, none⟩) ls.length cap ∧ B ≤ g ∧ g < E ∧ w.heap[g]? = some (.cells cur 47 (0, 0)) ∧ ls.length ≤ cap ∧ cap ≤ 9223372036854775807 ∧ cur.size = cap * 2 ∧
    ∀ i n xs, ls[i]? = some (n, xs) → w.cell? ⟨g, i * 2, none⟩ = some (.int .i64 n) ∧ ∃ a' cap', w.cell? ⟨g, i * 2 + 1, none⟩ = some (.slice a' xs.length cap') ∧ (a' = none → cap' = 0) ∧ SO w B E a' xs

theorem LO.on {w w' : World} {B E : Nat} {v : Value} {ls : List LvT} (h : LO w B E v ls) (hag : Agree B E w w') : LO w' B E v ls := by
  rcases h with h | ⟨g, cap, cur, hv, h1, h2, hh, hc, hm, hs, hx⟩
  · exact Or.inl h
  · refine Or.inr ⟨g, cap, cur, hv, h1, h2, (hag g h1 h2).trans hh, hc, hm, hs, fun i n xs hi => ?_⟩
    obtain ⟨c0, a', cap', c1, hn, hS⟩ := hx i n xs hi
    exact ⟨(hag.cell (p := ⟨g, i * 2, none⟩) h1 h2).trans c0, a', cap', (hag.cell (p := ⟨g, i * 2 + 1, none⟩) h1 h2).trans c1, hn, hS.on hag⟩

theorem LO.mono {w : World} {B E B' E' : Nat} {v : Value} {ls : List LvT} (h : LO w B E v ls) (hB : B' ≤ B) (hE : E ≤ E') : LO w B' E' v ls := by
  rcases h with h | ⟨g, cap, cur, hv, h1, h2, hh, hc, hm, hs, hx⟩
  · exact Or.inl h
  · refine Or.inr ⟨g, cap, cur, hv, by omega, by omega, hh, hc, hm, hs, fun i n xs hi => ?_⟩
    obtain ⟨c0, a', cap', c1, hn, hS⟩ := hx i n xs hi
    exact ⟨c0, a', cap', c1, hn, hS.mono hB hE⟩

/-- what a reader knows of such levels -/
theorem LO.ln {w : World} {B E : Nat} {v : Value} {ls : List LvT} (h : LO w B E v ls) : ∃ la lc, v = .slice la ls.length lc ∧ LN w la ls ∧ (la = none → lc = 0) ∧ ls.length ≤ lc ∧ lc ≤ 9223372036854775807 := by
  rcases h with ⟨h, hv⟩ | ⟨g, cap, cur, hv, h1, h2, hh, hc, hm, hs, hx⟩
  · subst h; exact ⟨none, 0, hv, Or.inl rfl, fun _ => rfl, Nat.le_refl _, by omega⟩
  · refine ⟨_, cap, hv, Or.inr ⟨g, 0, rfl, heap_lt hh, fun i n xs hi => ?_⟩, fun e => (by cases e), hc, hm⟩
    obtain ⟨c0, a', cap', c1, hn, hS⟩ := hx i n xs hi
    exact ⟨by simpa using c0, a', cap', by simpa using c1, hS.sl, hn⟩

/-- the six cells from o on in block g are the value v -/
def CellsAt (w : World) (g o : Nat) (v : Value) : Prop :=
  ∃ (v0 v1 : Int) (v2 : Bool) (v3 : ByteArray) (l1 : Option Addr) (l2 l3 : Nat) (k1 : Option Addr) (k2 k3 : Nat), v = .agg #[.int .i64 v0, .int .i64 v1, .bool v2, .string v3, .slice l1 l2 l3, .slice k1 k2 k3] ∧ w.cell? ⟨g, o, none⟩ = some (.int .i64 v0) ∧ w.cell? ⟨g, o + 1, none⟩ = some (.int .i64 v1) ∧ w.cell? ⟨g, o + 2, none⟩ = some (.bool v2) ∧ w.cell? ⟨g, o + 3, none⟩ = some (.string v3) ∧ w.cell? ⟨g, o + 4, none⟩ = some (.slice l1 l2 l3) ∧ w.cell? ⟨g, o + 5, none⟩ = some (.slice k1 k2 k3)

/-- block g is a row of kc terms -/
def RowAt (w : World) (g kc : Nat) : Prop := ∃ cur, w.heap[g]? = some (.cells cur 26 (0, 0)) ∧ cur.size = kc * 6

/-- The value v holds t; all its memory lies in blocks from B on and ahead of E, that of each kid behind that of the kids ahead of it. -/
inductive TO (w : World) : Nat → Nat → Value → Tm → Prop where
  | leaf {B E m : Nat} {f n : Int} {h : Bool} {nm : ByteArray} {ls : List LvT} {lv : Value} (hl : LO w B m lv ls) (hBm : B ≤ m) (hmE : m ≤ E) : TO w B E (.agg #[.int .i64 f, .int .i64 n, .bool h, .string nm, lv, .slice none 0 0]) (.mk f n h nm ls [])
  | row {B E m g kc : Nat} {f n : Int} {h : Bool} {nm : ByteArray} {ls : List LvT} {ks : List Tm} {lv : Value} {bd : Nat → Nat} {kvs : Nat → Value} (hl : LO w B m lv ls) (hBm : B ≤ m) (hmg : m ≤ g) (hgE : g < bd 0) (hbd : ∀ i, bd i ≤ bd (i + 1)) (hE : bd ks.length ≤ E) (hrow : RowAt w g kc) (hkc : ks.length ≤ kc) (hkm : kc ≤ 9223372036854775807)
      (cells : ∀ i, i < ks.length → CellsAt w g (i * 6) (kvs i)) (kids : ∀ i t, ks[i]? = some t → TO w (bd i) (bd (i + 1)) (kvs i) t) : TO w B E (.agg #[.int .i64 f, .int .i64 n, .bool h, .string nm, lv, .slice (some ⟨g, 0, none⟩) ks.length kc]) (.mk f n h nm ls ks)

theorem bd_mono {bd : Nat → Nat} (h : ∀ i, bd i ≤ bd (i + 1)) {i j : Nat} (hij : i ≤ j) : bd i ≤ bd j := by
  induction hij with
  | refl => exact Nat.le_refl _
  | step _ ih => exact Nat.le_trans ih (h _)

theorem RowAt.on {w w' : World} {g kc B E : Nat} (h : RowAt w g kc) (hag : Agree B E w w') (h1 : B ≤ g) (h2 : g < E) : RowAt w' g kc := by
  obtain ⟨cur, hh, hs⟩ := h
  exact ⟨cur, (hag g h1 h2).trans hh, hs⟩

theorem CellsAt.on {w w' : World} {g o B E : Nat} {v : Value} (h : CellsAt w g o v) (hag : Agree B E w w') (h1 : B ≤ g) (h2 : g < E) : CellsAt w' g o v := by
  obtain ⟨v0, v1, v2, v3, l1, l2, l3, k1, k2, k3, hv, c0, c1, c2, c3, c4, c5⟩ := h
  exact ⟨v0, v1, v2, v3, l1, l2, l3, k1, k2, k3, hv, (hag.cell (p := ⟨g, o, none⟩) h1 h2).trans c0, (hag.cell (p := ⟨g, o + 1, none⟩) h1 h2).trans c1, (hag.cell (p := ⟨g, o + 2, none⟩) h1 h2).trans c2, (hag.cell (p := ⟨g, o + 3, none⟩) h1 h2).trans c3, (hag.cell (p := ⟨g, o + 4, none⟩) h1 h2).trans c4, (hag.cell (p := ⟨g, o + 5, none⟩) h1 h2).trans c5⟩

theorem TO.on {w w' : World} {B E : Nat} {v : Value} {t : Tm} (h : TO w B E v t) : Agree B E w w' → TO w' B E v t := by
  induction h with
  | leaf hl hBm hmE => exact fun hag => TO.leaf (hl.on (hag.mono (Nat.le_refl _) hmE)) hBm hmE
  | @row B E m g kc f n h nm ls ks lv bd kvs hl hBm hmg hgE hbd hE hrow hkc hkm cells kids ih =>
    intro hag
    have h0 : bd 0 ≤ bd ks.length := bd_mono hbd (Nat.zero_le _)
    refine TO.row (hl.on (hag.mono (Nat.le_refl _) (by omega))) hBm hmg hgE hbd hE (hrow.on hag (by omega) (by omega)) hkc hkm (fun i hi => (cells i hi).on hag (by omega) (by omega)) (fun i t hi => ih i t hi (hag.mono ?_ ?_))
    · have := bd_mono hbd (Nat.zero_le i); omega
    · have : i < ks.length := (List.getElem?_eq_some_iff.1 hi).1
      have := bd_mono hbd (show i + 1 ≤ ks.length from this)
      omega

theorem TO.mono {w : World} {B E B' E' : Nat} {v : Value} {t : Tm} (h : TO w B E v t) (hB : B' ≤ B) (hE : E ≤ E') : TO w B' E' v t := by
  cases h with
  | leaf hl hBm hmE => exact TO.leaf (hl.mono hB (Nat.le_refl _)) (by omega) (by omega)
  | row hl hBm hmg hgE hbd hE' hrow hkc hkm cells kids => exact TO.row (hl.mono hB (Nat.le_refl _)) (by omega) hmg hgE hbd (by omega) hrow hkc hkm cells kids

theorem TO.le {w : World} {B E : Nat} {v : Value} {t : Tm} (h : TO w B E v t) : B ≤ E := by
  cases h with
  | leaf hl hBm hmE => omega
  | @row _ _ m g kc f n h nm ls ks lv bd kvs hl hBm hmg hgE hbd hE hrow hkc hkm cells kids => have := bd_mono hbd (Nat.zero_le ks.length); omega

theorem CellsAt.tc {w : World} {g o : Nat} {v : Value} {t : Tm} (h : CellsAt w g o v) (hv : TV w v t) : TC w g o t := by
  obtain ⟨v0, v1, v2, v3, l1, l2, l3, k1, k2, k3, rfl, c0, c1, c2, c3, c4, c5⟩ := h
  cases hv with
  | mk hl hln hlc hlm hkn hkc hkm hk kids => exact TC.mk c0 c1 c2 c3 c4 c5 hl hln hlc hlm hkn hkc hkm hk kids

theorem TO.tv {w : World} {B E : Nat} {v : Value} {t : Tm} (h : TO w B E v t) : TV w v t := by
  induction h with
  | leaf hl hBm hmE =>
    obtain ⟨la, lc, rfl, h1, h2, h3, h4⟩ := hl.ln
    exact TV.mk (kb := 0) (ko := 0) h1 h2 h3 h4 (fun _ => rfl) (Nat.le_refl _) (by omega) (fun h => absurd rfl h) (fun i t hi => by simp at hi)
  | @row B E m g kc f n h nm ls ks lv bd kvs hl hBm hmg hgE hbd hE hrow hkc hkm cells kids ih =>
    obtain ⟨la, lc, rfl, h1, h2, h3, h4⟩ := hl.ln
    obtain ⟨cur, hh, -⟩ := hrow
    refine TV.mk (kb := g) (ko := 0) h1 h2 h3 h4 (fun e => (by cases e)) hkc hkm (fun _ => ⟨rfl, heap_lt hh⟩) (fun i t hi => ?_)
    have hi' : i < ks.length := (List.getElem?_eq_some_iff.1 hi).1
    have := (cells i hi').tc (ih i t hi)
    rwa [Nat.zero_add]

/-- a term under way: kids may yet be appended to the row of its kids, in block g; block N is none of its own -/
def RO (w : World) (B N E g kc : Nat) (v : Value) (t : Tm) : Prop :=
  ∃ (f n : Int) (h : Bool) (nm : ByteArray) (ls : List LvT) (ks : List Tm) (lv : Value) (m : Nat) (bd : Nat → Nat) (kvs : Nat → Value), v = .agg #[.int .i64 f, .int .i64 n, .bool h, .string nm, lv, .slice (some ⟨g, 0, none⟩) ks.length kc] ∧ t = .mk f n h nm ls ks ∧ LO w B m lv ls ∧ B ≤ m ∧ m ≤ g ∧ g < N ∧ N < bd 0 ∧ (∀ i, bd i ≤ bd (i + 1)) ∧ bd ks.length ≤ E ∧ RowAt w g kc ∧ ks.length ≤ kc ∧ kc ≤ 9223372036854775807 ∧ (∀ i, i < ks.length → CellsAt w g (i * 6) (kvs i)) ∧ (∀ i t, ks[i]? = some t → TO w (bd i) (bd (i + 1)) (kvs i) t)

theorem RO.to {w : World} {B N E g kc : Nat} {v : Value} {t : Tm} (h : RO w B N E g kc v t) : TO w B E v t := by
  obtain ⟨f, n, h, nm, ls, ks, lv, m, bd, kvs, rfl, rfl, hl, hBm, hmg, hgN, hNb, hbd, hE, hrow, hkc, hkm, cells, kids⟩ := h
  exact TO.row hl hBm hmg (by omega) hbd hE hrow hkc hkm cells kids

theorem RO.on {w w' : World} {B N E g kc : Nat} {v : Value} {t : Tm} (h : RO w B N E g kc v t) (hag : ∀ k, B ≤ k → k < E → k ≠ N → w'.heap[k]? = w.heap[k]?) : RO w' B N E g kc v t := by
  obtain ⟨f, n, h, nm, ls, ks, lv, m, bd, kvs, rfl, rfl, hl, hBm, hmg, hgN, hNb, hbd, hE, hrow, hkc, hkm, cells, kids⟩ := h
  have h0 : bd 0 ≤ bd ks.length := bd_mono hbd (Nat.zero_le _)
  have hag1 : Agree B N w w' := fun k h1 h2 => hag k h1 (by omega) (by omega)
  refine ⟨f, n, h, nm, ls, ks, lv, m, bd, kvs, rfl, rfl, hl.on (hag1.mono (Nat.le_refl _) (by omega)), hBm, hmg, hgN, hNb, hbd, hE, hrow.on hag1 (by omega) (by omega), hkc, hkm, fun i hi => (cells i hi).on hag1 (by omega) (by omega), fun i t hi => (kids i t hi).on (fun k h1 h2 => hag k ?_ ?_ ?_)⟩
  · have := bd_mono hbd (Nat.zero_le i); omega
  · have : i < ks.length := (List.getElem?_eq_some_iff.1 hi).1
    have := bd_mono hbd (show i + 1 ≤ ks.length from this)
    omega
  · have := bd_mono hbd (Nat.zero_le i); omega

theorem RO.mono {w : World} {B N E B' E' g kc : Nat} {v : Value} {t : Tm} (h : RO w B N E g kc v t) (hB : B' ≤ B) (hE' : E ≤ E') : RO w B' N E' g kc v t := by
  obtain ⟨f, n, h, nm, ls, ks, lv, m, bd, kvs, rfl, rfl, hl, hBm, hmg, hgN, hNb, hbd, hE, r⟩ := h
  exact ⟨f, n, h, nm, ls, ks, lv, m, bd, kvs, rfl, rfl, hl.mono hB (Nat.le_refl _), by omega, hmg, hgN, hNb, hbd, by omega, r⟩

/-- one kid more -/
def Tm.add : Tm → Tm → Tm
  | .mk f n h nm ls ks, k => .mk f n h nm ls (ks ++ [k])
end Go.Proofs.Ytmmbnimehmfadaa
