/- Terms in memory of their own. -/
import Derived.Test.YtndjdeiccmhelaaGreatWH
import Derived.Deep.AppendLies
namespace Go.Proofs.YtndjdeiccmhelaaGreat
open Go.RowKit Go.Sort

/-- the pairs xs lie at address a, in a block from B on and ahead of E -/
def SO (w : World) (B E : Nat) (a : Option Addr) (xs : List (Int × Int)) : Prop :=
  xs = [] ∨ ∃ b, a = some ⟨b, 0, none⟩ ∧ B ≤ b ∧ b < E ∧ b < w.heap.size ∧ ∀ i, i < xs.length → w.cell? ⟨b, i * 2, none⟩ = some (.int .i64 (xs[i]?.getD (0, 0)).1) ∧ w.cell? ⟨b, i * 2 + 1, none⟩ = some (.int .i64 (xs[i]?.getD (0, 0)).2)

theorem SO.sl {w : World} {B E : Nat} {a : Option Addr} {xs : List (Int × Int)} (h : SO w B E a xs) : SL w a xs := by
  rcases h with h | ⟨b, ha, -, -, hlt, hc⟩
  · exact Or.inl h
  · exact Or.inr ⟨b, 0, ha, hlt, fun i hi => by have := hc i hi; simpa using this⟩

/-- two worlds that agree on the blocks from B on and ahead of E -/
def Agree (B E : Nat) (w w' : World) : Prop := ∀ k, B ≤ k → k < E → w'.heap[k]? = w.heap[k]?

theorem Agree.mono {B E B' E' : Nat} {w w' : World} (h : Agree B E w w') (hB : B ≤ B') (hE : E' ≤ E) : Agree B' E' w w' := fun k h1 h2 => h k (by omega) (by omega)

theorem Agree.trans {B E : Nat} {a b c : World} (h : Agree B E a b) (k : Agree B E b c) : Agree B E a c := fun i h1 h2 => (k i h1 h2).trans (h i h1 h2)

theorem Agree.of_below {B E N : Nat} {w w' : World} (h : RowKit.Below N w w') (hE : E ≤ N) : Agree B E w w' := fun k _ h2 => h.block k (by omega)

theorem Agree.of_kept {B E : Nat} {P : Nat → Prop} {w w' : World} (h : Kept P w w') (hE : E ≤ w.heap.size) (hP : ∀ k, B ≤ k → k < E → ¬ P k) : Agree B E w w' := fun k h1 h2 => h.block k (by omega) (hP k h1 h2)

theorem Agree.cell {B E : Nat} {w w' : World} (h : Agree B E w w') {p : Addr} (h1 : B ≤ p.block) (h2 : p.block < E) : w'.cell? p = w.cell? p := World.cell?_of_block (w := w) (h p.block h1 h2)

theorem heap_lt {w : World} {b : Nat} {o : Obj} (h : w.heap[b]? = some o) : b < w.heap.size := (Array.getElem?_eq_some_iff.1 h).1

theorem lt_of_agree {w w' : World} {b : Nat} (h : w'.heap[b]? = w.heap[b]?) (hb : b < w.heap.size) : b < w'.heap.size := by
  rw [Array.getElem?_eq_getElem hb] at h
  exact heap_lt h

theorem SO.on {w w' : World} {B E : Nat} {a : Option Addr} {xs : List (Int × Int)} (h : SO w B E a xs) (hag : Agree B E w w') : SO w' B E a xs := by
  rcases h with h | ⟨b, ha, h1, h2, hlt, hc⟩
  · exact Or.inl h
  · exact Or.inr ⟨b, ha, h1, h2, lt_of_agree (hag b h1 h2) hlt, fun i hi => ⟨(hag.cell (p := ⟨b, i * 2, none⟩) h1 h2).trans (hc i hi).1, (hag.cell (p := ⟨b, i * 2 + 1, none⟩) h1 h2).trans (hc i hi).2⟩⟩

theorem SO.mono {w : World} {B E B' E' : Nat} {a : Option Addr} {xs : List (Int × Int)} (h : SO w B E a xs) (hB : B' ≤ B) (hE : E ≤ E') : SO w B' E' a xs := by
  rcases h with h | ⟨b, ha, h1, h2, r⟩
  · exact Or.inl h
  · exact Or.inr ⟨b, ha, by omega, by omega, r⟩

/-- the slice value v holds the levels ls, all of it in blocks from B on and ahead of E -/
def LO (w : World) (B E : Nat) (v : Value) (ls : List LvT) : Prop :=
  (ls = [] ∧ v = .slice none 0 0) ∨ ∃ g cap cur, v = .slice (some ⟨g, 0, none⟩) ls.length cap ∧ B ≤ g ∧ g < E ∧ w.heap[g]? = some (.cells cur 105 (0, 0)) ∧ ls.length ≤ cap ∧ cap ≤ 9223372036854775807 ∧ cur.size = cap * 2 ∧
    ∀ i n xs, ls[i]? = some (n, xs) → w.cell? ⟨g, i * 2, none⟩ = some (.int .i64 n) ∧ ∃ a' cap', w.cell? ⟨g, i * 2 + 1, none⟩ = some (.slice a' xs.length cap') ∧ (a' = none → cap' = 0) ∧ SO w B E a' xs

theorem LO.on {w w' : World} {B E : Nat} {v : Value} {ls : List LvT} (h : LO w B E v ls) (hag : Agree B E w w') : LO w' B E v ls := by
  rcases h with h | ⟨g, cap, cur, hv, h1, h2, hh, hc, hm, hs, hx⟩
  · exact Or.inl h
  · refine Or.inr ⟨g, cap, cur, hv, h1, h2, (hag g h1 h2).trans hh, hc, hm, hs, fun i n xs hi => ?_⟩
    obtain ⟨c0, a', cap', c1, hn, hS⟩ := hx i n xs hi
    exact ⟨(hag.cell (p := ⟨g, i * 2, none⟩) h1 h2).trans c0, a', cap', (hag.cell (p := ⟨g, i * 2 + 1, none⟩) h1 h2).trans c1, hn, hS.on hag⟩

theorem LO.mono {w : World} {B E B' E' : Nat} {v : Value} {ls : List LvT} (h : LO w B E v ls) (hB : B' ≤ B) (hE : E ≤ E') : LO w B' E' v ls := by
  rcases h with h | ⟨g, cap, cur, hv, h1, h2, hh, hc, hm, hs, hx⟩
  · exact Or.inl h
  · refine Or.inr ⟨g, cap, cur, hv, by omega, by omega, hh, hc, hm, hs, fun i n xs hi => ?_⟩
    obtain ⟨c0, a', cap', c1, hn, hS⟩ := hx i n xs hi
    exact ⟨c0, a', cap', c1, hn, hS.mono hB hE⟩

/-- what a reader knows of such levels -/
theorem LO.ln {w : World} {B E : Nat} {v : Value} {ls : List LvT} (h : LO w B E v ls) : ∃ la lc, v = .slice la ls.length lc ∧ LN w la ls ∧ (la = none → lc = 0) ∧ ls.length ≤ lc ∧ lc ≤ 9223372036854775807 := by
  rcases h with ⟨h, hv⟩ | ⟨g, cap, cur, hv, h1, h2, hh, hc, hm, hs, hx⟩
  · subst h; exact ⟨none, 0, hv, Or.inl rfl, fun _ => rfl, Nat.le_refl _, by omega⟩
  · refine ⟨_, cap, hv, Or.inr ⟨g, 0, rfl, heap_lt hh, fun i n xs hi => ?_⟩, fun e => (by cases e), hc, hm⟩
    obtain ⟨c0, a', cap', c1, hn, hS⟩ := hx i n xs hi
    exact ⟨by simpa using c0, a', cap', by simpa using c1, hS.sl, hn⟩

/-- the six cells from o on in block g are the value v -/
def CellsAt (w : World) (g o : Nat) (v : Value) : Prop :=
  ∃ (v0 v1 : Int) (v2 : Bool) (v3 : ByteArray) (l1 : Option Addr) (l2 l3 : Nat) (k1 : Option Addr) (k2 k3 : Nat), v = .agg #[.int .i64 v0, .int .i64 v1, .bool v2, .string v3, .slice l1 l2 l3, .slice k1 k2 k3] ∧ w.cell? ⟨g, o, none⟩ = some (.int .i64 v0) ∧ w.cell? ⟨g, o + 1, none⟩ = some (.int .i64 v1) ∧ w.cell? ⟨g, o + 2, none⟩ = some (.bool v2) ∧ w.cell? ⟨g, o + 3, none⟩ = some (.string v3) ∧ w.cell? ⟨g, o + 4, none⟩ = some (.slice l1 l2 l3) ∧ w.cell? ⟨g, o + 5, none⟩ = some (.slice k1 k2 k3)

/-- block g is a row of kc terms -/
def RowAt (w : World) (g kc : Nat) : Prop := ∃ cur, w.heap[g]? = some (.cells cur 38 (0, 0)) ∧ cur.size = kc * 6

/-- The value v holds t; all its memory lies in blocks from B on and ahead of E, that of each kid behind that of the kids ahead of it. -/
inductive TO (w : World) : Nat → Nat → Value → Tm → Prop where
  | leaf {B E m : Nat} {f n : Int} {h : Bool} {nm : ByteArray} {ls : List LvT} {lv : Value} (hl : LO w B m lv ls) (hBm : B ≤ m) (hmE : m ≤ E) : TO w B E (.agg #[.int .i64 f, .int .i64 n, .bool h, .string nm, lv, .slice none 0 0]) (.mk f n h nm ls [])
  | row {B E m g kc : Nat} {f n : Int} {h : Bool} {nm : ByteArray} {ls : List LvT} {ks : List Tm} {lv : Value} {bd : Nat → Nat} {kvs : Nat → Value} (hl : LO w B m lv ls) (hBm : B ≤ m) (hmg : m ≤ g) (hgE : g < bd 0) (hbd : ∀ i, bd i ≤ bd (i + 1)) (hE : bd ks.length ≤ E) (hrow : RowAt w g kc) (hkc : ks.length ≤ kc) (hkm : kc ≤ 9223372036854775807)
      (cells : ∀ i, i < ks.length → CellsAt w g (i * 6) (kvs i)) (kids : ∀ i t, ks[i]? = some t → TO w (bd i) (bd (i + 1)) (kvs i) t) : TO w B E (.agg #[.int .i64 f, .int .i64 n, .bool h, .string nm, lv, .slice (some ⟨g, 0, none⟩) ks.length kc]) (.mk f n h nm ls ks)

theorem bd_mono {bd : Nat → Nat} (h : ∀ i, bd i ≤ bd (i + 1)) {i j : Nat} (hij : i ≤ j) : bd i ≤ bd j := by
  induction hij with
  | refl => exact Nat.le_refl _
  | step _ ih => exact Nat.le_trans ih (h _)

theorem RowAt.on {w w' : World} {g kc B E : Nat} (h : RowAt w g kc) (hag : Agree B E w w') (h1 : B ≤ g) (h2 : g < E) : RowAt w' g kc := by
  obtain ⟨cur, hh, hs⟩ := h
  exact ⟨cur, (hag g h1 h2).trans hh, hs⟩

theorem CellsAt.on {w w' : World} {g o B E : Nat} {v : Value} (h : CellsAt w g o v) (hag : Agree B E w w') (h1 : B ≤ g) (h2 : g < E) : CellsAt w' g o v := by
  obtain ⟨v0, v1, v2, v3, l1, l2, l3, k1, k2, k3, hv, c0, c1, c2, c3, c4, c5⟩ := h
  exact ⟨v0, v1, v2, v3, l1, l2, l3, k1, k2, k3, hv, (hag.cell (p := ⟨g, o, none⟩) h1 h2).trans c0, (hag.cell (p := ⟨g, o + 1, none⟩) h1 h2).trans c1, (hag.cell (p := ⟨g, o + 2, none⟩) h1 h2).trans c2, (hag.cell (p := ⟨g, o + 3, none⟩) h1 h2).trans c3, (hag.cell (p := ⟨g, o + 4, none⟩) h1 h2).trans c4, (hag.cell (p := ⟨g, o + 5, none⟩) h1 h2).trans c5⟩

theorem TO.on {w w' : World} {B E : Nat} {v : Value} {t : Tm} (h : TO w B E v t) : Agree B E w w' → TO w' B E v t := by
  induction h with
  | leaf hl hBm hmE => exact fun hag => TO.leaf (hl.on (hag.mono (Nat.le_refl _) hmE)) hBm hmE
  | @row B E m g kc f n h nm ls ks lv bd kvs hl hBm hmg hgE hbd hE hrow hkc hkm cells kids ih =>
    intro hag
    have h0 : bd 0 ≤ bd ks.length := bd_mono hbd (Nat.zero_le _)
    refine TO.row (hl.on (hag.mono (Nat.le_refl _) (by omega))) hBm hmg hgE hbd hE (hrow.on hag (by omega) (by omega)) hkc hkm (fun i hi => (cells i hi).on hag (by omega) (by omega)) (fun i t hi => ih i t hi (hag.mono ?_ ?_))
    · have := bd_mono hbd (Nat.zero_le i); omega
    · have : i < ks.length := (List.getElem?_eq_some_iff.1 hi).1
      have := bd_mono hbd (show i + 1 ≤ ks.length from this)
      omega

theorem TO.mono {w : World} {B E B' E' : Nat} {v : Value} {t : Tm} (h : TO w B E v t) (hB : B' ≤ B) (hE : E ≤ E') : TO w B' E' v t := by
  cases h with
  | leaf hl hBm hmE => exact TO.leaf (hl.mono hB (Nat.le_refl _)) (by omega) (by omega)
  | row hl hBm hmg hgE hbd hE' hrow hkc hkm cells kids => exact TO.row (hl.mono hB (Nat.le_refl _)) (by omega) hmg hgE hbd (by omega) hrow hkc hkm cells kids

theorem TO.le {w : World} {B E : Nat} {v : Value} {t : Tm} (h : TO w B E v t) : B ≤ E := by
  cases h with
  | leaf hl hBm hmE => omega
  | @row _ _ m g kc f n h nm ls ks lv bd kvs hl hBm hmg hgE hbd hE hrow hkc hkm cells kids => have := bd_mono hbd (Nat.zero_le ks.length); omega

theorem CellsAt.tc {w : World} {g o : Nat} {v : Value} {t : Tm} (h : CellsAt w g o v) (hv : TV w v t) : TC w g o t := by
  obtain ⟨v0, v1, v2, v3, l1, l2, l3, k1, k2, k3, rfl, c0, c1, c2, c3, c4, c5⟩ := h
  cases hv with
  | mk hl hln hlc hlm hkn hkc hkm hk kids => exact TC.mk c0 c1 c2 c3 c4 c5 hl hln hlc hlm hkn hkc hkm hk kids

theorem TO.tv {w : World} {B E : Nat} {v : Value} {t : Tm} (h : TO w B E v t) : TV w v t := by
  induction h with
  | leaf hl hBm hmE =>
    obtain ⟨la, lc, rfl, h1, h2, h3, h4⟩ := hl.ln
    exact TV.mk (kb := 0) (ko := 0) h1 h2 h3 h4 (fun _ => rfl) (Nat.le_refl _) (by omega) (fun h => absurd rfl h) (fun i t hi => by simp at hi)
  | @row B E m g kc f n h nm ls ks lv bd kvs hl hBm hmg hgE hbd hE hrow hkc hkm cells kids ih =>
    obtain ⟨la, lc, rfl, h1, h2, h3, h4⟩ := hl.ln
    obtain ⟨cur, hh, -⟩ := hrow
    refine TV.mk (kb := g) (ko := 0) h1 h2 h3 h4 (fun e => (by cases e)) hkc hkm (fun _ => ⟨rfl, heap_lt hh⟩) (fun i t hi => ?_)
    have hi' : i < ks.length := (List.getElem?_eq_some_iff.1 hi).1
    have := (cells i hi').tc (ih i t hi)
    rwa [Nat.zero_add]

/-- a term under way: kids may yet be appended to the row of its kids, in block g; block N is none of its own -/
def RO (w : World) (B N E g kc : Nat) (v : Value) (t : Tm) : Prop :=
  ∃ (f n : Int) (h : Bool) (nm : ByteArray) (ls : List LvT) (ks : List Tm) (lv : Value) (m : Nat) (bd : Nat → Nat) (kvs : Nat → Value), v = .agg #[.int .i64 f, .int .i64 n, .bool h, .string nm, lv, .slice (some ⟨g, 0, none⟩) ks.length kc] ∧ t = .mk f n h nm ls ks ∧ LO w B m lv ls ∧ B ≤ m ∧ m ≤ g ∧ g < N ∧ N < bd 0 ∧ (∀ i, bd i ≤ bd (i + 1)) ∧ bd ks.length ≤ E ∧ RowAt w g kc ∧ ks.length ≤ kc ∧ kc ≤ 9223372036854775807 ∧ (∀ i, i < ks.length → CellsAt w g (i * 6) (kvs i)) ∧ (∀ i t, ks[i]? = some t → TO w (bd i) (bd (i + 1)) (kvs i) t)

theorem RO.to {w : World} {B N E g kc : Nat} {v : Value} {t : Tm} (h : RO w B N E g kc v t) : TO w B E v t := by
  obtain ⟨f, n, h, nm, ls, ks, lv, m, bd, kvs, rfl, rfl, hl, hBm, hmg, hgN, hNb, hbd, hE, hrow, hkc, hkm, cells, kids⟩ := h
  exact TO.row hl hBm hmg (by omega) hbd hE hrow hkc hkm cells kids

theorem RO.on {w w' : World} {B N E g kc : Nat} {v : Value} {t : Tm} (h : RO w B N E g kc v t) (hag : ∀ k, B ≤ k → k < E → k ≠ N → w'.heap[k]? = w.heap[k]?) : RO w' B N E g kc v t := by
  obtain ⟨f, n, h, nm, ls, ks, lv, m, bd, kvs, rfl, rfl, hl, hBm, hmg, hgN, hNb, hbd, hE, hrow, hkc, hkm, cells, kids⟩ := h
  have h0 : bd 0 ≤ bd ks.length := bd_mono hbd (Nat.zero_le _)
  have hag1 : Agree B N w w' := fun k h1 h2 => hag k h1 (by omega) (by omega)
  refine ⟨f, n, h, nm, ls, ks, lv, m, bd, kvs, rfl, rfl, hl.on (hag1.mono (Nat.le_refl _) (by omega)), hBm, hmg, hgN, hNb, hbd, hE, hrow.on hag1 (by omega) (by omega), hkc, hkm, fun i hi => (cells i hi).on hag1 (by omega) (by omega), fun i t hi => (kids i t hi).on (fun k h1 h2 => hag k ?_ ?_ ?_)⟩
  · have := bd_mono hbd (Nat.zero_le i); omega
  · have : i < ks.length := (List.getElem?_eq_some_iff.1 hi).1
    have := bd_mono hbd (show i + 1 ≤ ks.length from this)
    omega
  · have := bd_mono hbd (Nat.zero_le i); omega

theorem RO.mono {w : World} {B N E B' E' g kc : Nat} {v : Value} {t : Tm} (h : RO w B N E g kc v t) (hB : B' ≤ B) (hE' : E ≤ E') : RO w B' N E' g kc v t := by
  obtain ⟨f, n, h, nm, ls, ks, lv, m, bd, kvs, rfl, rfl, hl, hBm, hmg, hgN, hNb, hbd, hE, r⟩ := h
  exact ⟨f, n, h, nm, ls, ks, lv, m, bd, kvs, rfl, rfl, hl.mono hB (Nat.le_refl _), by omega, hmg, hgN, hNb, hbd, by omega, r⟩

/-- one kid more -/
def Tm.add : Tm → Tm → Tm
  | .mk f n h nm ls ks, k => .mk f n h nm ls (ks ++ [k])
end Go.Proofs.YtndjdeiccmhelaaGreat

/- The contract of term.withKid. -/
namespace Go.Proofs.YtndjdeiccmhelaaGreat
open Go.RowKit Go.Sort

theorem infoTerm : (Tryz.prog.info? 38).map (fun i => (i.zero, i.size, i.bytes)) = some (some (.agg #[.int .i64 0, .int .i64 0, .bool false, .string ByteArray.empty, .slice none 0 0, .slice none 0 0]), 6, 88) := by kernel_rfl

/-- append of one term onto a row of its own that has room -/
theorem wpList_app1 {w : World} {ops : Array Oper} {rest : List Oper} {o : Oper} {a : Act} {Q : Exit → Act → World → Prop} (hgd : o.guard = none) (s x : Operand) (ho : o.op = .call { callee := .builtin .append, args := #[s, x], argTypes := #[36, 36] })
    (g n cap b c : Nat) (cur : Array Value) (hg : w.heap[g]? = some (.cells cur 38 (0, 0))) (hs : a.eval s = .slice (some ⟨g, 0, none⟩) n cap) (hx : a.eval x = .slice (some ⟨b, 0, none⟩) 1 c) (news : List Value) (hl : news.length = 6) (hnews : ∀ j u, news[j]? = some u → w.cell? ((⟨b, 0, none⟩ : Addr).add j) = some u) (h1 : ∀ u ∈ news, u.oneCell' = true) (hroom : n < cap) (hcs : cur.size = cap * 6)
    (h : ∀ W : World, W.heap[g]? = some (.cells (cur.toList.take (n * 6) ++ news ++ cur.toList.drop (n * 6 + 6)).toArray 38 (0, 0)) → (∀ k, k ≠ g → W.heap[k]? = w.heap[k]?) → Kept (· = g) w W → wpList Tryz.prog ops Q rest (a.put o.dst (.slice (some ⟨g, 0, none⟩) (n + 1) cap)) W) : wpList Tryz.prog ops Q (o :: rest) a w := by
  obtain ⟨i, hi, hz0, hz1, hz2⟩ := info_parts infoTerm
  have hr := run_append_room (P := Tryz.prog) w 36 o.type 38 i Tryz.underlying36 hi g n cap cur hg ⟨b, 0, none⟩ 1 c news (by rw [hz1, hl]) hnews h1 hroom (by rw [hz1, hl, hcs]; omega)
  rw [hz1, hl] at hr
  refine wpList_plain hgd fun K hK => ?_
  unfold Oper.wp execOp
  simp only [ho, resolve, invoke, builtin, Sem.run_bind, Sem.run_pure, Result.andThen_ok, List.map_toArray, List.map_cons, List.map_nil, hs, hx, hr]
  exact hK _ _ (h _ (setRow_heap w g cur _ 38 (0, 0) hg) (fun k hk => setRow_other _ _ _ _ hk) ⟨rfl, rfl, rfl, by simp, fun k _ hk => setRow_other _ _ _ _ hk⟩)

theorem TO.shapeE {w : World} {B E : Nat} {v : Value} {t : Tm} (h : TO w B E v t) : ∃ (v0 v1 : Int) (v2 : Bool) (v3 : ByteArray) (l1 : Option Addr) (l2 l3 : Nat) (k1 : Option Addr) (k2 k3 : Nat), v = .agg #[.int .i64 v0, .int .i64 v1, .bool v2, .string v3, .slice l1 l2 l3, .slice k1 k2 k3] := by
  cases h with
  | leaf hl => obtain ⟨la, lc, rfl, -⟩ := hl.ln; exact ⟨_, _, _, _, _, _, _, _, _, _, rfl⟩
  | row hl => obtain ⟨la, lc, rfl, -⟩ := hl.ln; exact ⟨_, _, _, _, _, _, _, _, _, _, rfl⟩

/-- the row with one more: the old cells -/
theorem row_old {w W : World} {g n : Nat} {cur : Array Value} {news : List Value} {t : TypeId} (hg : w.heap[g]? = some (.cells cur t (0, 0))) (hW : W.heap[g]? = some (.cells (cur.toList.take (n * 6) ++ news ++ cur.toList.drop (n * 6 + 6)).toArray t (0, 0))) (hn : n * 6 ≤ cur.size) {o : Nat} (ho : o < n * 6) : W.cell? ⟨g, o, none⟩ = w.cell? ⟨g, o, none⟩ := by
  rw [cell_of_row _ g o _ _ _ hW, cell_of_row _ g o _ _ _ hg]
  have hl : o < (cur.toList.take (n * 6)).length := by simp; omega
  simp only [List.getElem?_toArray]
  rw [List.append_assoc, List.getElem?_append_left hl, List.getElem?_take_of_lt ho]
  simp

/-- the row with one more: the new cells -/
theorem row_new {W : World} {g n : Nat} {cur : Array Value} {news : List Value} {t : TypeId} (hW : W.heap[g]? = some (.cells (cur.toList.take (n * 6) ++ news ++ cur.toList.drop (n * 6 + 6)).toArray t (0, 0))) (hn : n * 6 ≤ cur.size) {j : Nat} (hj : j < news.length) : W.cell? ⟨g, n * 6 + j, none⟩ = news[j]? := by
  rw [cell_of_row _ g (n * 6 + j) _ _ _ hW]
  have hl : (cur.toList.take (n * 6)).length = n * 6 := by simp; omega
  simp only [List.getElem?_toArray]
  rw [List.append_assoc, List.getElem?_append_right (by omega), hl, Nat.add_sub_cancel_left, List.getElem?_append_left hj]

theorem cellsAt_old {w W : World} {g n i : Nat} {cur : Array Value} {news : List Value} {t : TypeId} {v : Value} (hg : w.heap[g]? = some (.cells cur t (0, 0))) (hW : W.heap[g]? = some (.cells (cur.toList.take (n * 6) ++ news ++ cur.toList.drop (n * 6 + 6)).toArray t (0, 0))) (hn : n * 6 ≤ cur.size) (hi : i < n) (h : CellsAt w g (i * 6) v) : CellsAt W g (i * 6) v := by
  obtain ⟨v0, v1, v2, v3, l1, l2, l3, k1, k2, k3, hv, c0, c1, c2, c3, c4, c5⟩ := h
  exact ⟨v0, v1, v2, v3, l1, l2, l3, k1, k2, k3, hv, (row_old hg hW hn (by omega)).trans c0, (row_old hg hW hn (by omega)).trans c1, (row_old hg hW hn (by omega)).trans c2, (row_old hg hW hn (by omega)).trans c3, (row_old hg hW hn (by omega)).trans c4, (row_old hg hW hn (by omega)).trans c5⟩

/-- one kid more, in the world behind -/
theorem RO.more {w W : World} {B N E g kc E' E'' : Nat} {f n : Int} {h : Bool} {nm : ByteArray} {lv : Value} {k1 : Nat} {r k : Tm} {v0 v1 : Int} {v2 : Bool} {v3 : ByteArray} {q1 : Option Addr} {q2 q3 : Nat} {p1 : Option Addr} {p2 p3 : Nat} {cur : Array Value}
    (hR : RO w B N E g kc (.agg #[.int .i64 f, .int .i64 n, .bool h, .string nm, lv, .slice (some ⟨g, 0, none⟩) k1 kc]) r) (hT : TO w E' E'' (.agg #[.int .i64 v0, .int .i64 v1, .bool v2, .string v3, .slice q1 q2 q3, .slice p1 p2 p3]) k) (hEE : E ≤ E') (hroom : k1 < kc) (hcur : w.heap[g]? = some (.cells cur 38 (0, 0)))
    (hW : W.heap[g]? = some (.cells (cur.toList.take (k1 * 6) ++ ([.int .i64 v0, .int .i64 v1, .bool v2, .string v3, .slice q1 q2 q3, .slice p1 p2 p3] : List Value) ++ cur.toList.drop (k1 * 6 + 6)).toArray 38 (0, 0))) (hk : ∀ i, i < E'' → i ≠ g → W.heap[i]? = w.heap[i]?) :
    RO W B N E'' g kc (.agg #[.int .i64 f, .int .i64 n, .bool h, .string nm, lv, .slice (some ⟨g, 0, none⟩) (k1 + 1) kc]) (r.add k) := by
  obtain ⟨f', n', h', nm', ls, ks, lv', m, bd, kvs, hv, rfl, hl, hBm, hmg, hgN, hNb, hbd, hE, hrow, hkc, hkm, cells, kids⟩ := hR
  simp only [Value.agg.injEq, Array.mk.injEq, List.cons.injEq, Value.int.injEq, true_and, Value.bool.injEq, Value.string.injEq, Value.slice.injEq, and_true] at hv
  obtain ⟨rfl, rfl, rfl, rfl, rfl, rfl⟩ := hv
  have hT' := hT.le
  have h0 := bd_mono hbd (Nat.zero_le ks.length)
  obtain ⟨cur', hc', hs'⟩ := hrow
  obtain rfl : cur' = cur := by rw [hc'] at hcur; simpa using hcur
  have hn6 : ks.length * 6 ≤ cur'.size := by rw [hs']; omega
  refine ⟨f, n, h, nm, ls, ks ++ [k], lv, m, fun i => if i ≤ ks.length then bd i else E'', fun i => if i < ks.length then kvs i else (.agg #[.int .i64 v0, .int .i64 v1, .bool v2, .string v3, .slice q1 q2 q3, .slice p1 p2 p3]), by simp, rfl, hl.on (fun i h1 h2 => hk i (by omega) (by omega)), hBm, hmg, hgN, by simpa using hNb, ?_, by simp only [List.length_append, List.length_cons, List.length_nil]; rw [if_neg (by omega)]; exact Nat.le_refl _, ⟨_, hW, ?_⟩, by simp; omega, hkm, ?_, ?_⟩
  · intro i
    by_cases h1 : i + 1 ≤ ks.length
    · simp only [h1, if_true, show i ≤ ks.length by omega]; exact hbd i
    · by_cases h2 : i ≤ ks.length
      · obtain rfl : i = ks.length := by omega
        dsimp only
        rw [if_pos (Nat.le_refl _), if_neg (by omega)]; omega
      · dsimp only
        rw [if_neg (by omega), if_neg (by omega)]; exact Nat.le_refl _
  · simp only [List.size_toArray, List.length_append, List.length_take, List.length_drop, Array.length_toList, List.length_cons, List.length_nil]
    omega
  · intro i hi
    rw [List.length_append] at hi
    by_cases h1 : i < ks.length
    · simp only [h1, if_true]
      exact cellsAt_old hc' hW hn6 h1 (cells i h1)
    · obtain rfl : i = ks.length := by simp at hi; omega
      simp only [Nat.lt_irrefl, if_false]
      exact ⟨v0, v1, v2, v3, q1, q2, q3, p1, p2, p3, rfl, by simpa using row_new (j := 0) hW hn6 (by simp), by simpa using row_new (j := 1) hW hn6 (by simp), by simpa using row_new (j := 2) hW hn6 (by simp), by simpa using row_new (j := 3) hW hn6 (by simp), by simpa using row_new (j := 4) hW hn6 (by simp), by simpa using row_new (j := 5) hW hn6 (by simp)⟩
  · intro i t hi
    by_cases h1 : i < ks.length
    · rw [List.getElem?_append_left h1] at hi
      simp only [h1, if_true, show i ≤ ks.length by omega, show i + 1 ≤ ks.length by omega]
      have hb1 := bd_mono hbd (Nat.zero_le i)
      have hb2 := bd_mono hbd (show i + 1 ≤ ks.length from h1)
      exact (kids i t hi).on (fun j h1 h2 => hk j (by omega) (by omega))
    · obtain rfl : i = ks.length := by
        have := (List.getElem?_eq_some_iff.1 hi).1; simp at this; omega
      simp only [List.getElem?_concat_length, Option.some.injEq] at hi
      subst hi
      simp only [Nat.le_refl, if_true, Nat.lt_irrefl, if_false, show ¬ ks.length + 1 ≤ ks.length by omega]
      exact (hT.on (fun j h1 h2 => hk j (by omega) (by omega))).mono (by omega) (Nat.le_refl _)
end Go.Proofs.YtndjdeiccmhelaaGreat

/- The contract of term.withKid. -/
namespace Go.Proofs.YtndjdeiccmhelaaGreat
open Go.RowKit Go.Sort

theorem RO.shapeE {w : World} {B N E g kc : Nat} {v : Value} {t : Tm} (h : RO w B N E g kc v t) : ∃ (v0 v1 : Int) (v2 : Bool) (v3 : ByteArray) (l1 : Option Addr) (l2 l3 : Nat), v = .agg #[.int .i64 v0, .int .i64 v1, .bool v2, .string v3, .slice l1 l2 l3, .slice (some ⟨g, 0, none⟩) t.kids.length kc] := by
  obtain ⟨f, n, h, nm, ls, ks, lv, m, bd, kvs, rfl, rfl, hl, -⟩ := h
  obtain ⟨la, lc, rfl, -⟩ := hl.ln
  exact ⟨_, _, _, _, _, _, _, rfl⟩

theorem frz {w : World} {b : Nat} {cs : Array Value} {t : TypeId} (h : w.heap[b]? = some (.cells cs t (0, 0))) : ∀ o, w.frozen? ⟨b, o, none⟩ = false := fun o => by simp [World.frozen?, h]

theorem new3 {w : World} {a b c d : Obj} : ((((w.alloc a).alloc b).alloc c).alloc d).heap[w.heap.size + 1 + 1 + 1]? = some d := by
  have := alloc_new (((w.alloc a).alloc b).alloc c) d
  have e : (((w.alloc a).alloc b).alloc c).heap.size = w.heap.size + 1 + 1 + 1 := by simp
  rwa [e] at this

theorem at2 {w : World} {a b c d : Obj} : ((((w.alloc a).alloc b).alloc c).alloc d).heap[w.heap.size + 1 + 1]? = some c := by
  have := alloc_new ((w.alloc a).alloc b) c
  have e : ((w.alloc a).alloc b).heap.size = w.heap.size + 1 + 1 := by simp
  rw [e] at this
  exact alloc_old this _

/-- what is written into new blocks alone -/
theorem Kept.join {P : Nat → Prop} {N : Nat} {w a b : World} (h1 : Kept P w a) (h2 : Kept (fun k => N ≤ k) a b) (hN : w.heap.size ≤ N) : Kept P w b :=
  ⟨h2.os.trans h1.os, h2.tape.trans h1.tape, h2.output.trans h1.output, Nat.le_trans h1.size h2.size, fun k hk hp => (h2.block k (Nat.lt_of_lt_of_le hk h1.size) (by omega)).trans (h1.block k hk hp)⟩

set_option maxRecDepth 100000 in
set_option maxHeartbeats 2000000 in
theorem withKid_any {B N E g kc E' E'' : Nat} {v vk : Value} {r k : Tm} (w : World) (hR : RO w B N E g kc v r) (hT : TO w E' E'' vk k) (hEE : E ≤ E') (hE : E'' ≤ w.heap.size) (hroom : r.kids.length < kc) :
    Calls Tryz.prog 126 #[v, vk] w fun e w' => ∃ v', e = .returned v' ∧ RO w' B N E'' g kc v' (r.add k) ∧ Kept (· = g) w w' := by
  obtain ⟨f, n, h, nm, l1, l2, l3, rfl⟩ := hR.shapeE
  obtain ⟨v0, v1, v2, v3, q1, q2, q3, p1, p2, p3, rfl⟩ := hT.shapeE
  obtain ⟨cur, hcur, hcs⟩ : RowAt w g kc := by obtain ⟨_, _, _, _, _, _, _, _, _, _, _, _, _, _, _, _, _, _, _, h, _⟩ := hR; exact h
  have hgl := heap_lt hcur
  have HM := fun (W : World) hW hk => RO.more (W := W) hR hT hEE hroom hcur hW hk
  generalize r.kids.length = k1 at *
  generalize r.add k = RK at *
  have HCUR := Hid.mk hcur
  have HHM := Hid.mk HM
  clear hR hT HM hcur
  have HG := fun (a b c d : Obj) => ((((Kept.refl (· = g) w).alloc a).alloc b).alloc c).alloc d
  go_enter Tryz.func126, Tryz.ntmps126
  go_wp2_with (at_builtin; refine wpList_app1 rfl _ _ rfl g k1 kc _ 1 cur (alloc_old (alloc_old (alloc_old (alloc_old HCUR.out _) _) _) _) rfl rfl [.int .i64 v0, .int .i64 v1, .bool v2, .string v3, .slice q1 q2 q3, .slice p1 p2 p3] rfl (World.news_of_block (cs := #[.int .i64 v0, .int .i64 v1, .bool v2, .string v3, .slice q1 q2 q3, .slice p1 p2 p3]) (t := 38) (fr := (0, 0)) new3) (by simp [Value.oneCell']) hroom hcs ?_; intro W2 h2 ho hk2; have H2 := Hid.mk h2; have hb := (ho w.heap.size (by omega)).trans (alloc_old (alloc_old (alloc_old (alloc_new w _) _) _) _); have hc := (ho (w.heap.size + 1 + 1) (by omega)).trans at2; have HK2 := Hid.mk ((HG _ _ _ _).trans hk2); clear h2 ho hk2; obtain ⟨x0, x1, x2, x3, x4, x5, x6⟩ := cells6 hb; obtain ⟨y0, y1, y2, y3, y4, y5, y6⟩ := cells6 hc; have fb := frz hb; have fc := frz hc; have HB := Hid.mk hb; have HC := Hid.mk hc; clear hb hc)
  refine bodyPost_ret (v := .agg #[.int .i64 f, .int .i64 n, .bool h, .string nm, .slice l1 l2 l3, .slice (some ⟨g, 0, none⟩) (k1 + 1) kc]) (by simp [results, Tryz.results126, go_sem, y0, y1, y2, y3, y4, y5]) rfl ⟨_, rfl, ?_, ?_⟩
  all_goals have KF := (((((((Kept.refl (fun k => w.heap.size ≤ k) W2).setCell (p := ⟨w.heap.size, 5, none⟩) (Nat.le_refl _) (.slice (some ⟨g, 0, none⟩) (k1 + 1) kc)).setCell (p := ⟨w.heap.size + 1 + 1, 0, none⟩) (by simp; omega) (.int .i64 f)).setCell (p := ⟨w.heap.size + 1 + 1, 1, none⟩) (by simp; omega) (.int .i64 n)).setCell (p := ⟨w.heap.size + 1 + 1, 2, none⟩) (by simp; omega) (.bool h)).setCell (p := ⟨w.heap.size + 1 + 1, 3, none⟩) (by simp; omega) (.string nm)).setCell (p := ⟨w.heap.size + 1 + 1, 4, none⟩) (by simp; omega) (.slice l1 l2 l3)).setCell (p := ⟨w.heap.size + 1 + 1, 5, none⟩) (by simp; omega) (.slice (some ⟨g, 0, none⟩) (k1 + 1) kc)
  · refine HHM.out _ ((KF.block g (Nat.lt_of_lt_of_le hgl HK2.out.size) (by omega)).trans H2.out) (fun i hi hg => (KF.block i (Nat.lt_of_lt_of_le (by omega) HK2.out.size) (by omega)).trans (HK2.out.block i (by omega) hg))
  · exact HK2.out.join KF (Nat.le_refl _)
end Go.Proofs.YtndjdeiccmhelaaGreat
