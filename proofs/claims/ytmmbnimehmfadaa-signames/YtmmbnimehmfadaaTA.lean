/- Terms as trees, and how they lie in memory. -/
import Derived.Test.YtmmbnimehmfadaaD
namespace Go.Proofs.Ytmmbnimehmfadaa
open Go.RowKit Go.Sort

abbrev LvT := Int × List (Int × Int)

/-- a term, as plain data -/
inductive Tm where
  | mk (form n : Int) (hid : Bool) (name : ByteArray) (ls : List LvT) (ks : List Tm)

/-- A slice at address a holds the levels ls in world w; a nil list has no room. -/
def LN (w : World) (a : Option Addr) (ls : List LvT) : Prop :=
  ls = [] ∨ ∃ b off, a = some ⟨b, off, none⟩ ∧ b < w.heap.size ∧ ∀ i n xs, ls[i]? = some (n, xs) → w.cell? ⟨b, off + i * 2, none⟩ = some (.int .i64 n) ∧ ∃ a' cap', w.cell? ⟨b, off + i * 2 + 1, none⟩ = some (.slice a' xs.length cap') ∧ SL w a' xs ∧ (a' = none → cap' = 0)

theorem LN.toLL {w : World} {a : Option Addr} {ls : List LvT} (h : LN w a ls) : LL w a ls := by
  rcases h with h | ⟨b, off, ha, hlt, hc⟩
  · exact Or.inl h
  · refine Or.inr ⟨b, off, ha, hlt, fun i n xs hi => ?_⟩
    obtain ⟨c0, a', cap', c1, hs, -⟩ := hc i n xs hi
    exact ⟨c0, a', cap', c1, hs⟩

theorem LN.below {w w' : World} {a : Option Addr} {ls : List LvT} (h : LN w a ls) (hb : RowKit.Below w.heap.size w w') : LN w' a ls := by
  rcases h with h | ⟨b, off, ha, hlt, hc⟩
  · exact Or.inl h
  · refine Or.inr ⟨b, off, ha, Nat.lt_of_lt_of_le hlt hb.size, fun i n xs hi => ?_⟩
    obtain ⟨c0, a', cap', c1, hs, hn⟩ := hc i n xs hi
    exact ⟨(hb.cell (p := ⟨b, off + i * 2, none⟩) hlt).trans c0, a', cap', (hb.cell (p := ⟨b, off + i * 2 + 1, none⟩) hlt).trans c1, hs.below hb, hn⟩

/-- the six cells from o on in block b hold t -/
inductive TC (w : World) : Nat → Nat → Tm → Prop where
  | mk {b o : Nat} {f n : Int} {h : Bool} {nm : ByteArray} {ls : List LvT} {ks : List Tm} {la : Option Addr} {lc : Nat} {ka : Option Addr} {kc kb ko : Nat}
    (c0 : w.cell? ⟨b, o, none⟩ = some (.int .i64 f)) (c1 : w.cell? ⟨b, o + 1, none⟩ = some (.int .i64 n)) (c2 : w.cell? ⟨b, o + 2, none⟩ = some (.bool h)) (c3 : w.cell? ⟨b, o + 3, none⟩ = some (.string nm)) (c4 : w.cell? ⟨b, o + 4, none⟩ = some (.slice la ls.length lc)) (c5 : w.cell? ⟨b, o + 5, none⟩ = some (.slice ka ks.length kc))
    (hl : LN w la ls) (hln : la = none → lc = 0) (hlc : ls.length ≤ lc) (hlm : lc ≤ 9223372036854775807) (hkn : ka = none → kc = 0) (hkc : ks.length ≤ kc) (hkm : kc ≤ 9223372036854775807) (hk : ks ≠ [] → ka = some ⟨kb, ko, none⟩ ∧ kb < w.heap.size) (kids : ∀ i t, ks[i]? = some t → TC w kb (ko + i * 6) t) : TC w b o (.mk f n h nm ls ks)

/-- the value v is t in world w -/
inductive TV (w : World) : Value → Tm → Prop where
  | mk {f n : Int} {h : Bool} {nm : ByteArray} {ls : List LvT} {ks : List Tm} {la : Option Addr} {lc : Nat} {ka : Option Addr} {kc kb ko : Nat}
    (hl : LN w la ls) (hln : la = none → lc = 0) (hlc : ls.length ≤ lc) (hlm : lc ≤ 9223372036854775807) (hkn : ka = none → kc = 0) (hkc : ks.length ≤ kc) (hkm : kc ≤ 9223372036854775807) (hk : ks ≠ [] → ka = some ⟨kb, ko, none⟩ ∧ kb < w.heap.size) (kids : ∀ i t, ks[i]? = some t → TC w kb (ko + i * 6) t) : TV w (.agg #[.int .i64 f, .int .i64 n, .bool h, .string nm, .slice la ls.length lc, .slice ka ks.length kc]) (.mk f n h nm ls ks)

theorem TC.on {w w' : World} {b o : Nat} {t : Tm} (h : TC w b o t) (hb : RowKit.Below w.heap.size w w') : TC w' b o t := by
  induction h with
  | @mk b o f n h nm ls ks la lc ka kc kb ko c0 c1 c2 c3 c4 c5 hl hln hlc hlm hkn hkc hkm hk kids ih =>
    have hlt : b < w.heap.size := World.block_lt_of_cell? w _ c0
    refine TC.mk (kb := kb) (ko := ko) ((hb.cell (p := ⟨b, o, none⟩) hlt).trans c0) ((hb.cell (p := ⟨b, o + 1, none⟩) hlt).trans c1) ((hb.cell (p := ⟨b, o + 2, none⟩) hlt).trans c2) ((hb.cell (p := ⟨b, o + 3, none⟩) hlt).trans c3) ((hb.cell (p := ⟨b, o + 4, none⟩) hlt).trans c4) ((hb.cell (p := ⟨b, o + 5, none⟩) hlt).trans c5) (hl.below hb) hln hlc hlm hkn hkc hkm (fun hne => ⟨(hk hne).1, Nat.lt_of_lt_of_le (hk hne).2 hb.size⟩) ih

theorem TV.on {w w' : World} {v : Value} {t : Tm} (h : TV w v t) (hb : RowKit.Below w.heap.size w w') : TV w' v t := by
  cases h with
  | mk hl hln hlc hlm hkn hkc hkm hk kids => exact TV.mk (hl.below hb) hln hlc hlm hkn hkc hkm (fun hne => ⟨(hk hne).1, Nat.lt_of_lt_of_le (hk hne).2 hb.size⟩) (fun i t hi => (kids i t hi).on hb)

/-- a term in its cells, as a value -/
theorem TC.val {w : World} {b o : Nat} {t : Tm} (h : TC w b o t) : ∃ v0 v1 v2 v3 v4 v5, w.cell? ⟨b, o, none⟩ = some v0 ∧ w.cell? ⟨b, o + 1, none⟩ = some v1 ∧ w.cell? ⟨b, o + 2, none⟩ = some v2 ∧ w.cell? ⟨b, o + 3, none⟩ = some v3 ∧ w.cell? ⟨b, o + 4, none⟩ = some v4 ∧ w.cell? ⟨b, o + 5, none⟩ = some v5 ∧ TV w (.agg #[v0, v1, v2, v3, v4, v5]) t := by
  cases h with
  | mk c0 c1 c2 c3 c4 c5 hl hln hlc hlm hkn hkc hkm hk kids => exact ⟨_, _, _, _, _, _, c0, c1, c2, c3, c4, c5, TV.mk hl hln hlc hlm hkn hkc hkm hk kids⟩

/-- a term in its cells, as a value, each cell by its kind -/
theorem TC.valE {w : World} {b o : Nat} {t : Tm} (h : TC w b o t) : ∃ (v0 v1 : Int) (v2 : Bool) (v3 : ByteArray) (l1 : Option Addr) (l2 l3 : Nat) (k1 : Option Addr) (k2 k3 : Nat), w.cell? ⟨b, o, none⟩ = some (.int .i64 v0) ∧ w.cell? ⟨b, o + 1, none⟩ = some (.int .i64 v1) ∧ w.cell? ⟨b, o + 2, none⟩ = some (.bool v2) ∧ w.cell? ⟨b, o + 3, none⟩ = some (.string v3) ∧ w.cell? ⟨b, o + 4, none⟩ = some (.slice l1 l2 l3) ∧ w.cell? ⟨b, o + 5, none⟩ = some (.slice k1 k2 k3) ∧ TV w (.agg #[.int .i64 v0, .int .i64 v1, .bool v2, .string v3, .slice l1 l2 l3, .slice k1 k2 k3]) t := by
  cases h with
  | mk c0 c1 c2 c3 c4 c5 hl hln hlc hlm hkn hkc hkm hk kids => exact ⟨_, _, _, _, _, _, _, _, _, _, c0, c1, c2, c3, c4, c5, TV.mk hl hln hlc hlm hkn hkc hkm hk kids⟩

def Tm.form : Tm → Int | .mk f _ _ _ _ _ => f
def Tm.kids : Tm → List Tm | .mk _ _ _ _ _ ks => ks
def Tm.n : Tm → Int | .mk _ n _ _ _ _ => n
def Tm.hid : Tm → Bool | .mk _ _ h _ _ _ => h
def Tm.name : Tm → ByteArray | .mk _ _ _ nm _ _ => nm
def Tm.levels : Tm → List LvT | .mk _ _ _ _ ls _ => ls
end Go.Proofs.Ytmmbnimehmfadaa
