/- Terms with a footprint: a term that does not look into some blocks; rows of such terms that grow. -/
import Derived.Test.YtmmbnimehmfadaaOC
import Derived.Deep.AppendLies
namespace Go.Proofs.Ytmmbnimehmfadaa
open Go.RowKit Go.Sort

/-- the world with nothing in the blocks of P -/
def maskB (P : Nat → Bool) (w : World) : World := { w with heap := w.heap.mapIdx fun i o => if P i then .cells #[] 0 (0, 0) else o }

theorem maskB_size (P : Nat → Bool) (w : World) : (maskB P w).heap.size = w.heap.size := by simp [maskB]

theorem maskB_no {P : Nat → Bool} (w : World) {k : Nat} (h : P k = false) : (maskB P w).heap[k]? = w.heap[k]? := by
  simp only [maskB, Array.getElem?_mapIdx, h]
  cases w.heap[k]? <;> simp

theorem maskB_yes {P : Nat → Bool} (w : World) {k : Nat} (h : P k = true) (hk : k < w.heap.size) : (maskB P w).heap[k]? = some (.cells #[] 0 (0, 0)) := by
  simp only [maskB, Array.getElem?_mapIdx, h]
  simp [hk]

theorem maskB_cell {P : Nat → Bool} {w : World} {p : Addr} {v : Value} (h : (maskB P w).cell? p = some v) : P p.block = false ∧ w.cell? p = some v := by
  have hsp := World.cell?_spot h
  obtain ⟨b, o, sp⟩ := p
  simp only at hsp
  subst hsp
  by_cases hb : P b = true
  · exfalso
    have hlt : b < (maskB P w).heap.size := World.block_lt_of_cell? _ _ h
    rw [maskB_size] at hlt
    rw [cell_of_row _ b o _ _ _ (maskB_yes w hb hlt)] at h
    simp at h
  · have hb' : P b = false := by simpa using hb
    refine ⟨hb', ?_⟩
    rw [← h]
    exact (World.cell?_of_block (a := ⟨b, o, none⟩) (maskB_no w hb')).symm

theorem maskB_keeps {P Q : Nat → Bool} {w w' : World} (hk : ∀ k, k < w.heap.size → P k = false → Q k = false ∧ w'.heap[k]? = w.heap[k]?) (p : Addr) (v : Value) (h : (maskB P w).cell? p = some v) : (maskB Q w').cell? p = some v := by
  have hlt : p.block < (maskB P w).heap.size := World.block_lt_of_cell? _ _ h
  rw [maskB_size] at hlt
  obtain ⟨h1, h2⟩ := maskB_cell h
  obtain ⟨h3, h4⟩ := hk p.block hlt h1
  rw [World.cell?_of_block (maskB_no w' h3), World.cell?_of_block h4]
  exact h2

theorem SL.subF {w w' : World} {a : Option Addr} {xs : List (Int × Int)} (hs : w.heap.size ≤ w'.heap.size) (hc : ∀ p v, w.cell? p = some v → w'.cell? p = some v) (h : SL w a xs) : SL w' a xs := by
  rcases h with h | ⟨b, off, ha, hlt, h⟩
  · exact Or.inl h
  · exact Or.inr ⟨b, off, ha, by omega, fun i hi => ⟨hc _ _ (h i hi).1, hc _ _ (h i hi).2⟩⟩

theorem LN.subF {w w' : World} {a : Option Addr} {ls : List LvT} (hs : w.heap.size ≤ w'.heap.size) (hc : ∀ p v, w.cell? p = some v → w'.cell? p = some v) (h : LN w a ls) : LN w' a ls := by
  rcases h with h | ⟨b, off, ha, hlt, h⟩
  · exact Or.inl h
  · refine Or.inr ⟨b, off, ha, by omega, fun i n xs hi => ?_⟩
    obtain ⟨c0, a', cap', c1, hS, hn⟩ := h i n xs hi
    exact ⟨hc _ _ c0, a', cap', hc _ _ c1, hS.subF hs hc, hn⟩

theorem TC.subF {w w' : World} (hs : w.heap.size ≤ w'.heap.size) (hc : ∀ p v, w.cell? p = some v → w'.cell? p = some v) {b o : Nat} {t : Tm} (h : TC w b o t) : TC w' b o t := by
  induction h with
  | mk c0 c1 c2 c3 c4 c5 hl hln hlc hlm hkn hkc hkm hk kids ih => exact TC.mk (hc _ _ c0) (hc _ _ c1) (hc _ _ c2) (hc _ _ c3) (hc _ _ c4) (hc _ _ c5) (hl.subF hs hc) hln hlc hlm hkn hkc hkm (fun h => ⟨(hk h).1, Nat.lt_of_lt_of_le (hk h).2 hs⟩) ih

theorem TV.subF {w w' : World} (hs : w.heap.size ≤ w'.heap.size) (hc : ∀ p v, w.cell? p = some v → w'.cell? p = some v) {v : Value} {t : Tm} (h : TV w v t) : TV w' v t := by
  cases h with
  | mk hl hln hlc hlm hkn hkc hkm hk kids => exact TV.mk (hl.subF hs hc) hln hlc hlm hkn hkc hkm (fun h => ⟨(hk h).1, Nat.lt_of_lt_of_le (hk h).2 hs⟩) (fun i t hi => (kids i t hi).subF hs hc)

/-- the value v is t, and does not look into the blocks of P -/
def TF (w : World) (P : Nat → Bool) (v : Value) (t : Tm) : Prop := TV (maskB P w) v t

theorem TF.move {w w' : World} {P Q : Nat → Bool} {v : Value} {t : Tm} (h : TF w P v t) (hs : w.heap.size ≤ w'.heap.size) (hk : ∀ k, k < w.heap.size → P k = false → Q k = false ∧ w'.heap[k]? = w.heap[k]?) : TF w' Q v t :=
  TV.subF (by rw [maskB_size, maskB_size]; exact hs) (maskB_keeps hk) h

theorem TF.tv {w : World} {P : Nat → Bool} {v : Value} {t : Tm} (h : TF w P v t) : TV w v t :=
  TV.subF (by rw [maskB_size]; exact Nat.le_refl _) (fun _ _ hc => (maskB_cell hc).2) h

/-- what lies ahead of the blocks of P does not look into them -/
theorem TV.tf {w : World} {P : Nat → Bool} {v : Value} {t : Tm} (h : TV w v t) (hP : ∀ k, k < w.heap.size → P k = false) : TF w P v t :=
  TV.subF (by rw [maskB_size]; exact Nat.le_refl _) (fun p v hc => by
    rw [World.cell?_of_block (maskB_no w (hP p.block (World.block_lt_of_cell? _ _ hc)))]; exact hc) h

theorem TF.on {w w' : World} {P : Nat → Bool} {v : Value} {t : Tm} (h : TF w P v t) (hb : RowKit.Below w.heap.size w w') : TF w' P v t :=
  h.move hb.size fun k hk hp => ⟨hp, hb.block k hk⟩

/-- is k the block of a row? -/
def ownB (a : Option Addr) (k : Nat) : Bool := match a with
  | some ad => ad.block == k
  | none => false

theorem ownB_none {a : Option Addr} {k n cap : Nat} (h : ownB a k = false) : some k ≠ (Value.slice a n cap).ownBlock := by
  cases a with
  | none => simp [Value.ownBlock]
  | some ad => simp only [ownB] at h; simp [Value.ownBlock]; intro e; rw [e] at h; simp at h

/-- a row of terms of the call's own, which do not look into it, nor into the blocks of P -/
structure RowF (w : World) (B : Nat) (P : Nat → Bool) (a : Option Addr) (cap : Nat) (ts : List Tm) : Prop where
  go : ∃ (xs : List Value) (kvs : Nat → Value), w.ownsRow B 26 6 (.slice a ts.length cap) ts.length xs ∧ ∀ j t, ts[j]? = some t → SixAt xs (j * 6) (kvs j) ∧ TF w (fun k => P k || ownB a k) (kvs j) t

theorem RowF.move {w w' : World} {B cap : Nat} {P : Nat → Bool} {a : Option Addr} {ts : List Tm} (h : RowF w B P a cap ts) (hB : ∀ k, B ≤ k → P k = false) (hs : w.heap.size ≤ w'.heap.size) (hk : ∀ k, k < w.heap.size → P k = false → w'.heap[k]? = w.heap[k]?) : RowF w' B P a cap ts := by
  obtain ⟨xs, kvs, hown, hkv⟩ := h.go
  refine ⟨xs, kvs, owns_block hown fun g hg => ?_, fun j t hj => ⟨(hkv j t hj).1, (hkv j t hj).2.move hs fun k h1 h2 => ⟨h2, hk k h1 ?_⟩⟩⟩
  · subst hg
    obtain ⟨h1, h2⟩ := World.ownsRow.lt hown g rfl
    exact hk g h2 (hB g h1)
  · rw [Bool.or_eq_false_iff] at h2; exact h2.1

theorem RowF.on {w w' : World} {B cap : Nat} {P : Nat → Bool} {a : Option Addr} {ts : List Tm} (h : RowF w B P a cap ts) (hB : ∀ k, B ≤ k → P k = false) (hb : RowKit.Below w.heap.size w w') : RowF w' B P a cap ts := h.move hB hb.size fun k hk _ => hb.block k hk

/-- one more -/
theorem RowF.snoc {w w' : World} {B cap cap' g : Nat} {P : Nat → Bool} {a : Option Addr} {ts : List Tm} {xs : List Value} {kvs : Nat → Value} {t : Tm} {v0 v1 : Int} {v2 : Bool} {v3 : ByteArray} {l1 : Option Addr} {l2 l3 : Nat} {k1 : Option Addr} {k2 k3 : Nat} (hkv : ∀ j t, ts[j]? = some t → SixAt xs (j * 6) (kvs j) ∧ TF w (fun k => P k || ownB a k) (kvs j) t) (hl : xs.length = ts.length * 6)
    (hown : w'.ownsRow B 26 6 (.slice (some ⟨g, 0, none⟩) (ts.length + 1) cap') (ts.length + 1) (xs ++ [.int .i64 v0, .int .i64 v1, .bool v2, .string v3, .slice l1 l2 l3, .slice k1 k2 k3])) (hgr : w.grownBy w' (Value.slice a ts.length cap).ownBlock) (hat : (Value.slice a ts.length cap).ownBlock = some g ∨ g = w.heap.size)
    (hnew : TF w (fun k => P k || ownB a k) (.agg #[.int .i64 v0, .int .i64 v1, .bool v2, .string v3, .slice l1 l2 l3, .slice k1 k2 k3]) t) : RowF w' B P (some ⟨g, 0, none⟩) cap' (ts ++ [t]) := by
  have hmv : ∀ k, k < w.heap.size → (P k || ownB a k) = false → (P k || ownB (some ⟨g, 0, none⟩) k) = false ∧ w'.heap[k]? = w.heap[k]? := by
    intro k hk hp
    rw [Bool.or_eq_false_iff] at hp
    refine ⟨?_, hgr.block k hk (ownB_none hp.2)⟩
    rw [Bool.or_eq_false_iff]
    refine ⟨hp.1, ?_⟩
    simp only [ownB, beq_eq_false_iff_ne]
    rcases hat with hat | hat
    · intro e
      exact ownB_none hp.2 (by rw [← e, hat])
    · omega
  refine ⟨_, fun j => if j < ts.length then kvs j else (.agg #[.int .i64 v0, .int .i64 v1, .bool v2, .string v3, .slice l1 l2 l3, .slice k1 k2 k3]), by rw [List.length_append]; exact hown, fun j t' hj => ?_⟩
  by_cases h : j < ts.length
  · rw [List.getElem?_append_left h] at hj
    simp only [h, if_true]
    exact ⟨(hkv j t' hj).1.left (by rw [hl]; omega), (hkv j t' hj).2.move hgr.size hmv⟩
  · obtain rfl : j = ts.length := by
      have := (List.getElem?_eq_some_iff.1 hj).1; simp at this; omega
    simp only [List.getElem?_concat_length, Option.some.injEq] at hj
    subst hj
    simp only [Nat.lt_irrefl, if_false]
    refine ⟨⟨v0, v1, v2, v3, l1, l2, l3, k1, k2, k3, rfl, ?_, ?_, ?_, ?_, ?_, ?_⟩, hnew.move hgr.size hmv⟩
    all_goals rw [List.getElem?_append_right (by omega), hl]
    · rw [Nat.sub_self]; rfl
    · rw [Nat.add_sub_cancel_left]; rfl
    · rw [Nat.add_sub_cancel_left]; rfl
    · rw [Nat.add_sub_cancel_left]; rfl
    · rw [Nat.add_sub_cancel_left]; rfl
    · rw [Nat.add_sub_cancel_left]; rfl

/-- append of one term onto a row of the call's own -/
theorem wpList_appF {w : World} {ops : Array Oper} {rest : List Oper} {o : Oper} {a : Act} {Q : Exit → Act → World → Prop} (hgd : o.guard = none) (s x : Operand) (ho : o.op = .call { callee := .builtin .append, args := #[s, x], argTypes := #[24, 24] })
    (B : Nat) (v : Value) (n : Nat) (xs news : List Value) (b c1 : Nat) (hs : a.eval s = v) (hx : a.eval x = .slice (some ⟨b, 0, none⟩) 1 c1) (hO : w.ownsRow B 26 6 v n xs) (hl : news.length = 6) (hnews : ∀ j u, news[j]? = some u → w.cell? ((⟨b, 0, none⟩ : Addr).add j) = some u) (h1 : ∀ u ∈ news, u.oneCell' = true) (hlen : n ≤ 1500000000000) (hB : B ≤ w.heap.size)
    (h : ∀ g cap w', w'.ownsRow B 26 6 (.slice (some ⟨g, 0, none⟩) (n + 1) cap) (n + 1) (xs ++ news) → w.grownBy w' v.ownBlock → (v.ownBlock = some g ∨ g = w.heap.size) → wpList Try.prog ops Q rest (a.put o.dst (.slice (some ⟨g, 0, none⟩) (n + 1) cap)) w') : wpList Try.prog ops Q (o :: rest) a w := by
  obtain ⟨i0, hi, hz0, hz1, hz2⟩ := info_parts infoTerm
  refine wpList_append_lies _ hgd s x 24 ho B 26 i0 _ 6 88 Try.underlying24 hi hz0 hz1 hz2 rfl (by decide) v n xs hs hO _ 1 c1 news hx hl hnews h1 (by decide) (by simp [maxLen]; omega) (by omega) hB _ rfl ?_
  intro g cap w' hown hgr hat _
  exact h g cap w' hown hgr hat
end Go.Proofs.Ytmmbnimehmfadaa
