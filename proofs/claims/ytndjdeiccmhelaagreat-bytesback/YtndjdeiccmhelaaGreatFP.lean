/- Terms with a footprint: a term that does not look into some blocks; rows of such terms that grow. -/
import Derived.Test.YtndjdeiccmhelaaGreatCD
import Derived.Deep.AppendLies
import Derived.Test.YtndjdeiccmhelaaGreatCA
import Derived.Test.YtndjdeiccmhelaaGreatPA
namespace Go.Proofs.YtndjdeiccmhelaaGreat
open Go.RowKit Go.Sort

/-- the world with nothing in the blocks of P -/
def maskB (P : Nat → Bool) (w : World) : World := { w with heap := w.heap.mapIdx fun i o => if P i then .cells #[] 0 (0, 0) else o }

theorem maskB_size (P : Nat → Bool) (w : World) : (maskB P w).heap.size = w.heap.size := by simp [maskB]

theorem maskB_no {P : Nat → Bool} (w : World) {k : Nat} (h : P k = false) : (maskB P w).heap[k]? = w.heap[k]? := by
  simp only [maskB, Array.getElem?_mapIdx, h]
  cases w.heap[k]? <;> simp

theorem maskB_yes {P : Nat → Bool} (w : World) {k : Nat} (h : P k = true) (hk : k < w.heap.size) : (maskB P w).heap[k]? = some (.cells #[] 0 (0, 0)) := by
  simp only [maskB, Array.getElem?_mapIdx, h]
  simp [hk]

theorem maskB_cell {P : Nat → Bool} {w : World} {p : Addr} {v : Value} (h : (maskB P w).cell? p = some v) : P p.block = false ∧ w.cell? p = some v := by
  have hsp := World.cell?_spot h
  obtain ⟨b, o, sp⟩ := p
  simp only at hsp
  subst hsp
  by_cases hb : P b = true
  · exfalso
    have hlt : b < (maskB P w).heap.size := World.block_lt_of_cell? _ _ h
    rw [maskB_size] at hlt
    rw [cell_of_row _ b o _ _ _ (maskB_yes w hb hlt)] at h
    simp at h
  · have hb' : P b = false := by simpa using hb
    refine ⟨hb', ?_⟩
    rw [← h]
    exact (World.cell?_of_block (a := ⟨b, o, none⟩) (maskB_no w hb')).symm

theorem maskB_keeps {P Q : Nat → Bool} {w w' : World} (hk : ∀ k, k < w.heap.size → P k = false → Q k = false ∧ w'.heap[k]? = w.heap[k]?) (p : Addr) (v : Value) (h : (maskB P w).cell? p = some v) : (maskB Q w').cell? p = some v := by
  have hlt : p.block < (maskB P w).heap.size := World.block_lt_of_cell? _ _ h
  rw [maskB_size] at hlt
  obtain ⟨h1, h2⟩ := maskB_cell h
  obtain ⟨h3, h4⟩ := hk p.block hlt h1
  rw [World.cell?_of_block (maskB_no w' h3), World.cell?_of_block h4]
  exact h2

theorem SL.subF {w w' : World} {a : Option Addr} {xs : List (Int × Int)} (hs : w.heap.size ≤ w'.heap.size) (hc : ∀ p v, w.cell? p = some v → w'.cell? p = some v) (h : SL w a xs) : SL w' a xs := by
  rcases h with h | ⟨b, off, ha, hlt, h⟩
  · exact Or.inl h
  · exact Or.inr ⟨b, off, ha, by omega, fun i hi => ⟨hc _ _ (h i hi).1, hc _ _ (h i hi).2⟩⟩

theorem LN.subF {w w' : World} {a : Option Addr} {ls : List LvT} (hs : w.heap.size ≤ w'.heap.size) (hc : ∀ p v, w.cell? p = some v → w'.cell? p = some v) (h : LN w a ls) : LN w' a ls := by
  rcases h with h | ⟨b, off, ha, hlt, h⟩
  · exact Or.inl h
  · refine Or.inr ⟨b, off, ha, by omega, fun i n xs hi => ?_⟩
    obtain ⟨c0, a', cap', c1, hS, hn⟩ := h i n xs hi
    exact ⟨hc _ _ c0, a', cap', hc _ _ c1, hS.subF hs hc, hn⟩

theorem TC.subF {w w' : World} (hs : w.heap.size ≤ w'.heap.size) (hc : ∀ p v, w.cell? p = some v → w'.cell? p = some v) {b o : Nat} {t : Tm} (h : TC w b o t) : TC w' b o t := by
  induction h with
  | mk c0 c1 c2 c3 c4 c5 hl hln hlc hlm hkn hkc hkm hk kids ih => exact TC.mk (hc _ _ c0) (hc _ _ c1) (hc _ _ c2) (hc _ _ c3) (hc _ _ c4) (hc _ _ c5) (hl.subF hs hc) hln hlc hlm hkn hkc hkm (fun h => ⟨(hk h).1, Nat.lt_of_lt_of_le (hk h).2 hs⟩) ih

theorem TV.subF {w w' : World} (hs : w.heap.size ≤ w'.heap.size) (hc : ∀ p v, w.cell? p = some v → w'.cell? p = some v) {v : Value} {t : Tm} (h : TV w v t) : TV w' v t := by
  cases h with
  | mk hl hln hlc hlm hkn hkc hkm hk kids => exact TV.mk (hl.subF hs hc) hln hlc hlm hkn hkc hkm (fun h => ⟨(hk h).1, Nat.lt_of_lt_of_le (hk h).2 hs⟩) (fun i t hi => (kids i t hi).subF hs hc)

/-- the value v is t, and does not look into the blocks of P -/
def TF (w : World) (P : Nat → Bool) (v : Value) (t : Tm) : Prop := TV (maskB P w) v t

theorem TF.move {w w' : World} {P Q : Nat → Bool} {v : Value} {t : Tm} (h : TF w P v t) (hs : w.heap.size ≤ w'.heap.size) (hk : ∀ k, k < w.heap.size → P k = false → Q k = false ∧ w'.heap[k]? = w.heap[k]?) : TF w' Q v t :=
  TV.subF (by rw [maskB_size, maskB_size]; exact hs) (maskB_keeps hk) h

theorem TF.tv {w : World} {P : Nat → Bool} {v : Value} {t : Tm} (h : TF w P v t) : TV w v t :=
  TV.subF (by rw [maskB_size]; exact Nat.le_refl _) (fun _ _ hc => (maskB_cell hc).2) h

/-- what lies ahead of the blocks of P does not look into them -/
theorem TV.tf {w : World} {P : Nat → Bool} {v : Value} {t : Tm} (h : TV w v t) (hP : ∀ k, k < w.heap.size → P k = false) : TF w P v t :=
  TV.subF (by rw [maskB_size]; exact Nat.le_refl _) (fun p v hc => by
    rw [World.cell?_of_block (maskB_no w (hP p.block (World.block_lt_of_cell? _ _ hc)))]; exact hc) h

theorem TF.on {w w' : World} {P : Nat → Bool} {v : Value} {t : Tm} (h : TF w P v t) (hb : RowKit.Below w.heap.size w w') : TF w' P v t :=
  h.move hb.size fun k hk hp => ⟨hp, hb.block k hk⟩

/-- is k the block of a row? -/
def ownB (a : Option Addr) (k : Nat) : Bool := match a with
  | some ad => ad.block == k
  | none => false

theorem ownB_none {a : Option Addr} {k n cap : Nat} (h : ownB a k = false) : some k ≠ (Value.slice a n cap).ownBlock := by
  cases a with
  | none => simp [Value.ownBlock]
  | some ad => simp only [ownB] at h; simp [Value.ownBlock]; intro e; rw [e] at h; simp at h

/-- a row of terms of the call's own, which do not look into it, nor into the blocks of P -/
structure RowF (w : World) (B : Nat) (P : Nat → Bool) (a : Option Addr) (cap : Nat) (ts : List Tm) : Prop where
  go : ∃ (xs : List Value) (kvs : Nat → Value), w.ownsRow B 38 6 (.slice a ts.length cap) ts.length xs ∧ ∀ j t, ts[j]? = some t → SixAt xs (j * 6) (kvs j) ∧ TF w (fun k => P k || ownB a k) (kvs j) t

theorem RowF.nil (w : World) (B : Nat) (P : Nat → Bool) : RowF w B P none 0 [] := ⟨[], fun _ => .bool false, World.ownsRow_nil _ _ _ _, fun j t h => by simp at h⟩

theorem RowF.move {w w' : World} {B cap : Nat} {P : Nat → Bool} {a : Option Addr} {ts : List Tm} (h : RowF w B P a cap ts) (hB : ∀ k, B ≤ k → P k = false) (hs : w.heap.size ≤ w'.heap.size) (hk : ∀ k, k < w.heap.size → P k = false → w'.heap[k]? = w.heap[k]?) : RowF w' B P a cap ts := by
  obtain ⟨xs, kvs, hown, hkv⟩ := h.go
  refine ⟨xs, kvs, owns_block hown fun g hg => ?_, fun j t hj => ⟨(hkv j t hj).1, (hkv j t hj).2.move hs fun k h1 h2 => ⟨h2, hk k h1 ?_⟩⟩⟩
  · subst hg
    obtain ⟨h1, h2⟩ := World.ownsRow.lt hown g rfl
    exact hk g h2 (hB g h1)
  · rw [Bool.or_eq_false_iff] at h2; exact h2.1

theorem RowF.on {w w' : World} {B cap : Nat} {P : Nat → Bool} {a : Option Addr} {ts : List Tm} (h : RowF w B P a cap ts) (hB : ∀ k, B ≤ k → P k = false) (hb : RowKit.Below w.heap.size w w') : RowF w' B P a cap ts := h.move hB hb.size fun k hk _ => hb.block k hk

/-- one more -/
theorem RowF.snoc {w w' : World} {B cap cap' g : Nat} {P : Nat → Bool} {a : Option Addr} {ts : List Tm} {xs : List Value} {kvs : Nat → Value} {t : Tm} {v0 v1 : Int} {v2 : Bool} {v3 : ByteArray} {l1 : Option Addr} {l2 l3 : Nat} {k1 : Option Addr} {k2 k3 : Nat} (hkv : ∀ j t, ts[j]? = some t → SixAt xs (j * 6) (kvs j) ∧ TF w (fun k => P k || ownB a k) (kvs j) t) (hl : xs.length = ts.length * 6)
    (hown : w'.ownsRow B 38 6 (.slice (some ⟨g, 0, none⟩) (ts.length + 1) cap') (ts.length + 1) (xs ++ [.int .i64 v0, .int .i64 v1, .bool v2, .string v3, .slice l1 l2 l3, .slice k1 k2 k3])) (hgr : w.grownBy w' (Value.slice a ts.length cap).ownBlock) (hat : (Value.slice a ts.length cap).ownBlock = some g ∨ g = w.heap.size)
    (hnew : TF w (fun k => P k || ownB a k) (.agg #[.int .i64 v0, .int .i64 v1, .bool v2, .string v3, .slice l1 l2 l3, .slice k1 k2 k3]) t) : RowF w' B P (some ⟨g, 0, none⟩) cap' (ts ++ [t]) := by
  have hmv : ∀ k, k < w.heap.size → (P k || ownB a k) = false → (P k || ownB (some ⟨g, 0, none⟩) k) = false ∧ w'.heap[k]? = w.heap[k]? := by
    intro k hk hp
    rw [Bool.or_eq_false_iff] at hp
    refine ⟨?_, hgr.block k hk (ownB_none hp.2)⟩
    rw [Bool.or_eq_false_iff]
    refine ⟨hp.1, ?_⟩
    simp only [ownB, beq_eq_false_iff_ne]
    rcases hat with hat | hat
    · intro e
      exact ownB_none hp.2 (by rw [← e, hat])
    · omega
  refine ⟨_, fun j => if j < ts.length then kvs j else (.agg #[.int .i64 v0, .int .i64 v1, .bool v2, .string v3, .slice l1 l2 l3, .slice k1 k2 k3]), by rw [List.length_append]; exact hown, fun j t' hj => ?_⟩
  by_cases h : j < ts.length
  · rw [List.getElem?_append_left h] at hj
    simp only [h, if_true]
    exact ⟨(hkv j t' hj).1.left (by rw [hl]; omega), (hkv j t' hj).2.move hgr.size hmv⟩
  · obtain rfl : j = ts.length := by
      have := (List.getElem?_eq_some_iff.1 hj).1; simp at this; omega
    simp only [List.getElem?_concat_length, Option.some.injEq] at hj
    subst hj
    simp only [Nat.lt_irrefl, if_false]
    refine ⟨⟨v0, v1, v2, v3, l1, l2, l3, k1, k2, k3, rfl, ?_, ?_, ?_, ?_, ?_, ?_⟩, hnew.move hgr.size hmv⟩
    all_goals rw [List.getElem?_append_right (by omega), hl]
    · rw [Nat.sub_self]; rfl
    · rw [Nat.add_sub_cancel_left]; rfl
    · rw [Nat.add_sub_cancel_left]; rfl
    · rw [Nat.add_sub_cancel_left]; rfl
    · rw [Nat.add_sub_cancel_left]; rfl
    · rw [Nat.add_sub_cancel_left]; rfl

/-- the row as the kids of a term -/
theorem RowF.done {w : World} {B cap : Nat} {P : Nat → Bool} {a : Option Addr} {ts : List Tm} (h : RowF w B P a cap ts) (hB : ∀ k, B ≤ k → P k = false) {f n : Int} {hd : Bool} {nm : ByteArray} {la : Option Addr} {lc : Nat} {ls : List LvT} (hl : LN (maskB P w) la ls) (hln : la = none → lc = 0) (hlc : ls.length ≤ lc) (hlm : lc ≤ 9223372036854775807) :
    TF w P (.agg #[.int .i64 f, .int .i64 n, .bool hd, .string nm, .slice la ls.length lc, .slice a ts.length cap]) (.mk f n hd nm ls ts) := by
  obtain ⟨xs, kvs, hown, hkv⟩ := h.go
  obtain ⟨a', cap', e, hc, hm, hn, hg⟩ := owns_shape hown
  simp only [Value.slice.injEq, true_and] at e
  obtain ⟨rfl, rfl⟩ := e
  have hsub : ∀ p v, (maskB (fun k => P k || ownB a k) w).cell? p = some v → (maskB P w).cell? p = some v := maskB_keeps fun k _ hp => ⟨by rw [Bool.or_eq_false_iff] at hp; exact hp.1, rfl⟩
  cases a with
  | none =>
    have h0 : ts = [] := List.length_eq_zero_iff.1 (hn rfl).1
    subst h0
    exact TV.mk (kb := 0) (ko := 0) hl hln hlc hlm (fun _ => (hn rfl).2) hc hm (fun h => absurd rfl h) (fun i t hi => by simp at hi)
  | some ad =>
    obtain ⟨g, rfl, hg1, hg2⟩ := hg ad rfl
    refine TV.mk (kb := g) (ko := 0) hl hln hlc hlm (fun e => by cases e) hc hm (fun _ => ⟨rfl, by rw [maskB_size]; exact hg2⟩) (fun i t hi => ?_)
    have hi' : i < ts.length := (List.getElem?_eq_some_iff.1 hi).1
    obtain ⟨h6, htf⟩ := hkv i t hi
    have hca : CellsAt (maskB P w) g (i * 6) (kvs i) := by
      have hca := h6.cells hown (by omega)
      obtain ⟨v0, v1, v2, v3, l1, l2, l3, k1, k2, k3, hv, c0, c1, c2, c3, c4, c5⟩ := hca
      have hc : ∀ o, (maskB P w).cell? ⟨g, o, none⟩ = w.cell? ⟨g, o, none⟩ := fun o => World.cell?_of_block (maskB_no w (hB g hg1))
      exact ⟨v0, v1, v2, v3, l1, l2, l3, k1, k2, k3, hv, (hc _).trans c0, (hc _).trans c1, (hc _).trans c2, (hc _).trans c3, (hc _).trans c4, (hc _).trans c5⟩
    have htv : TV (maskB P w) (kvs i) t := TV.subF (by rw [maskB_size, maskB_size]; exact Nat.le_refl _) hsub htf
    rw [Nat.zero_add]
    exact hca.tc htv

/-- append of one term onto a row of the call's own -/
theorem wpList_appF {w : World} {ops : Array Oper} {rest : List Oper} {o : Oper} {a : Act} {Q : Exit → Act → World → Prop} (hgd : o.guard = none) (s x : Operand) (ho : o.op = .call { callee := .builtin .append, args := #[s, x], argTypes := #[36, 36] })
    (B : Nat) (v : Value) (n : Nat) (xs news : List Value) (b c1 : Nat) (hs : a.eval s = v) (hx : a.eval x = .slice (some ⟨b, 0, none⟩) 1 c1) (hO : w.ownsRow B 38 6 v n xs) (hl : news.length = 6) (hnews : ∀ j u, news[j]? = some u → w.cell? ((⟨b, 0, none⟩ : Addr).add j) = some u) (h1 : ∀ u ∈ news, u.oneCell' = true) (hlen : n ≤ 1500000000000) (hB : B ≤ w.heap.size)
    (h : ∀ g cap w', w'.ownsRow B 38 6 (.slice (some ⟨g, 0, none⟩) (n + 1) cap) (n + 1) (xs ++ news) → w.grownBy w' v.ownBlock → (v.ownBlock = some g ∨ g = w.heap.size) → wpList Tryz.prog ops Q rest (a.put o.dst (.slice (some ⟨g, 0, none⟩) (n + 1) cap)) w') : wpList Tryz.prog ops Q (o :: rest) a w := by
  obtain ⟨i0, hi, hz0, hz1, hz2⟩ := info_parts infoTerm
  refine wpList_append_lies _ hgd s x 36 ho B 38 i0 _ 6 88 Tryz.underlying36 hi hz0 hz1 hz2 rfl (by decide) v n xs hs hO _ 1 c1 news hx hl hnews h1 (by decide) (by simp [maxLen]; omega) (by omega) hB _ rfl ?_
  intro g cap w' hown hgr hat _
  exact h g cap w' hown hgr hat
end Go.Proofs.YtndjdeiccmhelaaGreat

/- The contract of telamonref1.lift. -/
namespace Go.Proofs.YtndjdeiccmhelaaGreat
open Go.RowKit Go.Sort

mutual
/-- the reference's lift, as plain data -/
def rliftT (by_ : Int) : Tm → Int → Tm
  | .mk f n h nm ls ks, fr => if f = 1 ∧ fr ≤ n then .mk f (n + by_) h nm ls ks else .mk f n h nm ls (rliftTs by_ f ks 0 fr)
def rliftTs (by_ f : Int) : List Tm → Nat → Int → List Tm
  | [], _, _ => []
  | k :: ks, i, fr => rliftT by_ k (deepR f fr i) :: rliftTs by_ f ks (i + 1) fr
end

theorem rliftTs_len (by_ f : Int) : ∀ (ks : List Tm) (i : Nat) (fr : Int), (rliftTs by_ f ks i fr).length = ks.length
  | [], _, _ => by rw [rliftTs]
  | k :: ks, i, fr => by rw [rliftTs, List.length_cons, rliftTs_len by_ f ks, List.length_cons]

theorem rliftTs_append (by_ f : Int) : ∀ (xs ys : List Tm) (i : Nat) (fr : Int), rliftTs by_ f (xs ++ ys) i fr = rliftTs by_ f xs i fr ++ rliftTs by_ f ys (i + xs.length) fr
  | [], ys, i, fr => by simp [rliftTs]
  | x :: xs, ys, i, fr => by
    rw [List.cons_append, rliftTs, rliftTs, rliftTs_append by_ f xs ys (i + 1) fr, List.length_cons, show i + 1 + xs.length = i + (xs.length + 1) by omega]; rfl

theorem rliftTs_take {by_ f : Int} {ks : List Tm} {j : Nat} {k : Tm} {fr : Int} (h : ks[j]? = some k) : rliftTs by_ f (ks.take (j + 1)) 0 fr = rliftTs by_ f (ks.take j) 0 fr ++ [rliftT by_ k (deepR f fr j)] := by
  obtain ⟨hj, rfl⟩ := List.getElem?_eq_some_iff.1 h
  rw [List.take_succ_eq_append_getElem hj, rliftTs_append, List.length_take, Nat.min_eq_left (Nat.le_of_lt hj), Nat.zero_add, rliftTs, rliftTs]

/-- the blocks that a call writes itself, besides those of P -/
def andXY (P : Nat → Bool) (X : Nat) (k : Nat) : Bool := P k || (k == X || k == X + 1)

theorem andXY_old {P : Nat → Bool} {X k : Nat} (h : P k = false) (hk : k < X) : andXY P X k = false := by
  unfold andXY; rw [h]; simp; omega
theorem andXY_new {P : Nat → Bool} {X : Nat} (hP : ∀ k, X ≤ k → P k = false) (k : Nat) (hk : X + 2 ≤ k) : andXY P X k = false := by
  unfold andXY; rw [hP k (by omega)]; simp; omega

theorem TF.sub {w : World} {P Q : Nat → Bool} {v : Value} {t : Tm} (h : TF w P v t) (hPQ : ∀ k, P k = false → Q k = false) : TF w Q v t := h.move (Nat.le_refl _) fun k _ hp => ⟨hPQ k hp, rfl⟩

/-- a kid of a term with a footprint, in a later world -/
theorem kid_tf {w w' : World} {P Q : Nat → Bool} {kb o : Nat} {t : Tm} (h : TC (maskB P w) kb o t) (hs : w.heap.size ≤ w'.heap.size) (hk : ∀ k, k < w.heap.size → P k = false → Q k = false ∧ w'.heap[k]? = w.heap[k]?) : ∃ (v0 v1 : Int) (v2 : Bool) (v3 : ByteArray) (l1 : Option Addr) (l2 l3 : Nat) (k1 : Option Addr) (k2 k3 : Nat), w'.cell? ⟨kb, o, none⟩ = some (.int .i64 v0) ∧ w'.cell? ⟨kb, o + 1, none⟩ = some (.int .i64 v1) ∧ w'.cell? ⟨kb, o + 2, none⟩ = some (.bool v2) ∧ w'.cell? ⟨kb, o + 3, none⟩ = some (.string v3) ∧ w'.cell? ⟨kb, o + 4, none⟩ = some (.slice l1 l2 l3) ∧ w'.cell? ⟨kb, o + 5, none⟩ = some (.slice k1 k2 k3) ∧ TF w' Q (.agg #[.int .i64 v0, .int .i64 v1, .bool v2, .string v3, .slice l1 l2 l3, .slice k1 k2 k3]) t := by
  have h' : TC (maskB Q w') kb o t := h.subF (by rw [maskB_size, maskB_size]; exact hs) (maskB_keeps hk)
  obtain ⟨v0, v1, v2, v3, l1, l2, l3, k1, k2, k3, c0, c1, c2, c3, c4, c5, hv⟩ := h'.valE
  exact ⟨v0, v1, v2, v3, l1, l2, l3, k1, k2, k3, (maskB_cell c0).2, (maskB_cell c1).2, (maskB_cell c2).2, (maskB_cell c3).2, (maskB_cell c4).2, (maskB_cell c5).2, hv⟩

theorem TF.setN {w : World} {P : Nat → Bool} {f n n' : Int} {h : Bool} {nm : ByteArray} {lv kv : Value} {ls : List LvT} {ks : List Tm} (hT : TF w P (.agg #[.int .i64 f, .int .i64 n, .bool h, .string nm, lv, kv]) (.mk f n h nm ls ks)) : TF w P (.agg #[.int .i64 f, .int .i64 n', .bool h, .string nm, lv, kv]) (.mk f n' h nm ls ks) := by
  cases hT with
  | mk hl hln hlc hlm hkn hkc hkm hk kids => exact TV.mk hl hln hlc hlm hkn hkc hkm hk kids

theorem row_block {w : World} {B cap n : Nat} {a : Option Addr} {xs : List Value} (h : w.ownsRow B 38 6 (.slice a n cap) n xs) {k : Nat} (hk : ownB a k = true) : B ≤ k ∧ k < w.heap.size := by
  cases a with
  | none => simp [ownB] at hk
  | some ad =>
    obtain ⟨_, _, e, -, -, -, hg⟩ := owns_shape h
    simp only [Value.slice.injEq, true_and] at e
    obtain ⟨rfl, rfl⟩ := e
    obtain ⟨g, rfl, h1, h2⟩ := hg ad rfl
    simp [ownB] at hk
    omega

end Go.Proofs.YtndjdeiccmhelaaGreat

/- The reference's lift and Clean as plain data: what they make is what the code makes. -/
namespace Go.Proofs.YtndjdeiccmhelaaGreat
open Go.RowKit Go.Sort

mutual
/-- a term with zero in each field that its form does not have -/
def cleanT : Tm → Tm
  | .mk f n h nm ls ks => .mk f (if f = 1 ∨ f = 11 then n else 0) (if f = 3 ∨ f = 4 ∨ f = 5 then h else false) (if f = 10 then nm else ByteArray.empty) (if f = 2 ∨ f = 10 then ls else []) (cleanTs ks)
def cleanTs : List Tm → List Tm
  | [] => []
  | k :: ks => cleanT k :: cleanTs ks
end

theorem cleanTs_map : ∀ ks : List Tm, cleanTs ks = ks.map cleanT
  | [] => by rw [cleanTs]; rfl
  | k :: ks => by rw [cleanTs, cleanTs_map ks]; rfl

theorem clean_mk (f n : Int) (h : Bool) (nm : ByteArray) (ls : List LvT) (ks : List Tm) : cleanT (.mk f n h nm ls ks) = .mk f (if f = 1 ∨ f = 11 then n else 0) (if f = 3 ∨ f = 4 ∨ f = 5 then h else false) (if f = 10 then nm else ByteArray.empty) (if f = 2 ∨ f = 10 then ls else []) (ks.map cleanT) := by rw [cleanT, cleanTs_map]

theorem clean_form (t : Tm) : (cleanT t).form = t.form := by cases t; rw [clean_mk]; rfl

theorem clean_size (t : Tm) : sizeT (cleanT t) = sizeT t := by
  refine Tm.ind (P := fun t => sizeT (cleanT t) = sizeT t) ?_ t
  intro f n hd nm ls ks ih
  rw [clean_mk, sizeT_mk, sizeT_mk, List.map_map]
  congr 2
  exact List.map_congr_left fun k hk => ih k hk

theorem clean_high (t : Tm) : heightT (cleanT t) = heightT t := by
  refine Tm.ind (P := fun t => heightT (cleanT t) = heightT t) ?_ t
  intro f n hd nm ls ks ih
  rw [clean_mk, heightT_mk, heightT_mk, List.map_map]
  congr 2
  exact List.map_congr_left fun k hk => ih k hk

theorem clean_fields (t : Tm) : fieldsB (cleanT t) = fieldsB t := by
  cases t with
  | mk f n h nm ls ks =>
    rw [clean_mk]
    unfold fieldsB
    by_cases h1 : f = 1 ∨ f = 11
    · simp only [h1, if_true]
    · by_cases h7 : f = 7
      · subst h7
        simp only [h1, if_false, if_true]
        cases ks with
        | nil => rfl
        | cons k ks => simp only [List.map_cons]; rw [clean_form]
      · by_cases h2 : f = 2
        · subst h2; simp
        · by_cases h10 : f = 10
          · subst h10; simp
          · simp only [h1, h7, h2, h10, if_false, or_self]

theorem clean_formed (t : Tm) : formedB (cleanT t) = formedB t := by
  refine Tm.ind (P := fun t => formedB (cleanT t) = formedB t) ?_ t
  intro f n hd nm ls ks ih
  have hf := clean_fields (.mk f n hd nm ls ks)
  rw [clean_mk] at hf ⊢
  rw [formedB_mk, formedB_mk]
  unfold judB
  rw [hf]
  congr 1
  · simp only [Tm.kids, Tm.form, List.length_map]
    first | rfl | congr
  · rw [List.all_map]
    clear hf
    induction ks with
    | nil => rfl
    | cons k ks ihk => simp only [List.all_cons, Function.comp]; rw [ih k (by simp), ihk (fun k' hk' => ih k' (by simp [hk']))]

theorem clean_check (t : Tm) : checkT (cleanT t) = checkT t := by
  unfold checkT; rw [clean_size, clean_high, clean_formed]

theorem smT_clean (m : Nat) (t : Tm) : smT m t → smT m (cleanT t) := by
  refine Tm.ind (P := fun t => smT m t → smT m (cleanT t)) ?_ t
  intro f n hd nm ls ks ih h
  obtain ⟨h1, h2, h3, h4, h5⟩ := (smT_mk _ _ _ _ _ _ _).1 h
  rw [clean_mk, smT_mk]
  refine ⟨?_, ?_, ?_, by simpa using h4, fun k hk => ?_⟩
  · split
    · exact h1
    · exact Nat.zero_le _
  · split
    · exact h2
    · exact Nat.zero_le _
  · intro l hl
    split at hl
    · exact h3 l hl
    · simp at hl
  · obtain ⟨k', hk', rfl⟩ := List.mem_map.1 hk
    exact ih k' hk' (h5 k' hk')

theorem rliftTs_mem (by_ f : Int) : ∀ (ks : List Tm) (i : Nat) (fr : Int) (x : Tm), x ∈ rliftTs by_ f ks i fr → ∃ k ∈ ks, ∃ fr', x = rliftT by_ k fr'
  | [], _, _, x, h => by rw [rliftTs] at h; simp at h
  | k :: ks, i, fr, x, h => by
    rw [rliftTs] at h
    rcases List.mem_cons.1 h with rfl | h
    · exact ⟨k, by simp, _, rfl⟩
    · obtain ⟨k', hk', b', e⟩ := rliftTs_mem by_ f ks (i + 1) fr x h
      exact ⟨k', by simp [hk'], b', e⟩

theorem smT_rlift (by_ : Int) (m : Nat) (t : Tm) : ∀ (fr : Int), smT m t → smT m (rliftT by_ t fr) := by
  refine Tm.ind (P := fun t => ∀ (fr : Int), smT m t → smT m (rliftT by_ t fr)) ?_ t
  intro f n hd nm ls ks ih fr h
  obtain ⟨h1, h2, h3, h4, h5⟩ := (smT_mk _ _ _ _ _ _ _).1 h
  rw [rliftT]
  split
  · exact (smT_mk _ _ _ _ _ _ _).2 ⟨h1, h2, h3, h4, h5⟩
  · refine (smT_mk _ _ _ _ _ _ _).2 ⟨h1, h2, h3, by rw [rliftTs_len]; exact h4, fun x hx => ?_⟩
    obtain ⟨k, hk, fr', rfl⟩ := rliftTs_mem _ _ _ _ _ _ hx
    exact ih k hk fr' (h5 k hk)

theorem formed_ind2 {P : Tm → Prop} (hv : ∀ n h nm ls, P (.mk 1 n h nm ls [])) (hc : ∀ f n h nm ls ks, f ≠ 1 → (ks.length : Int) = kidsR f → (∀ k ∈ ks, P k) → P (.mk f n h nm ls ks)) (t : Tm) : formedB t = true → P t := by
  refine Tm.ind (P := fun t => formedB t = true → P t) ?_ t
  intro f n hd nm ls ks ih h
  obtain ⟨h1, h2⟩ := formed_len h
  by_cases hf : f = 1
  · subst hf
    have : ks = [] := List.length_eq_zero_iff.1 (by unfold kidsR at h1; rw [if_pos (by omega)] at h1; omega)
    subst this
    exact hv n hd nm ls
  · exact hc f n hd nm ls ks hf h1 (fun k hk => ih k hk (h2 k hk))

/-- what the code makes is what the reference makes, cleaned -/
theorem lift_is (fr by_ : Int) (t : Tm) : formedB t = true → ∀ b, liftT fr by_ t b = cleanT (rliftT by_ t (fr + b)) := by
  refine formed_ind2 (P := fun t => ∀ b, liftT fr by_ t b = cleanT (rliftT by_ t (fr + b))) ?_ ?_ t
  · intro n h nm ls b
    rw [lift_var, rliftT]
    by_cases hn : fr ≤ n - b
    · rw [if_pos hn, if_pos ⟨rfl, by omega⟩, clean_mk]; rfl
    · rw [if_neg hn, if_neg (by omega), rliftTs, clean_mk]; rfl
  · intro f n h nm ls ks hf hl ih b
    rw [lift_mk hf, rliftT, if_neg (by omega), clean_mk]
    have hk : ∀ (ys xs : List Tm), xs ++ ys = ks → mapK (liftT fr by_) f ys xs.length b = (rliftTs by_ f ys xs.length (fr + b)).map cleanT := by
      intro ys
      induction ys with
      | nil => intro xs _; rw [mapK, rliftTs]; rfl
      | cons y ys ihy =>
        intro xs e
        have hi : xs.length < ks.length := by rw [← e]; simp
        rw [mapK, rliftTs, List.map_cons]
        have h1 := ih y (by rw [← e]; simp) (deepC f b xs.length)
        have h2 : fr + deepC f b xs.length = deepR f (fr + b) xs.length := by
          rw [← deep_same hl (fr + b) hi, deep_add]
        rw [h1, h2]
        have h3 := ihy (xs ++ [y]) (by rw [List.append_assoc]; exact e)
        rw [List.length_append, List.length_singleton] at h3
        rw [h3]
    have := hk ks [] rfl
    simp only [List.length_nil] at this
    rw [this, cl]
    congr 1
    by_cases h11 : f = 11
    · rw [if_pos h11, if_pos (Or.inr h11)]
    · rw [if_neg h11, if_neg (by omega)]

/-- what the reference's Lift answers is what the code's does -/
theorem lift_whole {fr by_ : Int} {t : Tm} (hc : checkT t = 0) : checkT (liftT fr by_ t 0) = checkT (rliftT by_ t fr) ∧ liftT fr by_ t 0 = cleanT (rliftT by_ t fr) := by
  have h := lift_is fr by_ t (check_ok hc).2.2 0
  rw [show fr + 0 = fr by omega] at h
  rw [h, clean_check]
  exact ⟨rfl, rfl⟩
end Go.Proofs.YtndjdeiccmhelaaGreat
