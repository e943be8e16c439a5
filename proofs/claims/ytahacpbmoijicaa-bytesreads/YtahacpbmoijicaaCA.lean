/- Two terms held against each other, as plain data; the contracts of slices.EqualFunc at levels and of term.sameFields. -/
import Derived.Test.YtahacpbmoijicaaWH
import Derived.Test.YtahacpbmoijicaaRS
import Derived.Test.YtahacpbmoijicaaOKA
import Derived.Test.YtahacpbmoijicaaOA
import Derived.Deep.RegionHeld3
import Derived.Test.YtahacpbmoijicaaEI
namespace Go.Proofs.Ytahacpbmoijicaa
open Go.RowKit Go.Sort

/-- are the fields one that the form has? -/
def fsameB (a b : Tm) : Bool :=
  decide (a.form = b.form) && (if a.form = 1 ∨ a.form = 11 then decide (a.n = b.n) else if a.form = 3 ∨ a.form = 4 ∨ a.form = 5 then decide (a.hid = b.hid) else if a.form = 10 then decide (a.name.toList = b.name.toList) && decide (a.levels = b.levels) else if a.form = 2 then decide (a.levels = b.levels) else true)

mutual
/-- are two terms one, part by part, in the fields that the forms have? -/
def sameT : Tm → Tm → Bool
  | .mk f n h nm ls ks, b => fsameB (.mk f n h nm ls ks) b && sameTs ks b.kids
def sameTs : List Tm → List Tm → Bool
  | [], [] => true
  | k :: ks, k' :: ks' => sameT k k' && sameTs ks ks'
  | [], _ :: _ => false
  | _ :: _, [] => false
end

theorem sameTs_len : ∀ {ks ks' : List Tm}, ks.length ≠ ks'.length → sameTs ks ks' = false
  | [], [], h => absurd rfl h
  | k :: ks, k' :: ks', h => by rw [sameTs, sameTs_len (ks := ks) (ks' := ks') (by simpa using h)]; simp
  | [], _ :: _, _ => by rw [sameTs]
  | _ :: _, [], _ => by rw [sameTs]

theorem sameTs_at : ∀ {ks ks' : List Tm} {i : Nat} {k k' : Tm}, ks[i]? = some k → ks'[i]? = some k' → sameT k k' = false → sameTs ks ks' = false
  | [], _, i, k, k', h, _, _ => by simp at h
  | _ :: _, [], i, k, k', _, h, _ => by simp at h
  | a :: ks, a' :: ks', 0, k, k', h, h', hs => by
    simp at h h'; subst h h'; rw [sameTs, hs]; rfl
  | a :: ks, a' :: ks', i + 1, k, k', h, h', hs => by
    rw [sameTs, sameTs_at (ks := ks) (ks' := ks') (i := i) (by simpa using h) (by simpa using h') hs]; simp

theorem sameTs_all : ∀ {ks ks' : List Tm}, ks.length = ks'.length → (∀ (i : Nat) (k k' : Tm), ks[i]? = some k → ks'[i]? = some k' → sameT k k' = true) → sameTs ks ks' = true
  | [], [], _, _ => by rw [sameTs]
  | a :: ks, a' :: ks', hl, h => by
    rw [sameTs, h 0 a a' (by simp) (by simp), sameTs_all (ks := ks) (ks' := ks') (by simpa using hl) (fun i k k' h1 h2 => h (i + 1) k k' (by simpa using h1) (by simpa using h2))]; rfl
  | [], _ :: _, hl, _ => by simp at hl
  | _ :: _, [], hl, _ => by simp at hl

theorem cf_sameLevel (xs : Array Value) (w : World) : Sem.run Try.prog (callFunc 103 xs) w = .ok (.enter 103 xs) w := by simp [callFunc, go_sem, Try.func103]; rfl

theorem lvs_len {ls ls' : List LvT} (h : ls.length ≠ ls'.length) : decide (ls = ls') = false := by
  rw [decide_eq_false_iff_not]; intro e; exact h (by rw [e])

theorem lvs_at {ls ls' : List LvT} {k : Nat} {p q : LvT} (h1 : ls[k]? = some p) (h2 : ls'[k]? = some q) (h : p ≠ q) : decide (ls = ls') = false := by
  rw [decide_eq_false_iff_not]; intro e; rw [e, h2] at h1; exact h (by simpa using h1.symm)

theorem lvs_take {ls ls' : List LvT} {k : Nat} {p : LvT} (h1 : ls[k]? = some p) (h2 : ls'[k]? = some p) (h : ls.take k = ls'.take k) : ls.take (k + 1) = ls'.take (k + 1) := by
  obtain ⟨hj, e⟩ := List.getElem?_eq_some_iff.1 h1
  obtain ⟨hj', e'⟩ := List.getElem?_eq_some_iff.1 h2
  rw [List.take_succ_eq_append_getElem hj, List.take_succ_eq_append_getElem hj', h, e, e']

theorem exactB_dec (p q : LvT) : exactB p.1 p.2 q.1 q.2 = decide (p = q) := by
  obtain ⟨a, b⟩ := p
  obtain ⟨c, d⟩ := q
  unfold exactB
  rw [Bool.eq_iff_iff]
  simp

end Go.Proofs.Ytahacpbmoijicaa

/- The contracts of slices.EqualFunc at terms, of term.same and term.Same. -/
namespace Go.Proofs.Ytahacpbmoijicaa
open Go.RowKit Go.Sort

end Go.Proofs.Ytahacpbmoijicaa

/- The contract of telamonref1.same at right terms. -/
namespace Go.Proofs.Ytahacpbmoijicaa
open Go.RowKit Go.Sort

/-- levels that a right term has are canonical -/
theorem formed_canon {f n : Int} {hd : Bool} {nm : ByteArray} {ls : List LvT} {ks : List Tm} (h : formedB (.mk f n hd nm ls ks) = true) (hf : f = 2 ∨ f = 10) : ∀ l ∈ ls, canonB l = true := by
  rw [formedB_mk, Bool.and_eq_true] at h
  have h1 := h.1
  unfold judB at h1
  rw [Bool.and_eq_true] at h1
  have h2 := h1.2
  intro l hl
  rcases hf with rfl | rfl
  · simp [fieldsB] at h2
    cases ls with
    | nil => simp at hl
    | cons a r =>
      cases r with
      | nil => simp at hl; subst hl; simpa using h2
      | cons b r => simp at h2
  · simp [fieldsB] at h2
    exact h2.2 _ _ hl

theorem formed_len {f n : Int} {hd : Bool} {nm : ByteArray} {ls : List LvT} {ks : List Tm} (h : formedB (.mk f n hd nm ls ks) = true) : (ks.length : Int) = kidsR f ∧ ∀ k ∈ ks, formedB k = true := by
  rw [formedB_mk, Bool.and_eq_true, List.all_eq_true] at h
  have h1 := h.1
  unfold judB at h1
  rw [Bool.and_eq_true, decide_eq_true_eq] at h1
  exact ⟨h1.1, h.2⟩

end Go.Proofs.Ytahacpbmoijicaa

/- A lent term: a copy with one kid more behind each list; the contract of telamonlaw2.Stay. -/
namespace Go.Proofs.Ytahacpbmoijicaa
open Go.RowKit Go.Sort

/-- The value v is t, lent: its rows lie in blocks from B on, each with one part more behind it; its levels lie in w0. -/
inductive LT (w0 : World) (B : Nat) (w : World) : Value → Tm → Prop where
  | mk {f n : Int} {h : Bool} {nm : ByteArray} {ls : List LvT} {ks : List Tm} {la : Option Addr} {lc g kc : Nat} {kvs : Nat → Value} (hl : LN w0 la ls) (hln : la = none → lc = 0) (hlc : ls.length ≤ lc) (hlm : lc ≤ 9223372036854775807) (hg : B ≤ g) (hgw : g < w.heap.size) (hkc : ks.length + 1 ≤ kc) (hkm : kc ≤ 9223372036854775807)
      (cells : ∀ i, i < ks.length → CellsAt w g (i * 6) (kvs i)) (last : w.cell? ⟨g, ks.length * 6, none⟩ = some (.int .i64 (-71))) (kids : ∀ i t, ks[i]? = some t → LT w0 B w (kvs i) t) : LT w0 B w (.agg #[.int .i64 f, .int .i64 n, .bool h, .string nm, .slice la ls.length lc, .slice (some ⟨g, 0, none⟩) ks.length kc]) (.mk f n h nm ls ks)

theorem LT.tv {w0 w : World} {B : Nat} {v : Value} {t : Tm} (h : LT w0 B w v t) (hb : RowKit.Below w0.heap.size w0 w) : TV w v t := by
  induction h with
  | @mk f n h nm ls ks la lc g kc kvs hl hln hlc hlm hg hgw hkc hkm cells last kids ih =>
    refine TV.mk (kb := g) (ko := 0) (hl.below hb) hln hlc hlm (fun e => by cases e) (by omega) hkm (fun _ => ⟨rfl, hgw⟩) (fun i t hi => ?_)
    have hi' : i < ks.length := (List.getElem?_eq_some_iff.1 hi).1
    have := (cells i hi').tc (ih i t hi)
    rwa [Nat.zero_add]

/-- a lent term stays where its rows stay -/
theorem LT.keep {w0 w w' : World} {B : Nat} {v : Value} {t : Tm} (h : LT w0 B w v t) (hs : w.heap.size ≤ w'.heap.size) (hk : ∀ k, B ≤ k → k < w.heap.size → w'.heap[k]? = w.heap[k]?) : LT w0 B w' v t := by
  induction h with
  | @mk f n h nm ls ks la lc g kc kvs hl hln hlc hlm hg hgw hkc hkm cells last kids ih =>
    have hc : ∀ o, w'.cell? ⟨g, o, none⟩ = w.cell? ⟨g, o, none⟩ := fun o => World.cell?_of_block (w := w) (hk g hg hgw)
    refine LT.mk hl hln hlc hlm hg (Nat.lt_of_lt_of_le hgw hs) hkc hkm (fun i hi => ?_) ((hc _).trans last) ih
    obtain ⟨v0, v1, v2, v3, l1, l2, l3, k1, k2, k3, hv, c0, c1, c2, c3, c4, c5⟩ := cells i hi
    exact ⟨v0, v1, v2, v3, l1, l2, l3, k1, k2, k3, hv, (hc _).trans c0, (hc _).trans c1, (hc _).trans c2, (hc _).trans c3, (hc _).trans c4, (hc _).trans c5⟩

theorem LT.mono {w0 w : World} {B B' : Nat} {v : Value} {t : Tm} (h : LT w0 B w v t) (hB : B' ≤ B) : LT w0 B' w v t := by
  induction h with
  | mk hl hln hlc hlm hg hgw hkc hkm cells last kids ih => exact LT.mk hl hln hlc hlm (by omega) hgw hkc hkm cells last ih

theorem LT.on {w0 w w' : World} {B : Nat} {v : Value} {t : Tm} (h : LT w0 B w v t) (hb : RowKit.Below w.heap.size w w') : LT w0 B w' v t := h.keep hb.size (fun k _ hk => hb.block k hk)

end Go.Proofs.Ytahacpbmoijicaa

/- The contracts of term.Free and Has, and of the reference's. -/
namespace Go.Proofs.Ytahacpbmoijicaa
open Go.RowKit Go.Sort

theorem formed_vars (t : Tm) : formedB t = true → varsB t = true := by
  refine Tm.ind (P := fun t => formedB t = true → varsB t = true) ?_ t
  intro f n hd nm ls ks ih h
  have h2 := (formed_len h).2
  rw [varsB_mk, Bool.and_eq_true, List.all_eq_true]
  refine ⟨?_, fun k hk => ih k hk (h2 k hk)⟩
  by_cases hf : f = 1
  · subst hf
    rw [formedB_mk, Bool.and_eq_true] at h
    have h1 := h.1
    unfold judB at h1
    rw [Bool.and_eq_true] at h1
    have h3 := h1.2
    simp [fieldsB] at h3
    simp; omega
  · simp [hf]

theorem freeK_snoc (f deep : Int) (pre : List Tm) (k : Tm) : freeK f deep (pre ++ [k]) = max (freeK f deep pre) (freeR k (deepR f deep pre.length)) := by
  have := freeK_take (f := f) (deep := deep) (ks := pre ++ [k]) (j := pre.length) (k := k) (by simp)
  rw [List.take_of_length_le (by simp), List.take_left'  (by simp)] at this
  exact this

theorem deep_same {f : Int} {ks : List Tm} (hl : (ks.length : Int) = kidsR f) (b : Int) {i : Nat} (hi : i < ks.length) : deepC f b i = deepR f b i := by
  unfold deepC deepR
  by_cases hb : bindsB f = true
  · have h2 : i = 0 ∨ i = 1 := by
      unfold bindsB at hb
      simp at hb
      unfold kidsR at hl
      rw [if_neg (by omega), if_neg (by omega), if_pos (by omega)] at hl
      omega
    rcases h2 with rfl | rfl
    · simp
    · simp
  · simp [hb]

theorem abo_list (f b p : Int) : ∀ (ks pre : List Tm), (∀ (i : Nat) (k : Tm), ks[i]? = some k → deepC f b (pre.length + i) = deepR f b (pre.length + i)) → (∀ k ∈ ks, ∀ (c q : Int), 0 ≤ c → c + heightT k ≤ b + 1 + (ks.map heightT).foldl max 0 → walkF aboV max k () c q = .ok ((), freeR k c)) → 0 ≤ b → walkL aboV max f ks pre.length () (freeK f b pre) b p = .ok ((), freeK f b (pre ++ ks))
  | [], pre, _, _, _ => by rw [walkL]; simp
  | k :: ks, pre, hd, ih, hb => by
    have hm : ((k :: ks).map heightT).foldl max 0 = max (heightT k) ((ks.map heightT).foldl max 0) := by
      simp only [List.map_cons, List.foldl_cons]
      have : ∀ (l : List Nat) (a c : Nat), l.foldl max (max a c) = max a (l.foldl max c) := by
        intro l
        induction l with
        | nil => intro a c; rfl
        | cons x l ihl => intro a c; simp only [List.foldl_cons]; rw [Nat.max_assoc, ihl]
      rw [Nat.max_comm 0, this]
    rw [hm] at ih
    have e0 := hd 0 k (by simp)
    rw [Nat.add_zero] at e0
    have hdc : 0 ≤ deepR f b pre.length ∧ deepR f b pre.length ≤ b + 1 := by unfold deepR; split <;> omega
    rw [walkL, e0, ih k (by simp) _ _ hdc.1 (by omega)]
    simp only []
    rw [← freeK_snoc]
    have := abo_list f b p ks (pre ++ [k]) (fun i k' hk' => by
      have := hd (i + 1) k' (by simpa using hk')
      rw [List.length_append, List.length_singleton, show pre.length + 1 + i = pre.length + (i + 1) by omega]; exact this) (fun k' hk' c q h1 h2 => ih k' (by simp [hk']) c q h1 (by omega)) hb
    rw [List.length_append, List.length_singleton] at this
    rw [this, List.append_assoc]; rfl

theorem abo_walk (t : Tm) : formedB t = true → ∀ (b p : Int), 0 ≤ b → b + heightT t ≤ 1000000 → walkF aboV max t () b p = .ok ((), freeR t b) := by
  refine Tm.ind (P := fun t => formedB t = true → ∀ (b p : Int), 0 ≤ b → b + heightT t ≤ 1000000 → walkF aboV max t () b p = .ok ((), freeR t b)) ?_ t
  intro f n hd nm ls ks ih hf b p hb hh
  obtain ⟨h1, h2⟩ := formed_len hf
  have hv := formed_vars _ hf
  rw [walkF_mk, freeR_mk]
  rw [heightT_mk] at hh
  by_cases h0 : f = 1
  · subst h0
    have hk : ks = [] := List.length_eq_zero_iff.1 (by unfold kidsR at h1; rw [if_pos (by omega)] at h1; omega)
    subst hk
    rw [varsB_mk] at hv
    simp at hv
    have hV : aboV () (.mk 1 n hd nm ls []) b p = .ok ((), if n < b then 0 else n - b + 1) := by
      unfold aboV
      simp only [Tm.form, Tm.n, if_true]
      congr 2
      unfold wrap64
      split <;> omega
    rw [hV, if_pos rfl]
    simp only [walkL]
  · have hV : aboV () (.mk f n hd nm ls ks) b p = .ok ((), 0) := by
      unfold aboV; simp [Tm.form, h0]
    rw [hV, if_neg h0]
    have := abo_list f b p ks [] (fun i k hk => deep_same h1 b (by have := (List.getElem?_eq_some_iff.1 hk).1; simpa using this)) (fun k hk c q hc hl => ih k hk (h2 k hk) c q hc (by omega)) hb
    have e0 : freeK f b [] = 0 := by simp [freeK]
    rw [e0] at this
    simpa using this

mutual
/-- how many constants of that name -/
def hasN (name : ByteArray) : Tm → Nat
  | .mk f _ _ nm _ ks => (if f = 10 ∧ nm.toList = name.toList then 1 else 0) + hasNs name ks
def hasNs (name : ByteArray) : List Tm → Nat
  | [] => 0
  | k :: ks => hasN name k + hasNs name ks
end

theorem hasNs_any (name : ByteArray) : ∀ ks : List Tm, (∀ k ∈ ks, (hasB name k = true ↔ 0 < hasN name k)) → (ks.any (hasB name) = true ↔ 0 < hasNs name ks)
  | [], _ => by simp [hasNs]
  | k :: ks, h => by
    rw [hasNs, List.any_cons, Bool.or_eq_true, h k (by simp), hasNs_any name ks (fun k' hk' => h k' (by simp [hk']))]
    omega

theorem hasN_iff (name : ByteArray) (t : Tm) : hasB name t = true ↔ 0 < hasN name t := by
  refine Tm.ind (P := fun t => hasB name t = true ↔ 0 < hasN name t) ?_ t
  intro f n hd nm ls ks ih
  rw [hasB_mk, hasN, Bool.or_eq_true, hasNs_any name ks ih, Bool.and_eq_true]
  by_cases h : f = 10 ∧ nm.toList = name.toList
  · rw [if_pos h]; simp [h.1, h.2]; omega
  · rw [if_neg h]
    constructor
    · rintro (⟨h1, h2⟩ | h3)
      · exact absurd ⟨by simpa using h1, by simpa using h2⟩ h
      · omega
    · intro h3; exact Or.inr (by omega)

theorem sea_list (name : ByteArray) (f b p : Int) : ∀ (ks : List Tm) (i : Nat) (r : Int), (∀ k ∈ ks, ∀ (b p : Int), hasN name k ≤ sizeT k ∧ (sizeT k ≤ 1000000 → walkF (seaV name) wplus k () b p = .ok ((), (hasN name k : Int)))) → 0 ≤ r → r + (ks.map sizeT).sum ≤ 1000000 → walkL (seaV name) wplus f ks i () r b p = .ok ((), r + hasNs name ks) ∧ hasNs name ks ≤ (ks.map sizeT).sum
  | [], i, r, _, _, _ => by rw [walkL, hasNs]; simp
  | k :: ks, i, r, ih, h0, h1 => by
    have hs : ((k :: ks).map sizeT).sum = sizeT k + (ks.map sizeT).sum := by simp
    rw [hs] at h1 ⊢
    obtain ⟨e1, e2⟩ := ih k (by simp) (deepC f b i) (p + 1)
    rw [walkL, e2 (by omega), hasNs]
    simp only []
    obtain ⟨e3, e4⟩ := sea_list name f b p ks (i + 1) (wplus r (hasN name k)) (fun k' hk' => ih k' (by simp [hk'])) (by rw [wplus_eq] <;> omega) (by rw [wplus_eq] <;> omega)
    rw [e3, wplus_eq (by omega) (by omega)]
    refine ⟨?_, by omega⟩
    congr 2
    omega

theorem sea_walk (name : ByteArray) (t : Tm) : ∀ (b p : Int), hasN name t ≤ sizeT t ∧ (sizeT t ≤ 1000000 → walkF (seaV name) wplus t () b p = .ok ((), (hasN name t : Int))) := by
  refine Tm.ind (P := fun t => ∀ (b p : Int), hasN name t ≤ sizeT t ∧ (sizeT t ≤ 1000000 → walkF (seaV name) wplus t () b p = .ok ((), (hasN name t : Int)))) ?_ t
  intro f n hd nm ls ks ih b p
  rw [walkF_mk, sizeT_mk, hasN]
  have hle : hasNs name ks ≤ (ks.map sizeT).sum := by
    clear hd n ls nm
    induction ks with
    | nil => simp [hasNs]
    | cons k ks ihk =>
      rw [hasNs]
      have h1 := (ih k (by simp) 0 0).1
      have h2 := ihk (fun k' hk' => ih k' (by simp [hk']))
      simp only [List.map_cons, List.sum_cons]
      omega
  refine ⟨by split <;> omega, fun hz => ?_⟩
  have hV : seaV name () (.mk f n hd nm ls ks) b p = .ok ((), if f = 10 ∧ nm.toList = name.toList then 1 else 0) := rfl
  rw [hV]
  simp only []
  rw [(sea_list name f b p ks 0 _ ih (by split <;> omega) (by split <;> omega)).1]
  congr 2
  split <;> omega

/-- what Free answers -/
def tfreeR (t : Tm) : Int := if checkT t = 0 then freeR t 0 else 0
/-- what Has answers -/
def thasB (t : Tm) (name : ByteArray) : Bool := decide (checkT t = 0) && hasB name t

end Go.Proofs.Ytahacpbmoijicaa
