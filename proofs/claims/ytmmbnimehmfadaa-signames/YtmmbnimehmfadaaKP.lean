/- Induction on terms; a term in a box; the contract of telamonref1.has. -/
import Derived.Test.YtmmbnimehmfadaaTA
namespace Go.Proofs.Ytmmbnimehmfadaa
open Go.RowKit Go.Sort

theorem Tm.ind {P : Tm → Prop} (h : ∀ f n hd nm ls ks, (∀ k ∈ ks, P k) → P (.mk f n hd nm ls ks)) (t : Tm) : P t :=
  Tm.rec (motive_1 := P) (motive_2 := fun ks => ∀ k ∈ ks, P k) (fun f n hd nm ls ks ih => h f n hd nm ls ks ih) (by simp) (fun k ks h1 h2 => by
    intro x hx
    rcases List.mem_cons.1 hx with rfl | hx
    · exact h1
    · exact h2 x hx) t

theorem cells6 {w : World} {b : Nat} {v0 v1 v2 v3 v4 v5 : Value} {t : TypeId} (h : w.heap[b]? = some (.cells #[v0, v1, v2, v3, v4, v5] t (0, 0))) :
    w.cell? ⟨b, 0, none⟩ = some v0 ∧ w.cell? ⟨b, 1, none⟩ = some v1 ∧ w.cell? ⟨b, 2, none⟩ = some v2 ∧ w.cell? ⟨b, 3, none⟩ = some v3 ∧ w.cell? ⟨b, 4, none⟩ = some v4 ∧ w.cell? ⟨b, 5, none⟩ = some v5 ∧ b < w.heap.size :=
  ⟨by rw [cell_of_row _ b 0 _ _ _ h]; rfl, by rw [cell_of_row _ b 1 _ _ _ h]; rfl, by rw [cell_of_row _ b 2 _ _ _ h]; rfl, by rw [cell_of_row _ b 3 _ _ _ h]; rfl, by rw [cell_of_row _ b 4 _ _ _ h]; rfl, by rw [cell_of_row _ b 5 _ _ _ h]; rfl, (Array.getElem?_eq_some_iff.1 h).1⟩

end Go.Proofs.Ytmmbnimehmfadaa

/- How many parts a term has, how high it is; the contract of telamonref1.parts. -/
namespace Go.Proofs.Ytmmbnimehmfadaa
open Go.RowKit Go.Sort

/-- how many parts -/
def sizeT : Tm → Nat
  | .mk _ _ _ _ _ ks => 1 + (ks.attach.map fun k => sizeT k.1).sum
termination_by t => SizeOf.sizeOf t
decreasing_by
  have := List.sizeOf_lt_of_mem k.2
  simp only [Tm.mk.sizeOf_spec]; omega

/-- how high -/
def heightT : Tm → Nat
  | .mk _ _ _ _ _ ks => 1 + (ks.attach.map fun k => heightT k.1).foldl max 0
termination_by t => SizeOf.sizeOf t
decreasing_by
  have := List.sizeOf_lt_of_mem k.2
  simp only [Tm.mk.sizeOf_spec]; omega

theorem sizeT_mk (f n : Int) (hd : Bool) (nm : ByteArray) (ls : List LvT) (ks : List Tm) : sizeT (.mk f n hd nm ls ks) = 1 + (ks.map sizeT).sum := by
  rw [sizeT, List.attach_map_val (f := sizeT)]

theorem heightT_mk (f n : Int) (hd : Bool) (nm : ByteArray) (ls : List LvT) (ks : List Tm) : heightT (.mk f n hd nm ls ks) = 1 + (ks.map heightT).foldl max 0 := by
  rw [heightT, List.attach_map_val (f := heightT)]

theorem take_high {ks : List Tm} {j : Nat} {k : Tm} (h : ks[j]? = some k) : ((ks.take (j + 1)).map heightT).foldl max 0 = max (((ks.take j).map heightT).foldl max 0) (heightT k) := by
  obtain ⟨hj, rfl⟩ := List.getElem?_eq_some_iff.1 h
  rw [List.take_succ_eq_append_getElem hj, List.map_append, List.foldl_append]; simp

theorem foldl_max_ge (l : List Nat) (m : Nat) : m ≤ l.foldl max m := by
  induction l generalizing m with
  | nil => exact Nat.le_refl _
  | cons a r ih => exact Nat.le_trans (Nat.le_max_left m a) (ih (max m a))

theorem high_take_le (ks : List Tm) (j : Nat) : ((ks.take j).map heightT).foldl max 0 ≤ (ks.map heightT).foldl max 0 := by
  conv => rhs; rw [← List.take_append_drop j ks]
  rw [List.map_append, List.foldl_append]
  exact foldl_max_ge _ _

end Go.Proofs.Ytmmbnimehmfadaa

/- The contracts of telamonref1.Binds, telamonref1.kids and telamonref1.free. -/
namespace Go.Proofs.Ytmmbnimehmfadaa
open Go.RowKit Go.Sort

/-- does a form bind a variable in its second kid? -/
def bindsB (f : Int) : Bool := f == 3 || f == 4 || f == 6

/-- how many kids a form has; -1: it is none -/
def kidsR (f : Int) : Int := if f = 1 ∨ f = 2 ∨ f = 10 ∨ f = 11 then 0 else if f = 8 ∨ f = 9 then 1 else if f = 3 ∨ f = 4 ∨ f = 5 ∨ f = 6 then 2 else if f = 7 then 3 else -1

end Go.Proofs.Ytmmbnimehmfadaa

/- The contract of telamonref1.free, where no index is too great. -/
namespace Go.Proofs.Ytmmbnimehmfadaa
open Go.RowKit Go.Sort

/-- no number of a variable is below 0, or above 2^30 -/
def varsB : Tm → Bool
  | .mk f n _ _ _ ks => (!(f == 1) || (decide (0 ≤ n) && decide (n ≤ 1073741824))) && ks.attach.all fun k => varsB k.1
termination_by t => SizeOf.sizeOf t
decreasing_by
  have := List.sizeOf_lt_of_mem k.2
  simp only [Tm.mk.sizeOf_spec]; omega

theorem varsB_mk (f n : Int) (hd : Bool) (nm : ByteArray) (ls : List LvT) (ks : List Tm) : varsB (.mk f n hd nm ls ks) = ((!(f == 1) || (decide (0 ≤ n) && decide (n ≤ 1073741824))) && ks.all varsB) := by
  rw [varsB]
  congr 1
  rw [Bool.eq_iff_iff, List.all_eq_true, List.all_eq_true]
  exact ⟨fun h x hx => h ⟨x, hx⟩ (List.mem_attach _ _), fun h x _ => h x.1 x.2⟩

/-- how many binders there are around the i-th kid -/
def deepR (f deep : Int) (i : Nat) : Int := if i = 1 ∧ bindsB f = true then deep + 1 else deep

/-- the least number above all free indices, in the scope of so many binders -/
def freeR : Tm → Int → Int
  | .mk f n _ _ _ ks, deep => if f = 1 then (if n < deep then 0 else n - deep + 1) else (ks.attach.zipIdx.map fun p => freeR p.1.1 (deepR f deep p.2)).foldl max 0
termination_by t => SizeOf.sizeOf t
decreasing_by
  have := List.sizeOf_lt_of_mem p.1.2
  simp only [Tm.mk.sizeOf_spec]; omega

/-- the greatest number of the first kids -/
def freeK (f deep : Int) (ks : List Tm) : Int := (ks.zipIdx.map fun p => freeR p.1 (deepR f deep p.2)).foldl max 0

theorem freeR_mk (f n : Int) (hd : Bool) (nm : ByteArray) (ls : List LvT) (ks : List Tm) (deep : Int) : freeR (.mk f n hd nm ls ks) deep = if f = 1 then (if n < deep then 0 else n - deep + 1) else freeK f deep ks := by
  rw [freeR]
  congr 1
  unfold freeK
  congr 1
  have : ks.zipIdx = ks.attach.zipIdx.map (fun p => (p.1.1, p.2)) := by
    conv => lhs; rw [← List.attach_map_subtype_val ks]
    rw [List.zipIdx_map]
    rfl
  rw [this, List.map_map]
  rfl

theorem freeK_take {f deep : Int} {ks : List Tm} {j : Nat} {k : Tm} (h : ks[j]? = some k) : freeK f deep (ks.take (j + 1)) = max (freeK f deep (ks.take j)) (freeR k (deepR f deep j)) := by
  obtain ⟨hj, rfl⟩ := List.getElem?_eq_some_iff.1 h
  unfold freeK
  rw [List.take_succ_eq_append_getElem hj, List.zipIdx_append, List.map_append, List.foldl_append]
  have : (ks.take j).length = j := by simp; omega
  simp [this]

theorem high_kid {ks : List Tm} {k : Tm} (h : k ∈ ks) : heightT k ≤ (ks.map heightT).foldl max 0 := by
  obtain ⟨j, hj⟩ := List.getElem?_of_mem h
  have h1 := take_high hj
  have h2 := high_take_le ks (j + 1)
  omega

end Go.Proofs.Ytmmbnimehmfadaa

/- Worlds in which some old blocks may turn; going through a term as plain data. -/
namespace Go.Proofs.Ytmmbnimehmfadaa
open Go.RowKit Go.Sort

/-- w' is w with new blocks behind; of the old blocks none has turned but those of P. -/
structure Kept (P : Nat → Prop) (w w' : World) : Prop where
  os : w'.os = w.os
  tape : w'.tape = w.tape
  output : w'.output = w.output
  size : w.heap.size ≤ w'.heap.size
  block : ∀ k, k < w.heap.size → ¬ P k → w'.heap[k]? = w.heap[k]?

theorem Kept.refl (P : Nat → Prop) (w : World) : Kept P w w := ⟨rfl, rfl, rfl, Nat.le_refl _, fun _ _ _ => rfl⟩

theorem Kept.trans {P : Nat → Prop} {a b c : World} (h : Kept P a b) (k : Kept P b c) : Kept P a c :=
  ⟨k.os.trans h.os, k.tape.trans h.tape, k.output.trans h.output, Nat.le_trans h.size k.size, fun i hi hp => (k.block i (Nat.lt_of_lt_of_le hi h.size) hp).trans (h.block i hi hp)⟩

theorem Kept.of_below {P : Nat → Prop} {w w' : World} (h : RowKit.Below w.heap.size w w') : Kept P w w' := ⟨h.os, h.tape, h.output, h.size, fun k hk _ => h.block k hk⟩

theorem Kept.of_grew {P : Nat → Prop} {w w' : World} (h : Grew w w') : Kept P w w' := Kept.of_below h.below

theorem Kept.below {P : Nat → Prop} {w w' : World} (h : Kept P w w') {B : Nat} (hB : B ≤ w.heap.size) (hP : ∀ k, P k → B ≤ k) : RowKit.Below B w w' :=
  ⟨h.os, h.tape, h.output, h.size, fun k hk => h.block k (Nat.lt_of_lt_of_le hk hB) fun hp => Nat.lt_irrefl _ (Nat.lt_of_lt_of_le hk (hP k hp))⟩

theorem Kept.alloc {P : Nat → Prop} {a w : World} (h : Kept P a w) (o : Obj) : Kept P a (w.alloc o) := h.trans (Kept.of_below ((Below.refl _ _).alloc (Nat.le_refl _) o))
theorem Kept.setCell {P : Nat → Prop} {a w : World} (h : Kept P a w) {p : Addr} (hp : P p.block) (u : Value) : Kept P a (w.setCell p u) :=
  h.trans ⟨rfl, rfl, rfl, by simp [World.setCell], fun k _ hk => Below.heap_setCell _ _ _ _ (fun e => hk (e ▸ hp))⟩

/-- how many binders are around the kid of number i, if there are b around the part -/
def deepC (f b : Int) (i : Nat) : Int := if 1 ≤ i ∧ bindsB f = true then b + 1 else b

mutual
/-- going through a term: each part ahead of its kids, with a state; an error ends it -/
def walkF {σ R : Type} (visit : σ → Tm → Int → Int → Except Int (σ × R)) (join : R → R → R) : Tm → σ → Int → Int → Except Int (σ × R)
  | .mk f n hd nm ls ks, s, b, p => match visit s (.mk f n hd nm ls ks) b p with
    | .error e => .error e
    | .ok (s1, r1) => walkL visit join f ks 0 s1 r1 b p
def walkL {σ R : Type} (visit : σ → Tm → Int → Int → Except Int (σ × R)) (join : R → R → R) (f : Int) : List Tm → Nat → σ → R → Int → Int → Except Int (σ × R)
  | [], _, s, r, _, _ => .ok (s, r)
  | k :: ks, i, s, r, b, p => match walkF visit join k s (deepC f b i) (p + 1) with
    | .error e => .error e
    | .ok (s1, r1) => walkL visit join f ks (i + 1) s1 (join r r1) b p
end
theorem walkF_mk {σ R : Type} (visit : σ → Tm → Int → Int → Except Int (σ × R)) (join : R → R → R) (f n : Int) (hd : Bool) (nm : ByteArray) (ls : List LvT) (ks : List Tm) (s : σ) (b p : Int) : walkF visit join (.mk f n hd nm ls ks) s b p = match visit s (.mk f n hd nm ls ks) b p with
    | .error e => .error e
    | .ok (s1, r1) => walkL visit join f ks 0 s1 r1 b p := by rw [walkF]

theorem walkL_append {σ R : Type} (visit : σ → Tm → Int → Int → Except Int (σ × R)) (join : R → R → R) (f : Int) : ∀ (xs ys : List Tm) (i : Nat) (s : σ) (r : R) (b p : Int), walkL visit join f (xs ++ ys) i s r b p = match walkL visit join f xs i s r b p with
    | .error e => .error e
    | .ok (s1, r1) => walkL visit join f ys (i + xs.length) s1 r1 b p
  | [], ys, i, s, r, b, p => by simp [walkL]
  | x :: xs, ys, i, s, r, b, p => by
    rw [List.cons_append, walkL, walkL]
    cases walkF visit join x s (deepC f b i) (p + 1) with
    | error e => rfl
    | ok q => obtain ⟨s1, r1⟩ := q; simp only []; rw [walkL_append visit join f xs ys (i + 1) s1 (join r r1) b p, show i + 1 + xs.length = i + (x :: xs).length by simp; omega]

/-- one kid more -/
theorem walkL_take {σ R : Type} {visit : σ → Tm → Int → Int → Except Int (σ × R)} {join : R → R → R} {f : Int} {ks : List Tm} {j : Nat} {k : Tm} {s s' : σ} {r r' : R} {b p : Int} (h : ks[j]? = some k) (h0 : walkL visit join f (ks.take j) 0 s r b p = .ok (s', r')) :
    walkL visit join f (ks.take (j + 1)) 0 s r b p = match walkF visit join k s' (deepC f b j) (p + 1) with
    | .error e => .error e
    | .ok (s1, r1) => .ok (s1, join r' r1) := by
  obtain ⟨hj, rfl⟩ := List.getElem?_eq_some_iff.1 h
  rw [List.take_succ_eq_append_getElem hj, walkL_append, h0]
  simp only [List.length_take, Nat.zero_add, Nat.min_eq_left (Nat.le_of_lt hj), walkL]

/-- an error at one kid is an error of all -/
theorem walkL_bad {σ R : Type} {visit : σ → Tm → Int → Int → Except Int (σ × R)} {join : R → R → R} {f : Int} {ks : List Tm} {j : Nat} {k : Tm} {s s' : σ} {r r' : R} {b p e : Int} (h : ks[j]? = some k) (h0 : walkL visit join f (ks.take j) 0 s r b p = .ok (s', r')) (h1 : walkF visit join k s' (deepC f b j) (p + 1) = .error e) :
    walkL visit join f ks 0 s r b p = .error e := by
  have h2 := walkL_take h h0
  rw [h1] at h2
  conv => lhs; rw [← List.take_append_drop (j + 1) ks]
  rw [walkL_append, h2]
end Go.Proofs.Ytmmbnimehmfadaa
