/- Worlds in which some old blocks may turn; going through a term as plain data. -/
import Derived.Test.YtbgkeomlfdmkeaaTG
namespace Go.Proofs.Ytbgkeomlfdmkeaa
open Go.RowKit Go.Sort

/-- w' is w with new blocks behind; of the old blocks none has turned but those of P. -/
structure Kept (P : Nat → Prop) (w w' : World) : Prop where
  os : w'.os = w.os
  tape : w'.tape = w.tape
  output : w'.output = w.output
  size : w.heap.size ≤ w'.heap.size
  block : ∀ k, k < w.heap.size → ¬ P k → w'.heap[k]? = w.heap[k]?

theorem Kept.refl (P : Nat → Prop) (w : World) : Kept P w w := ⟨rfl, rfl, rfl, Nat.le_refl _, fun _ _ _ => rfl⟩

theorem Kept.trans {P : Nat → Prop} {a b c : World} (h : Kept P a b) (k : Kept P b c) : Kept P a c :=
  ⟨k.os.trans h.os, k.tape.trans h.tape, k.output.trans h.output, Nat.le_trans h.size k.size, fun i hi hp => (k.block i (Nat.lt_of_lt_of_le hi h.size) hp).trans (h.block i hi hp)⟩

theorem Kept.of_below {P : Nat → Prop} {w w' : World} (h : RowKit.Below w.heap.size w w') : Kept P w w' := ⟨h.os, h.tape, h.output, h.size, fun k hk _ => h.block k hk⟩

theorem Kept.of_grew {P : Nat → Prop} {w w' : World} (h : Grew w w') : Kept P w w' := Kept.of_below h.below

theorem Kept.below {P : Nat → Prop} {w w' : World} (h : Kept P w w') {B : Nat} (hB : B ≤ w.heap.size) (hP : ∀ k, P k → B ≤ k) : RowKit.Below B w w' :=
  ⟨h.os, h.tape, h.output, h.size, fun k hk => h.block k (Nat.lt_of_lt_of_le hk hB) fun hp => Nat.lt_irrefl _ (Nat.lt_of_lt_of_le hk (hP k hp))⟩

theorem Kept.alloc {P : Nat → Prop} {a w : World} (h : Kept P a w) (o : Obj) : Kept P a (w.alloc o) := h.trans (Kept.of_below ((Below.refl _ _).alloc (Nat.le_refl _) o))
theorem Kept.drew {P : Nat → Prop} {a w : World} (h : Kept P a w) : Kept P a w.drew := h.trans (Kept.of_below (Below.refl _ _).drew)

theorem Kept.setCell {P : Nat → Prop} {a w : World} (h : Kept P a w) {p : Addr} (hp : P p.block) (u : Value) : Kept P a (w.setCell p u) :=
  h.trans ⟨rfl, rfl, rfl, by simp [World.setCell], fun k _ hk => Below.heap_setCell _ _ _ _ (fun e => hk (e ▸ hp))⟩

theorem Kept.cell {P : Nat → Prop} {w w' : World} (h : Kept P w w') {p : Addr} (hp : p.block < w.heap.size) (hn : ¬ P p.block) : w'.cell? p = w.cell? p := World.cell?_of_block (w := w) (h.block p.block hp hn)

/-- how many binders are around the kid of number i, if there are b around the part -/
def deepC (f b : Int) (i : Nat) : Int := if 1 ≤ i ∧ bindsB f = true then b + 1 else b

mutual
/-- going through a term: each part ahead of its kids, with a state; an error ends it -/
def walkF {σ R : Type} (visit : σ → Tm → Int → Int → Except Int (σ × R)) (join : R → R → R) : Tm → σ → Int → Int → Except Int (σ × R)
  | .mk f n hd nm ls ks, s, b, p => match visit s (.mk f n hd nm ls ks) b p with
    | .error e => .error e
    | .ok (s1, r1) => walkL visit join f ks 0 s1 r1 b p
def walkL {σ R : Type} (visit : σ → Tm → Int → Int → Except Int (σ × R)) (join : R → R → R) (f : Int) : List Tm → Nat → σ → R → Int → Int → Except Int (σ × R)
  | [], _, s, r, _, _ => .ok (s, r)
  | k :: ks, i, s, r, b, p => match walkF visit join k s (deepC f b i) (p + 1) with
    | .error e => .error e
    | .ok (s1, r1) => walkL visit join f ks (i + 1) s1 (join r r1) b p
end

theorem walkF_mk {σ R : Type} (visit : σ → Tm → Int → Int → Except Int (σ × R)) (join : R → R → R) (f n : Int) (hd : Bool) (nm : ByteArray) (ls : List LvT) (ks : List Tm) (s : σ) (b p : Int) : walkF visit join (.mk f n hd nm ls ks) s b p = match visit s (.mk f n hd nm ls ks) b p with
    | .error e => .error e
    | .ok (s1, r1) => walkL visit join f ks 0 s1 r1 b p := by rw [walkF]

theorem walkL_append {σ R : Type} (visit : σ → Tm → Int → Int → Except Int (σ × R)) (join : R → R → R) (f : Int) : ∀ (xs ys : List Tm) (i : Nat) (s : σ) (r : R) (b p : Int), walkL visit join f (xs ++ ys) i s r b p = match walkL visit join f xs i s r b p with
    | .error e => .error e
    | .ok (s1, r1) => walkL visit join f ys (i + xs.length) s1 r1 b p
  | [], ys, i, s, r, b, p => by simp [walkL]
  | x :: xs, ys, i, s, r, b, p => by
    rw [List.cons_append, walkL, walkL]
    cases walkF visit join x s (deepC f b i) (p + 1) with
    | error e => rfl
    | ok q => obtain ⟨s1, r1⟩ := q; simp only []; rw [walkL_append visit join f xs ys (i + 1) s1 (join r r1) b p, show i + 1 + xs.length = i + (x :: xs).length by simp; omega]

/-- one kid more -/
theorem walkL_take {σ R : Type} {visit : σ → Tm → Int → Int → Except Int (σ × R)} {join : R → R → R} {f : Int} {ks : List Tm} {j : Nat} {k : Tm} {s s' : σ} {r r' : R} {b p : Int} (h : ks[j]? = some k) (h0 : walkL visit join f (ks.take j) 0 s r b p = .ok (s', r')) :
    walkL visit join f (ks.take (j + 1)) 0 s r b p = match walkF visit join k s' (deepC f b j) (p + 1) with
    | .error e => .error e
    | .ok (s1, r1) => .ok (s1, join r' r1) := by
  obtain ⟨hj, rfl⟩ := List.getElem?_eq_some_iff.1 h
  rw [List.take_succ_eq_append_getElem hj, walkL_append, h0]
  simp only [List.length_take, Nat.zero_add, Nat.min_eq_left (Nat.le_of_lt hj), walkL]

/-- an error at one kid is an error of all -/
theorem walkL_bad {σ R : Type} {visit : σ → Tm → Int → Int → Except Int (σ × R)} {join : R → R → R} {f : Int} {ks : List Tm} {j : Nat} {k : Tm} {s s' : σ} {r r' : R} {b p e : Int} (h : ks[j]? = some k) (h0 : walkL visit join f (ks.take j) 0 s r b p = .ok (s', r')) (h1 : walkF visit join k s' (deepC f b j) (p + 1) = .error e) :
    walkL visit join f ks 0 s r b p = .error e := by
  have h2 := walkL_take h h0
  rw [h1] at h2
  conv => lhs; rw [← List.take_append_drop (j + 1) ks]
  rw [walkL_append, h2]
end Go.Proofs.Ytbgkeomlfdmkeaa
