/- What the reference's reader reads as a term, as a function of the bytes. -/
import Derived.Test.YtndjdeiccmhelaaGreatEY
namespace Go.Proofs.YtndjdeiccmhelaaGreat
open Go.RowKit Go.Sort Go.Lib

/-- so many levels at the head of bytes -/
def plevels : Nat → List UInt8 → Option (List LvT × List UInt8)
  | 0, bs => some ([], bs)
  | c + 1, bs => match plevel bs with
    | none => none
    | some (l, r) => (plevels c r).map fun z => (l :: z.1, z.2)

/-- the fields of a term of that form, at the head of bytes -/
def pfields (f : Nat) (bs : List UInt8) : Option ((Int × Bool × ByteArray × List LvT) × List UInt8) :=
  if f = 1 ∨ f = 11 then (pnum 6 bs).map fun z => (((z.1 : Int), false, ⟨#[]⟩, []), z.2)
  else if f = 2 then (plevel bs).map fun z => ((0, false, ⟨#[]⟩, [z.1]), z.2)
  else if f = 3 ∨ f = 4 ∨ f = 5 then (match pnum 6 bs with
    | none => none
    | some (h, r) => if 1 < h then none else some ((0, decide (h = 1), ⟨#[]⟩, []), r))
  else if f = 10 then (match ptext bs with
    | none => none
    | some (nm, r) => match pnum 6 r with
      | none => none
      | some (c, r2) => (plevels c r2).map fun z => ((0, false, nm, z.1), z.2))
  else some ((0, false, ⟨#[]⟩, []), bs)

/-- so many terms at the head of bytes -/
def pkids (F : List UInt8 → Nat → Option (Tm × List UInt8 × Nat)) : Nat → List UInt8 → Nat → Option (List Tm × List UInt8 × Nat)
  | 0, bs, n => some ([], bs, n)
  | k + 1, bs, n => match F bs n with
    | none => none
    | some (t, r, n') => (pkids F k r n').map fun z => (t :: z.1, z.2)

/-- a term at the head of bytes, of at most that height, behind n parts -/
def pterm : Nat → List UInt8 → Nat → Option (Tm × List UInt8 × Nat)
  | 0, _, _ => none
  | d + 1, bs, n => match pnum 6 bs with
    | none => none
    | some (f, r) => if 20000 < n + 1 ∨ kidsR (f : Int) < 0 then none else
      match pfields f r with
      | none => none
      | some (x, r2) => (pkids (pterm d) (kidsR (f : Int)).toNat r2 (n + 1)).map fun z => (.mk (f : Int) x.1 x.2.1 x.2.2.1 x.2.2.2 z.1, z.2)

/-- what is read: the term and what is left, or the reader is bad -/
def RrTm (w : World) (N rb : Nat) (a : Option Addr) (cap : Nat) (all : List UInt8) (e : Ending) (w' : World) (P : Option (Tm × List UInt8 × Nat)) : Prop :=
  ∃ (v : Value) (t : Tm) (r : List UInt8) (bad : Bool) (n : Nat), e = .returned v ∧ ShapeT v ∧ TF w' (oldB w) v t ∧ RR w' N rb a cap all r bad n ∧ Kept (fun k => k = rb) w w' ∧ ((bad = false ∧ P = some (t, r, n) ∧ smT 1000000 t ∧ n ≤ 20000) ∨ (bad = true ∧ P = none))

def RrT (N rb : Nat) (a : Option Addr) (cap : Nat) (all : List UInt8) (d : Nat) : Prop :=
  ∀ (bs : List UInt8) (n : Nat) (high : Int) (w : World), RR w N rb a cap all bs false n → n ≤ 20000 → high + d = 501 → Calls Tryz.prog 43 #[.pointer (some ⟨rb, 0, none⟩), .int .i64 high] w fun e w' => RrTm w N rb a cap all e w' (pterm d bs n)

/-- how far the kids are read -/
def KidAt (P : Option (Tm × List UInt8 × Nat)) (F : List UInt8 → Nat → Option (Tm × List UInt8 × Nat)) (f : Int) (h : Bool) (k : Nat) (ts : List Tm) (r : List UInt8) (bad : Bool) (n : Nat) : Prop :=
  (bad = false ∧ ts.length ≤ k ∧ P = (pkids F (k - ts.length) r n).map (fun z => (.mk f 0 h ⟨#[]⟩ [] (ts ++ z.1), z.2)) ∧ n ≤ 20000 ∧ ∀ t ∈ ts, smT 1000000 t) ∨ (bad = true ∧ P = none)

theorem kid_step {P : Option (Tm × List UInt8 × Nat)} {F : List UInt8 → Nat → Option (Tm × List UInt8 × Nat)} {f : Int} {h : Bool} {k : Nat} {ts : List Tm} {r r2 : List UInt8} {bad : Bool} {n n2 : Nat} {t : Tm} (hk : KidAt P F f h k ts r false n) (hlt : ts.length < k) (h1 : (bad = false ∧ F r n = some (t, r2, n2) ∧ smT 1000000 t ∧ n2 ≤ 20000) ∨ (bad = true ∧ F r n = none)) : KidAt P F f h k (ts ++ [t]) r2 bad n2 := by
  rcases hk with ⟨-, -, hP, hn, hs⟩ | ⟨h, -⟩
  rotate_left
  · cases h
  obtain ⟨d, hd⟩ : ∃ d, k - ts.length = d + 1 := ⟨k - ts.length - 1, by omega⟩
  rw [hd, pkids] at hP
  unfold KidAt
  rcases h1 with ⟨e1, q1, s1, l1⟩ | ⟨e1, q1⟩
  · simp only [q1] at hP
    refine Or.inl ⟨e1, by rw [List.length_append]; simp; omega, ?_, l1, fun x hx => ?_⟩
    · rw [hP, List.length_append, show k - (ts.length + [t].length) = d by simp; omega, Option.map_map]
      congr 1
      funext z
      simp
    · rcases List.mem_append.1 hx with h | h
      · exact hs x h
      · simp at h; rw [h]; exact s1
  · simp only [q1] at hP
    exact Or.inr ⟨e1, by rw [hP]; rfl⟩

theorem kid_end {P : Option (Tm × List UInt8 × Nat)} {F : List UInt8 → Nat → Option (Tm × List UInt8 × Nat)} {f : Int} {h : Bool} {k : Nat} {ts : List Tm} {r : List UInt8} {bad : Bool} {n : Nat} (hk : KidAt P F f h k ts r bad n) (hk3 : k ≤ 3) (hd : bad = true ∨ ¬ ts.length < k) : (bad = false ∧ P = some (.mk f 0 h ⟨#[]⟩ [] ts, r, n) ∧ smT 1000000 (.mk f 0 h ⟨#[]⟩ [] ts) ∧ n ≤ 20000) ∨ (bad = true ∧ P = none) := by
  rcases hk with ⟨h1, h2, h3, h4, h5⟩ | h
  · have hc : k - ts.length = 0 := by
      rcases hd with h | h
      · rw [h] at h1; cases h1
      · omega
    rw [hc] at h3
    exact Or.inl ⟨h1, by rw [h3]; simp [pkids], (smT_mk _ _ _ _ _ _ _).2 ⟨by decide, by simp, by simp, by omega, h5⟩, h4⟩
  · exact Or.inr h

end Go.Proofs.YtndjdeiccmhelaaGreat
