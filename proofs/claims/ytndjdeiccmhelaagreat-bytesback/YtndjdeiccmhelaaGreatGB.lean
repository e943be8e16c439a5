/- What the reference's reader reads as a term, as a function of the bytes. -/
import Derived.Test.YtndjdeiccmhelaaGreatEY
namespace Go.Proofs.YtndjdeiccmhelaaGreat
open Go.RowKit Go.Sort Go.Lib

/-- so many levels at the head of bytes -/
def plevels : Nat → List UInt8 → Option (List LvT × List UInt8)
  | 0, bs => some ([], bs)
  | c + 1, bs => match plevel bs with
    | none => none
    | some (l, r) => (plevels c r).map fun z => (l :: z.1, z.2)

/-- the fields of a term of that form, at the head of bytes -/
def pfields (f : Nat) (bs : List UInt8) : Option ((Int × Bool × ByteArray × List LvT) × List UInt8) :=
  if f = 1 ∨ f = 11 then (pnum 6 bs).map fun z => (((z.1 : Int), false, ⟨#[]⟩, []), z.2)
  else if f = 2 then (plevel bs).map fun z => ((0, false, ⟨#[]⟩, [z.1]), z.2)
  else if f = 3 ∨ f = 4 ∨ f = 5 then (match pnum 6 bs with
    | none => none
    | some (h, r) => if 1 < h then none else some ((0, decide (h = 1), ⟨#[]⟩, []), r))
  else if f = 10 then (match ptext bs with
    | none => none
    | some (nm, r) => match pnum 6 r with
      | none => none
      | some (c, r2) => (plevels c r2).map fun z => ((0, false, nm, z.1), z.2))
  else some ((0, false, ⟨#[]⟩, []), bs)

/-- so many terms at the head of bytes -/
def pkids (F : List UInt8 → Nat → Option (Tm × List UInt8 × Nat)) : Nat → List UInt8 → Nat → Option (List Tm × List UInt8 × Nat)
  | 0, bs, n => some ([], bs, n)
  | k + 1, bs, n => match F bs n with
    | none => none
    | some (t, r, n') => (pkids F k r n').map fun z => (t :: z.1, z.2)

/-- a term at the head of bytes, of at most that height, behind n parts -/
def pterm : Nat → List UInt8 → Nat → Option (Tm × List UInt8 × Nat)
  | 0, _, _ => none
  | d + 1, bs, n => match pnum 6 bs with
    | none => none
    | some (f, r) => if 20000 < n + 1 ∨ kidsR (f : Int) < 0 then none else
      match pfields f r with
      | none => none
      | some (x, r2) => (pkids (pterm d) (kidsR (f : Int)).toNat r2 (n + 1)).map fun z => (.mk (f : Int) x.1 x.2.1 x.2.2.1 x.2.2.2 z.1, z.2)

/-- what is read: the term and what is left, or the reader is bad -/
def RrTm (w : World) (N rb : Nat) (a : Option Addr) (cap : Nat) (all : List UInt8) (e : Ending) (w' : World) (P : Option (Tm × List UInt8 × Nat)) : Prop :=
  ∃ (v : Value) (t : Tm) (r : List UInt8) (bad : Bool) (n : Nat), e = .returned v ∧ ShapeT v ∧ TF w' (oldB w) v t ∧ RR w' N rb a cap all r bad n ∧ Kept (fun k => k = rb) w w' ∧ ((bad = false ∧ P = some (t, r, n) ∧ smT 1000000 t ∧ n ≤ 20000) ∨ (bad = true ∧ P = none))

def RrT (N rb : Nat) (a : Option Addr) (cap : Nat) (all : List UInt8) (d : Nat) : Prop :=
  ∀ (bs : List UInt8) (n : Nat) (high : Int) (w : World), RR w N rb a cap all bs false n → n ≤ 20000 → high + d = 501 → Calls Tryz.prog 43 #[.pointer (some ⟨rb, 0, none⟩), .int .i64 high] w fun e w' => RrTm w N rb a cap all e w' (pterm d bs n)

/-- how far the kids are read -/
def KidAt (P : Option (Tm × List UInt8 × Nat)) (F : List UInt8 → Nat → Option (Tm × List UInt8 × Nat)) (f : Int) (h : Bool) (k : Nat) (ts : List Tm) (r : List UInt8) (bad : Bool) (n : Nat) : Prop :=
  (bad = false ∧ ts.length ≤ k ∧ P = (pkids F (k - ts.length) r n).map (fun z => (.mk f 0 h ⟨#[]⟩ [] (ts ++ z.1), z.2)) ∧ n ≤ 20000 ∧ ∀ t ∈ ts, smT 1000000 t) ∨ (bad = true ∧ P = none)

theorem kid_step {P : Option (Tm × List UInt8 × Nat)} {F : List UInt8 → Nat → Option (Tm × List UInt8 × Nat)} {f : Int} {h : Bool} {k : Nat} {ts : List Tm} {r r2 : List UInt8} {bad : Bool} {n n2 : Nat} {t : Tm} (hk : KidAt P F f h k ts r false n) (hlt : ts.length < k) (h1 : (bad = false ∧ F r n = some (t, r2, n2) ∧ smT 1000000 t ∧ n2 ≤ 20000) ∨ (bad = true ∧ F r n = none)) : KidAt P F f h k (ts ++ [t]) r2 bad n2 := by
  rcases hk with ⟨-, -, hP, hn, hs⟩ | ⟨h, -⟩
  rotate_left
  · cases h
  obtain ⟨d, hd⟩ : ∃ d, k - ts.length = d + 1 := ⟨k - ts.length - 1, by omega⟩
  rw [hd, pkids] at hP
  unfold KidAt
  rcases h1 with ⟨e1, q1, s1, l1⟩ | ⟨e1, q1⟩
  · simp only [q1] at hP
    refine Or.inl ⟨e1, by rw [List.length_append]; simp; omega, ?_, l1, fun x hx => ?_⟩
    · rw [hP, List.length_append, show k - (ts.length + [t].length) = d by simp; omega, Option.map_map]
      congr 1
      funext z
      simp
    · rcases List.mem_append.1 hx with h | h
      · exact hs x h
      · simp at h; rw [h]; exact s1
  · simp only [q1] at hP
    exact Or.inr ⟨e1, by rw [hP]; rfl⟩

theorem kid_end {P : Option (Tm × List UInt8 × Nat)} {F : List UInt8 → Nat → Option (Tm × List UInt8 × Nat)} {f : Int} {h : Bool} {k : Nat} {ts : List Tm} {r : List UInt8} {bad : Bool} {n : Nat} (hk : KidAt P F f h k ts r bad n) (hk3 : k ≤ 3) (hd : bad = true ∨ ¬ ts.length < k) : (bad = false ∧ P = some (.mk f 0 h ⟨#[]⟩ [] ts, r, n) ∧ smT 1000000 (.mk f 0 h ⟨#[]⟩ [] ts) ∧ n ≤ 20000) ∨ (bad = true ∧ P = none) := by
  rcases hk with ⟨h1, h2, h3, h4, h5⟩ | h
  · have hc : k - ts.length = 0 := by
      rcases hd with h | h
      · rw [h] at h1; cases h1
      · omega
    rw [hc] at h3
    exact Or.inl ⟨h1, by rw [h3]; simp [pkids], (smT_mk _ _ _ _ _ _ _).2 ⟨by decide, by simp, by simp, by omega, h5⟩, h4⟩
  · exact Or.inr h

/-- how far the levels are read -/
def LvsAt (P : Option (List LvT × List UInt8)) (c : Nat) (ls : List LvT) (r : List UInt8) (bad : Bool) : Prop :=
  (bad = false ∧ ls.length ≤ c ∧ P = (plevels (c - ls.length) r).map (fun z => (ls ++ z.1, z.2)) ∧ ls.length + r.length ≤ 1000000 ∧ ∀ l ∈ ls, l.2.length ≤ 1000000) ∨ (bad = true ∧ P = none)
end Go.Proofs.YtndjdeiccmhelaaGreat

/- What the reference's reader reads of a written term. -/
namespace Go.Proofs.YtndjdeiccmhelaaGreat
open Go.RowKit Go.Sort Go.Lib

theorem pnum6 {n : Nat} (h : n ≤ 1073741824) (rest : List UInt8) : pnum 6 (numB n ++ rest) = some (n, rest) := pnum_numB rest 5 n (Nat.lt_of_le_of_lt h (by decide))

theorem pvars_enc (rest : List UInt8) : ∀ xs : List (Int × Int), (∀ p ∈ xs, 0 ≤ p.1 ∧ p.1 ≤ 1000 ∧ 0 ≤ p.2 ∧ p.2 ≤ 1000) → pvars xs.length (xs.flatMap varB ++ rest) = some (xs, rest)
  | [], _ => rfl
  | p :: xs, h => by
    obtain ⟨h1, h2, h3, h4⟩ := h p (by simp)
    rw [List.length_cons, pvars, List.flatMap_cons, varB, List.append_assoc, List.append_assoc, pnum6 (by omega)]
    simp only
    rw [pnum6 (by omega)]
    simp only
    rw [pvars_enc rest xs fun q hq => h q (by simp [hq])]
    simp only [Option.map_some, Option.some.injEq, Prod.mk.injEq, and_true, List.cons.injEq]
    have e1 : ((p.1.toNat : Nat) : Int) = p.1 := by omega
    have e2 : ((p.2.toNat : Nat) : Int) = p.2 := by omega
    rw [e1, e2]

theorem plevel_enc (rest : List UInt8) {l : LvT} (h : rightL l) : plevel (levB l ++ rest) = some (l, rest) := by
  obtain ⟨h1, h2, h3, h4⟩ := h
  unfold plevel levB
  rw [List.append_assoc, List.append_assoc, pnum6 (by omega)]
  simp only
  rw [pnum6 (by omega)]
  simp only
  rw [pvars_enc rest l.2 h4]
  have e1 : ((l.1.toNat : Nat) : Int) = l.1 := by omega
  simp only [Option.map_some, e1]

theorem plevels_enc (rest : List UInt8) : ∀ ls : List LvT, (∀ l ∈ ls, canonB l = true) → plevels ls.length (ls.flatMap levB ++ rest) = some (ls, rest)
  | [], _ => rfl
  | l :: ls, h => by
    rw [List.length_cons, plevels, List.flatMap_cons, List.append_assoc, plevel_enc _ (canon_rightL (h l (by simp)))]
    simp only
    rw [plevels_enc rest ls fun q hq => h q (by simp [hq])]
    rfl

theorem ptext_enc (rest : List UInt8) {nm : ByteArray} (h : nm.size ≤ 60) : ptext (nameB nm ++ rest) = some (nm, rest) := by
  have hl : nm.data.toList.length = nm.size := by rw [Array.length_toList]; rfl
  unfold ptext nameB
  rw [List.append_assoc, pnum6 (by omega)]
  simp only
  rw [if_neg (by rw [List.length_append]; omega), ← hl, List.take_left, List.drop_left]

theorem pkids_enc (F : List UInt8 → Nat → Option (Tm × List UInt8 × Nat)) (rest : List UInt8) : ∀ (ks : List Tm) (n : Nat), (∀ k ∈ ks, ∀ rest n, n + sizeT k ≤ 20000 → F (encT k ++ rest) n = some (cleanT k, rest, n + sizeT k)) → n + (ks.map sizeT).sum ≤ 20000 → pkids F ks.length (ks.flatMap encT ++ rest) n = some (ks.map cleanT, rest, n + (ks.map sizeT).sum)
  | [], n, _, _ => rfl
  | k :: ks, n, h, hn => by
    rw [List.map_cons, List.sum_cons] at hn
    rw [List.length_cons, pkids, List.flatMap_cons, List.append_assoc, h k (by simp) _ n (by omega)]
    simp only
    rw [pkids_enc F rest ks (n + sizeT k) (fun q hq => h q (by simp [hq])) (by omega)]
    simp only [Option.map_some, List.map_cons, List.sum_cons, Nat.add_assoc]

theorem kids_low : ∀ (ks : List Tm) (a : Nat), a ≤ ks.foldl (fun m k => max m (heightT k)) a ∧ ∀ k ∈ ks, heightT k ≤ ks.foldl (fun m k => max m (heightT k)) a
  | [], a => ⟨Nat.le_refl _, fun k h => by cases h⟩
  | k :: ks, a => by
    obtain ⟨h1, h2⟩ := kids_low ks (max a (heightT k))
    rw [List.foldl_cons]
    refine ⟨by omega, fun q hq => ?_⟩
    rcases List.mem_cons.1 hq with rfl | h
    · omega
    · exact h2 q h

theorem kid_low {ks : List Tm} {k : Tm} (h : k ∈ ks) : heightT k ≤ (ks.map heightT).foldl max 0 := by
  rw [List.foldl_map]
  exact (kids_low ks 0).2 k h

theorem pfields_enc {f n : Int} {h : Bool} {nm : ByteArray} {ls : List LvT} {ks : List Tm} (hf : formedB (.mk f n h nm ls ks) = true) (hl : ls.length ≤ 1000000) (rest : List UInt8) : pfields f.toNat (fieldB f n h nm ls ++ rest) = some ((if f = 1 ∨ f = 11 then n else 0, if f = 3 ∨ f = 4 ∨ f = 5 then h else false, if f = 10 then nm else ByteArray.empty, if f = 2 ∨ f = 10 then ls else []), rest) := by
  obtain ⟨hk, h1, h2, h10, -⟩ := formed_part hf
  have hff : f = 1 ∨ f = 2 ∨ f = 3 ∨ f = 4 ∨ f = 5 ∨ f = 6 ∨ f = 7 ∨ f = 8 ∨ f = 9 ∨ f = 10 ∨ f = 11 := by
    unfold kidsR at hk
    repeat' split at hk
    all_goals omega
  rcases hff with rfl | rfl | rfl | rfl | rfl | rfl | rfl | rfl | rfl | rfl | rfl
  · obtain ⟨a, b⟩ := h1 (Or.inl rfl)
    show (pnum 6 (numB n.toNat ++ rest)).map _ = _
    rw [pnum6 (by omega)]
    have e1 : ((n.toNat : Nat) : Int) = n := by omega
    simp [e1]; rfl
  · obtain ⟨l, rfl, hc⟩ := h2 rfl
    show (plevel ([l].flatMap levB ++ rest)).map _ = _
    rw [List.flatMap_cons, List.flatMap_nil, List.append_nil, plevel_enc _ (canon_rightL hc)]
    rfl
  · cases h <;> rfl
  · cases h <;> rfl
  · cases h <;> rfl
  · rfl
  · rfl
  · rfl
  · rfl
  · obtain ⟨a, b, c⟩ := h10 rfl
    have e : fieldB 10 n h nm ls ++ rest = nameB nm ++ (numB ls.length ++ (ls.flatMap levB ++ rest)) := by
      show nameB nm ++ (numB ls.length ++ ls.flatMap levB) ++ rest = _
      rw [List.append_assoc, List.append_assoc]
    rw [e]
    show pfields 10 _ = _
    unfold pfields
    rw [if_neg (by decide), if_neg (by decide), if_neg (by decide), if_pos rfl, ptext_enc _ b]
    simp only
    rw [pnum6 (by omega)]
    simp only
    rw [plevels_enc rest ls c]
    rfl
  · obtain ⟨a, b⟩ := h1 (Or.inr rfl)
    show (pnum 6 (numB n.toNat ++ rest)).map _ = _
    rw [pnum6 (by omega)]
    have e1 : ((n.toNat : Nat) : Int) = n := by omega
    simp [e1]; rfl

theorem pterm_enc (t : Tm) : ∀ (d n : Nat) (rest : List UInt8), smT 1000000 t → formedB t = true → heightT t ≤ d → n + sizeT t ≤ 20000 → pterm d (encT t ++ rest) n = some (cleanT t, rest, n + sizeT t) := by
  refine Tm.ind (P := fun t => ∀ (d n : Nat) (rest : List UInt8), smT 1000000 t → formedB t = true → heightT t ≤ d → n + sizeT t ≤ 20000 → pterm d (encT t ++ rest) n = some (cleanT t, rest, n + sizeT t)) ?_ t
  intro f m hd nm ls ks ih d n rest hsm hf hh hn
  obtain ⟨-, hls, -, -, hks⟩ := (smT_mk _ _ _ _ _ _ _).1 hsm
  obtain ⟨hk, -, -, -, hkf⟩ := formed_part hf
  rw [heightT_mk] at hh
  rw [sizeT_mk] at hn
  obtain ⟨d', rfl⟩ : ∃ d', d = d' + 1 := ⟨d - 1, by omega⟩
  have hf0 : 0 ≤ f ∧ f ≤ 11 := by
    unfold kidsR at hk
    repeat' split at hk
    all_goals omega
  have ef : ((f.toNat : Nat) : Int) = f := by omega
  rw [encT_mk, List.append_assoc, pterm, pnum6 (by omega)]
  simp only
  rw [ef, if_neg (by omega), List.append_assoc, pfields_enc hf hls]
  simp only
  have ek : (kidsR f).toNat = ks.length := by omega
  rw [ek, pkids_enc (pterm d') rest ks (n + 1) (fun k hk' rest n hn' => ih k hk' d' n rest (hks k hk') (hkf k hk') (by have := kid_low hk'; omega) hn') (by omega), clean_mk, sizeT_mk]
  simp only [Option.map_some, Nat.add_assoc]
end Go.Proofs.YtndjdeiccmhelaaGreat
