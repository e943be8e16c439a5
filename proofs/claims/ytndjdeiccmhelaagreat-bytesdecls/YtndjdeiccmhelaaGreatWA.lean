/- The contracts of telamonref1.Binds, telamonref1.kids and telamonref1.free. -/
import Derived.Test.YtndjdeiccmhelaaGreatTE
import Derived.Deep.QuietTactic
import Derived.BigQuiet
import Derived.Deep.RegionHeld3
namespace Go.Proofs.YtndjdeiccmhelaaGreat
open Go.RowKit Go.Sort

/-- does a form bind a variable in its second kid? -/
def bindsB (f : Int) : Bool := f == 3 || f == 4 || f == 6

/-- how many kids a form has; -1: it is none -/
def kidsR (f : Int) : Int := if f = 1 ∨ f = 2 ∨ f = 10 ∨ f = 11 then 0 else if f = 8 ∨ f = 9 then 1 else if f = 3 ∨ f = 4 ∨ f = 5 ∨ f = 6 then 2 else if f = 7 then 3 else -1

set_option maxHeartbeats 2000000 in
theorem kids_any (f : Int) (w : World) : Calls Tryz.prog 72 #[.int .i64 f] w fun e w' => e = .returned (.int .i64 (kidsR f)) ∧ w' = w := by
  by_cases hin : 1 ≤ f ∧ f ≤ 11
  · obtain ⟨k, rfl⟩ := Int.eq_ofNat_of_zero_le (show 0 ≤ f by omega)
    have hk : k = 1 ∨ k = 2 ∨ k = 3 ∨ k = 4 ∨ k = 5 ∨ k = 6 ∨ k = 7 ∨ k = 8 ∨ k = 9 ∨ k = 10 ∨ k = 11 := by omega
    clear hin
    rcases hk with rfl | rfl | rfl | rfl | rfl | rfl | rfl | rfl | rfl | rfl | rfl
    all_goals
      go_enter Tryz.func72, Tryz.ntmps72
      go_wp2
      go_ret
      exact ⟨rfl, rfl⟩
  · have HE : Hid (kidsR f = -1) := by unfold Hid kidsR; rw [if_neg (by omega), if_neg (by omega), if_neg (by omega), if_neg (by omega)]
    have e : ∀ k : Int, 1 ≤ k → k ≤ 11 → (f == k) = false := fun k h1 h2 => by simp; omega
    have e1 := e 1 (by decide) (by decide)
    have e2 := e 2 (by decide) (by decide)
    have e3 := e 3 (by decide) (by decide)
    have e4 := e 4 (by decide) (by decide)
    have e5 := e 5 (by decide) (by decide)
    have e6 := e 6 (by decide) (by decide)
    have e7 := e 7 (by decide) (by decide)
    have e8 := e 8 (by decide) (by decide)
    have e9 := e 9 (by decide) (by decide)
    have e10 := e 10 (by decide) (by decide)
    have e11 := e 11 (by decide) (by decide)
    clear e hin
    go_enter Tryz.func72, Tryz.ntmps72
    go_wp2
    go_ret
    exact ⟨by rw [HE.out]; rfl, rfl⟩
end Go.Proofs.YtndjdeiccmhelaaGreat

/- The contract of telamonref1.free, where no index is too great. -/
namespace Go.Proofs.YtndjdeiccmhelaaGreat
open Go.RowKit Go.Sort

theorem high_kid {ks : List Tm} {k : Tm} (h : k ∈ ks) : heightT k ≤ (ks.map heightT).foldl max 0 := by
  obtain ⟨j, hj⟩ := List.getElem?_of_mem h
  have h1 := take_high hj
  have h2 := high_take_le ks (j + 1)
  omega

end Go.Proofs.YtndjdeiccmhelaaGreat

/- Worlds in which some old blocks may turn; going through a term as plain data. -/
namespace Go.Proofs.YtndjdeiccmhelaaGreat
open Go.RowKit Go.Sort

/-- w' is w with new blocks behind; of the old blocks none has turned but those of P. -/
structure Kept (P : Nat → Prop) (w w' : World) : Prop where
  os : w'.os = w.os
  tape : w'.tape = w.tape
  output : w'.output = w.output
  size : w.heap.size ≤ w'.heap.size
  block : ∀ k, k < w.heap.size → ¬ P k → w'.heap[k]? = w.heap[k]?

theorem Kept.refl (P : Nat → Prop) (w : World) : Kept P w w := ⟨rfl, rfl, rfl, Nat.le_refl _, fun _ _ _ => rfl⟩

theorem Kept.trans {P : Nat → Prop} {a b c : World} (h : Kept P a b) (k : Kept P b c) : Kept P a c :=
  ⟨k.os.trans h.os, k.tape.trans h.tape, k.output.trans h.output, Nat.le_trans h.size k.size, fun i hi hp => (k.block i (Nat.lt_of_lt_of_le hi h.size) hp).trans (h.block i hi hp)⟩

theorem Kept.of_below {P : Nat → Prop} {w w' : World} (h : RowKit.Below w.heap.size w w') : Kept P w w' := ⟨h.os, h.tape, h.output, h.size, fun k hk _ => h.block k hk⟩

theorem Kept.of_grew {P : Nat → Prop} {w w' : World} (h : Grew w w') : Kept P w w' := Kept.of_below h.below

theorem Kept.below {P : Nat → Prop} {w w' : World} (h : Kept P w w') {B : Nat} (hB : B ≤ w.heap.size) (hP : ∀ k, P k → B ≤ k) : RowKit.Below B w w' :=
  ⟨h.os, h.tape, h.output, h.size, fun k hk => h.block k (Nat.lt_of_lt_of_le hk hB) fun hp => Nat.lt_irrefl _ (Nat.lt_of_lt_of_le hk (hP k hp))⟩

theorem Kept.alloc {P : Nat → Prop} {a w : World} (h : Kept P a w) (o : Obj) : Kept P a (w.alloc o) := h.trans (Kept.of_below ((Below.refl _ _).alloc (Nat.le_refl _) o))
theorem Kept.setCell {P : Nat → Prop} {a w : World} (h : Kept P a w) {p : Addr} (hp : P p.block) (u : Value) : Kept P a (w.setCell p u) :=
  h.trans ⟨rfl, rfl, rfl, by simp [World.setCell], fun k _ hk => Below.heap_setCell _ _ _ _ (fun e => hk (e ▸ hp))⟩

/-- how many binders are around the kid of number i, if there are b around the part -/
def deepC (f b : Int) (i : Nat) : Int := if 1 ≤ i ∧ bindsB f = true then b + 1 else b

mutual
/-- going through a term: each part ahead of its kids, with a state; an error ends it -/
def walkF {σ R : Type} (visit : σ → Tm → Int → Int → Except Int (σ × R)) (join : R → R → R) : Tm → σ → Int → Int → Except Int (σ × R)
  | .mk f n hd nm ls ks, s, b, p => match visit s (.mk f n hd nm ls ks) b p with
    | .error e => .error e
    | .ok (s1, r1) => walkL visit join f ks 0 s1 r1 b p
def walkL {σ R : Type} (visit : σ → Tm → Int → Int → Except Int (σ × R)) (join : R → R → R) (f : Int) : List Tm → Nat → σ → R → Int → Int → Except Int (σ × R)
  | [], _, s, r, _, _ => .ok (s, r)
  | k :: ks, i, s, r, b, p => match walkF visit join k s (deepC f b i) (p + 1) with
    | .error e => .error e
    | .ok (s1, r1) => walkL visit join f ks (i + 1) s1 (join r r1) b p
end
theorem walkF_mk {σ R : Type} (visit : σ → Tm → Int → Int → Except Int (σ × R)) (join : R → R → R) (f n : Int) (hd : Bool) (nm : ByteArray) (ls : List LvT) (ks : List Tm) (s : σ) (b p : Int) : walkF visit join (.mk f n hd nm ls ks) s b p = match visit s (.mk f n hd nm ls ks) b p with
    | .error e => .error e
    | .ok (s1, r1) => walkL visit join f ks 0 s1 r1 b p := by rw [walkF]

theorem walkL_append {σ R : Type} (visit : σ → Tm → Int → Int → Except Int (σ × R)) (join : R → R → R) (f : Int) : ∀ (xs ys : List Tm) (i : Nat) (s : σ) (r : R) (b p : Int), walkL visit join f (xs ++ ys) i s r b p = match walkL visit join f xs i s r b p with
    | .error e => .error e
    | .ok (s1, r1) => walkL visit join f ys (i + xs.length) s1 r1 b p
  | [], ys, i, s, r, b, p => by simp [walkL]
  | x :: xs, ys, i, s, r, b, p => by
    rw [List.cons_append, walkL, walkL]
    cases walkF visit join x s (deepC f b i) (p + 1) with
    | error e => rfl
    | ok q => obtain ⟨s1, r1⟩ := q; simp only []; rw [walkL_append visit join f xs ys (i + 1) s1 (join r r1) b p, show i + 1 + xs.length = i + (x :: xs).length by simp; omega]

/-- one kid more -/
theorem walkL_take {σ R : Type} {visit : σ → Tm → Int → Int → Except Int (σ × R)} {join : R → R → R} {f : Int} {ks : List Tm} {j : Nat} {k : Tm} {s s' : σ} {r r' : R} {b p : Int} (h : ks[j]? = some k) (h0 : walkL visit join f (ks.take j) 0 s r b p = .ok (s', r')) :
    walkL visit join f (ks.take (j + 1)) 0 s r b p = match walkF visit join k s' (deepC f b j) (p + 1) with
    | .error e => .error e
    | .ok (s1, r1) => .ok (s1, join r' r1) := by
  obtain ⟨hj, rfl⟩ := List.getElem?_eq_some_iff.1 h
  rw [List.take_succ_eq_append_getElem hj, walkL_append, h0]
  simp only [List.length_take, Nat.zero_add, Nat.min_eq_left (Nat.le_of_lt hj), walkL]

/-- an error at one kid is an error of all -/
theorem walkL_bad {σ R : Type} {visit : σ → Tm → Int → Int → Except Int (σ × R)} {join : R → R → R} {f : Int} {ks : List Tm} {j : Nat} {k : Tm} {s s' : σ} {r r' : R} {b p e : Int} (h : ks[j]? = some k) (h0 : walkL visit join f (ks.take j) 0 s r b p = .ok (s', r')) (h1 : walkF visit join k s' (deepC f b j) (p + 1) = .error e) :
    walkL visit join f ks 0 s r b p = .error e := by
  have h2 := walkL_take h h0
  rw [h1] at h2
  conv => lhs; rw [← List.take_append_drop (j + 1) ks]
  rw [walkL_append, h2]
end Go.Proofs.YtndjdeiccmhelaaGreat

/- The contract of term.cut. -/
namespace Go.Proofs.YtndjdeiccmhelaaGreat
open Go.RowKit Go.Sort

/-- how many kids stand ahead of a binder -/
def cutN (f : Int) (len : Nat) : Nat := if bindsB f then min len 1 else len

theorem drewN_below {B : Nat} {a w : World} (h : RowKit.Below B a w) (q : Nat) : RowKit.Below B a (w.drewN q) := ⟨h.os, h.tape, h.output, h.size, h.block⟩

set_option maxRecDepth 100000 in
set_option maxHeartbeats 1000000 in
theorem cut_plain (f n : Int) (hd : Bool) (nm : ByteArray) (lv : Value) (len kc : Nat) (ka : Option Addr) (w : World) (hkn : ka = none → kc = 0) (hkc : len ≤ kc) (hkm : kc ≤ 9223372036854775807) (hf : bindsB f = false) :
    Calls Tryz.prog 114 #[.agg #[.int .i64 f, .int .i64 n, .bool hd, .string nm, lv, .slice ka len kc]] w fun e w' => e = .returned (.agg #[.slice ka len len, .slice ka 0 0]) ∧ RowKit.Below w.heap.size w w' := by
  obtain ⟨h3, h4, h6⟩ : (f == 3) = false ∧ (f == 4) = false ∧ (f == 6) = false := by
    simp [bindsB] at hf; exact ⟨by simpa using hf.1.1, by simpa using hf.1.2, by simpa using hf.2⟩
  clear hf
  cases ka with
  | none =>
    obtain rfl := hkn rfl
    obtain rfl : len = 0 := by omega
    go_enter Tryz.func114, Tryz.ntmps114
    go_wp2
    go_quiet (fail)
    go_wp2
    go_region
    rename_i K hK
    refine hK _ _ ?_
    go_wp2
    refine bodyPost_ret (v := .agg #[.slice none 0 0, .slice none 0 0]) (by simp [results, Tryz.results114, go_sem]) rfl ⟨rfl, ?_⟩
    exact ((drewN_below (((Below.refl _ _).alloc (Nat.le_refl _) _).alloc (by simp) _) _).setCell (by simp) _).setCell (by simp) _
  | some a =>
    go_enter Tryz.func114, Tryz.ntmps114
    go_wp2
    go_quiet (fail)
    go_wp2
    go_region
    rename_i K hK
    refine hK _ _ ?_
    go_wp2
    refine bodyPost_ret (v := .agg #[.slice (some a) len len, .slice (some a) 0 0]) (by simp [results, Tryz.results114, go_sem]) rfl ⟨rfl, ?_⟩
    exact ((drewN_below (((Below.refl _ _).alloc (Nat.le_refl _) _).alloc (by simp) _) _).setCell (by simp) _).setCell (by simp) _

set_option maxRecDepth 100000 in
set_option maxHeartbeats 1000000 in
theorem cut_binds (f n : Int) (hd : Bool) (nm : ByteArray) (lv : Value) (len kc : Nat) (ka : Option Addr) (w : World) (hkn : ka = none → kc = 0) (hkc : len ≤ kc) (hkm : kc ≤ 9223372036854775807) (hf : bindsB f = true) :
    Calls Tryz.prog 114 #[.agg #[.int .i64 f, .int .i64 n, .bool hd, .string nm, lv, .slice ka len kc]] w fun e w' => ∃ a2, e = .returned (.agg #[.slice ka (min len 1) (min len 1), .slice a2 (len - min len 1) (len - min len 1)]) ∧ (∀ b o, ka = some ⟨b, o, none⟩ → 1 < len → a2 = some ⟨b, o + 6, none⟩) ∧ RowKit.Below w.heap.size w w' := by
  have hf' : (f == 3) = true ∨ (f == 3) = false ∧ (f == 4) = true ∨ (f == 3) = false ∧ (f == 4) = false ∧ (f == 6) = true := by
    simp only [bindsB] at hf
    cases h3 : (f == 3) <;> cases h4 : (f == 4) <;> simp_all
  clear hf
  cases ka with
  | none =>
    obtain rfl := hkn rfl
    obtain rfl : len = 0 := by omega
    rcases hf' with h3 | ⟨h3, h4⟩ | ⟨h3, h4, h6⟩
    all_goals
      go_enter Tryz.func114, Tryz.ntmps114
      go_wp2
      go_quiet (fail)
      go_wp2
      go_region
      rename_i K hK
      refine hK _ _ ?_
      go_wp2
      refine bodyPost_ret (v := .agg #[.slice none 0 0, .slice none 0 0]) (by simp [results, Tryz.results114, go_sem]) rfl ⟨none, rfl, fun _ _ h => (by cases h), ?_⟩
      exact ((drewN_below (((Below.refl _ _).alloc (Nat.le_refl _) _).alloc (by simp) _) _).setCell (by simp) _).setCell (by simp) _
  | some a =>
    rcases Nat.eq_zero_or_pos len with rfl | hp
    · rcases hf' with h3 | ⟨h3, h4⟩ | ⟨h3, h4, h6⟩
      all_goals
        go_enter Tryz.func114, Tryz.ntmps114
        go_wp2
        go_quiet (fail)
        go_wp2
        go_region
        rename_i K hK
        refine hK _ _ ?_
        go_wp2
        refine bodyPost_ret (v := .agg #[.slice (some a) 0 0, .slice (some a) 0 0]) (by simp [results, Tryz.results114, go_sem]) rfl ⟨some a, rfl, fun _ _ _ h => absurd h (by omega), ?_⟩
        exact ((drewN_below (((Below.refl _ _).alloc (Nat.le_refl _) _).alloc (by simp) _) _).setCell (by simp) _).setCell (by simp) _
    · rcases (show len = 1 ∨ 1 < len by omega) with rfl | h1
      · rcases hf' with h3 | ⟨h3, h4⟩ | ⟨h3, h4, h6⟩
        all_goals
          go_enter Tryz.func114, Tryz.ntmps114
          go_wp2
          go_quiet (fail)
          go_wp2
          go_region
          rename_i K hK
          refine hK _ _ ?_
          go_wp2
          refine bodyPost_ret (v := .agg #[.slice (some a) 1 1, .slice (some a) 0 0]) (by simp [results, Tryz.results114, go_sem]) rfl ⟨some a, rfl, fun _ _ _ h => absurd h (by omega), ?_⟩
          exact ((drewN_below (((Below.refl _ _).alloc (Nat.le_refl _) _).alloc (by simp) _) _).setCell (by simp) _).setCell (by simp) _
      · have hi : (1 : Int) < (len : Int) := by omega
        have hm : min len 1 = 1 := by omega
        rw [hm]
        clear hm
        rcases hf' with h3 | ⟨h3, h4⟩ | ⟨h3, h4, h6⟩
        all_goals
          go_enter Tryz.func114, Tryz.ntmps114
          go_wp2
          go_quiet (fail)
          go_wp2
          go_region
          rename_i K hK
          refine hK _ _ ?_
          go_wp2
          refine bodyPost_ret (v := .agg #[.slice (some a) 1 1, .slice (some (a.add 6)) (len - 1) (len - 1)]) (by simp [results, Tryz.results114, go_sem]) rfl ⟨some (a.add 6), rfl, fun b o h _ => (by cases h; rfl), ?_⟩
          exact ((drewN_below (((Below.refl _ _).alloc (Nat.le_refl _) _).alloc (by simp) _) _).setCell (by simp) _).setCell (by simp) _

theorem cut_any (f n : Int) (hd : Bool) (nm : ByteArray) (lv : Value) (len kc : Nat) (ka : Option Addr) (w : World) (hkn : ka = none → kc = 0) (hkc : len ≤ kc) (hkm : kc ≤ 9223372036854775807) :
    Calls Tryz.prog 114 #[.agg #[.int .i64 f, .int .i64 n, .bool hd, .string nm, lv, .slice ka len kc]] w fun e w' => ∃ a2, e = .returned (.agg #[.slice ka (cutN f len) (cutN f len), .slice a2 (len - cutN f len) (len - cutN f len)]) ∧ (∀ b o, ka = some ⟨b, o, none⟩ → cutN f len < len → a2 = some ⟨b, o + cutN f len * 6, none⟩) ∧ RowKit.Below w.heap.size w w' := by
  cases hf : bindsB f
  · have e : cutN f len = len := by simp [cutN, hf]
    rw [e, Nat.sub_self]
    exact (cut_plain f n hd nm lv len kc ka w hkn hkc hkm hf).mono fun e w' ⟨h1, h2⟩ => ⟨ka, h1, fun _ _ _ h => absurd h (by omega), h2⟩
  · have e : cutN f len = min len 1 := by simp [cutN, hf]
    rw [e]
    refine (cut_binds f n hd nm lv len kc ka w hkn hkc hkm hf).mono fun e w' ⟨a2, h1, h2, h3⟩ => ⟨a2, h1, fun b o hk hl => ?_, h3⟩
    have h1' : 1 < len := by omega
    rw [h2 b o hk h1', show min len 1 = 1 by omega]
end Go.Proofs.YtndjdeiccmhelaaGreat
