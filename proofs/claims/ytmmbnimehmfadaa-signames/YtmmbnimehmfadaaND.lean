/- The contracts of the reader's ctor and of several at constructors. -/
import Derived.Test.YtmmbnimehmfadaaKF
import Derived.Test.YtmmbnimehmfadaaHA
import Derived.Test.YtmmbnimehmfadaaRL
import Derived.Test.YtmmbnimehmfadaaOG
import Derived.Test.YtmmbnimehmfadaaOD
import Derived.Test.YtmmbnimehmfadaaRMC
namespace Go.Proofs.Ytmmbnimehmfadaa
open Go.RowKit Go.Sort Go.Lib

/-- cells that are a constructor that does not look into the blocks of P -/
def EC (w : World) (P : Nat → Bool) (xs : List Value) (c : ByteArray × Tm) : Prop := ∃ (u0 u1 : Int) (u2 : Bool) (u3 : ByteArray) (r1 : Option Addr) (r2 r3 : Nat) (s1 : Option Addr) (s2 s3 : Nat), xs = [.string c.1, .int .i64 u0, .int .i64 u1, .bool u2, .string u3, .slice r1 r2 r3, .slice s1 s2 s3] ∧ TF w P (.agg #[.int .i64 u0, .int .i64 u1, .bool u2, .string u3, .slice r1 r2 r3, .slice s1 s2 s3]) c.2 ∧ smT 1000000 c.2 ∧ c.1.size ≤ 1000000

theorem EC.moves : Moves EC := by
  rintro w w' P Q xs t ⟨u0, u1, u2, u3, r1, r2, r3, s1, s2, s3, h1, h2, h3, h4⟩ hs hk
  exact ⟨u0, u1, u2, u3, r1, r2, r3, s1, s2, s3, h1, h2.move hs hk, h3, h4⟩

theorem fold_at : ∀ (zs : List Value) (k : Nat) (c : Array Value), k + zs.length ≤ c.size → ∀ i : Nat, (List.foldl (fun (cs : Array Value) (x : Value × Nat) => cs.setIfInBounds x.snd x.fst) c (zs.zipIdx k))[i]? = if k ≤ i ∧ i < k + zs.length then zs[i - k]? else c[i]?
  | [], k, c, _, i => by rw [if_neg (by simp only [List.length_nil]; omega)]; rfl
  | z :: zs, k, c, h, i => by
    rw [List.length_cons] at h
    rw [List.zipIdx_cons, List.foldl_cons, fold_at zs (k + 1) _ (by simp only [Array.size_setIfInBounds]; omega) i, List.length_cons]
    by_cases h1 : i = k
    · subst h1
      rw [if_neg (by omega), if_pos (by omega), Nat.sub_self, Array.getElem?_setIfInBounds_self_of_lt (by omega)]
      rfl
    · rw [Array.getElem?_setIfInBounds_ne (fun e => h1 e.symm)]
      by_cases h2 : k + 1 ≤ i ∧ i < k + 1 + zs.length
      · rw [if_pos h2, if_pos (by omega), show i - k = (i - (k + 1)) + 1 by omega, List.getElem?_cons_succ]
      · rw [if_neg h2, if_neg (by omega)]

theorem fold_new (zs : List Value) (c : Array Value) (h : c.size = zs.length) : List.foldl (fun (cs : Array Value) (x : Value × Nat) => cs.setIfInBounds x.snd x.fst) c zs.zipIdx = zs.toArray := by
  apply Array.ext_getElem?
  intro i
  rw [fold_at zs 0 c (by omega) i]
  by_cases hi : i < zs.length
  · rw [if_pos (by omega)]; simp
  · rw [if_neg (by omega), Array.getElem?_eq_none (by omega), Array.getElem?_eq_none (by simp; omega)]

/-- a constructor that is right -/
def okC (c : ByteArray × Tm) : Prop := (0 < c.1.size ∧ c.1.size ≤ 60) ∧ okTm c.2
def cleanC (c : ByteArray × Tm) : ByteArray × Tm := (c.1, cleanT c.2)

end Go.Proofs.Ytmmbnimehmfadaa

/- Declarations that were read: their cells, with a footprint; what is right of them, plain. -/
namespace Go.Proofs.Ytmmbnimehmfadaa
open Go.RowKit Go.Sort Go.Lib

theorem CK.subF {w w' : World} {a : Option Addr} {cs : List (ByteArray × Tm)} (hs : w.heap.size ≤ w'.heap.size) (hc : ∀ p v, w.cell? p = some v → w'.cell? p = some v) (h : CK w a cs) : CK w' a cs := by
  rcases h with h | ⟨b, o, ha, hlt, h⟩
  · exact Or.inl h
  · exact Or.inr ⟨b, o, ha, by omega, fun i c hi => ⟨hc _ _ (h i c hi).1, (h i c hi).2.subF hs hc⟩⟩

theorem DV.subF {w w' : World} {v : Value} {d : Dl} (hs : w.heap.size ≤ w'.heap.size) (hc : ∀ p v, w.cell? p = some v → w'.cell? p = some v) (h : DV w v d) : DV w' v d := by
  obtain ⟨t0, t1, t2, t3, t4, t5, t6, t7, t8, t9, v0, v1, v2, v3, v4, v5, v6, v7, v8, v9, ca, cc, h1, h2, h3, h4⟩ := h.go
  exact ⟨t0, t1, t2, t3, t4, t5, t6, t7, t8, t9, v0, v1, v2, v3, v4, v5, v6, v7, v8, v9, ca, cc, h1, h2.subF hs hc, h3.subF hs hc, h4.subF hs hc⟩

/-- cells that are a declaration that does not look into the blocks of P -/
structure ED (w : World) (P : Nat → Bool) (xs : List Value) (d : Dl) : Prop where
  len : xs.length = 17
  cell : ∀ v ∈ xs, v.oneCell' = true
  dv : DV (maskB P w) (.agg xs.toArray) d
  sm : smD d

theorem ED.moves : Moves ED := fun _ _ _ _ _ _ h hs hk => ⟨h.len, h.cell, h.dv.subF (by rw [maskB_size, maskB_size]; exact hs) (maskB_keeps hk), h.sm⟩

theorem RowX.ck {w : World} {B cap : Nat} {P : Nat → Bool} {a : Option Addr} {cs : List (ByteArray × Tm)} (h : RowX 34 7 EC w B P a cap cs) (hB : ∀ k, B ≤ k → P k = false) : CK (maskB P w) a cs := by
  cases hcs : cs with
  | nil => exact Or.inl rfl
  | cons c0 cr =>
    obtain ⟨g, xs0, ha, hg1, hg2, -, -, -⟩ := h.at EC.moves hB (j := 0) (t := c0) (by rw [hcs]; rfl)
    rw [← hcs]
    refine Or.inr ⟨g, 0, ha, by rw [maskB_size]; exact hg2, fun i c hi => ?_⟩
    obtain ⟨g', xs, ha', -, -, hl, hr, u0, u1, u2, u3, r1, r2, r3, s1, s2, s3, rfl, htf, -, -⟩ := h.at EC.moves hB hi
    rw [ha] at ha'
    simp only [Option.some.injEq, Addr.mk.injEq, and_true] at ha'
    subst ha'
    rw [Nat.zero_add]
    refine ⟨hr 0 _ rfl, ?_⟩
    exact CellsAt.tc ⟨u0, u1, u2, u3, r1, r2, r3, s1, s2, s3, rfl, hr 1 _ rfl, hr 2 _ rfl, hr 3 _ rfl, hr 4 _ rfl, hr 5 _ rfl, hr 6 _ rfl⟩ htf

/-- a declaration that is right -/
def okR (d : Dl) : Prop := smD d ∧ judgD d = 0

/-- a declaration with zero in each field that it does not have -/
def cleanD (d : Dl) : Dl := { kind := d.kind, name := d.name, levels := d.levels, ty := cleanT d.ty, val := if d.kind = 2 then cleanT d.val else .mk 0 0 false { data := #[] } [] [], params := if d.kind = 3 then d.params else 0, ctors := if d.kind = 3 then d.ctors.map cleanC else [] }

structure RightD (d : Dl) : Prop where
  kind : 1 ≤ d.kind ∧ d.kind ≤ 3
  name : 0 < d.name.size ∧ d.name.size ≤ 60
  levels : 0 ≤ d.levels ∧ d.levels ≤ 8
  ty : okTm d.ty
  val : d.kind = 2 → okTm d.val
  params : d.kind = 3 → 0 ≤ d.params ∧ d.params ≤ 60
  len : d.kind = 3 → d.ctors.length ≤ 40
  ctors : d.kind = 3 → ∀ c ∈ d.ctors, okC c

theorem okR.right {d : Dl} (h : okR d) : RightD d := by
  obtain ⟨hsm, h⟩ := h
  have hO := judgD_ok hsm h
  unfold judgD at h
  have h1 : ¬ (d.kind < 1 ∨ 3 < d.kind ∨ namedB d.name = false) := fun e => by rw [if_pos e] at h; exact absurd h (by decide)
  rw [if_neg h1] at h
  have h2 : ¬ (d.levels < 0 ∨ 8 < d.levels) := fun e => by rw [if_pos e] at h; exact absurd h (by decide)
  rw [if_neg h2] at h
  have h3 : ¬ checkT d.ty ≠ 0 := fun e => by rw [if_pos e] at h; exact absurd h e
  rw [if_neg h3] at h
  have hf : d.kind = 3 → (0 ≤ d.params ∧ d.params ≤ 60) ∧ d.ctors.length ≤ 40 ∧ judgC d.ctors = 0 := by
    intro hk
    rw [if_neg (by omega), if_pos hk] at h
    unfold judgF at h
    have h4 : ¬ (d.params < 0 ∨ 60 < d.params ∨ 40 < d.ctors.length) := fun e => by rw [if_pos e] at h; exact absurd h (by decide)
    rw [if_neg h4] at h
    exact ⟨by omega, by omega, h⟩
  refine ⟨hO.kind, hO.name, hO.levels, ⟨hsm.ty, Decidable.not_not.1 h3⟩, fun hk => ⟨hsm.val, by rw [if_pos hk] at h; exact h⟩, fun hk => (hf hk).1, fun hk => (hf hk).2.1, fun hk c hc => ?_⟩
  obtain ⟨hn, hcc⟩ := judgC_ok (hf hk).2.2 c hc
  exact ⟨namedB_size hn, (hsm.ctors c hc).2, hcc⟩
end Go.Proofs.Ytmmbnimehmfadaa

/- The contract of the reader's decl. -/
namespace Go.Proofs.Ytmmbnimehmfadaa
open Go.RowKit Go.Sort Go.Lib

theorem sets_heap (b : Nat) : ∀ (vs : List Value) (o : Nat) (w : World), (w.setCells b o vs).heap.size = w.heap.size ∧ ∀ k, k ≠ b → (w.setCells b o vs).heap[k]? = w.heap[k]?
  | [], _, _ => ⟨rfl, fun _ _ => rfl⟩
  | v :: vs, o, w => by
    obtain ⟨h1, h2⟩ := sets_heap b vs (o + 1) (w.setCell ⟨b, o, none⟩ v)
    exact ⟨h1.trans (by simp [World.setCell]), fun k hk => (h2 k hk).trans (Below.heap_setCell _ _ _ _ hk)⟩

theorem range_of {w : World} {b o : Nat} {c : Array Value} {t : TypeId} {pre vs post : List Value} (h : w.heap[b]? = some (.cells c t (0, 0))) (hc : c.toList = pre ++ (vs ++ post)) (ho : pre.length = o) : w.rangeAt b o vs := by
  intro j v hj
  have hjl := (List.getElem?_eq_some_iff.1 hj).1
  rw [cell_of_row _ b (o + j) _ _ _ h, ← Array.getElem?_toList, hc, List.getElem?_append_right (by omega), List.getElem?_append_left (by omega)]
  rw [show o + j - pre.length = j by omega]
  exact hj

theorem there_of {w : World} {b n : Nat} {c : Array Value} {t : TypeId} (h : w.heap[b]? = some (.cells c t (0, 0))) (hn : c.size = n) (o m : Nat) (hm : o + m ≤ n) : w.there b o m := by
  intro j hj
  refine ⟨?_, by simp [World.frozen?, h]⟩
  rw [cell_of_row _ b (o + j) _ _ _ h, Array.getElem?_eq_getElem (by omega)]
  rfl

theorem mapM_one {P : Program} {w : World} {v : Value} (f : ResultVar → Sem Value) (x : ResultVar) (h : (f x).run P w = .ok v w) : ((#[x] : Array ResultVar).mapM f).run P w = .ok #[v] w := by
  simp [go_sem, h]

theorem results_cell {P : Program} {fn : Func} {tmps : Array Value} {w : World} {s : Nat} {t : TypeId} {p : Addr} {v : Value} (hf : fn.results = #[.cell s t]) (hp : tmps.getD s undef = .pointer (some p)) (hl : (loadVar t p).run P w = .ok v w) : (results fn tmps).run P w = .ok v w := by
  unfold results
  rw [hf, Sem.run_bind, mapM_one (v := v)]
  · rfl
  · show Sem.run P ((asAddr (tmps.getD s undef)).bind fun q => loadVar t q) w = _
    rw [hp]
    exact (Sem.run_bind _ _ _ _).trans hl

end Go.Proofs.Ytmmbnimehmfadaa

/- The contract of the reference's CleanDecl. -/
namespace Go.Proofs.Ytmmbnimehmfadaa
open Go.RowKit Go.Sort Go.Lib

def setB (c : Array Value) (o : Nat) : List Value → Array Value
  | [] => c
  | v :: vs => setB (c.setIfInBounds o v) (o + 1) vs

theorem setB_full : ∀ (vs : List Value) (o : Nat) (c : Array Value), c.size = o + vs.length → (setB c o vs).toList = c.toList.take o ++ vs
  | [], o, c, h => by
    rw [setB, List.append_nil, List.take_of_length_le (by simp at h; simp; omega)]
  | v :: vs, o, c, h => by
    simp only [List.length_cons] at h
    have ho : o < c.toList.length := by simp; omega
    rw [setB, setB_full vs (o + 1) _ (by rw [Array.size_setIfInBounds]; omega), Array.toList_setIfInBounds, List.take_succ_eq_append_getElem (by simpa using ho), List.getElem_set_self, List.take_set_of_le (Nat.le_refl _), List.append_assoc]
    rfl

theorem sets_blk {b : Nat} {t : TypeId} : ∀ (vs : List Value) (o : Nat) (c : Array Value) (w : World), w.heap[b]? = some (.cells c t (0, 0)) → (w.setCells b o vs).heap[b]? = some (.cells (setB c o vs) t (0, 0))
  | [], _, _, _, h => h
  | v :: vs, o, c, w, h => sets_blk vs (o + 1) (c.setIfInBounds o v) (w.setCell ⟨b, o, none⟩ v) (by
    rw [setCell_eq]; show (w.heap.modify b _)[b]? = _
    rw [Array.getElem?_modify, if_pos rfl, h]; rfl)

/-- a block that is written whole -/
theorem sets_whole {b : Nat} {t : TypeId} {w : World} {c c' : Array Value} (h : w.heap[b]? = some (.cells c t (0, 0))) (hs : c.size = c'.size) : (w.setCells b 0 c'.toList).heap[b]? = some (.cells c' t (0, 0)) := by
  rw [sets_blk _ 0 _ _ h]
  have h1 := setB_full c'.toList 0 c (by rw [hs]; simp)
  rw [List.take_zero, List.nil_append] at h1
  rw [show setB c 0 c'.toList = c' from Array.ext' h1]

theorem infoC2 : (Try.prog.info? 34).map (fun i => (i.zero, i.size, i.bytes)) = some (some (.agg #[.string { data := #[] }, .int .i64 0, .int .i64 0, .bool false, .string { data := #[] }, .slice none 0 0, .slice none 0 0]), 7, 104) := by kernel_rfl

/-- one element more behind a row of the call's own -/
theorem RowX.add {α : Type} {e : TypeId} {m : Nat} {E : World → (Nat → Bool) → List Value → α → Prop} (hE : Moves E) {w1 : World} {B cap : Nat} {P Q : Nat → Bool} {a : Option Addr} {ts : List α} {zs : List Value} {t : α} (h : RowX e m E w1 B P a cap ts) (hB : ∀ k, B ≤ k → P k = false) (hzl : zs.length = m) (hnew : E w1 Q zs t) (hQ : ∀ k, k < w1.heap.size → Q k = false → P k = false ∧ ownB a k = false) :
    ∃ xs : List Value, (w1.alloc (.cells zs.toArray e)).ownsRow B e m (.slice a ts.length cap) ts.length xs ∧ ∀ (g cap' : Nat) (w' : World), w'.ownsRow B e m (.slice (some ⟨g, 0, none⟩) (ts.length + 1) cap') (ts.length + 1) (xs ++ zs) → (w1.alloc (.cells zs.toArray e)).grownBy w' (Value.slice a ts.length cap).ownBlock → ((Value.slice a ts.length cap).ownBlock = some g ∨ g = (w1.alloc (.cells zs.toArray e)).heap.size) →
      RowX e m E w' B P (some ⟨g, 0, none⟩) cap' (ts ++ [t]) ∧ Kept (fun k => ownB a k = true) w1 w' := by
  have h1 : RowX e m E (w1.alloc (.cells zs.toArray e)) B P a cap ts := h.move hE hB (by simp) fun k hk _ => Below.heap_alloc _ _ _ hk
  obtain ⟨xss, hx1, hx2, hown, hkv⟩ := h1.go
  refine ⟨xss.flatten, hown, fun g cap' w' hown' hgr hat => ⟨?_, ?_⟩⟩
  · refine RowX.snoc hE (cap := cap) hx1 hx2 hkv hzl hown' hgr hat (hE _ _ _ _ _ _ hnew (by simp) fun k hk hq => ⟨?_, Below.heap_alloc _ _ _ hk⟩)
    obtain ⟨h2, h3⟩ := hQ k hk hq
    rw [h2, h3]; rfl
  · refine ⟨hgr.os, hgr.tape, hgr.output, by have := hgr.size; simp at this; omega, fun k hk hn => ?_⟩
    have ho : ownB a k = false := by
      cases ho : ownB a k
      · rfl
      · exact absurd ho hn
    exact (hgr.block k (by simp; omega) (ownB_none ho)).trans (Below.heap_alloc _ _ _ hk)

theorem ite_go {c : Prop} [Decidable c] {p q : Prop} (hc : c) (hp : p) : if c then p else q := by
  rw [if_pos hc]; exact hp

theorem below_sets {B b o : Nat} {w w2 : World} (h : RowKit.Below B w w2) (hb : B ≤ b) (vs : List Value) : RowKit.Below B w (w2.setCells b o vs) := by
  induction vs generalizing o w2 with
  | nil => exact h
  | cons v vs ih => exact ih (h.setCell (p := ⟨b, o, none⟩) hb v)

end Go.Proofs.Ytmmbnimehmfadaa
