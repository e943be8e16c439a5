/- The contract of term's lifting.part. -/
import Derived.Test.YtahacpbmoijicaaOG
import Derived.Deep.AppendLies
namespace Go.Proofs.Ytahacpbmoijicaa
open Go.RowKit Go.Sort

theorem RO.leafOn {w w' : World} {B B' N E N' E' M g k : Nat} {v : Value} {r : Tm} (h : RO w B N E g k v r) (hr : r.kids = []) (hg : g < M) (hag : Agree B M w w') (hB : B' ≤ B) (hN : g < N') (hE : N' < E') : RO w' B' N' E' g k v r := by
  obtain ⟨f, n, hh, nm, ls, ks, lv, m, bd, kvs, rfl, rfl, hl, hBm, hmg, hgN, hNb, hbd, hE0, hrow, hkc, hkm, cells, kids⟩ := h
  have hk : ks = [] := hr
  subst hk
  exact ⟨f, n, hh, nm, ls, [], lv, m, fun _ => N' + 1, kvs, rfl, rfl, (hl.on (hag.mono (Nat.le_refl _) (by omega))).mono hB (Nat.le_refl _), by omega, hmg, hN, Nat.lt_succ_self N', fun _ => Nat.le_refl _, hE, hrow.on hag (by omega) (by omega), hkc, hkm, fun i hi => by simp at hi, fun i t hi => by simp at hi⟩

theorem Fresh.on {w w' : World} {B B' k : Nat} {v : Value} {r : Tm} (h : Fresh w B k v r) (hr : 0 < k → r.kids = []) (hs : w.heap.size ≤ w'.heap.size) (hag : Agree B w.heap.size w w') (hB : B' ≤ B) : Fresh w' B' k v r := by
  rcases h with ⟨h1, h⟩ | ⟨h1, g, hBg, hg, h⟩
  · exact Or.inl ⟨h1, (h.on hag).mono hB hs⟩
  · exact Or.inr ⟨h1, g, by omega, by omega, fun N E h2 h3 => (h (g + 1) (g + 2) (by omega) (by omega)).leafOn (hr h1) hg hag hB h2 h3⟩

theorem TO.shapeF {w : World} {B E : Nat} {v : Value} {t : Tm} (h : TO w B E v t) : ∃ (l1 : Option Addr) (l2 l3 : Nat) (k1 : Option Addr) (k2 k3 : Nat), v = .agg #[.int .i64 t.form, .int .i64 t.n, .bool t.hid, .string t.name, .slice l1 l2 l3, .slice k1 k2 k3] := by
  cases h with
  | leaf hl => obtain ⟨la, lc, rfl, -⟩ := hl.ln; exact ⟨_, _, _, _, _, _, rfl⟩
  | row hl => obtain ⟨la, lc, rfl, -⟩ := hl.ln; exact ⟨_, _, _, _, _, _, rfl⟩

theorem Fresh.shapeF {w : World} {B k : Nat} {v : Value} {t : Tm} (h : Fresh w B k v t) : ∃ (l1 : Option Addr) (l2 l3 : Nat) (k1 : Option Addr) (k2 k3 : Nat), v = .agg #[.int .i64 t.form, .int .i64 t.n, .bool t.hid, .string t.name, .slice l1 l2 l3, .slice k1 k2 k3] := by
  rcases h with ⟨-, h⟩ | ⟨-, g, -, -, h⟩
  · exact h.shapeF
  · exact (h (g + 1) (g + 2) (by omega) (by omega)).to.shapeF

theorem Fresh.fin {w1 : World} {B1 B k rb : Nat} {v : Value} {r : Tm} (h : Fresh w1 B1 k v r) (hr : 0 < k → r.kids = []) (hrb : rb < B1) (hB : B ≤ B1) {a0 a1 a2 a3 a4 a5 : Value} {o : Obj} : Fresh (((((((w1.setCell ⟨rb, 0, none⟩ a0).setCell ⟨rb, 1, none⟩ a1).setCell ⟨rb, 2, none⟩ a2).setCell ⟨rb, 3, none⟩ a3).setCell ⟨rb, 4, none⟩ a4).setCell ⟨rb, 5, none⟩ a5).alloc o) B k v r :=
  h.on hr (by rw [World.size_alloc, size6]; omega) (fun i h1 h2 => (Below.heap_alloc _ _ _ (by rw [size6]; omega)).trans ((keep6 (P := fun k => k = rb) rfl).block i h2 (by omega))) hB

/-- the same term with another number -/
def Tm.setN : Tm → Int → Tm
  | .mk f _ h nm ls ks, n => .mk f n h nm ls ks

theorem TO.setN {w : World} {B E : Nat} {f n : Int} {h : Bool} {nm : ByteArray} {lv kv : Value} {t : Tm} (hT : TO w B E (.agg #[.int .i64 f, .int .i64 n, .bool h, .string nm, lv, kv]) t) (n' : Int) : TO w B E (.agg #[.int .i64 f, .int .i64 n', .bool h, .string nm, lv, kv]) (t.setN n') := by
  cases hT with
  | leaf hl hBm hmE => exact TO.leaf hl hBm hmE
  | row hl hBm hmg hgE hbd hE hrow hkc hkm cells kids => exact TO.row hl hBm hmg hgE hbd hE hrow hkc hkm cells kids

/-- a right part: its fields and its kids' number -/
def GT (t : Tm) : Prop := smT 1000000 t ∧ formedB t = true

theorem GT_kid (f n : Int) (hd : Bool) (nm : ByteArray) (ls : List LvT) (ks : List Tm) (h : GT (.mk f n hd nm ls ks)) : ∀ k ∈ ks, GT k := fun k hk => by
  refine ⟨smT_kid _ _ _ _ _ _ _ h.1 k hk, ?_⟩
  have := h.2
  rw [formedB_mk, Bool.and_eq_true, List.all_eq_true] at this
  exact this.2 k hk

theorem GT_jud {t : Tm} (h : GT t) : (t.kids.length : Int) = kidsR t.form ∧ fieldsB t = true := by
  have h2 := h.2
  cases t
  rw [formedB_mk, Bool.and_eq_true] at h2
  have h3 := h2.1
  unfold judB at h3
  rw [Bool.and_eq_true] at h3
  exact ⟨of_decide_eq_true h3.1, h3.2⟩

theorem GT_leaf {t : Tm} (h : GT t) (hf : t.form = 1 ∨ t.form = 2 ∨ t.form = 10 ∨ t.form = 11) : t.kids = [] := by
  have h1 := (GT_jud h).1
  have h2 : kidsR t.form = 0 := by unfold kidsR; rw [if_pos (by omega)]
  rw [h2] at h1
  exact List.length_eq_zero_iff.1 (by omega)

theorem GT_var {t : Tm} (h : GT t) (hf : t.form = 1) : 0 ≤ t.n ∧ t.n ≤ 1073741824 := by
  have h2 := (GT_jud h).2
  cases t
  simp only [Tm.form] at hf
  subst hf
  simpa [fieldsB, Tm.n] using h2

theorem bareT_form (t : Tm) : (bareT t).form = t.form := by cases t; rfl
theorem bareT_kids (t : Tm) : (bareT t).kids = [] := by cases t; rfl

/-- a part with its free index lifted -/
def lifV (fr by_ : Int) (_ : Unit) (t : Tm) (b _ : Int) : Except Int (Unit × Tm) := .ok ((), if t.form = 1 ∧ fr ≤ t.n - b then (bareT t).setN (t.n + by_) else bareT t)

end Go.Proofs.Ytahacpbmoijicaa

/- The contracts of term.answered and term.Lift. -/
namespace Go.Proofs.Ytahacpbmoijicaa
open Go.RowKit Go.Sort

/-- the zero term -/
def zeroV : Value := .agg #[.int .i64 0, .int .i64 0, .bool false, .string { data := #[] }, .slice none 0 0, .slice none 0 0]

/-- a term in new memory and no error, or the zero term and an error -/
def Ans (B : Nat) (e : Ending) (w' : World) : Except Int Tm → Prop
  | .ok r => ∃ v, e = .returned (.tuple #[v, .int .i64 0]) ∧ TO w' B w'.heap.size v r
  | .error c => e = .returned (.tuple #[zeroV, .int .i64 c])

def Tm.addAll : Tm → List Tm → Tm
  | .mk f n h nm ls ks, l => .mk f n h nm ls (ks ++ l)

theorem addAll_nil (t : Tm) : t.addAll [] = t := by cases t; simp [Tm.addAll]
theorem add_addAll (t k : Tm) (l : List Tm) : (t.add k).addAll l = t.addAll (k :: l) := by cases t; simp [Tm.addAll, Tm.add]

mutual
/-- a term with its free indices lifted, within b binders -/
def liftT (fr by_ : Int) : Tm → Int → Tm
  | .mk f n h nm ls ks, b => (if f = 1 ∧ fr ≤ n - b then (bareT (.mk f n h nm ls ks)).setN (n + by_) else bareT (.mk f n h nm ls ks)).addAll (liftTs fr by_ f ks 0 b)
def liftTs (fr by_ f : Int) : List Tm → Nat → Int → List Tm
  | [], _, _ => []
  | k :: ks, i, b => liftT fr by_ k (deepC f b i) :: liftTs fr by_ f ks (i + 1) b
end

theorem lif_list (fr by_ f : Int) : ∀ (ks : List Tm) (i : Nat) (r : Tm) (b p : Int), (∀ k ∈ ks, ∀ (b p : Int), walkF (lifV fr by_) Tm.add k () b p = .ok ((), liftT fr by_ k b)) → walkL (lifV fr by_) Tm.add f ks i () r b p = .ok ((), r.addAll (liftTs fr by_ f ks i b))
  | [], i, r, b, p, _ => by rw [walkL, liftTs, addAll_nil]
  | k :: ks, i, r, b, p, ih => by
    rw [walkL, ih k (by simp), liftTs]
    simp only []
    rw [lif_list fr by_ f ks (i + 1) _ b p (fun k' hk' => ih k' (by simp [hk'])), add_addAll]

theorem lif_walk (fr by_ : Int) (t : Tm) : ∀ (b p : Int), walkF (lifV fr by_) Tm.add t () b p = .ok ((), liftT fr by_ t b) := by
  refine Tm.ind (P := fun t => ∀ (b p : Int), walkF (lifV fr by_) Tm.add t () b p = .ok ((), liftT fr by_ t b)) ?_ t
  intro f n hd nm ls ks ih b p
  have hV : lifV fr by_ () (.mk f n hd nm ls ks) b p = .ok ((), if f = 1 ∧ fr ≤ n - b then (bareT (.mk f n hd nm ls ks)).setN (n + by_) else bareT (.mk f n hd nm ls ks)) := rfl
  rw [walkF_mk, hV, liftT]
  exact lif_list fr by_ f ks 0 _ b p ih

theorem smT_bare {m : Nat} {t : Tm} (h : smT m t) (ks : List Tm) (hl : ks.length ≤ m) (hk : ∀ k ∈ ks, smT m k) (n' : Int) : smT m ((bareT t).addAll ks) ∧ smT m (((bareT t).setN n').addAll ks) := by
  cases t with
  | mk f n hd nm ls ks0 =>
    rw [smT_mk] at h
    simp only [bareT, Tm.addAll, Tm.setN, List.nil_append]
    have hn : (if f = 10 then nm else ByteArray.empty).size ≤ m := by
      split
      · exact h.1
      · exact Nat.zero_le _
    have hls : (if f = 2 ∨ f = 10 then ls else []).length ≤ m ∧ ∀ l ∈ (if f = 2 ∨ f = 10 then ls else []), l.2.length ≤ m := by
      split
      · exact ⟨h.2.1, h.2.2.1⟩
      · simp
    exact ⟨(smT_mk _ _ _ _ _ _ _).2 ⟨hn, hls.1, hls.2, hl, hk⟩, (smT_mk _ _ _ _ _ _ _).2 ⟨hn, hls.1, hls.2, hl, hk⟩⟩

theorem liftTs_len (fr by_ f : Int) : ∀ (ks : List Tm) (i : Nat) (b : Int), (liftTs fr by_ f ks i b).length = ks.length
  | [], _, _ => by rw [liftTs]
  | k :: ks, i, b => by rw [liftTs, List.length_cons, liftTs_len fr by_ f ks, List.length_cons]

theorem liftTs_mem (fr by_ f : Int) : ∀ (ks : List Tm) (i : Nat) (b : Int) (x : Tm), x ∈ liftTs fr by_ f ks i b → ∃ k ∈ ks, ∃ b', x = liftT fr by_ k b'
  | [], _, _, x, h => by rw [liftTs] at h; simp at h
  | k :: ks, i, b, x, h => by
    rw [liftTs] at h
    rcases List.mem_cons.1 h with rfl | h
    · exact ⟨k, by simp, _, rfl⟩
    · obtain ⟨k', hk', b', e⟩ := liftTs_mem fr by_ f ks (i + 1) b x h
      exact ⟨k', by simp [hk'], b', e⟩

theorem smT_lift (fr by_ : Int) (m : Nat) (t : Tm) : ∀ (b : Int), smT m t → smT m (liftT fr by_ t b) := by
  refine Tm.ind (P := fun t => ∀ (b : Int), smT m t → smT m (liftT fr by_ t b)) ?_ t
  intro f n hd nm ls ks ih b h
  have h' := (smT_mk _ _ _ _ _ _ _).1 h
  have hl : (liftTs fr by_ f ks 0 b).length ≤ m := by rw [liftTs_len]; exact h'.2.2.2.1
  have hk : ∀ x ∈ liftTs fr by_ f ks 0 b, smT m x := fun x hx => by
    obtain ⟨k, hk, b', rfl⟩ := liftTs_mem _ _ _ _ _ _ _ hx
    exact ih k hk b' (h'.2.2.2.2 k hk)
  rw [liftT]
  split
  · exact (smT_bare h _ hl hk _).2
  · exact (smT_bare h _ hl hk 0).1

/-- what Lift answers -/
def liftRes (t : Tm) (fr by_ : Int) : Except Int Tm := if checkT t ≠ 0 then .error (checkT t) else if fr < 0 ∨ 1048576 < fr ∨ by_ < 0 ∨ 1048576 < by_ then .error 1 else if checkT (liftT fr by_ t 0) = 0 then .ok (liftT fr by_ t 0) else .error 2

end Go.Proofs.Ytahacpbmoijicaa

/- The contract of term's replacing.kept. -/
namespace Go.Proofs.Ytahacpbmoijicaa
open Go.RowKit Go.Sort

theorem cells4 {w : World} {b : Nat} {v0 v1 v2 v3 : Value} {t : TypeId} (h : w.heap[b]? = some (.cells #[v0, v1, v2, v3] t (0, 0))) :
    w.cell? ⟨b, 0, none⟩ = some v0 ∧ w.cell? ⟨b, 1, none⟩ = some v1 ∧ w.cell? ⟨b, 2, none⟩ = some v2 ∧ w.cell? ⟨b, 3, none⟩ = some v3 ∧ b < w.heap.size :=
  ⟨by rw [cell_of_row _ b 0 _ _ _ h]; rfl, by rw [cell_of_row _ b 1 _ _ _ h]; rfl, by rw [cell_of_row _ b 2 _ _ _ h]; rfl, by rw [cell_of_row _ b 3 _ _ _ h]; rfl, (Array.getElem?_eq_some_iff.1 h).1⟩

theorem set43 {w : World} {b : Nat} {v0 v1 v2 v3 x : Value} {t : TypeId} (h : w.heap[b]? = some (.cells #[v0, v1, v2, v3] t (0, 0))) : (w.setCell ⟨b, 3, none⟩ x).heap[b]? = some (.cells #[v0, v1, v2, x] t (0, 0)) := by
  rw [setCell_eq]; show (w.heap.modify b _)[b]? = _
  rw [Array.getElem?_modify, if_pos rfl, h]; rfl

theorem Fresh.setN {w : World} {B k : Nat} {f n : Int} {h : Bool} {nm : ByteArray} {lv kv : Value} {r : Tm} (hF : Fresh w B k (.agg #[.int .i64 f, .int .i64 n, .bool h, .string nm, lv, kv]) r) (n' : Int) : Fresh w B k (.agg #[.int .i64 f, .int .i64 n', .bool h, .string nm, lv, kv]) (r.setN n') := by
  rcases hF with ⟨hk, h⟩ | ⟨hk, g, h1, h2, h3⟩
  · exact Or.inl ⟨hk, h.setN n'⟩
  · refine Or.inr ⟨hk, g, h1, h2, fun N E hN hE => ?_⟩
    obtain ⟨f', n2, h', nm', ls, ks, lv', m, bd, kvs, hv, rfl, rest⟩ := h3 N E hN hE
    injection hv with hv
    have e0 := congrArg (fun a : Array Value => a[0]?) hv
    have e2 := congrArg (fun a : Array Value => a[2]?) hv
    have e3 := congrArg (fun a : Array Value => a[3]?) hv
    have e4 := congrArg (fun a : Array Value => a[4]?) hv
    have e5 := congrArg (fun a : Array Value => a[5]?) hv
    simp at e0 e2 e3 e4 e5
    subst e0 e2 e3 e4 e5
    exact ⟨f, n', h, nm, ls, ks, lv, m, bd, kvs, rfl, rfl, rest⟩

theorem setN_kids (t : Tm) (n : Int) : (t.setN n).kids = t.kids := by cases t; rfl

end Go.Proofs.Ytahacpbmoijicaa

/- The contract of term's replacing.part. -/
namespace Go.Proofs.Ytahacpbmoijicaa
open Go.RowKit Go.Sort

/-- a part with variables replaced, as long as there is room: L, the last one first, from the index at_ on -/
def repL (at_ : Int) (L : List Tm) (room : Int) (t : Tm) (b _ : Int) : Except Int (Int × Tm) :=
  if t.form = 1 ∧ at_ ≤ t.n - b then
    (if t.n - b - at_ < L.length then
      (match L[L.length - 1 - (t.n - b - at_).toNat]? with
      | some s => if room - sizeT s < 0 then .error 2 else .ok (room - sizeT s, liftT 0 b s 0)
      | none => .error 2)
    else if room - 1 < 0 then .error 2 else .ok (room - 1, (bareT t).setN ((bareT t).n - L.length)))
  else if room - 1 < 0 then .error 2 else .ok (room - 1, (bareT t).setN ((bareT t).n - 0))

theorem Fresh.fin0 {w1 : World} {B1 B k rb : Nat} {v : Value} {r : Tm} (h : Fresh w1 B1 k v r) (hr : 0 < k → r.kids = []) (hrb : rb < B1) (hB : B ≤ B1) {a0 a1 a2 a3 a4 a5 : Value} : Fresh ((((((w1.setCell ⟨rb, 0, none⟩ a0).setCell ⟨rb, 1, none⟩ a1).setCell ⟨rb, 2, none⟩ a2).setCell ⟨rb, 3, none⟩ a3).setCell ⟨rb, 4, none⟩ a4).setCell ⟨rb, 5, none⟩ a5) B k v r :=
  h.on hr (by rw [size6]; omega) (fun i h1 h2 => (keep6 (P := fun k => k = rb) rfl).block i h2 (by omega)) hB

theorem trivial_one : (1 : Int) = 1 := rfl

theorem bareT_n (t : Tm) (h : GT t) : -9223372036854775808 ≤ (bareT t).n ∧ (bareT t).n ≤ 9223372036854775807 := by
  have h2 := (GT_jud h).2
  cases t with
  | mk f n hd nm ls ks =>
    by_cases h1 : f = 1
    · have := GT_var h h1
      simp only [Tm.n] at this
      simp [bareT, Tm.n, h1]; omega
    · by_cases h11 : f = 11
      · subst h11
        simp [fieldsB] at h2
        simp [bareT, Tm.n]; omega
      · simp [bareT, Tm.n, h1, h11]

end Go.Proofs.Ytahacpbmoijicaa

/- The contract of term.replaced. -/
namespace Go.Proofs.Ytahacpbmoijicaa
open Go.RowKit Go.Sort

/-- the cells of a list of numbers -/
def flatI (xs : List Int) : List Value := xs.map fun x => .int .i64 x

/-- The slice value v holds the numbers xs, in a block of its own from B on. -/
def OI (B : Nat) (w : World) (v : Value) (xs : List Int) : Prop := w.ownsRow B 3 1 v xs.length (flatI xs)

theorem OI.below {B : Nat} {w w' : World} {v : Value} {xs : List Int} (h : OI B w v xs) (hb : RowKit.Below w.heap.size w w') : OI B w' v xs := by
  obtain ⟨h1, h2⟩ := h
  refine ⟨h1, ?_⟩
  rcases h2 with h2 | ⟨g, cap, cur, hv, hg, hh, r⟩
  · exact Or.inl h2
  · exact Or.inr ⟨g, cap, cur, hv, hg, (hb.block g (Array.getElem?_eq_some_iff.1 hh).1).trans hh, r⟩

theorem OI.on {B : Nat} {w w' : World} {v : Value} {xs : List Int} (h : OI B w v xs) (hag : ∀ k, B ≤ k → w'.heap[k]? = w.heap[k]?) : OI B w' v xs := by
  obtain ⟨h1, h2⟩ := h
  refine ⟨h1, ?_⟩
  rcases h2 with h2 | ⟨g, cap, cur, hv, hg, hh, r⟩
  · exact Or.inl h2
  · exact Or.inr ⟨g, cap, cur, hv, hg, (hag g hg).trans hh, r⟩

theorem OI.shapeG {B D : Nat} {w : World} {v : Value} {xs : List Int} (h : OI B w v xs) (hD : D < w.heap.size) : ∃ sb sa sc, v = .slice sa xs.length sc ∧ (xs ≠ [] → sa = some ⟨sb, 0, none⟩) ∧ (∀ i x, xs[i]? = some x → w.cell? ⟨sb, 0 + i, none⟩ = some (.int .i64 x)) ∧ (sb = D ∨ B ≤ sb) ∧ sb < w.heap.size := by
  rcases h.2 with ⟨hv, hn⟩ | ⟨g, cap, cur, hv, hg, hh, hc, hm, hs, ht⟩
  · have : xs = [] := List.length_eq_zero_iff.1 hn
    subst this
    exact ⟨D, none, 0, hv, fun h => absurd rfl h, fun i x hi => by simp at hi, Or.inl rfl, hD⟩
  · refine ⟨g, _, cap, hv, fun _ => rfl, fun i x hi => ?_, Or.inr hg, (Array.getElem?_eq_some_iff.1 hh).1⟩
    subst hv
    obtain ⟨hil, he⟩ := List.getElem?_eq_some_iff.1 hi
    have := World.ownsRow.cellAt h i (by omega)
    rw [Nat.zero_add, this]
    simp [flatI, hil, he]

theorem OI.sh {B : Nat} {w : World} {v : Value} {xs : List Int} (h : OI B w v xs) : ∃ a cap, v = .slice a xs.length cap := by
  rcases h.2 with ⟨hv, hn⟩ | ⟨g, cap, cur, hv, -⟩
  · exact ⟨none, 0, by rw [hn]; exact hv⟩
  · exact ⟨_, cap, hv⟩

theorem infoInt : (Try.prog.info? 3).map (fun i => (i.zero, i.size, i.bytes)) = some (some (.int .i64 0), 1, 8) := by kernel_rfl

theorem set42 {w : World} {b : Nat} {v0 v1 v2 v3 x : Value} {t : TypeId} (h : w.heap[b]? = some (.cells #[v0, v1, v2, v3] t (0, 0))) : (w.setCell ⟨b, 2, none⟩ x).heap[b]? = some (.cells #[v0, v1, x, v3] t (0, 0)) := by
  rw [setCell_eq]; show (w.heap.modify b _)[b]? = _
  rw [Array.getElem?_modify, if_pos rfl, h]; rfl

/-- the sizes of terms -/
def szs (L : List Tm) : List Int := L.map fun s => (sizeT s : Int)

theorem szs_take {L : List Tm} {j : Nat} {s : Tm} (h : L[j]? = some s) : szs (L.take (j + 1)) = szs (L.take j) ++ [(sizeT s : Int)] := by
  obtain ⟨hj, rfl⟩ := List.getElem?_eq_some_iff.1 h
  unfold szs
  rw [List.take_succ_eq_append_getElem hj, List.map_append]; rfl

end Go.Proofs.Ytahacpbmoijicaa
