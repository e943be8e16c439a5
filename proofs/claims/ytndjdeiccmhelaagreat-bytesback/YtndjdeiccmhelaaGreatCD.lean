/- The contract of term's lifting.part. -/
import Derived.Test.YtndjdeiccmhelaaGreatOG
import Derived.Test.YtndjdeiccmhelaaGreatWH
import Derived.Test.YtndjdeiccmhelaaGreatRS
import Derived.Test.YtndjdeiccmhelaaGreatOC
import Derived.Deep.RegionHeld3
import Derived.Laws.AppendOwnNone
namespace Go.Proofs.YtndjdeiccmhelaaGreat
open Go.RowKit Go.Sort

theorem RO.leafOn {w w' : World} {B B' N E N' E' M g k : Nat} {v : Value} {r : Tm} (h : RO w B N E g k v r) (hr : r.kids = []) (hg : g < M) (hag : Agree B M w w') (hB : B' ≤ B) (hN : g < N') (hE : N' < E') : RO w' B' N' E' g k v r := by
  obtain ⟨f, n, hh, nm, ls, ks, lv, m, bd, kvs, rfl, rfl, hl, hBm, hmg, hgN, hNb, hbd, hE0, hrow, hkc, hkm, cells, kids⟩ := h
  have hk : ks = [] := hr
  subst hk
  exact ⟨f, n, hh, nm, ls, [], lv, m, fun _ => N' + 1, kvs, rfl, rfl, (hl.on (hag.mono (Nat.le_refl _) (by omega))).mono hB (Nat.le_refl _), by omega, hmg, hN, Nat.lt_succ_self N', fun _ => Nat.le_refl _, hE, hrow.on hag (by omega) (by omega), hkc, hkm, fun i hi => by simp at hi, fun i t hi => by simp at hi⟩

theorem Fresh.on {w w' : World} {B B' k : Nat} {v : Value} {r : Tm} (h : Fresh w B k v r) (hr : 0 < k → r.kids = []) (hs : w.heap.size ≤ w'.heap.size) (hag : Agree B w.heap.size w w') (hB : B' ≤ B) : Fresh w' B' k v r := by
  rcases h with ⟨h1, h⟩ | ⟨h1, g, hBg, hg, h⟩
  · exact Or.inl ⟨h1, (h.on hag).mono hB hs⟩
  · exact Or.inr ⟨h1, g, by omega, by omega, fun N E h2 h3 => (h (g + 1) (g + 2) (by omega) (by omega)).leafOn (hr h1) hg hag hB h2 h3⟩

theorem TO.shapeF {w : World} {B E : Nat} {v : Value} {t : Tm} (h : TO w B E v t) : ∃ (l1 : Option Addr) (l2 l3 : Nat) (k1 : Option Addr) (k2 k3 : Nat), v = .agg #[.int .i64 t.form, .int .i64 t.n, .bool t.hid, .string t.name, .slice l1 l2 l3, .slice k1 k2 k3] := by
  cases h with
  | leaf hl => obtain ⟨la, lc, rfl, -⟩ := hl.ln; exact ⟨_, _, _, _, _, _, rfl⟩
  | row hl => obtain ⟨la, lc, rfl, -⟩ := hl.ln; exact ⟨_, _, _, _, _, _, rfl⟩

theorem Fresh.shapeF {w : World} {B k : Nat} {v : Value} {t : Tm} (h : Fresh w B k v t) : ∃ (l1 : Option Addr) (l2 l3 : Nat) (k1 : Option Addr) (k2 k3 : Nat), v = .agg #[.int .i64 t.form, .int .i64 t.n, .bool t.hid, .string t.name, .slice l1 l2 l3, .slice k1 k2 k3] := by
  rcases h with ⟨-, h⟩ | ⟨-, g, -, -, h⟩
  · exact h.shapeF
  · exact (h (g + 1) (g + 2) (by omega) (by omega)).to.shapeF

theorem Fresh.fin {w1 : World} {B1 B k rb : Nat} {v : Value} {r : Tm} (h : Fresh w1 B1 k v r) (hr : 0 < k → r.kids = []) (hrb : rb < B1) (hB : B ≤ B1) {a0 a1 a2 a3 a4 a5 : Value} {o : Obj} : Fresh (((((((w1.setCell ⟨rb, 0, none⟩ a0).setCell ⟨rb, 1, none⟩ a1).setCell ⟨rb, 2, none⟩ a2).setCell ⟨rb, 3, none⟩ a3).setCell ⟨rb, 4, none⟩ a4).setCell ⟨rb, 5, none⟩ a5).alloc o) B k v r :=
  h.on hr (by rw [World.size_alloc, size6]; omega) (fun i h1 h2 => (Below.heap_alloc _ _ _ (by rw [size6]; omega)).trans ((keep6 (P := fun k => k = rb) rfl).block i h2 (by omega))) hB

/-- the same term with another number -/
def Tm.setN : Tm → Int → Tm
  | .mk f _ h nm ls ks, n => .mk f n h nm ls ks

theorem TO.setN {w : World} {B E : Nat} {f n : Int} {h : Bool} {nm : ByteArray} {lv kv : Value} {t : Tm} (hT : TO w B E (.agg #[.int .i64 f, .int .i64 n, .bool h, .string nm, lv, kv]) t) (n' : Int) : TO w B E (.agg #[.int .i64 f, .int .i64 n', .bool h, .string nm, lv, kv]) (t.setN n') := by
  cases hT with
  | leaf hl hBm hmE => exact TO.leaf hl hBm hmE
  | row hl hBm hmg hgE hbd hE hrow hkc hkm cells kids => exact TO.row hl hBm hmg hgE hbd hE hrow hkc hkm cells kids

/-- a right part: its fields and its kids' number -/
def GT (t : Tm) : Prop := smT 1000000 t ∧ formedB t = true

theorem GT_kid (f n : Int) (hd : Bool) (nm : ByteArray) (ls : List LvT) (ks : List Tm) (h : GT (.mk f n hd nm ls ks)) : ∀ k ∈ ks, GT k := fun k hk => by
  refine ⟨smT_kid _ _ _ _ _ _ _ h.1 k hk, ?_⟩
  have := h.2
  rw [formedB_mk, Bool.and_eq_true, List.all_eq_true] at this
  exact this.2 k hk

theorem GT_jud {t : Tm} (h : GT t) : (t.kids.length : Int) = kidsR t.form ∧ fieldsB t = true := by
  have h2 := h.2
  cases t
  rw [formedB_mk, Bool.and_eq_true] at h2
  have h3 := h2.1
  unfold judB at h3
  rw [Bool.and_eq_true] at h3
  exact ⟨of_decide_eq_true h3.1, h3.2⟩

theorem GT_leaf {t : Tm} (h : GT t) (hf : t.form = 1 ∨ t.form = 2 ∨ t.form = 10 ∨ t.form = 11) : t.kids = [] := by
  have h1 := (GT_jud h).1
  have h2 : kidsR t.form = 0 := by unfold kidsR; rw [if_pos (by omega)]
  rw [h2] at h1
  exact List.length_eq_zero_iff.1 (by omega)

theorem GT_var {t : Tm} (h : GT t) (hf : t.form = 1) : 0 ≤ t.n ∧ t.n ≤ 1073741824 := by
  have h2 := (GT_jud h).2
  cases t
  simp only [Tm.form] at hf
  subst hf
  simpa [fieldsB, Tm.n] using h2

theorem bareT_form (t : Tm) : (bareT t).form = t.form := by cases t; rfl
theorem bareT_kids (t : Tm) : (bareT t).kids = [] := by cases t; rfl

/-- a part with its free index lifted -/
def lifV (fr by_ : Int) (_ : Unit) (t : Tm) (b _ : Int) : Except Int (Unit × Tm) := .ok ((), if t.form = 1 ∧ fr ≤ t.n - b then (bareT t).setN (t.n + by_) else bareT t)

end Go.Proofs.YtndjdeiccmhelaaGreat

/- The contracts of term.answered and term.Lift. -/
namespace Go.Proofs.YtndjdeiccmhelaaGreat
open Go.RowKit Go.Sort

/-- the zero term -/
def zeroV : Value := .agg #[.int .i64 0, .int .i64 0, .bool false, .string { data := #[] }, .slice none 0 0, .slice none 0 0]

/-- a term in new memory and no error, or the zero term and an error -/
def Ans (B : Nat) (e : Ending) (w' : World) : Except Int Tm → Prop
  | .ok r => ∃ v, e = .returned (.tuple #[v, .int .i64 0]) ∧ TO w' B w'.heap.size v r
  | .error c => e = .returned (.tuple #[zeroV, .int .i64 c])

def Tm.addAll : Tm → List Tm → Tm
  | .mk f n h nm ls ks, l => .mk f n h nm ls (ks ++ l)

theorem addAll_nil (t : Tm) : t.addAll [] = t := by cases t; simp [Tm.addAll]
theorem add_addAll (t k : Tm) (l : List Tm) : (t.add k).addAll l = t.addAll (k :: l) := by cases t; simp [Tm.addAll, Tm.add]

mutual
/-- a term with its free indices lifted, within b binders -/
def liftT (fr by_ : Int) : Tm → Int → Tm
  | .mk f n h nm ls ks, b => (if f = 1 ∧ fr ≤ n - b then (bareT (.mk f n h nm ls ks)).setN (n + by_) else bareT (.mk f n h nm ls ks)).addAll (liftTs fr by_ f ks 0 b)
def liftTs (fr by_ f : Int) : List Tm → Nat → Int → List Tm
  | [], _, _ => []
  | k :: ks, i, b => liftT fr by_ k (deepC f b i) :: liftTs fr by_ f ks (i + 1) b
end

theorem lif_list (fr by_ f : Int) : ∀ (ks : List Tm) (i : Nat) (r : Tm) (b p : Int), (∀ k ∈ ks, ∀ (b p : Int), walkF (lifV fr by_) Tm.add k () b p = .ok ((), liftT fr by_ k b)) → walkL (lifV fr by_) Tm.add f ks i () r b p = .ok ((), r.addAll (liftTs fr by_ f ks i b))
  | [], i, r, b, p, _ => by rw [walkL, liftTs, addAll_nil]
  | k :: ks, i, r, b, p, ih => by
    rw [walkL, ih k (by simp), liftTs]
    simp only []
    rw [lif_list fr by_ f ks (i + 1) _ b p (fun k' hk' => ih k' (by simp [hk'])), add_addAll]

theorem lif_walk (fr by_ : Int) (t : Tm) : ∀ (b p : Int), walkF (lifV fr by_) Tm.add t () b p = .ok ((), liftT fr by_ t b) := by
  refine Tm.ind (P := fun t => ∀ (b p : Int), walkF (lifV fr by_) Tm.add t () b p = .ok ((), liftT fr by_ t b)) ?_ t
  intro f n hd nm ls ks ih b p
  have hV : lifV fr by_ () (.mk f n hd nm ls ks) b p = .ok ((), if f = 1 ∧ fr ≤ n - b then (bareT (.mk f n hd nm ls ks)).setN (n + by_) else bareT (.mk f n hd nm ls ks)) := rfl
  rw [walkF_mk, hV, liftT]
  exact lif_list fr by_ f ks 0 _ b p ih

theorem smT_bare {m : Nat} {t : Tm} (h : smT m t) (ks : List Tm) (hl : ks.length ≤ m) (hk : ∀ k ∈ ks, smT m k) (n' : Int) : smT m ((bareT t).addAll ks) ∧ smT m (((bareT t).setN n').addAll ks) := by
  cases t with
  | mk f n hd nm ls ks0 =>
    rw [smT_mk] at h
    simp only [bareT, Tm.addAll, Tm.setN, List.nil_append]
    have hn : (if f = 10 then nm else ByteArray.empty).size ≤ m := by
      split
      · exact h.1
      · exact Nat.zero_le _
    have hls : (if f = 2 ∨ f = 10 then ls else []).length ≤ m ∧ ∀ l ∈ (if f = 2 ∨ f = 10 then ls else []), l.2.length ≤ m := by
      split
      · exact ⟨h.2.1, h.2.2.1⟩
      · simp
    exact ⟨(smT_mk _ _ _ _ _ _ _).2 ⟨hn, hls.1, hls.2, hl, hk⟩, (smT_mk _ _ _ _ _ _ _).2 ⟨hn, hls.1, hls.2, hl, hk⟩⟩

theorem liftTs_len (fr by_ f : Int) : ∀ (ks : List Tm) (i : Nat) (b : Int), (liftTs fr by_ f ks i b).length = ks.length
  | [], _, _ => by rw [liftTs]
  | k :: ks, i, b => by rw [liftTs, List.length_cons, liftTs_len fr by_ f ks, List.length_cons]

theorem liftTs_mem (fr by_ f : Int) : ∀ (ks : List Tm) (i : Nat) (b : Int) (x : Tm), x ∈ liftTs fr by_ f ks i b → ∃ k ∈ ks, ∃ b', x = liftT fr by_ k b'
  | [], _, _, x, h => by rw [liftTs] at h; simp at h
  | k :: ks, i, b, x, h => by
    rw [liftTs] at h
    rcases List.mem_cons.1 h with rfl | h
    · exact ⟨k, by simp, _, rfl⟩
    · obtain ⟨k', hk', b', e⟩ := liftTs_mem fr by_ f ks (i + 1) b x h
      exact ⟨k', by simp [hk'], b', e⟩

theorem smT_lift (fr by_ : Int) (m : Nat) (t : Tm) : ∀ (b : Int), smT m t → smT m (liftT fr by_ t b) := by
  refine Tm.ind (P := fun t => ∀ (b : Int), smT m t → smT m (liftT fr by_ t b)) ?_ t
  intro f n hd nm ls ks ih b h
  have h' := (smT_mk _ _ _ _ _ _ _).1 h
  have hl : (liftTs fr by_ f ks 0 b).length ≤ m := by rw [liftTs_len]; exact h'.2.2.2.1
  have hk : ∀ x ∈ liftTs fr by_ f ks 0 b, smT m x := fun x hx => by
    obtain ⟨k, hk, b', rfl⟩ := liftTs_mem _ _ _ _ _ _ _ hx
    exact ih k hk b' (h'.2.2.2.2 k hk)
  rw [liftT]
  split
  · exact (smT_bare h _ hl hk _).2
  · exact (smT_bare h _ hl hk 0).1

/-- what Lift answers -/
def liftRes (t : Tm) (fr by_ : Int) : Except Int Tm := if checkT t ≠ 0 then .error (checkT t) else if fr < 0 ∨ 1048576 < fr ∨ by_ < 0 ∨ 1048576 < by_ then .error 1 else if checkT (liftT fr by_ t 0) = 0 then .ok (liftT fr by_ t 0) else .error 2

end Go.Proofs.YtndjdeiccmhelaaGreat

/- Two terms held against each other, as plain data; the contracts of slices.EqualFunc at levels and of term.sameFields. -/
namespace Go.Proofs.YtndjdeiccmhelaaGreat
open Go.RowKit Go.Sort

/-- are the fields one that the form has? -/
def fsameB (a b : Tm) : Bool :=
  decide (a.form = b.form) && (if a.form = 1 ∨ a.form = 11 then decide (a.n = b.n) else if a.form = 3 ∨ a.form = 4 ∨ a.form = 5 then decide (a.hid = b.hid) else if a.form = 10 then decide (a.name.toList = b.name.toList) && decide (a.levels = b.levels) else if a.form = 2 then decide (a.levels = b.levels) else true)

mutual
/-- are two terms one, part by part, in the fields that the forms have? -/
def sameT : Tm → Tm → Bool
  | .mk f n h nm ls ks, b => fsameB (.mk f n h nm ls ks) b && sameTs ks b.kids
def sameTs : List Tm → List Tm → Bool
  | [], [] => true
  | k :: ks, k' :: ks' => sameT k k' && sameTs ks ks'
  | [], _ :: _ => false
  | _ :: _, [] => false
end

theorem sameTs_len : ∀ {ks ks' : List Tm}, ks.length ≠ ks'.length → sameTs ks ks' = false
  | [], [], h => absurd rfl h
  | k :: ks, k' :: ks', h => by rw [sameTs, sameTs_len (ks := ks) (ks' := ks') (by simpa using h)]; simp
  | [], _ :: _, _ => by rw [sameTs]
  | _ :: _, [], _ => by rw [sameTs]

theorem sameTs_at : ∀ {ks ks' : List Tm} {i : Nat} {k k' : Tm}, ks[i]? = some k → ks'[i]? = some k' → sameT k k' = false → sameTs ks ks' = false
  | [], _, i, k, k', h, _, _ => by simp at h
  | _ :: _, [], i, k, k', _, h, _ => by simp at h
  | a :: ks, a' :: ks', 0, k, k', h, h', hs => by
    simp at h h'; subst h h'; rw [sameTs, hs]; rfl
  | a :: ks, a' :: ks', i + 1, k, k', h, h', hs => by
    rw [sameTs, sameTs_at (ks := ks) (ks' := ks') (i := i) (by simpa using h) (by simpa using h') hs]; simp

theorem sameTs_all : ∀ {ks ks' : List Tm}, ks.length = ks'.length → (∀ (i : Nat) (k k' : Tm), ks[i]? = some k → ks'[i]? = some k' → sameT k k' = true) → sameTs ks ks' = true
  | [], [], _, _ => by rw [sameTs]
  | a :: ks, a' :: ks', hl, h => by
    rw [sameTs, h 0 a a' (by simp) (by simp), sameTs_all (ks := ks) (ks' := ks') (by simpa using hl) (fun i k k' h1 h2 => h (i + 1) k k' (by simpa using h1) (by simpa using h2))]; rfl
  | [], _ :: _, hl, _ => by simp at hl
  | _ :: _, [], hl, _ => by simp at hl

theorem cf_sameLevel (xs : Array Value) (w : World) : Sem.run Tryz.prog (callFunc 138 xs) w = .ok (.enter 138 xs) w := by simp [callFunc, go_sem, Tryz.func138]; rfl

theorem lvs_len {ls ls' : List LvT} (h : ls.length ≠ ls'.length) : decide (ls = ls') = false := by
  rw [decide_eq_false_iff_not]; intro e; exact h (by rw [e])

theorem lvs_at {ls ls' : List LvT} {k : Nat} {p q : LvT} (h1 : ls[k]? = some p) (h2 : ls'[k]? = some q) (h : p ≠ q) : decide (ls = ls') = false := by
  rw [decide_eq_false_iff_not]; intro e; rw [e, h2] at h1; exact h (by simpa using h1.symm)

theorem lvs_take {ls ls' : List LvT} {k : Nat} {p : LvT} (h1 : ls[k]? = some p) (h2 : ls'[k]? = some p) (h : ls.take k = ls'.take k) : ls.take (k + 1) = ls'.take (k + 1) := by
  obtain ⟨hj, e⟩ := List.getElem?_eq_some_iff.1 h1
  obtain ⟨hj', e'⟩ := List.getElem?_eq_some_iff.1 h2
  rw [List.take_succ_eq_append_getElem hj, List.take_succ_eq_append_getElem hj', h, e, e']

theorem exactB_dec (p q : LvT) : exactB p.1 p.2 q.1 q.2 = decide (p = q) := by
  obtain ⟨a, b⟩ := p
  obtain ⟨c, d⟩ := q
  unfold exactB
  rw [Bool.eq_iff_iff]
  simp

end Go.Proofs.YtndjdeiccmhelaaGreat

/- The contracts of slices.EqualFunc at terms, of term.same and term.Same. -/
namespace Go.Proofs.YtndjdeiccmhelaaGreat
open Go.RowKit Go.Sort

end Go.Proofs.YtndjdeiccmhelaaGreat

/- The contract of telamonref1.same at right terms. -/
namespace Go.Proofs.YtndjdeiccmhelaaGreat
open Go.RowKit Go.Sort

/-- levels that a right term has are canonical -/
theorem formed_canon {f n : Int} {hd : Bool} {nm : ByteArray} {ls : List LvT} {ks : List Tm} (h : formedB (.mk f n hd nm ls ks) = true) (hf : f = 2 ∨ f = 10) : ∀ l ∈ ls, canonB l = true := by
  rw [formedB_mk, Bool.and_eq_true] at h
  have h1 := h.1
  unfold judB at h1
  rw [Bool.and_eq_true] at h1
  have h2 := h1.2
  intro l hl
  rcases hf with rfl | rfl
  · simp [fieldsB] at h2
    cases ls with
    | nil => simp at hl
    | cons a r =>
      cases r with
      | nil => simp at hl; subst hl; simpa using h2
      | cons b r => simp at h2
  · simp [fieldsB] at h2
    exact h2.2 _ _ hl

theorem formed_len {f n : Int} {hd : Bool} {nm : ByteArray} {ls : List LvT} {ks : List Tm} (h : formedB (.mk f n hd nm ls ks) = true) : (ks.length : Int) = kidsR f ∧ ∀ k ∈ ks, formedB k = true := by
  rw [formedB_mk, Bool.and_eq_true, List.all_eq_true] at h
  have h1 := h.1
  unfold judB at h1
  rw [Bool.and_eq_true, decide_eq_true_eq] at h1
  exact ⟨h1.1, h.2⟩

end Go.Proofs.YtndjdeiccmhelaaGreat

/- A lent term: a copy with one kid more behind each list; the contract of telamonlaw2.Stay. -/
namespace Go.Proofs.YtndjdeiccmhelaaGreat
open Go.RowKit Go.Sort

/-- The value v is t, lent: its rows lie in blocks from B on, each with one part more behind it; its levels lie in w0. -/
inductive LT (w0 : World) (B : Nat) (w : World) : Value → Tm → Prop where
  | mk {f n : Int} {h : Bool} {nm : ByteArray} {ls : List LvT} {ks : List Tm} {la : Option Addr} {lc g kc : Nat} {kvs : Nat → Value} (hl : LN w0 la ls) (hln : la = none → lc = 0) (hlc : ls.length ≤ lc) (hlm : lc ≤ 9223372036854775807) (hg : B ≤ g) (hgw : g < w.heap.size) (hkc : ks.length + 1 ≤ kc) (hkm : kc ≤ 9223372036854775807)
      (cells : ∀ i, i < ks.length → CellsAt w g (i * 6) (kvs i)) (last : w.cell? ⟨g, ks.length * 6, none⟩ = some (.int .i64 (-71))) (kids : ∀ i t, ks[i]? = some t → LT w0 B w (kvs i) t) : LT w0 B w (.agg #[.int .i64 f, .int .i64 n, .bool h, .string nm, .slice la ls.length lc, .slice (some ⟨g, 0, none⟩) ks.length kc]) (.mk f n h nm ls ks)

theorem LT.tv {w0 w : World} {B : Nat} {v : Value} {t : Tm} (h : LT w0 B w v t) (hb : RowKit.Below w0.heap.size w0 w) : TV w v t := by
  induction h with
  | @mk f n h nm ls ks la lc g kc kvs hl hln hlc hlm hg hgw hkc hkm cells last kids ih =>
    refine TV.mk (kb := g) (ko := 0) (hl.below hb) hln hlc hlm (fun e => by cases e) (by omega) hkm (fun _ => ⟨rfl, hgw⟩) (fun i t hi => ?_)
    have hi' : i < ks.length := (List.getElem?_eq_some_iff.1 hi).1
    have := (cells i hi').tc (ih i t hi)
    rwa [Nat.zero_add]

/-- a lent term stays where its rows stay -/
theorem LT.keep {w0 w w' : World} {B : Nat} {v : Value} {t : Tm} (h : LT w0 B w v t) (hs : w.heap.size ≤ w'.heap.size) (hk : ∀ k, B ≤ k → k < w.heap.size → w'.heap[k]? = w.heap[k]?) : LT w0 B w' v t := by
  induction h with
  | @mk f n h nm ls ks la lc g kc kvs hl hln hlc hlm hg hgw hkc hkm cells last kids ih =>
    have hc : ∀ o, w'.cell? ⟨g, o, none⟩ = w.cell? ⟨g, o, none⟩ := fun o => World.cell?_of_block (w := w) (hk g hg hgw)
    refine LT.mk hl hln hlc hlm hg (Nat.lt_of_lt_of_le hgw hs) hkc hkm (fun i hi => ?_) ((hc _).trans last) ih
    obtain ⟨v0, v1, v2, v3, l1, l2, l3, k1, k2, k3, hv, c0, c1, c2, c3, c4, c5⟩ := cells i hi
    exact ⟨v0, v1, v2, v3, l1, l2, l3, k1, k2, k3, hv, (hc _).trans c0, (hc _).trans c1, (hc _).trans c2, (hc _).trans c3, (hc _).trans c4, (hc _).trans c5⟩

theorem LT.mono {w0 w : World} {B B' : Nat} {v : Value} {t : Tm} (h : LT w0 B w v t) (hB : B' ≤ B) : LT w0 B' w v t := by
  induction h with
  | mk hl hln hlc hlm hg hgw hkc hkm cells last kids ih => exact LT.mk hl hln hlc hlm (by omega) hgw hkc hkm cells last ih

theorem LT.on {w0 w w' : World} {B : Nat} {v : Value} {t : Tm} (h : LT w0 B w v t) (hb : RowKit.Below w.heap.size w w') : LT w0 B w' v t := h.keep hb.size (fun k _ hk => hb.block k hk)

end Go.Proofs.YtndjdeiccmhelaaGreat

/- Rows of terms in memory of the call's own, by their cells; append onto such a row. -/
namespace Go.Proofs.YtndjdeiccmhelaaGreat
open Go.RowKit Go.Sort

/-- the six cells from o on in the list xs are the value v -/
def SixAt (xs : List Value) (o : Nat) (v : Value) : Prop :=
  ∃ (v0 v1 : Int) (v2 : Bool) (v3 : ByteArray) (l1 : Option Addr) (l2 l3 : Nat) (k1 : Option Addr) (k2 k3 : Nat), v = .agg #[.int .i64 v0, .int .i64 v1, .bool v2, .string v3, .slice l1 l2 l3, .slice k1 k2 k3] ∧ xs[o]? = some (.int .i64 v0) ∧ xs[o + 1]? = some (.int .i64 v1) ∧ xs[o + 2]? = some (.bool v2) ∧ xs[o + 3]? = some (.string v3) ∧ xs[o + 4]? = some (.slice l1 l2 l3) ∧ xs[o + 5]? = some (.slice k1 k2 k3)

theorem SixAt.cells {base g cap n o : Nat} {w : World} {xs : List Value} {v : Value} (h : w.ownsRow base 38 6 (.slice (some ⟨g, 0, none⟩) n cap) n xs) (hs : SixAt xs o v) (ho : o + 5 < n * 6) : CellsAt w g o v := by
  obtain ⟨v0, v1, v2, v3, l1, l2, l3, k1, k2, k3, hv, c0, c1, c2, c3, c4, c5⟩ := hs
  exact ⟨v0, v1, v2, v3, l1, l2, l3, k1, k2, k3, hv, (World.ownsRow.cellAt h o (by omega)).trans c0, (World.ownsRow.cellAt h (o + 1) (by omega)).trans c1, (World.ownsRow.cellAt h (o + 2) (by omega)).trans c2, (World.ownsRow.cellAt h (o + 3) (by omega)).trans c3, (World.ownsRow.cellAt h (o + 4) (by omega)).trans c4, (World.ownsRow.cellAt h (o + 5) (by omega)).trans c5⟩

theorem SixAt.left {xs ys : List Value} {o : Nat} {v : Value} (h : SixAt xs o v) (ho : o + 5 < xs.length) : SixAt (xs ++ ys) o v := by
  obtain ⟨v0, v1, v2, v3, l1, l2, l3, k1, k2, k3, hv, c0, c1, c2, c3, c4, c5⟩ := h
  exact ⟨v0, v1, v2, v3, l1, l2, l3, k1, k2, k3, hv, by rw [List.getElem?_append_left (by omega)]; exact c0, by rw [List.getElem?_append_left (by omega)]; exact c1, by rw [List.getElem?_append_left (by omega)]; exact c2, by rw [List.getElem?_append_left (by omega)]; exact c3, by rw [List.getElem?_append_left (by omega)]; exact c4, by rw [List.getElem?_append_left (by omega)]; exact c5⟩

/-- six stores -/
def setx6 (xs : List Value) (o : Nat) (u0 u1 u2 u3 u4 u5 : Value) : List Value := (((((xs.set o u0).set (o + 1) u1).set (o + 2) u2).set (o + 3) u3).set (o + 4) u4).set (o + 5) u5

theorem setx6_length (xs : List Value) (o : Nat) (u0 u1 u2 u3 u4 u5 : Value) : (setx6 xs o u0 u1 u2 u3 u4 u5).length = xs.length := by simp [setx6]

theorem setx6_other (xs : List Value) (o : Nat) (u0 u1 u2 u3 u4 u5 : Value) (j : Nat) (h : j < o ∨ o + 6 ≤ j) : (setx6 xs o u0 u1 u2 u3 u4 u5)[j]? = xs[j]? := by
  unfold setx6
  rw [List.getElem?_set_ne (by omega), List.getElem?_set_ne (by omega), List.getElem?_set_ne (by omega), List.getElem?_set_ne (by omega), List.getElem?_set_ne (by omega), List.getElem?_set_ne (by omega)]

theorem SixAt.set {xs : List Value} {o : Nat} (ho : o + 5 < xs.length) (v0 v1 : Int) (v2 : Bool) (v3 : ByteArray) (l1 : Option Addr) (l2 l3 : Nat) (k1 : Option Addr) (k2 k3 : Nat) : SixAt (setx6 xs o (.int .i64 v0) (.int .i64 v1) (.bool v2) (.string v3) (.slice l1 l2 l3) (.slice k1 k2 k3)) o (.agg #[.int .i64 v0, .int .i64 v1, .bool v2, .string v3, .slice l1 l2 l3, .slice k1 k2 k3]) := by
  refine ⟨v0, v1, v2, v3, l1, l2, l3, k1, k2, k3, rfl, ?_, ?_, ?_, ?_, ?_, ?_⟩
  all_goals unfold setx6
  · rw [List.getElem?_set_ne (by omega), List.getElem?_set_ne (by omega), List.getElem?_set_ne (by omega), List.getElem?_set_ne (by omega), List.getElem?_set_ne (by omega), List.getElem?_set_self (by omega)]
  · rw [List.getElem?_set_ne (by omega), List.getElem?_set_ne (by omega), List.getElem?_set_ne (by omega), List.getElem?_set_ne (by omega), List.getElem?_set_self (by simp; omega)]
  · rw [List.getElem?_set_ne (by omega), List.getElem?_set_ne (by omega), List.getElem?_set_ne (by omega), List.getElem?_set_self (by simp; omega)]
  · rw [List.getElem?_set_ne (by omega), List.getElem?_set_ne (by omega), List.getElem?_set_self (by simp; omega)]
  · rw [List.getElem?_set_ne (by omega), List.getElem?_set_self (by simp; omega)]
  · rw [List.getElem?_set_self (by simp; omega)]

theorem SixAt.other {xs : List Value} {o p : Nat} {v : Value} (h : SixAt xs p v) (hp : p + 6 ≤ o ∨ o + 6 ≤ p) (u0 u1 u2 u3 u4 u5 : Value) : SixAt (setx6 xs o u0 u1 u2 u3 u4 u5) p v := by
  obtain ⟨v0, v1, v2, v3, l1, l2, l3, k1, k2, k3, hv, c0, c1, c2, c3, c4, c5⟩ := h
  exact ⟨v0, v1, v2, v3, l1, l2, l3, k1, k2, k3, hv, (setx6_other _ _ _ _ _ _ _ _ _ (by omega)).trans c0, (setx6_other _ _ _ _ _ _ _ _ _ (by omega)).trans c1, (setx6_other _ _ _ _ _ _ _ _ _ (by omega)).trans c2, (setx6_other _ _ _ _ _ _ _ _ _ (by omega)).trans c3, (setx6_other _ _ _ _ _ _ _ _ _ (by omega)).trans c4, (setx6_other _ _ _ _ _ _ _ _ _ (by omega)).trans c5⟩

/-- the world with six stores into a row -/
theorem owns_setx6 {base g cap n : Nat} {w : World} {xs : List Value} (h : w.ownsRow base 38 6 (.slice (some ⟨g, 0, none⟩) n cap) n xs) (o : Nat) (u0 u1 u2 u3 u4 u5 : Value) :
    ((((((w.setCell ⟨g, o, none⟩ u0).setCell ⟨g, o + 1, none⟩ u1).setCell ⟨g, o + 2, none⟩ u2).setCell ⟨g, o + 3, none⟩ u3).setCell ⟨g, o + 4, none⟩ u4).setCell ⟨g, o + 5, none⟩ u5).ownsRow base 38 6 (.slice (some ⟨g, 0, none⟩) n cap) n (setx6 xs o u0 u1 u2 u3 u4 u5) :=
  (World.ownsRow.stored (World.ownsRow.stored (World.ownsRow.stored (World.ownsRow.stored (World.ownsRow.stored (World.ownsRow.stored h o u0).1 (o + 1) u1).1 (o + 2) u2).1 (o + 3) u3).1 (o + 4) u4).1 (o + 5) u5).1

theorem kept_setx6 {g : Nat} (w : World) (o : Nat) (u0 u1 u2 u3 u4 u5 : Value) : Kept (· = g) w ((((((w.setCell ⟨g, o, none⟩ u0).setCell ⟨g, o + 1, none⟩ u1).setCell ⟨g, o + 2, none⟩ u2).setCell ⟨g, o + 3, none⟩ u3).setCell ⟨g, o + 4, none⟩ u4).setCell ⟨g, o + 5, none⟩ u5) :=
  ((((((Kept.refl (· = g) w).setCell (p := ⟨g, o, none⟩) rfl u0).setCell (p := ⟨g, o + 1, none⟩) rfl u1).setCell (p := ⟨g, o + 2, none⟩) rfl u2).setCell (p := ⟨g, o + 3, none⟩) rfl u3).setCell (p := ⟨g, o + 4, none⟩) rfl u4).setCell (p := ⟨g, o + 5, none⟩) rfl u5

/-- append(v, x...), v a row of terms of the call's own -/
theorem wpList_appT {w : World} {ops : Array Oper} {rest : List Oper} {o : Oper} {a : Act} {Q : Exit → Act → World → Prop} (hgd : o.guard = none) (s x : Operand) (ho : o.op = .call { callee := .builtin .append, args := #[s, x], argTypes := #[36, 36] })
    (B : Nat) (v : Value) (n m : Nat) (xs news : List Value) (a1 : Option Addr) (c1 : Nat) (hs : a.eval s = v) (hx : a.eval x = .slice a1 m c1) (hO : w.ownsRow B 38 6 v n xs) (hl : news.length = m * 6) (hnews : ∀ ad, a1 = some ad → ∀ j u, news[j]? = some u → w.cell? (ad.add j) = some u) (h1 : ∀ u ∈ news, u.oneCell' = true) (hn : a1 = none → m = 0 ∧ c1 = 0) (hlen : n + m ≤ 1500000000000) (hB : B ≤ w.heap.size)
    (h : ∀ v' w', w'.ownsRow B 38 6 v' (n + m) (xs ++ news) → w.grownBy w' v.ownBlock → wpList Tryz.prog ops Q rest (a.put o.dst v') w') : wpList Tryz.prog ops Q (o :: rest) a w := by
  obtain ⟨i0, hi, hz0, hz1, hz2⟩ := info_parts infoTerm
  cases a1 with
  | none =>
    obtain ⟨rfl, rfl⟩ := hn rfl
    have hne : news = [] := List.length_eq_zero_iff.1 (by omega)
    subst hne
    refine wpList_append_own_none hgd s x 36 ho B 38 i0 6 Tryz.underlying36 hi v n xs hs hO hx ?_
    exact h v w (by simpa using hO) ⟨rfl, rfl, rfl, Nat.le_refl _, fun _ _ _ => rfl⟩
  | some ad =>
    refine wpList_append_own _ hgd s x 36 ho B 38 i0 _ 6 88 Tryz.underlying36 hi hz0 hz1 hz2 rfl (by decide) v n xs hs hO ad m c1 news hx hl (hnews ad rfl) h1 (by simp [maxLen]; omega) (by omega) hB ?_
    intro v' w' hown hgr _
    exact h v' w' hown hgr

theorem owns_shape {w : World} {B n : Nat} {v : Value} {xs : List Value} (h : w.ownsRow B 38 6 v n xs) : ∃ a cap, v = .slice a n cap ∧ n ≤ cap ∧ cap ≤ 9223372036854775807 ∧ (a = none → n = 0 ∧ cap = 0) ∧ ∀ ad, a = some ad → ∃ g, ad = ⟨g, 0, none⟩ ∧ B ≤ g ∧ g < w.heap.size := by
  rcases h.2 with ⟨hv, hn⟩ | ⟨g, cap, cur, hv, hg, hh, hc, hm, hs, ht⟩
  · exact ⟨none, 0, by rw [hv, hn], by omega, by omega, fun _ => ⟨hn, rfl⟩, fun ad h => by cases h⟩
  · exact ⟨_, cap, hv, hc, by unfold maxLen at hm; omega, fun h => (by cases h), fun ad h => ⟨g, (by simpa using h.symm), hg, heap_lt hh⟩⟩

theorem owns_block {w W : World} {B n cap : Nat} {a : Option Addr} {xs : List Value} (h : w.ownsRow B 38 6 (.slice a n cap) n xs) (hk : ∀ g, a = some ⟨g, 0, none⟩ → W.heap[g]? = w.heap[g]?) : W.ownsRow B 38 6 (.slice a n cap) n xs := by
  rcases h with ⟨h1, h2⟩
  refine ⟨h1, ?_⟩
  rcases h2 with h2 | ⟨g, cap', cur, hv, hg, hh, r⟩
  · exact Or.inl h2
  · refine Or.inr ⟨g, cap', cur, hv, hg, (hk g ?_).trans hh, r⟩
    simp at hv
    exact hv.1

/-- the cells of a row of terms, read -/
theorem tc_six {w : World} {kb ko n : Nat} (h : ∀ i, i < n → ∃ t, TC w kb (ko + i * 6) t) : ∃ xs : List Value, xs.length = n * 6 ∧ (∀ u ∈ xs, u.oneCell' = true) ∧ (∀ j u, xs[j]? = some u → w.cell? ⟨kb, ko + j, none⟩ = some u) ∧ ∃ kv : Nat → Value, ∀ i t, i < n → TC w kb (ko + i * 6) t → SixAt xs (i * 6) (kv i) ∧ CellsAt w kb (ko + i * 6) (kv i) := by
  have hc : ∀ i, ∃ v, i < n → CellsAt w kb (ko + i * 6) v := fun i => by
    by_cases hi : i < n
    · obtain ⟨t, ht⟩ := h i hi
      obtain ⟨v0, v1, v2, v3, l1, l2, l3, k1, k2, k3, c0, c1, c2, c3, c4, c5, -⟩ := ht.valE
      exact ⟨_, fun _ => ⟨v0, v1, v2, v3, l1, l2, l3, k1, k2, k3, rfl, c0, c1, c2, c3, c4, c5⟩⟩
    · exact ⟨.bool false, fun h => absurd h hi⟩
  obtain ⟨kv, hkv⟩ := Classical.skolem.1 hc
  have hone : ∀ j, j < n * 6 → ∃ u, w.cell? ⟨kb, ko + j, none⟩ = some u ∧ u.oneCell' = true := fun j hj => by
    obtain ⟨v0, v1, v2, v3, l1, l2, l3, k1, k2, k3, -, c0, c1, c2, c3, c4, c5⟩ := hkv (j / 6) (by omega)
    have hr : j % 6 = 0 ∨ j % 6 = 1 ∨ j % 6 = 2 ∨ j % 6 = 3 ∨ j % 6 = 4 ∨ j % 6 = 5 := by omega
    rcases hr with hr | hr | hr | hr | hr | hr
    · rw [show ko + j = ko + j / 6 * 6 by omega]; exact ⟨_, c0, rfl⟩
    · rw [show ko + j = ko + j / 6 * 6 + 1 by omega]; exact ⟨_, c1, rfl⟩
    · rw [show ko + j = ko + j / 6 * 6 + 2 by omega]; exact ⟨_, c2, rfl⟩
    · rw [show ko + j = ko + j / 6 * 6 + 3 by omega]; exact ⟨_, c3, rfl⟩
    · rw [show ko + j = ko + j / 6 * 6 + 4 by omega]; exact ⟨_, c4, rfl⟩
    · rw [show ko + j = ko + j / 6 * 6 + 5 by omega]; exact ⟨_, c5, rfl⟩
  have hget : ∀ j u, j < n * 6 → w.cell? ⟨kb, ko + j, none⟩ = some u → ((List.range (n * 6)).map fun j => (w.cell? ⟨kb, ko + j, none⟩).getD (.bool false))[j]? = some u := fun j u hj hu => by
    rw [List.getElem?_map, List.getElem?_range hj, Option.map_some, hu]; rfl
  refine ⟨(List.range (n * 6)).map fun j => (w.cell? ⟨kb, ko + j, none⟩).getD (.bool false), by simp, fun u hu => ?_, fun j u hu => ?_, kv, fun i t hi _ => ⟨?_, hkv i hi⟩⟩
  · obtain ⟨j, hj, rfl⟩ := List.mem_map.1 hu
    obtain ⟨u, hu, h1⟩ := hone j (by simpa using hj)
    rw [hu]; exact h1
  · rw [List.getElem?_map] at hu
    by_cases hj : j < n * 6
    · rw [List.getElem?_range hj] at hu
      obtain ⟨u', hu', -⟩ := hone j hj
      simp only [Option.map_some, Option.some.injEq, hu', Option.getD_some] at hu
      rw [hu', hu]
    · rw [List.getElem?_eq_none (by simpa using hj)] at hu; simp at hu
  · obtain ⟨v0, v1, v2, v3, l1, l2, l3, k1, k2, k3, hv, c0, c1, c2, c3, c4, c5⟩ := hkv i hi
    exact ⟨v0, v1, v2, v3, l1, l2, l3, k1, k2, k3, hv, hget _ _ (by omega) c0, hget _ _ (by omega) (by rw [← Nat.add_assoc]; exact c1), hget _ _ (by omega) (by rw [← Nat.add_assoc]; exact c2), hget _ _ (by omega) (by rw [← Nat.add_assoc]; exact c3), hget _ _ (by omega) (by rw [← Nat.add_assoc]; exact c4), hget _ _ (by omega) (by rw [← Nat.add_assoc]; exact c5)⟩
end Go.Proofs.YtndjdeiccmhelaaGreat
