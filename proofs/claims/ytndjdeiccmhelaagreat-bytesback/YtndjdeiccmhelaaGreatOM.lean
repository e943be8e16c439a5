/- The contract of term's replacing.kept. -/
import Derived.Test.YtndjdeiccmhelaaGreatCD
import Derived.Deep.AppendLies
namespace Go.Proofs.YtndjdeiccmhelaaGreat
open Go.RowKit Go.Sort

theorem cells4 {w : World} {b : Nat} {v0 v1 v2 v3 : Value} {t : TypeId} (h : w.heap[b]? = some (.cells #[v0, v1, v2, v3] t (0, 0))) :
    w.cell? ⟨b, 0, none⟩ = some v0 ∧ w.cell? ⟨b, 1, none⟩ = some v1 ∧ w.cell? ⟨b, 2, none⟩ = some v2 ∧ w.cell? ⟨b, 3, none⟩ = some v3 ∧ b < w.heap.size :=
  ⟨by rw [cell_of_row _ b 0 _ _ _ h]; rfl, by rw [cell_of_row _ b 1 _ _ _ h]; rfl, by rw [cell_of_row _ b 2 _ _ _ h]; rfl, by rw [cell_of_row _ b 3 _ _ _ h]; rfl, (Array.getElem?_eq_some_iff.1 h).1⟩

theorem set43 {w : World} {b : Nat} {v0 v1 v2 v3 x : Value} {t : TypeId} (h : w.heap[b]? = some (.cells #[v0, v1, v2, v3] t (0, 0))) : (w.setCell ⟨b, 3, none⟩ x).heap[b]? = some (.cells #[v0, v1, v2, x] t (0, 0)) := by
  rw [setCell_eq]; show (w.heap.modify b _)[b]? = _
  rw [Array.getElem?_modify, if_pos rfl, h]; rfl

theorem Fresh.setN {w : World} {B k : Nat} {f n : Int} {h : Bool} {nm : ByteArray} {lv kv : Value} {r : Tm} (hF : Fresh w B k (.agg #[.int .i64 f, .int .i64 n, .bool h, .string nm, lv, kv]) r) (n' : Int) : Fresh w B k (.agg #[.int .i64 f, .int .i64 n', .bool h, .string nm, lv, kv]) (r.setN n') := by
  rcases hF with ⟨hk, h⟩ | ⟨hk, g, h1, h2, h3⟩
  · exact Or.inl ⟨hk, h.setN n'⟩
  · refine Or.inr ⟨hk, g, h1, h2, fun N E hN hE => ?_⟩
    obtain ⟨f', n2, h', nm', ls, ks, lv', m, bd, kvs, hv, rfl, rest⟩ := h3 N E hN hE
    injection hv with hv
    have e0 := congrArg (fun a : Array Value => a[0]?) hv
    have e2 := congrArg (fun a : Array Value => a[2]?) hv
    have e3 := congrArg (fun a : Array Value => a[3]?) hv
    have e4 := congrArg (fun a : Array Value => a[4]?) hv
    have e5 := congrArg (fun a : Array Value => a[5]?) hv
    simp at e0 e2 e3 e4 e5
    subst e0 e2 e3 e4 e5
    exact ⟨f, n', h, nm, ls, ks, lv, m, bd, kvs, rfl, rfl, rest⟩

theorem setN_kids (t : Tm) (n : Int) : (t.setN n).kids = t.kids := by cases t; rfl

end Go.Proofs.YtndjdeiccmhelaaGreat

/- The contract of term's replacing.part. -/
namespace Go.Proofs.YtndjdeiccmhelaaGreat
open Go.RowKit Go.Sort

/-- a part with variables replaced, as long as there is room: L, the last one first, from the index at_ on -/
def repL (at_ : Int) (L : List Tm) (room : Int) (t : Tm) (b _ : Int) : Except Int (Int × Tm) :=
  if t.form = 1 ∧ at_ ≤ t.n - b then
    (if t.n - b - at_ < L.length then
      (match L[L.length - 1 - (t.n - b - at_).toNat]? with
      | some s => if room - sizeT s < 0 then .error 2 else .ok (room - sizeT s, liftT 0 b s 0)
      | none => .error 2)
    else if room - 1 < 0 then .error 2 else .ok (room - 1, (bareT t).setN ((bareT t).n - L.length)))
  else if room - 1 < 0 then .error 2 else .ok (room - 1, (bareT t).setN ((bareT t).n - 0))

theorem Fresh.fin0 {w1 : World} {B1 B k rb : Nat} {v : Value} {r : Tm} (h : Fresh w1 B1 k v r) (hr : 0 < k → r.kids = []) (hrb : rb < B1) (hB : B ≤ B1) {a0 a1 a2 a3 a4 a5 : Value} : Fresh ((((((w1.setCell ⟨rb, 0, none⟩ a0).setCell ⟨rb, 1, none⟩ a1).setCell ⟨rb, 2, none⟩ a2).setCell ⟨rb, 3, none⟩ a3).setCell ⟨rb, 4, none⟩ a4).setCell ⟨rb, 5, none⟩ a5) B k v r :=
  h.on hr (by rw [size6]; omega) (fun i h1 h2 => (keep6 (P := fun k => k = rb) rfl).block i h2 (by omega)) hB

theorem trivial_one : (1 : Int) = 1 := rfl

theorem bareT_n (t : Tm) (h : GT t) : -9223372036854775808 ≤ (bareT t).n ∧ (bareT t).n ≤ 9223372036854775807 := by
  have h2 := (GT_jud h).2
  cases t with
  | mk f n hd nm ls ks =>
    by_cases h1 : f = 1
    · have := GT_var h h1
      simp only [Tm.n] at this
      simp [bareT, Tm.n, h1]; omega
    · by_cases h11 : f = 11
      · subst h11
        simp [fieldsB] at h2
        simp [bareT, Tm.n]; omega
      · simp [bareT, Tm.n, h1, h11]

end Go.Proofs.YtndjdeiccmhelaaGreat

/- The contract of term.replaced. -/
namespace Go.Proofs.YtndjdeiccmhelaaGreat
open Go.RowKit Go.Sort

/-- the cells of a list of numbers -/
def flatI (xs : List Int) : List Value := xs.map fun x => .int .i64 x

/-- The slice value v holds the numbers xs, in a block of its own from B on. -/
def OI (B : Nat) (w : World) (v : Value) (xs : List Int) : Prop := w.ownsRow B 3 1 v xs.length (flatI xs)

theorem OI.below {B : Nat} {w w' : World} {v : Value} {xs : List Int} (h : OI B w v xs) (hb : RowKit.Below w.heap.size w w') : OI B w' v xs := by
  obtain ⟨h1, h2⟩ := h
  refine ⟨h1, ?_⟩
  rcases h2 with h2 | ⟨g, cap, cur, hv, hg, hh, r⟩
  · exact Or.inl h2
  · exact Or.inr ⟨g, cap, cur, hv, hg, (hb.block g (Array.getElem?_eq_some_iff.1 hh).1).trans hh, r⟩

theorem OI.on {B : Nat} {w w' : World} {v : Value} {xs : List Int} (h : OI B w v xs) (hag : ∀ k, B ≤ k → w'.heap[k]? = w.heap[k]?) : OI B w' v xs := by
  obtain ⟨h1, h2⟩ := h
  refine ⟨h1, ?_⟩
  rcases h2 with h2 | ⟨g, cap, cur, hv, hg, hh, r⟩
  · exact Or.inl h2
  · exact Or.inr ⟨g, cap, cur, hv, hg, (hag g hg).trans hh, r⟩

theorem OI.shapeG {B D : Nat} {w : World} {v : Value} {xs : List Int} (h : OI B w v xs) (hD : D < w.heap.size) : ∃ sb sa sc, v = .slice sa xs.length sc ∧ (xs ≠ [] → sa = some ⟨sb, 0, none⟩) ∧ (∀ i x, xs[i]? = some x → w.cell? ⟨sb, 0 + i, none⟩ = some (.int .i64 x)) ∧ (sb = D ∨ B ≤ sb) ∧ sb < w.heap.size := by
  rcases h.2 with ⟨hv, hn⟩ | ⟨g, cap, cur, hv, hg, hh, hc, hm, hs, ht⟩
  · have : xs = [] := List.length_eq_zero_iff.1 hn
    subst this
    exact ⟨D, none, 0, hv, fun h => absurd rfl h, fun i x hi => by simp at hi, Or.inl rfl, hD⟩
  · refine ⟨g, _, cap, hv, fun _ => rfl, fun i x hi => ?_, Or.inr hg, (Array.getElem?_eq_some_iff.1 hh).1⟩
    subst hv
    obtain ⟨hil, he⟩ := List.getElem?_eq_some_iff.1 hi
    have := World.ownsRow.cellAt h i (by omega)
    rw [Nat.zero_add, this]
    simp [flatI, hil, he]

theorem OI.sh {B : Nat} {w : World} {v : Value} {xs : List Int} (h : OI B w v xs) : ∃ a cap, v = .slice a xs.length cap := by
  rcases h.2 with ⟨hv, hn⟩ | ⟨g, cap, cur, hv, -⟩
  · exact ⟨none, 0, by rw [hn]; exact hv⟩
  · exact ⟨_, cap, hv⟩

theorem infoInt : (Tryz.prog.info? 3).map (fun i => (i.zero, i.size, i.bytes)) = some (some (.int .i64 0), 1, 8) := by kernel_rfl

theorem set42 {w : World} {b : Nat} {v0 v1 v2 v3 x : Value} {t : TypeId} (h : w.heap[b]? = some (.cells #[v0, v1, v2, v3] t (0, 0))) : (w.setCell ⟨b, 2, none⟩ x).heap[b]? = some (.cells #[v0, v1, x, v3] t (0, 0)) := by
  rw [setCell_eq]; show (w.heap.modify b _)[b]? = _
  rw [Array.getElem?_modify, if_pos rfl, h]; rfl

/-- the sizes of terms -/
def szs (L : List Tm) : List Int := L.map fun s => (sizeT s : Int)

theorem szs_take {L : List Tm} {j : Nat} {s : Tm} (h : L[j]? = some s) : szs (L.take (j + 1)) = szs (L.take j) ++ [(sizeT s : Int)] := by
  obtain ⟨hj, rfl⟩ := List.getElem?_eq_some_iff.1 h
  unfold szs
  rw [List.take_succ_eq_append_getElem hj, List.map_append]; rfl

end Go.Proofs.YtndjdeiccmhelaaGreat

/- The contract of term.Subst. -/
namespace Go.Proofs.YtndjdeiccmhelaaGreat
open Go.RowKit Go.Sort

/-- a part with one variable replaced, as long as there is room -/
def repV (at_ size : Int) (sT : Tm) (room : Int) (t : Tm) (b _ : Int) : Except Int (Int × Tm) :=
  if t.form = 1 ∧ t.n - b = at_ then (if room - size < 0 then .error 2 else .ok (room - size, liftT 0 b sT 0))
  else if room - 1 < 0 then .error 2 else .ok (room - 1, if t.form = 1 ∧ at_ < t.n - b then (bareT t).setN (t.n - 1) else bareT t)

theorem setN_self (t : Tm) : t.setN (t.n - 0) = t := by cases t; simp [Tm.setN, Tm.n]

theorem rep_one (at_ : Int) (sT : Tm) : repL at_ [sT] = repV at_ (sizeT sT) sT := by
  funext room t b p
  unfold repL repV
  by_cases hf : t.form = 1
  · have hn : (bareT t).n = t.n := by cases t; simp only [Tm.form] at hf; simp [bareT, Tm.n, hf]
    rcases (show t.n - b < at_ ∨ t.n - b = at_ ∨ at_ < t.n - b by omega) with h | h | h
    · rw [if_neg (show ¬ (t.form = 1 ∧ at_ ≤ t.n - b) by omega), if_neg (show ¬ (t.form = 1 ∧ t.n - b = at_) by omega), setN_self, if_neg (show ¬ (t.form = 1 ∧ at_ < t.n - b) by omega)]
    · rw [if_pos (show t.form = 1 ∧ at_ ≤ t.n - b by omega), if_pos (show t.n - b - at_ < (([sT].length : Nat) : Int) by simp; omega), if_pos (show t.form = 1 ∧ t.n - b = at_ from ⟨hf, h⟩), show [sT].length - 1 - (t.n - b - at_).toNat = 0 by simp]
      rfl
    · rw [if_pos (show t.form = 1 ∧ at_ ≤ t.n - b by omega), if_neg (show ¬ t.n - b - at_ < (([sT].length : Nat) : Int) by simp; omega), if_neg (show ¬ (t.form = 1 ∧ t.n - b = at_) by omega), if_pos (show t.form = 1 ∧ at_ < t.n - b from ⟨hf, h⟩), hn]
      rfl
  · rw [if_neg (show ¬ (t.form = 1 ∧ at_ ≤ t.n - b) from fun h => hf h.1), if_neg (show ¬ (t.form = 1 ∧ t.n - b = at_) from fun h => hf h.1), setN_self, if_neg (show ¬ (t.form = 1 ∧ at_ < t.n - b) from fun h => hf h.1)]

/-- what is answered of what a walk has made -/
def finT {σ : Type} : Except Int (σ × Tm) → Except Int Tm
  | .error c => .error c
  | .ok (_, r) => if checkT r = 0 then .ok r else .error 2

/-- what Subst answers -/
def substRes (t : Tm) (at_ : Int) (s : Tm) : Except Int Tm := if checkT t ≠ 0 then .error (checkT t) else if checkT s ≠ 0 then .error (checkT s) else if at_ < 0 then .error 1 else finT (walkF (repV at_ (sizeT s) s) Tm.add t 20000 0 0)

theorem rep_list (m : Nat) (at_ size : Int) (sT : Tm) (f : Int) : ∀ (ks : List Tm) (i : Nat) (room : Int) (r : Tm) (b p : Int) (room' : Int) (r' : Tm), (∀ k ∈ ks, ∀ (room b p room' : Int) (r : Tm), walkF (repV at_ size sT) Tm.add k room b p = .ok (room', r) → smT m r) → walkL (repV at_ size sT) Tm.add f ks i room r b p = .ok (room', r') → ∃ l : List Tm, r' = r.addAll l ∧ l.length = ks.length ∧ ∀ x ∈ l, smT m x
  | [], i, room, r, b, p, room', r', _, h => by
    rw [walkL] at h
    simp only [Except.ok.injEq, Prod.mk.injEq] at h
    exact ⟨[], by rw [addAll_nil, h.2], rfl, by simp⟩
  | k :: ks, i, room, r, b, p, room', r', ih, h => by
    rw [walkL] at h
    cases hw : walkF (repV at_ size sT) Tm.add k room (deepC f b i) (p + 1) with
    | error e => rw [hw] at h; simp at h
    | ok q =>
      obtain ⟨room1, r1⟩ := q
      rw [hw] at h
      simp only [] at h
      obtain ⟨l, e1, e2, e3⟩ := rep_list m at_ size sT f ks (i + 1) room1 (r.add r1) b p room' r' (fun k' hk' => ih k' (by simp [hk'])) h
      refine ⟨r1 :: l, by rw [e1, add_addAll], by simp [e2], fun x hx => ?_⟩
      rcases List.mem_cons.1 hx with rfl | hx
      · exact ih k (by simp) _ _ _ _ _ hw
      · exact e3 x hx

theorem rep_sm (m : Nat) (at_ size : Int) (sT : Tm) (hs : smT m sT) (t : Tm) : smT m t → formedB t = true → ∀ (room b p room' : Int) (r : Tm), walkF (repV at_ size sT) Tm.add t room b p = .ok (room', r) → smT m r := by
  refine Tm.ind (P := fun t => smT m t → formedB t = true → ∀ (room b p room' : Int) (r : Tm), walkF (repV at_ size sT) Tm.add t room b p = .ok (room', r) → smT m r) ?_ t
  intro f n hd nm ls ks ih h hf room b p room' r hw
  have h' := (smT_mk _ _ _ _ _ _ _).1 h
  rw [formedB_mk, Bool.and_eq_true, List.all_eq_true] at hf
  rw [walkF_mk] at hw
  cases hv : repV at_ size sT room (.mk f n hd nm ls ks) b p with
  | error e => rw [hv] at hw; simp at hw
  | ok q =>
    obtain ⟨room1, r1⟩ := q
    rw [hv] at hw
    simp only [] at hw
    obtain ⟨l, e1, e2, e3⟩ := rep_list m at_ size sT f ks 0 room1 r1 b p room' r (fun k hk => ih k hk (h'.2.2.2.2 k hk) (hf.2 k hk)) hw
    have hl : l.length ≤ m := by rw [e2]; exact h'.2.2.2.1
    have hq : (if f = 1 ∧ n - b = at_ then (if room - size < 0 then (.error 2 : Except Int (Int × Tm)) else .ok (room - size, liftT 0 b sT 0)) else if room - 1 < 0 then .error 2 else .ok (room - 1, if f = 1 ∧ at_ < n - b then (bareT (.mk f n hd nm ls ks)).setN (n - 1) else bareT (.mk f n hd nm ls ks))) = .ok (room1, r1) := hv
    clear hv
    by_cases hit : f = 1 ∧ n - b = at_
    · rw [if_pos hit] at hq
      split at hq
      · cases hq
      · simp only [Except.ok.injEq, Prod.mk.injEq] at hq
        have hk0 : ks = [] := by
          have hj := hf.1
          unfold judB at hj
          rw [Bool.and_eq_true] at hj
          have := of_decide_eq_true hj.1
          simp only [Tm.kids, Tm.form] at this
          rw [hit.1] at this
          simp [kidsR] at this
          exact this
        subst hk0
        have : l = [] := List.length_eq_zero_iff.1 e2
        subst this
        rw [e1, addAll_nil, ← hq.2]
        exact smT_lift 0 b m sT 0 hs
    · rw [if_neg hit] at hq
      split at hq
      · cases hq
      · simp only [Except.ok.injEq, Prod.mk.injEq] at hq
        rw [e1, ← hq.2]
        split
        · exact (smT_bare h _ hl e3 _).2
        · exact (smT_bare h _ hl e3 0).1

theorem infoT6 : (Tryz.prog.info? 38).map (fun i => i.size) = some 6 := by kernel_rfl

end Go.Proofs.YtndjdeiccmhelaaGreat

/- The contracts of the small terms of the laws: Var, Set, Const, Lam, App. -/
namespace Go.Proofs.YtndjdeiccmhelaaGreat
open Go.RowKit Go.Sort

theorem TV.leaf {w : World} (f n : Int) (h : Bool) (nm : ByteArray) : TV w (.agg #[.int .i64 f, .int .i64 n, .bool h, .string nm, .slice none 0 0, .slice none 0 0]) (.mk f n h nm [] []) :=
  TV.mk (kb := 0) (ko := 0) (ls := []) (ks := []) (Or.inl rfl) (fun _ => rfl) (Nat.le_refl _) (by omega) (fun _ => rfl) (Nat.le_refl _) (by omega) (fun h => absurd rfl h) (fun i t hi => by simp at hi)

theorem TV.two {w : World} {b : Nat} {f : Int} {va vb : Value} {x y : Tm} {a0 a1 a2 a3 a4 a5 b0 b1 b2 b3 b4 b5 : Value} (hva : va = .agg #[a0, a1, a2, a3, a4, a5]) (hvb : vb = .agg #[b0, b1, b2, b3, b4, b5]) (hx : TV w va x) (hy : TV w vb y) (hb : w.heap[b]? = some (.cells #[a0, a1, a2, a3, a4, a5, b0, b1, b2, b3, b4, b5] 38 (0, 0))) : TV w (.agg #[.int .i64 f, .int .i64 0, .bool false, .string { data := #[] }, .slice none 0 0, .slice (some ⟨b, 0, none⟩) 2 2]) (.mk f 0 false { data := #[] } [] [x, y]) := by
  subst hva hvb
  refine TV.mk (kb := b) (ko := 0) (ls := []) (ks := [x, y]) (Or.inl rfl) (fun _ => rfl) (Nat.le_refl _) (by omega) (fun e => by cases e) (Nat.le_refl _) (by omega) (fun _ => ⟨rfl, heap_lt hb⟩) (fun i t hi => ?_)
  have hc : ∀ o v, #[a0, a1, a2, a3, a4, a5, b0, b1, b2, b3, b4, b5][o]? = some v → w.cell? ⟨b, o, none⟩ = some v := fun o v h => by rw [cell_of_row _ b o _ _ _ hb]; exact h
  match i with
  | 0 =>
    simp at hi
    subst hi
    cases hx with
    | mk hl hln hlc hlm hkn hkc hkm hk kids => exact TC.mk (hc 0 _ rfl) (hc 1 _ rfl) (hc 2 _ rfl) (hc 3 _ rfl) (hc 4 _ rfl) (hc 5 _ rfl) hl hln hlc hlm hkn hkc hkm hk kids
  | 1 =>
    simp at hi
    subst hi
    cases hy with
    | mk hl hln hlc hlm hkn hkc hkm hk kids => exact TC.mk (hc 6 _ rfl) (hc 7 _ rfl) (hc 8 _ rfl) (hc 9 _ rfl) (hc 10 _ rfl) (hc 11 _ rfl) hl hln hlc hlm hkn hkc hkm hk kids
  | i + 2 => simp at hi

theorem TV.shapeT {w : World} {v : Value} {t : Tm} (h : TV w v t) : ShapeT v := by
  cases h with
  | mk => exact ⟨_, _, _, _, _, _, _, _, _, _, rfl⟩

set_option maxRecDepth 100000 in
set_option maxHeartbeats 1000000 in
theorem Var_any (n : Int) (w : World) : Calls Tryz.prog 28 #[.int .i64 n] w fun e w' => ∃ v, e = .returned v ∧ TV w' v (.mk 1 n false { data := #[] } [] []) ∧ RowKit.Below w.heap.size w w' := by
  go_enter Tryz.func28, Tryz.ntmps28
  go_wp2
  exact bodyPost_ret (v := .agg #[.int .i64 1, .int .i64 n, .bool false, .string { data := #[] }, .slice none 0 0, .slice none 0 0]) (by simp [results, Tryz.results28, go_sem]) rfl ⟨_, rfl, TV.leaf _ _ _ _, (Below.refl _ _).alloc (Nat.le_refl _) _⟩

set_option maxRecDepth 100000 in
set_option maxHeartbeats 1000000 in
theorem Const_any (nm : ByteArray) (w : World) : Calls Tryz.prog 74 #[.string nm, .slice none 0 0] w fun e w' => ∃ v, e = .returned v ∧ TV w' v (.mk 10 0 false nm [] []) ∧ RowKit.Below w.heap.size w w' := by
  go_enter Tryz.func74, Tryz.ntmps74
  go_wp2
  exact bodyPost_ret (v := .agg #[.int .i64 10, .int .i64 0, .bool false, .string nm, .slice none 0 0, .slice none 0 0]) (by simp [results, Tryz.results74, go_sem]) rfl ⟨_, rfl, TV.leaf _ _ _ _, (Below.refl _ _).alloc (Nat.le_refl _) _⟩

set_option maxRecDepth 100000 in
set_option maxHeartbeats 1000000 in
theorem Set_any (n : Int) (w : World) : Calls Tryz.prog 27 #[.int .i64 n] w fun e w' => ∃ v, e = .returned v ∧ TV w' v (.mk 2 0 false { data := #[] } [(n, [])] []) ∧ RowKit.Below w.heap.size w w' := by
  go_enter Tryz.func27, Tryz.ntmps27
  go_wp2
  refine bodyPost_ret (v := .agg #[.int .i64 2, .int .i64 0, .bool false, .string { data := #[] }, .slice (some ⟨w.heap.size + 1, 0, none⟩) 1 1, .slice none 0 0]) (by simp [results, Tryz.results27, go_sem]) rfl ⟨_, rfl, ?_, ?_⟩
  · refine TV.mk (kb := 0) (ko := 0) (ls := [(n, [])]) (ks := []) (Or.inr ⟨w.heap.size + 1, 0, rfl, by simp, fun i m xs hi => ?_⟩) (fun e => by cases e) (Nat.le_refl _) (by simp) (fun _ => rfl) (Nat.le_refl _) (by omega) (fun h => absurd rfl h) (fun i t hi => by simp at hi)
    match i with
    | 0 =>
      simp at hi
      obtain ⟨rfl, rfl⟩ := hi
      obtain ⟨c0, c1, -⟩ := cells2 (box_at1 (w := w) (o := _) (p := .cells #[.int .i64 n, .slice none 0 0] 105))
      exact ⟨c0, none, 0, c1, Or.inl rfl, fun _ => rfl⟩
    | i + 1 => simp at hi
  · exact ((Below.refl w.heap.size w).alloc (Nat.le_refl _) _).alloc (by simp) _

set_option maxRecDepth 100000 in
set_option maxHeartbeats 1000000 in
theorem Lam_any (va vb : Value) (x y : Tm) (w : World) (hx : TV w va x) (hy : TV w vb y) : Calls Tryz.prog 26 #[va, vb] w fun e w' => ∃ v, e = .returned v ∧ TV w' v (.mk 4 0 false { data := #[] } [] [x, y]) ∧ RowKit.Below w.heap.size w w' := by
  have HX := Hid.mk hx
  have HY := Hid.mk hy
  obtain ⟨a0, a1, a2, a3, a4, a5, a6, a7, a8, a9, rfl⟩ := hx.shapeT
  obtain ⟨b0, b1, b2, b3, b4, b5, b6, b7, b8, b9, rfl⟩ := hy.shapeT
  clear hx hy
  go_enter Tryz.func26, Tryz.ntmps26
  go_wp2
  have HB := fun (a b c d : Obj) => ((((Below.refl w.heap.size w).alloc (Nat.le_refl _) a).alloc (by simp) b).alloc (by simp; omega) c).alloc (by simp; omega) d
  refine bodyPost_ret (v := .agg #[.int .i64 4, .int .i64 0, .bool false, .string { data := #[] }, .slice none 0 0, .slice (some ⟨w.heap.size + 1 + 1 + 1, 0, none⟩) 2 2]) (by simp [results, Tryz.results26, go_sem]) rfl ⟨_, rfl, TV.two rfl rfl (HX.out.on (HB _ _ _ _)) (HY.out.on (HB _ _ _ _)) new3, HB _ _ _ _⟩

end Go.Proofs.YtndjdeiccmhelaaGreat

/- The document's examples of terms, as plain data. -/
namespace Go.Proofs.YtndjdeiccmhelaaGreat
open Go.RowKit Go.Sort

def tVar (n : Int) : Tm := .mk 1 n false { data := #[] } [] []
def tSet (n : Int) : Tm := .mk 2 0 false { data := #[] } [(n, [])] []
def tCon : Tm := .mk 10 0 false { data := #[99] } [] []
def tLam (x y : Tm) : Tm := .mk 4 0 false { data := #[] } [] [x, y]
def tApp (x y : Tm) : Tm := .mk 5 0 false { data := #[] } [] [x, y]

theorem norm00 : normR 0 [] = (0, [], 0) := by
  simp [normR, rightB, inR, canonR, tidyL_nil, nOf]

theorem canon00 : canonB (0, []) = true := by
  simp [canonB, norm00, exactB]

theorem check_mk {t : Tm} (h1 : sizeT t ≤ 20000) (h2 : heightT t ≤ 500) (h3 : formedB t = true) : checkT t = 0 := by
  unfold checkT; rw [if_pos ⟨h1, h2⟩, if_pos h3]

theorem formed_var (n : Int) (h0 : 0 ≤ n) (h1 : n ≤ 1073741824) : formedB (tVar n) = true := by
  simp [tVar, formedB_mk, judB, kidsR, fieldsB, Tm.kids, Tm.form, h0, h1]
theorem formed_set : formedB (tSet 0) = true := by
  simp [tSet, formedB_mk, judB, kidsR, fieldsB, Tm.kids, Tm.form, canon00]
theorem formed_con : formedB tCon = true := by
  rw [tCon, formedB_mk]
  simp [judB, kidsR, fieldsB, Tm.kids, Tm.form]
  decide
theorem formed_lam {x y : Tm} (hx : formedB x = true) (hy : formedB y = true) : formedB (tLam x y) = true := by
  simp [tLam, formedB_mk, judB, kidsR, fieldsB, Tm.kids, Tm.form, hx, hy]
theorem formed_app {x y : Tm} (hx : formedB x = true) (hy : formedB y = true) : formedB (tApp x y) = true := by
  simp [tApp, formedB_mk, judB, kidsR, fieldsB, Tm.kids, Tm.form, hx, hy]

theorem size_leaf (f n : Int) (h : Bool) (nm : ByteArray) (ls : List LvT) : sizeT (.mk f n h nm ls []) = 1 := by simp [sizeT_mk]
theorem high_leaf (f n : Int) (h : Bool) (nm : ByteArray) (ls : List LvT) : heightT (.mk f n h nm ls []) = 1 := by simp [heightT_mk]
theorem size_two (f n : Int) (h : Bool) (nm : ByteArray) (ls : List LvT) (x y : Tm) : sizeT (.mk f n h nm ls [x, y]) = 1 + sizeT x + sizeT y := by simp [sizeT_mk]; omega
theorem high_two (f n : Int) (h : Bool) (nm : ByteArray) (ls : List LvT) (x y : Tm) : heightT (.mk f n h nm ls [x, y]) = 1 + max (heightT x) (heightT y) := by simp [heightT_mk]

theorem sm_leaf (f n : Int) (h : Bool) (nm : ByteArray) (ls : List LvT) (h1 : nm.size ≤ 1000000) (h2 : ls.length ≤ 1000000) (h3 : ∀ l ∈ ls, l.2.length ≤ 1000000) : smT 1000000 (.mk f n h nm ls []) := by
  rw [smT_mk]; exact ⟨h1, h2, h3, by simp, by simp⟩
theorem sm_two (f n : Int) (h : Bool) (x y : Tm) (hx : smT 1000000 x) (hy : smT 1000000 y) : smT 1000000 (.mk f n h { data := #[] } [] [x, y]) := by
  rw [smT_mk]; exact ⟨by decide, by simp, by simp, by simp, by simp [hx, hy]⟩

theorem exs1 : substRes (tLam (tSet 0) (tVar 1)) 0 tCon = .ok (tLam (tSet 0) tCon) := by
  have c1 : checkT (tLam (tSet 0) (tVar 1)) = 0 := check_mk (by simp [tLam, tSet, tVar, size_two, size_leaf]) (by simp [tLam, tSet, tVar, high_two, high_leaf]) (formed_lam formed_set (formed_var 1 (by decide) (by decide)))
  have c2 : checkT tCon = 0 := check_mk (by simp [tCon, size_leaf]) (by simp [tCon, high_leaf]) formed_con
  have c3 : checkT (tLam (tSet 0) tCon) = 0 := check_mk (by simp [tLam, tSet, tCon, size_two, size_leaf]) (by simp [tLam, tSet, tCon, high_two, high_leaf]) (formed_lam formed_set formed_con)
  have hs : sizeT tCon = 1 := size_leaf _ _ _ _ _
  have hw : walkF (repV 0 1 tCon) Tm.add (tLam (tSet 0) (tVar 1)) 20000 0 0 = .ok (19997, tLam (tSet 0) tCon) := rfl
  unfold substRes
  rw [c1, c2, hs]
  rw [if_neg (by simp), if_neg (by simp), if_neg (by decide)]
  show finT (walkF (repV 0 1 tCon) Tm.add (tLam (tSet 0) (tVar 1)) 20000 0 0) = _
  rw [hw]
  show (if checkT (tLam (tSet 0) tCon) = 0 then (.ok (tLam (tSet 0) tCon) : Except Int Tm) else .error 2) = _
  rw [if_pos c3]

theorem exs2 : liftRes (tLam (tSet 0) (tApp (tVar 0) (tVar 1))) 0 2 = .ok (tLam (tSet 0) (tApp (tVar 0) (tVar 3))) := by
  have c1 : checkT (tLam (tSet 0) (tApp (tVar 0) (tVar 1))) = 0 := check_mk (by simp [tLam, tSet, tVar, tApp, size_two, size_leaf]) (by simp [tLam, tSet, tVar, tApp, high_two, high_leaf]) (formed_lam formed_set (formed_app (formed_var 0 (by decide) (by decide)) (formed_var 1 (by decide) (by decide))))
  have c3 : checkT (tLam (tSet 0) (tApp (tVar 0) (tVar 3))) = 0 := check_mk (by simp [tLam, tSet, tVar, tApp, size_two, size_leaf]) (by simp [tLam, tSet, tVar, tApp, high_two, high_leaf]) (formed_lam formed_set (formed_app (formed_var 0 (by decide) (by decide)) (formed_var 3 (by decide) (by decide))))
  have hw : liftT 0 2 (tLam (tSet 0) (tApp (tVar 0) (tVar 1))) 0 = tLam (tSet 0) (tApp (tVar 0) (tVar 3)) := rfl
  unfold liftRes
  rw [c1, hw, c3]
  simp

theorem exs3 : tsizeR (tLam (tSet 0) tCon) = 3 := by
  have c3 : checkT (tLam (tSet 0) tCon) = 0 := check_mk (by simp [tLam, tSet, tCon, size_two, size_leaf]) (by simp [tLam, tSet, tCon, high_two, high_leaf]) (formed_lam formed_set formed_con)
  unfold tsizeR
  rw [if_pos c3]
  simp [tLam, tSet, tCon, size_two, size_leaf]
end Go.Proofs.YtndjdeiccmhelaaGreat
