/- The contract of term.Subst. -/
import Derived.Test.YtahacpbmoijicaaOKA
namespace Go.Proofs.Ytahacpbmoijicaa
open Go.RowKit Go.Sort

/-- a part with one variable replaced, as long as there is room -/
def repV (at_ size : Int) (sT : Tm) (room : Int) (t : Tm) (b _ : Int) : Except Int (Int × Tm) :=
  if t.form = 1 ∧ t.n - b = at_ then (if room - size < 0 then .error 2 else .ok (room - size, liftT 0 b sT 0))
  else if room - 1 < 0 then .error 2 else .ok (room - 1, if t.form = 1 ∧ at_ < t.n - b then (bareT t).setN (t.n - 1) else bareT t)

theorem setN_self (t : Tm) : t.setN (t.n - 0) = t := by cases t; simp [Tm.setN, Tm.n]

theorem rep_one (at_ : Int) (sT : Tm) : repL at_ [sT] = repV at_ (sizeT sT) sT := by
  funext room t b p
  unfold repL repV
  by_cases hf : t.form = 1
  · have hn : (bareT t).n = t.n := by cases t; simp only [Tm.form] at hf; simp [bareT, Tm.n, hf]
    rcases (show t.n - b < at_ ∨ t.n - b = at_ ∨ at_ < t.n - b by omega) with h | h | h
    · rw [if_neg (show ¬ (t.form = 1 ∧ at_ ≤ t.n - b) by omega), if_neg (show ¬ (t.form = 1 ∧ t.n - b = at_) by omega), setN_self, if_neg (show ¬ (t.form = 1 ∧ at_ < t.n - b) by omega)]
    · rw [if_pos (show t.form = 1 ∧ at_ ≤ t.n - b by omega), if_pos (show t.n - b - at_ < (([sT].length : Nat) : Int) by simp; omega), if_pos (show t.form = 1 ∧ t.n - b = at_ from ⟨hf, h⟩), show [sT].length - 1 - (t.n - b - at_).toNat = 0 by simp]
      rfl
    · rw [if_pos (show t.form = 1 ∧ at_ ≤ t.n - b by omega), if_neg (show ¬ t.n - b - at_ < (([sT].length : Nat) : Int) by simp; omega), if_neg (show ¬ (t.form = 1 ∧ t.n - b = at_) by omega), if_pos (show t.form = 1 ∧ at_ < t.n - b from ⟨hf, h⟩), hn]
      rfl
  · rw [if_neg (show ¬ (t.form = 1 ∧ at_ ≤ t.n - b) from fun h => hf h.1), if_neg (show ¬ (t.form = 1 ∧ t.n - b = at_) from fun h => hf h.1), setN_self, if_neg (show ¬ (t.form = 1 ∧ at_ < t.n - b) from fun h => hf h.1)]

/-- what is answered of what a walk has made -/
def finT {σ : Type} : Except Int (σ × Tm) → Except Int Tm
  | .error c => .error c
  | .ok (_, r) => if checkT r = 0 then .ok r else .error 2

/-- what Subst answers -/
def substRes (t : Tm) (at_ : Int) (s : Tm) : Except Int Tm := if checkT t ≠ 0 then .error (checkT t) else if checkT s ≠ 0 then .error (checkT s) else if at_ < 0 then .error 1 else finT (walkF (repV at_ (sizeT s) s) Tm.add t 20000 0 0)

theorem rep_list (m : Nat) (at_ size : Int) (sT : Tm) (f : Int) : ∀ (ks : List Tm) (i : Nat) (room : Int) (r : Tm) (b p : Int) (room' : Int) (r' : Tm), (∀ k ∈ ks, ∀ (room b p room' : Int) (r : Tm), walkF (repV at_ size sT) Tm.add k room b p = .ok (room', r) → smT m r) → walkL (repV at_ size sT) Tm.add f ks i room r b p = .ok (room', r') → ∃ l : List Tm, r' = r.addAll l ∧ l.length = ks.length ∧ ∀ x ∈ l, smT m x
  | [], i, room, r, b, p, room', r', _, h => by
    rw [walkL] at h
    simp only [Except.ok.injEq, Prod.mk.injEq] at h
    exact ⟨[], by rw [addAll_nil, h.2], rfl, by simp⟩
  | k :: ks, i, room, r, b, p, room', r', ih, h => by
    rw [walkL] at h
    cases hw : walkF (repV at_ size sT) Tm.add k room (deepC f b i) (p + 1) with
    | error e => rw [hw] at h; simp at h
    | ok q =>
      obtain ⟨room1, r1⟩ := q
      rw [hw] at h
      simp only [] at h
      obtain ⟨l, e1, e2, e3⟩ := rep_list m at_ size sT f ks (i + 1) room1 (r.add r1) b p room' r' (fun k' hk' => ih k' (by simp [hk'])) h
      refine ⟨r1 :: l, by rw [e1, add_addAll], by simp [e2], fun x hx => ?_⟩
      rcases List.mem_cons.1 hx with rfl | hx
      · exact ih k (by simp) _ _ _ _ _ hw
      · exact e3 x hx

theorem rep_sm (m : Nat) (at_ size : Int) (sT : Tm) (hs : smT m sT) (t : Tm) : smT m t → formedB t = true → ∀ (room b p room' : Int) (r : Tm), walkF (repV at_ size sT) Tm.add t room b p = .ok (room', r) → smT m r := by
  refine Tm.ind (P := fun t => smT m t → formedB t = true → ∀ (room b p room' : Int) (r : Tm), walkF (repV at_ size sT) Tm.add t room b p = .ok (room', r) → smT m r) ?_ t
  intro f n hd nm ls ks ih h hf room b p room' r hw
  have h' := (smT_mk _ _ _ _ _ _ _).1 h
  rw [formedB_mk, Bool.and_eq_true, List.all_eq_true] at hf
  rw [walkF_mk] at hw
  cases hv : repV at_ size sT room (.mk f n hd nm ls ks) b p with
  | error e => rw [hv] at hw; simp at hw
  | ok q =>
    obtain ⟨room1, r1⟩ := q
    rw [hv] at hw
    simp only [] at hw
    obtain ⟨l, e1, e2, e3⟩ := rep_list m at_ size sT f ks 0 room1 r1 b p room' r (fun k hk => ih k hk (h'.2.2.2.2 k hk) (hf.2 k hk)) hw
    have hl : l.length ≤ m := by rw [e2]; exact h'.2.2.2.1
    have hq : (if f = 1 ∧ n - b = at_ then (if room - size < 0 then (.error 2 : Except Int (Int × Tm)) else .ok (room - size, liftT 0 b sT 0)) else if room - 1 < 0 then .error 2 else .ok (room - 1, if f = 1 ∧ at_ < n - b then (bareT (.mk f n hd nm ls ks)).setN (n - 1) else bareT (.mk f n hd nm ls ks))) = .ok (room1, r1) := hv
    clear hv
    by_cases hit : f = 1 ∧ n - b = at_
    · rw [if_pos hit] at hq
      split at hq
      · cases hq
      · simp only [Except.ok.injEq, Prod.mk.injEq] at hq
        have hk0 : ks = [] := by
          have hj := hf.1
          unfold judB at hj
          rw [Bool.and_eq_true] at hj
          have := of_decide_eq_true hj.1
          simp only [Tm.kids, Tm.form] at this
          rw [hit.1] at this
          simp [kidsR] at this
          exact this
        subst hk0
        have : l = [] := List.length_eq_zero_iff.1 e2
        subst this
        rw [e1, addAll_nil, ← hq.2]
        exact smT_lift 0 b m sT 0 hs
    · rw [if_neg hit] at hq
      split at hq
      · cases hq
      · simp only [Except.ok.injEq, Prod.mk.injEq] at hq
        rw [e1, ← hq.2]
        split
        · exact (smT_bare h _ hl e3 _).2
        · exact (smT_bare h _ hl e3 0).1

theorem infoT6 : (Try.prog.info? 25).map (fun i => i.size) = some 6 := by kernel_rfl

end Go.Proofs.Ytahacpbmoijicaa

/- The contracts of the small terms of the laws: Var, Set, Const, Lam, App. -/
namespace Go.Proofs.Ytahacpbmoijicaa
open Go.RowKit Go.Sort

theorem TV.leaf {w : World} (f n : Int) (h : Bool) (nm : ByteArray) : TV w (.agg #[.int .i64 f, .int .i64 n, .bool h, .string nm, .slice none 0 0, .slice none 0 0]) (.mk f n h nm [] []) :=
  TV.mk (kb := 0) (ko := 0) (ls := []) (ks := []) (Or.inl rfl) (fun _ => rfl) (Nat.le_refl _) (by omega) (fun _ => rfl) (Nat.le_refl _) (by omega) (fun h => absurd rfl h) (fun i t hi => by simp at hi)

theorem TV.two {w : World} {b : Nat} {f : Int} {va vb : Value} {x y : Tm} {a0 a1 a2 a3 a4 a5 b0 b1 b2 b3 b4 b5 : Value} (hva : va = .agg #[a0, a1, a2, a3, a4, a5]) (hvb : vb = .agg #[b0, b1, b2, b3, b4, b5]) (hx : TV w va x) (hy : TV w vb y) (hb : w.heap[b]? = some (.cells #[a0, a1, a2, a3, a4, a5, b0, b1, b2, b3, b4, b5] 25 (0, 0))) : TV w (.agg #[.int .i64 f, .int .i64 0, .bool false, .string { data := #[] }, .slice none 0 0, .slice (some ⟨b, 0, none⟩) 2 2]) (.mk f 0 false { data := #[] } [] [x, y]) := by
  subst hva hvb
  refine TV.mk (kb := b) (ko := 0) (ls := []) (ks := [x, y]) (Or.inl rfl) (fun _ => rfl) (Nat.le_refl _) (by omega) (fun e => by cases e) (Nat.le_refl _) (by omega) (fun _ => ⟨rfl, heap_lt hb⟩) (fun i t hi => ?_)
  have hc : ∀ o v, #[a0, a1, a2, a3, a4, a5, b0, b1, b2, b3, b4, b5][o]? = some v → w.cell? ⟨b, o, none⟩ = some v := fun o v h => by rw [cell_of_row _ b o _ _ _ hb]; exact h
  match i with
  | 0 =>
    simp at hi
    subst hi
    cases hx with
    | mk hl hln hlc hlm hkn hkc hkm hk kids => exact TC.mk (hc 0 _ rfl) (hc 1 _ rfl) (hc 2 _ rfl) (hc 3 _ rfl) (hc 4 _ rfl) (hc 5 _ rfl) hl hln hlc hlm hkn hkc hkm hk kids
  | 1 =>
    simp at hi
    subst hi
    cases hy with
    | mk hl hln hlc hlm hkn hkc hkm hk kids => exact TC.mk (hc 6 _ rfl) (hc 7 _ rfl) (hc 8 _ rfl) (hc 9 _ rfl) (hc 10 _ rfl) (hc 11 _ rfl) hl hln hlc hlm hkn hkc hkm hk kids
  | i + 2 => simp at hi

theorem TV.shapeT {w : World} {v : Value} {t : Tm} (h : TV w v t) : ShapeT v := by
  cases h with
  | mk => exact ⟨_, _, _, _, _, _, _, _, _, _, rfl⟩

set_option maxRecDepth 100000 in
set_option maxHeartbeats 1000000 in
theorem Var_any (n : Int) (w : World) : Calls Try.prog 26 #[.int .i64 n] w fun e w' => ∃ v, e = .returned v ∧ TV w' v (.mk 1 n false { data := #[] } [] []) ∧ RowKit.Below w.heap.size w w' := by
  go_enter Try.func26, Try.ntmps26
  go_wp2
  exact bodyPost_ret (v := .agg #[.int .i64 1, .int .i64 n, .bool false, .string { data := #[] }, .slice none 0 0, .slice none 0 0]) (by simp [results, Try.results26, go_sem]) rfl ⟨_, rfl, TV.leaf _ _ _ _, (Below.refl _ _).alloc (Nat.le_refl _) _⟩

set_option maxRecDepth 100000 in
set_option maxHeartbeats 1000000 in
theorem Set_any (n : Int) (w : World) : Calls Try.prog 25 #[.int .i64 n] w fun e w' => ∃ v, e = .returned v ∧ TV w' v (.mk 2 0 false { data := #[] } [(n, [])] []) ∧ RowKit.Below w.heap.size w w' := by
  go_enter Try.func25, Try.ntmps25
  go_wp2
  refine bodyPost_ret (v := .agg #[.int .i64 2, .int .i64 0, .bool false, .string { data := #[] }, .slice (some ⟨w.heap.size + 1, 0, none⟩) 1 1, .slice none 0 0]) (by simp [results, Try.results25, go_sem]) rfl ⟨_, rfl, ?_, ?_⟩
  · refine TV.mk (kb := 0) (ko := 0) (ls := [(n, [])]) (ks := []) (Or.inr ⟨w.heap.size + 1, 0, rfl, by simp, fun i m xs hi => ?_⟩) (fun e => by cases e) (Nat.le_refl _) (by simp) (fun _ => rfl) (Nat.le_refl _) (by omega) (fun h => absurd rfl h) (fun i t hi => by simp at hi)
    match i with
    | 0 =>
      simp at hi
      obtain ⟨rfl, rfl⟩ := hi
      obtain ⟨c0, c1, -⟩ := cells2 (box_at1 (w := w) (o := _) (p := .cells #[.int .i64 n, .slice none 0 0] 66))
      exact ⟨c0, none, 0, c1, Or.inl rfl, fun _ => rfl⟩
    | i + 1 => simp at hi
  · exact ((Below.refl w.heap.size w).alloc (Nat.le_refl _) _).alloc (by simp) _

set_option maxRecDepth 100000 in
set_option maxHeartbeats 1000000 in
theorem Lam_any (va vb : Value) (x y : Tm) (w : World) (hx : TV w va x) (hy : TV w vb y) : Calls Try.prog 24 #[va, vb] w fun e w' => ∃ v, e = .returned v ∧ TV w' v (.mk 4 0 false { data := #[] } [] [x, y]) ∧ RowKit.Below w.heap.size w w' := by
  have HX := Hid.mk hx
  have HY := Hid.mk hy
  obtain ⟨a0, a1, a2, a3, a4, a5, a6, a7, a8, a9, rfl⟩ := hx.shapeT
  obtain ⟨b0, b1, b2, b3, b4, b5, b6, b7, b8, b9, rfl⟩ := hy.shapeT
  clear hx hy
  go_enter Try.func24, Try.ntmps24
  go_wp2
  have HB := fun (a b c d : Obj) => ((((Below.refl w.heap.size w).alloc (Nat.le_refl _) a).alloc (by simp) b).alloc (by simp; omega) c).alloc (by simp; omega) d
  refine bodyPost_ret (v := .agg #[.int .i64 4, .int .i64 0, .bool false, .string { data := #[] }, .slice none 0 0, .slice (some ⟨w.heap.size + 1 + 1 + 1, 0, none⟩) 2 2]) (by simp [results, Try.results24, go_sem]) rfl ⟨_, rfl, TV.two rfl rfl (HX.out.on (HB _ _ _ _)) (HY.out.on (HB _ _ _ _)) new3, HB _ _ _ _⟩

end Go.Proofs.Ytahacpbmoijicaa
