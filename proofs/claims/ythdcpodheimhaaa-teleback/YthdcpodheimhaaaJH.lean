/- The outermost TApps of a term, in memory. -/
import Derived.Test.YthdcpodheimhaaaHF
import Derived.Test.YthdcpodheimhaaaHP
import Derived.OwnWalk
import Derived.Test.YthdcpodheimhaaaHL
import Derived.Test.YthdcpodheimhaaaFA
import Derived.Test.YthdcpodheimhaaaHO
import Derived.Deep.Grids
import Derived.Test.YthdcpodheimhaaaHJ
import Derived.Test.YthdcpodheimhaaaON
import Derived.Test.YthdcpodheimhaaaHN
namespace Go.Proofs.Ythdcpodheimhaaa
open Go.RowKit Go.Sort

/-- xs are TApps, each the first kid of the one ahead of it, v and t the first one; v' and t' are behind them, no TApp. -/
inductive ApRow (w0 : World) : List (Value × Tm) → Value → Tm → Value → Tm → Prop where
  | nil {v : Value} {t : Tm} (hv : TV w0 v t) (hf : t.form ≠ 5) : ApRow w0 [] v t v t
  | cons {n : Int} {h : Bool} {nm : ByteArray} {ls : List LvT} {d t1 t' : Tm} {la : Option Addr} {lc kb ko kc : Nat} {v1 v' : Value} {xs : List (Value × Tm)}
    (hv : TV w0 (.agg #[.int .i64 5, .int .i64 n, .bool h, .string nm, .slice la ls.length lc, .slice (some ⟨kb, ko, none⟩) 2 kc]) (.mk 5 n h nm ls [t1, d])) (hkb : kb < w0.heap.size) (hkc : 2 ≤ kc)
    (hc : CellsAt w0 kb ko v1) (hr : ApRow w0 xs v1 t1 v' t') :
    ApRow w0 ((.agg #[.int .i64 5, .int .i64 n, .bool h, .string nm, .slice la ls.length lc, .slice (some ⟨kb, ko, none⟩) 2 kc], .mk 5 n h nm ls [t1, d]) :: xs) (.agg #[.int .i64 5, .int .i64 n, .bool h, .string nm, .slice la ls.length lc, .slice (some ⟨kb, ko, none⟩) 2 kc]) (.mk 5 n h nm ls [t1, d]) v' t'

theorem ApRow.tv {w0 : World} {xs : List (Value × Tm)} {v v' : Value} {t t' : Tm} (h : ApRow w0 xs v t v' t') : TV w0 v t := by
  cases h with
  | nil hv => exact hv
  | cons hv => exact hv

theorem ApRow.end_ {w0 : World} {xs : List (Value × Tm)} {v v' : Value} {t t' : Tm} (h : ApRow w0 xs v t v' t') : TV w0 v' t' ∧ t'.form ≠ 5 := by
  induction h with
  | nil hv hf => exact ⟨hv, hf⟩
  | cons _ _ _ _ _ ih => exact ih

theorem ApRow.on {w0 w1 : World} (hb : RowKit.Below w0.heap.size w0 w1) {xs : List (Value × Tm)} {v v' : Value} {t t' : Tm} (h : ApRow w0 xs v t v' t') : ApRow w1 xs v t v' t' := by
  induction h with
  | nil hv hf => exact .nil (hv.on hb) hf
  | cons hv hkb hkc hc _ ih => exact .cons (hv.on hb) (Nat.lt_of_lt_of_le hkb hb.size) hkc (hc.same (hb.block _ hkb)) ih

/-- the argument of a TApp -/
def argT : Tm → Tm
  | .mk _ _ _ _ _ (_ :: d :: _) => d
  | t => t

/-- every right term has its row of TApps -/
theorem ap_row {w : World} : ∀ (m : Nat) (t : Tm) (v : Value), heightT t ≤ m → TV w v t → GT t → ∃ (xs : List (Value × Tm)) (v' : Value) (t' : Tm), ApRow w xs v t v' t' := by
  intro m
  induction m with
  | zero =>
    intro t v hm _ _
    cases t with
    | mk f n h nm ls ks => rw [heightT_mk] at hm; omega
  | succ m ih =>
    intro t v hm hv hf
    by_cases h5 : t.form = 5
    · cases hv with
      | @mk f n h nm ls ks la lc ka kc kb ko hl hln hlc hlm hkn hkc hkm hk kids =>
        simp only [Tm.form] at h5
        subst h5
        obtain ⟨hkn0, -⟩ := GT_jud hf
        simp only [Tm.kids, Tm.form] at hkn0
        have h2 : kidsR 5 = 2 := by decide
        have hlen : ks.length = 2 := by omega
        match ks, hlen with
        | [c, d], _ =>
          have hfc : GT c := GT_kid _ _ _ _ _ _ hf c (by simp)
          obtain ⟨rfl, hkb⟩ := hk (by simp)
          obtain ⟨d0, d1, d2, d3, d4, d5, d6, d7, d8, d9, c0, c1, c2, c3, c4, c5, htc⟩ := (kids 0 c rfl).valE
          simp only [Nat.zero_mul, Nat.add_zero] at c0 c1 c2 c3 c4 c5
          have hh : heightT c ≤ m := by
            have e1 : heightT c ≤ ([c, d].map heightT).foldl max 0 := high_kid (by simp)
            rw [heightT_mk] at hm
            omega
          obtain ⟨xs, v', t', hr⟩ := ih c _ hh htc hfc
          exact ⟨_ :: xs, v', t', ApRow.cons (la := la) (lc := lc) (kb := kb) (ko := ko) (kc := kc) (v1 := .agg #[.int .i64 d0, .int .i64 d1, .bool d2, .string d3, .slice d4 d5 d6, .slice d7 d8 d9]) (TV.mk (kb := kb) (ko := ko) hl hln hlc hlm (fun e => by cases e) hkc hkm (fun _ => ⟨rfl, hkb⟩) kids) hkb hkc ⟨d0, d1, d2, d3, d4, d5, d6, d7, d8, d9, rfl, c0, c1, c2, c3, c4, c5⟩ hr⟩
    · exact ⟨[], v, t, ApRow.nil hv h5⟩

theorem ApRow.facts {w : World} {xs : List (Value × Tm)} {v v' : Value} {t t' : Tm} (h : ApRow w xs v t v' t') : GT t → (∀ x ∈ xs, GT (argT x.2) ∧ sizeT (argT x.2) ≤ sizeT t ∧ heightT (argT x.2) ≤ heightT t) ∧ GT t' ∧ sizeT t' ≤ sizeT t ∧ heightT t' ≤ heightT t ∧ xs.length ≤ heightT t := by
  induction h with
  | nil hv => exact fun hG => ⟨fun x hx => (by cases hx), hG, Nat.le_refl _, Nat.le_refl _, Nat.zero_le _⟩
  | @cons n h nm ls d t1 t' la lc kb ko kc v1 v' xs hv hkb hkc hc hr ih =>
    intro hG
    obtain ⟨h1, h2, h3, h4, h5⟩ := ih (GT_kid _ _ _ _ _ _ hG t1 (by simp))
    have hz : sizeT (.mk 5 n h nm ls [t1, d]) = 1 + (sizeT t1 + (sizeT d + 0)) := by rw [sizeT_mk]; simp
    have e1 : heightT d ≤ ([t1, d].map heightT).foldl max 0 := high_kid (by simp)
    have e2 : heightT t1 ≤ ([t1, d].map heightT).foldl max 0 := high_kid (by simp)
    have hh : heightT (.mk 5 n h nm ls [t1, d]) = 1 + ([t1, d].map heightT).foldl max 0 := heightT_mk _ _ _ _ _ _
    refine ⟨fun x hx => ?_, h2, by omega, by omega, by simp only [List.length_cons]; omega⟩
    rcases List.mem_cons.1 hx with rfl | hx
    · exact ⟨GT_kid _ _ _ _ _ _ hG d (by simp), by simp only [argT]; omega, by simp only [argT]; omega⟩
    · obtain ⟨a1, a2, a3⟩ := h1 x hx
      exact ⟨a1, by omega, by omega⟩

/-- a TApp in memory -/
structure ApV (w0 : World) (v : Value) (x : Tm) : Prop where
  go : ∃ (n : Int) (h : Bool) (nm : ByteArray) (ls : List LvT) (f d : Tm) (la : Option Addr) (lc kb ko kc : Nat) (d0 d1 : Int) (d2 : Bool) (d3 : ByteArray) (d4 : Option Addr) (d5 d6 : Nat) (d7 : Option Addr) (d8 d9 : Nat),
    v = .agg #[.int .i64 5, .int .i64 n, .bool h, .string nm, .slice la ls.length lc, .slice (some ⟨kb, ko, none⟩) 2 kc] ∧ x = .mk 5 n h nm ls [f, d] ∧ kb < w0.heap.size ∧ 2 ≤ kc ∧ CellsAt w0 kb (ko + 6) (.agg #[.int .i64 d0, .int .i64 d1, .bool d2, .string d3, .slice d4 d5 d6, .slice d7 d8 d9]) ∧ TV w0 (.agg #[.int .i64 d0, .int .i64 d1, .bool d2, .string d3, .slice d4 d5 d6, .slice d7 d8 d9]) d

theorem ApV.of {w0 : World} {v : Value} {n : Int} {h : Bool} {nm : ByteArray} {ls : List LvT} {f d : Tm} (hv : TV w0 v (.mk 5 n h nm ls [f, d])) : ApV w0 v (.mk 5 n h nm ls [f, d]) := by
  generalize e2 : (Tm.mk 5 n h nm ls [f, d]) = tt at hv
  cases hv with
  | @mk f' n' h' nm' ls' ks' la lc ka kc kb ko hl hln hlc hlm hkn hkc hkm hk kids =>
    simp only [Tm.mk.injEq] at e2
    obtain ⟨rfl, rfl, rfl, rfl, rfl, rfl⟩ := e2
    obtain ⟨rfl, hkb⟩ := hk (by simp)
    obtain ⟨d0, d1, d2, d3, d4, d5, d6, d7, d8, d9, c0, c1, c2, c3, c4, c5, ht⟩ := (kids 1 d rfl).valE
    exact ⟨n, h, nm, ls, f, d, la, lc, kb, ko, kc, d0, d1, d2, d3, d4, d5, d6, d7, d8, d9, rfl, rfl, hkb, hkc, ⟨d0, d1, d2, d3, d4, d5, d6, d7, d8, d9, rfl, c0, c1, c2, c3, c4, c5⟩, ht⟩

theorem ApRow.forms {w : World} {xs : List (Value × Tm)} {v v' : Value} {t t' : Tm} (h : ApRow w xs v t v' t') : ∀ x ∈ xs, TV w x.1 x.2 ∧ ∃ n hd nm ls f d, x.2 = .mk 5 n hd nm ls [f, d] := by
  induction h with
  | nil => exact fun x hx => (by cases hx)
  | cons hv _ _ _ _ ih =>
    intro x hx
    rcases List.mem_cons.1 hx with rfl | hx
    · exact ⟨hv, _, _, _, _, _, _, rfl⟩
    · exact ih x hx
end Go.Proofs.Ythdcpodheimhaaa

/- The reference's Spine, at right terms. -/
namespace Go.Proofs.Ythdcpodheimhaaa
open Go.RowKit Go.Sort Go.Shelf Go.Lib

theorem ApRow.uncons {w : World} {x : Value × Tm} {rest : List (Value × Tm)} {v' : Value} {tk t' : Tm} {f n : Int} {hd : Bool} {nm : ByteArray} {la ka : Option Addr} {l1 lc k1 kc : Nat} (h : ApRow w (x :: rest) (.agg #[.int .i64 f, .int .i64 n, .bool hd, .string nm, .slice la l1 lc, .slice ka k1 kc]) tk v' t') :
    ∃ (kb ko : Nat) (ls : List LvT) (d t1 : Tm) (q0 q1 : Int) (q2 : Bool) (q3 : ByteArray) (e1 : Option Addr) (e2 e3 : Nat) (g1 : Option Addr) (g2 g3 : Nat), x.2 = .mk 5 n hd nm ls [t1, d] ∧ f = 5 ∧ ka = some ⟨kb, ko, none⟩ ∧ k1 = 2 ∧ kb < w.heap.size ∧ 2 ≤ kc ∧ TV w (.agg #[.int .i64 5, .int .i64 n, .bool hd, .string nm, .slice la l1 lc, .slice (some ⟨kb, ko, none⟩) 2 kc]) (.mk 5 n hd nm ls [t1, d]) ∧ CellsAt w kb ko (.agg #[.int .i64 q0, .int .i64 q1, .bool q2, .string q3, .slice e1 e2 e3, .slice g1 g2 g3]) ∧ ApRow w rest (.agg #[.int .i64 q0, .int .i64 q1, .bool q2, .string q3, .slice e1 e2 e3, .slice g1 g2 g3]) t1 v' t' := by
  generalize hvv : (Value.agg #[.int .i64 f, .int .i64 n, .bool hd, .string nm, .slice la l1 lc, .slice ka k1 kc]) = vv at *
  cases h with
  | cons hv hkb hkc hc hr =>
    simp only [Value.agg.injEq, Array.mk.injEq, List.cons.injEq, Value.int.injEq, Value.bool.injEq, Value.string.injEq, Value.slice.injEq, true_and, and_true] at hvv
    obtain ⟨rfl, rfl, rfl, rfl, ⟨rfl, rfl, rfl⟩, rfl, rfl, rfl⟩ := hvv
    have hc' := hc
    obtain ⟨q0, q1, q2, q3, e1, e2, e3, g1, g2, g3, rfl, -⟩ := hc'
    exact ⟨_, _, _, _, _, q0, q1, q2, q3, e1, e2, e3, g1, g2, g3, rfl, rfl, rfl, rfl, hkb, hkc, hv, hc, hr⟩

theorem ApRow.unnil {w : World} {v' : Value} {tk t' : Tm} {f n : Int} {hd : Bool} {nm : ByteArray} {la ka : Option Addr} {l1 lc k1 kc : Nat} (h : ApRow w [] (.agg #[.int .i64 f, .int .i64 n, .bool hd, .string nm, .slice la l1 lc, .slice ka k1 kc]) tk v' t') : (f == 5) = false ∧ tk = t' ∧ v' = .agg #[.int .i64 f, .int .i64 n, .bool hd, .string nm, .slice la l1 lc, .slice ka k1 kc] ∧ TV w (.agg #[.int .i64 f, .int .i64 n, .bool hd, .string nm, .slice la l1 lc, .slice ka k1 kc]) t' := by
  generalize hvv : (Value.agg #[.int .i64 f, .int .i64 n, .bool hd, .string nm, .slice la l1 lc, .slice ka k1 kc]) = vv at *
  cases h with
  | nil hv hf =>
    refine ⟨?_, rfl, rfl, hv⟩
    obtain ⟨_, _, _, _, e⟩ := hv.shape
    rw [← hvv] at e
    simp only [Value.agg.injEq, Array.mk.injEq, List.cons.injEq, Value.int.injEq, true_and] at e
    rw [e.1]; simpa using hf

/-- the rows that the second loop fills from behind: k places are still to be filled -/
structure RowsS (w wr : World) (B A1 A2 : Nat) (xs : List (Value × Tm)) (k : Nat) (ys zs : List Value) : Prop where
  own1 : wr.ownsRow B 25 6 (.slice (some ⟨A1, 0, none⟩) xs.length xs.length) xs.length ys
  own2 : wr.ownsRow B 4 1 (.slice (some ⟨A2, 0, none⟩) xs.length xs.length) xs.length zs
  val1 : ∀ j x, k ≤ j → xs.reverse[j]? = some x → ∃ dv, SixAt ys (j * 6) dv ∧ TV w dv (argT x.2)
  val2 : ∀ j x, k ≤ j → xs.reverse[j]? = some x → zs[j]? = some (.bool x.2.hid)

theorem RowsS.move {w W W' : World} {B A1 A2 k : Nat} {xs : List (Value × Tm)} {ys zs : List Value} (h : RowsS w W B A1 A2 xs k ys zs) (h1 : W'.heap[A1]? = W.heap[A1]?) (h2 : W'.heap[A2]? = W.heap[A2]?) : RowsS w W' B A1 A2 xs k ys zs :=
  ⟨owns_block h.own1 (fun g hg => by simp only [Option.some.injEq, Addr.mk.injEq, and_true] at hg; subst hg; exact h1), ownsG_block h.own2 (fun g hg => by simp only [Option.some.injEq, Addr.mk.injEq, and_true] at hg; subst hg; exact h2), h.val1, h.val2⟩

theorem rev_at {α : Type} (pre rest : List α) (x y : α) (h : (pre ++ x :: rest).reverse[rest.length]? = some y) : y = x := by
  rw [List.reverse_append, List.reverse_cons, List.append_assoc, List.getElem?_append_right (by simp)] at h
  simpa using h.symm

theorem RowsS.step {w wr : World} {B A1 A2 : Nat} {xs pre rest : List (Value × Tm)} {x : Value × Tm} {ys zs : List Value} {n : Int} {hd : Bool} {nm : ByteArray} {ls : List LvT} {t1 d : Tm} {d0 d1 : Int} {d2 : Bool} {d3 : ByteArray} {d4 : Option Addr} {d5 d6 : Nat} {d7 : Option Addr} {d8 d9 : Nat} (h : RowsS w wr B A1 A2 xs (rest.length + 1) ys zs) (hpr : pre ++ x :: rest = xs) (n12 : A1 ≠ A2) (hx : x.2 = .mk 5 n hd nm ls [t1, d]) (hd' : TV w (.agg #[.int .i64 d0, .int .i64 d1, .bool d2, .string d3, .slice d4 d5 d6, .slice d7 d8 d9]) d) :
    RowsS w (((((((wr.setCell ⟨A1, rest.length * 6, none⟩ (.int .i64 d0)).setCell ⟨A1, rest.length * 6 + 1, none⟩ (.int .i64 d1)).setCell ⟨A1, rest.length * 6 + 2, none⟩ (.bool d2)).setCell ⟨A1, rest.length * 6 + 3, none⟩ (.string d3)).setCell ⟨A1, rest.length * 6 + 4, none⟩ (.slice d4 d5 d6)).setCell ⟨A1, rest.length * 6 + 5, none⟩ (.slice d7 d8 d9)).setCell ⟨A2, rest.length, none⟩ (.bool hd)) B A1 A2 xs rest.length (setx6 ys (rest.length * 6) (.int .i64 d0) (.int .i64 d1) (.bool d2) (.string d3) (.slice d4 d5 d6) (.slice d7 d8 d9)) (zs.set rest.length (.bool hd)) := by
  have hlen : rest.length < xs.length := by rw [← hpr]; simp; omega
  have hysl : ys.length = xs.length * 6 := h.own1.1
  have hzsl : zs.length = xs.length * 1 := h.own2.1
  have o1 := owns_setx6 h.own1 (rest.length * 6) (.int .i64 d0) (.int .i64 d1) (.bool d2) (.string d3) (.slice d4 d5 d6) (.slice d7 d8 d9)
  have hk := kept_setx6 (g := A1) wr (rest.length * 6) (.int .i64 d0) (.int .i64 d1) (.bool d2) (.string d3) (.slice d4 d5 d6) (.slice d7 d8 d9)
  generalize ((((((wr.setCell ⟨A1, rest.length * 6, none⟩ (.int .i64 d0)).setCell ⟨A1, rest.length * 6 + 1, none⟩ (.int .i64 d1)).setCell ⟨A1, rest.length * 6 + 2, none⟩ (.bool d2)).setCell ⟨A1, rest.length * 6 + 3, none⟩ (.string d3)).setCell ⟨A1, rest.length * 6 + 4, none⟩ (.slice d4 d5 d6)).setCell ⟨A1, rest.length * 6 + 5, none⟩ (.slice d7 d8 d9)) = W8 at o1 hk ⊢
  have o2 : W8.ownsRow B 4 1 (.slice (some ⟨A2, 0, none⟩) xs.length xs.length) xs.length zs := ownsG_block h.own2 (fun g hg => by
    simp only [Option.some.injEq, Addr.mk.injEq, and_true] at hg
    subst hg
    exact hk.block _ (World.ownsRow.lt h.own2 _ rfl).2 (fun e => n12 e.symm))
  refine ⟨owns_block o1 (fun g hg => by
    simp only [Option.some.injEq, Addr.mk.injEq, and_true] at hg
    subst hg
    exact Below.heap_setCell _ _ _ _ (by simpa using n12)), (World.ownsRow.stored o2 rest.length (.bool hd)).1, fun j y hj hy => ?_, fun j y hj hy => ?_⟩
  · by_cases e : j = rest.length
    · subst e
      rw [← hpr] at hy
      obtain rfl := rev_at _ _ _ _ hy
      rw [hx]
      exact ⟨_, SixAt.set (by omega) _ _ _ _ _ _ _ _ _ _, hd'⟩
    · obtain ⟨dv, h1, h2⟩ := h.val1 j y (by omega) hy
      exact ⟨dv, h1.other (by omega) _ _ _ _ _ _, h2⟩
  · by_cases e : j = rest.length
    · subst e
      rw [← hpr] at hy
      obtain rfl := rev_at _ _ _ _ hy
      rw [hx, List.getElem?_set_self (by omega)]
      rfl
    · rw [List.getElem?_set_ne (by omega)]
      exact h.val2 j y (by omega) hy

attribute [local go_sem] Oper.semAt_some

set_option maxRecDepth 100000 in
set_option maxHeartbeats 8000000 in
theorem rSpine_walk (t t' : Tm) (v v' : Value) (xs : List (Value × Tm)) (w : World) (hv : TV w v t) (hrow : ApRow w xs v t v' t') (hxl : xs.length ≤ 500) : Calls Try.prog 15 #[v] w fun e w' => RowKit.Below w.heap.size w w' ∧ ∃ (A1 A2 : Nat) (ys zs : List Value) (rv : Value), e = .returned (.tuple #[rv, .slice (some ⟨A1, 0, none⟩) xs.length xs.length, .slice (some ⟨A2, 0, none⟩) xs.length xs.length]) ∧ RowsS w w' (w.heap.size + 2) A1 A2 xs 0 ys zs ∧ ShapeT rv ∧ TV w' rv t' := by
  have HROW := Hid.mk hrow
  obtain ⟨la, lc, ka, kc, rfl⟩ := hv.shape
  clear hv hrow
  generalize t.form = f at *
  generalize t.n = n at *
  generalize t.hid = hd at *
  generalize t.name = nm at *
  generalize t.levels.length = l1 at *
  generalize t.kids.length = k1 at *
  obtain ⟨i1, hi1, iy0, iy1, iy2⟩ := info_parts infoTerm
  obtain ⟨i2, hi2, iz0, iz1, iz2⟩ := info_parts infoB1
  obtain ⟨W0, hW0⟩ : ∃ W0, (w.alloc (.cells #[.int .i64 f, .int .i64 n, .bool hd, .string nm, .slice la l1 lc, .slice ka k1 kc] 25)).alloc (.cells #[.int .i64 0, .int .i64 0, .bool false, .string { data := #[] }, .slice none 0 0, .slice none 0 0] 25) = W0 := ⟨_, rfl⟩
  have hb0 : RowKit.Below w.heap.size w W0 := by rw [← hW0]; exact ((Below.refl _ _).alloc (Nat.le_refl _) _).alloc (by simp) _
  have HX0 : Hid (W0.heap[w.heap.size]? = some (.cells #[.int .i64 f, .int .i64 n, .bool hd, .string nm, .slice la l1 lc, .slice ka k1 kc] 25 (0, 0))) := by unfold Hid; rw [← hW0]; exact box_at
  have HR0 : Hid (W0.heap[w.heap.size + 1]? = some (.cells #[.int .i64 0, .int .i64 0, .bool false, .string { data := #[] }, .slice none 0 0, .slice none 0 0] 25 (0, 0))) := by unfold Hid; rw [← hW0]; exact box_at1
  have hs0 : W0.heap.size = w.heap.size + 2 := by rw [← hW0]; simp
  obtain ⟨W1, hW1⟩ : ∃ W1, W0.alloc (.cells #[.int .i64 f, .int .i64 n, .bool hd, .string nm, .slice la l1 lc, .slice ka k1 kc] 25) = W1 := ⟨_, rfl⟩
  have hb1 : RowKit.Below W0.heap.size W0 W1 := by rw [← hW1]; exact (Below.refl _ _).alloc (Nat.le_refl _) _
  have HX1 : Hid (W1.heap[W0.heap.size]? = some (.cells #[.int .i64 f, .int .i64 n, .bool hd, .string nm, .slice la l1 lc, .slice ka k1 kc] 25 (0, 0))) := by unfold Hid; rw [← hW1]; exact alloc_new _ _
  have HB0 := Hid.mk hb0
  have HB1 := Hid.mk hb1
  have HS0 := Hid.mk hs0
  have HW01 : Hid ((w.alloc (.cells #[.int .i64 f, .int .i64 n, .bool hd, .string nm, .slice la l1 lc, .slice ka k1 kc] 25)).alloc (.cells #[.int .i64 0, .int .i64 0, .bool false, .string { data := #[] }, .slice none 0 0, .slice none 0 0] 25) = W0 ∧ W0.alloc (.cells #[.int .i64 f, .int .i64 n, .bool hd, .string nm, .slice la l1 lc, .slice ka k1 kc] 25) = W1) := ⟨hW0, hW1⟩
  clear hW0 hb0 hs0 hW1 hb1
  go_enter Try.func15, Try.ntmps15
  go_wp2
  rw [HW01.out.1]
  rw [HW01.out.2]
  go_loopw [5, 6] (fun (u5 u6 : Value) (wr : World) => ∃ (pre rest : List (Value × Tm)) (tk : Tm) (f1 n1 : Int) (hd1 : Bool) (nm1 : ByteArray) (la1 ka1 : Option Addr) (m1 lc1 j1 kc1 : Nat) (bx : Nat), u5 = .int .i64 (pre.length : Int) ∧ u6 = .pointer (some ⟨bx, 0, none⟩) ∧ pre ++ rest = xs ∧ ApRow w rest (.agg #[.int .i64 f1, .int .i64 n1, .bool hd1, .string nm1, .slice la1 m1 lc1, .slice ka1 j1 kc1]) tk v' t' ∧ w.heap.size + 2 ≤ bx ∧ wr.heap[bx]? = some (.cells #[.int .i64 f1, .int .i64 n1, .bool hd1, .string nm1, .slice la1 m1 lc1, .slice ka1 j1 kc1] 25 (0, 0)) ∧ RowKit.Below W0.heap.size W0 wr) (fun u5 _ _ => xs.length + 1 - (intOf u5).toNat)
  case atStart => exact ⟨[], xs, t, f, n, hd, nm, la, ka, l1, lc, k1, kc, W0.heap.size, rfl, (by rw [HS0.out]), rfl, HROW.out, (by rw [HS0.out]; exact Nat.le_refl _), HX1.out, HB1.out⟩
  case round =>
    obtain ⟨pre, rest, tk, f1, n1, hd1, nm1, la1, ka1, m1, lc1, j1, kc1, bx, rfl, rfl, hpr, hrk, hbx, hX, hB⟩ := hrel
    have HPR := Hid.mk hpr
    have HRK := Hid.mk hrk
    have HX := Hid.mk hX
    have HB := Hid.mk hB
    have hlp : pre.length + rest.length = xs.length := by rw [← hpr]; simp
    have hszr := hB.size
    have hs0 := HS0.out
    obtain ⟨x0, x1, x2, x3, x4, x5, x6⟩ := cells6 hX
    have xf := frz hX
    have HS0' := Hid.mk hs0
    clear hpr hrk hX hB hs0
    cases rest with
    | cons x rest =>
      obtain ⟨kb, ko, ls, d, t1, q0, q1, q2, q3, e1, e2, e3, g1, g2, g3, hx2, rfl, rfl, rfl, hkb, hkc, htx, hc1, hr1⟩ := HRK.out.uncons
      have hcc := hc1.same ((HB.out.block kb (by have := HS0'.out; omega)).trans (HB0.out.block kb hkb))
      obtain ⟨b0, b1, b2, b3, b4, b5, b6, b7, b8, b9, hbe, k0, k1', k2, k3, k4, k5⟩ := hcc
      simp only [Value.agg.injEq, Array.mk.injEq, List.cons.injEq, Value.int.injEq, Value.bool.injEq, Value.string.injEq, Value.slice.injEq, true_and, and_true] at hbe
      obtain ⟨rfl, rfl, rfl, rfl, ⟨rfl, rfl, rfl⟩, rfl, rfl, rfl⟩ := hbe
      have hkbr : kb < wr.heap.size := by have := HS0'.out; omega
      have HR1 := Hid.mk hr1
      simp only [List.length_cons] at hlp
      have hpl : (pre.length : Int) + 1 ≤ 501 := by omega
      clear hc1 hr1 htx
      go_wp2
      refine ⟨⟨pre ++ [x], rest, t1, q0, q1, q2, q3, e1, g1, e2, e3, g2, g3, wr.heap.size, ?_, rfl, by rw [List.append_assoc]; exact HPR.out, HR1.out, by have := HS0'.out; omega, alloc_new _ _, HB.out.alloc hszr _⟩, by simp only [intOf]; omega⟩
      rw [List.length_append, List.length_singleton]
      rfl
    | nil =>
      obtain ⟨hf5, -, -, -⟩ := HRK.out.unnil
      have hpx : xs = pre := by rw [← HPR.out, List.append_nil]
      subst hpx
      obtain ⟨Wl, rfl⟩ : ∃ W, W = wr := ⟨_, rfl⟩
      have hlw : w.heap.size + 2 ≤ Wl.heap.size := by have := HS0'.out; omega
      have hXw := (HB.out.block _ (by have := HS0'.out; omega)).trans HX0.out
      have hZw := (HB.out.block _ (by have := HS0'.out; omega)).trans HR0.out
      have hBw : RowKit.Below w.heap.size w Wl := HB0.out.trans (HB.out.mono HB0.out.size)
      have HXW := Hid.mk hXw
      have HZW := Hid.mk hZw
      have HBW := Hid.mk hBw
      clear hXw hZw hBw
      go_wp2_with (first
        | (at_make; refine wpList_make_full _ rfl _ _ 23 rfl (w.heap.size + 2) 25 i1 _ 6 Try.underlying23 hi1 iy0 iy1 .i64 .i64 _ _ xs.length rfl rfl rfl rfl (by rw [iy2]; omega) (by simp [maxLen]; omega) hlw ?_; intro W2 hown2 hgr2; have hs2 := hgr2.size; have HOWN2 := Hid.mk hown2; have HGR2 := Hid.mk hgr2; clear hown2 hgr2)
        | (at_make; refine wpList_make_full _ rfl _ _ 28 rfl (w.heap.size + 2) 4 i2 _ 1 Try.underlying28 hi2 iz0 iz1 .i64 .i64 _ _ xs.length rfl rfl rfl rfl (by rw [iz2]; omega) (by simp [maxLen]; omega) (by omega) ?_; intro W3 hown3 hgr3; have hs3 := hgr3.size; have HOWN3 := Hid.mk hown3; have HGR3 := Hid.mk hgr3; clear hown3 hgr3))
      have hlA1 : Wl.heap.size < W2.heap.size := (World.ownsRow.lt HOWN2.out _ rfl).2
      have hlA2 : W2.heap.size < W3.heap.size := (World.ownsRow.lt HOWN3.out _ rfl).2
      have hkW : ∀ k, k < Wl.heap.size → W3.heap[k]? = Wl.heap[k]? := fun k hk => (HGR3.out.block k (by omega) (by intro h; cases h)).trans (HGR2.out.block k hk (by intro h; cases h))
      have HB3 : Hid (RowKit.Below w.heap.size w W3) := ⟨HGR3.out.os.trans (HGR2.out.os.trans HBW.out.os), HGR3.out.tape.trans (HGR2.out.tape.trans HBW.out.tape), HGR3.out.output.trans (HGR2.out.output.trans HBW.out.output), by have := HBW.out.size; omega, fun k hk => (hkW k (by omega)).trans (HBW.out.block k hk)⟩
      have HX3 := Hid.mk ((hkW _ (heap_lt HXW.out)).trans HXW.out)
      have HZ3 := Hid.mk ((hkW _ (heap_lt HZW.out)).trans HZW.out)
      have HOWN23 : Hid (W3.ownsRow (w.heap.size + 2) 25 6 (.slice (some ⟨Wl.heap.size, 0, none⟩) xs.length xs.length) xs.length _) := owns_block HOWN2.out (fun g hg => by
        simp only [Option.some.injEq, Addr.mk.injEq, and_true] at hg
        subst hg
        exact HGR3.out.block _ hlA1 (by intro h; cases h))
      obtain ⟨ys0, zs0, hRS⟩ : ∃ ys zs, RowsS w W3 (w.heap.size + 2) Wl.heap.size W2.heap.size xs xs.length ys zs := ⟨_, _, ⟨HOWN23.out, HOWN3.out, fun j x hj hx => (by rw [List.getElem?_eq_none (by rw [List.length_reverse]; omega)] at hx; cases hx), fun j x hj hx => (by rw [List.getElem?_eq_none (by rw [List.length_reverse]; omega)] at hx; cases hx)⟩⟩
      have HRS := Hid.mk hRS
      obtain ⟨A1, hA1⟩ : ∃ A1, Wl.heap.size = A1 := ⟨_, rfl⟩
      obtain ⟨A2, hA2⟩ : ∃ A2, W2.heap.size = A2 := ⟨_, rfl⟩
      rw [hA1, hA2]
      have HRS' : Hid (RowsS w W3 (w.heap.size + 2) A1 A2 xs xs.length ys0 zs0) := by rw [← hA1, ← hA2]; exact HRS
      have hAA : A1 < A2 ∧ w.heap.size + 2 ≤ A1 ∧ A2 < W3.heap.size := by omega
      have HW3 : Hid (w.heap.size + 2 ≤ W3.heap.size) := (by unfold Hid; omega)
      clear hRS HRS hA1 hA2 HOWN2 HOWN3 HOWN23 HGR2 HGR3 hkW hlA1 hlA2 hs2 hs3 x0 x1 x2 x3 x4 x5 x6 xf hlw hszr
      go_loopw [9] (fun (i : Value) (wr : World) => ∃ (pre rest : List (Value × Tm)) (tk : Tm) (f1 n1 : Int) (hd1 : Bool) (nm1 : ByteArray) (la1 ka1 : Option Addr) (m1 lc1 j1 kc1 : Nat) (ys zs : List Value), i = .int .i64 ((rest.length : Int) - 1) ∧ pre ++ rest = xs ∧ ApRow w rest (.agg #[.int .i64 f1, .int .i64 n1, .bool hd1, .string nm1, .slice la1 m1 lc1, .slice ka1 j1 kc1]) tk v' t' ∧ wr.heap[w.heap.size]? = some (.cells #[.int .i64 f1, .int .i64 n1, .bool hd1, .string nm1, .slice la1 m1 lc1, .slice ka1 j1 kc1] 25 (0, 0)) ∧ RowsS w wr (w.heap.size + 2) A1 A2 xs rest.length ys zs ∧ Kept (fun k => k = w.heap.size ∨ k = A1 ∨ k = A2) W3 wr) (fun i _ => (intOf i + 1).toNat)
      case atStart => exact ⟨[], xs, t, f, n, hd, nm, la, ka, l1, lc, k1, kc, _, _, rfl, rfl, HROW.out, HX3.out, HRS'.out, Kept.refl _ _⟩
      case round =>
        obtain ⟨pre, rest, tk, f1, n1, hd1, nm1, la1, ka1, m1, lc1, j1, kc1, ys, zs, rfl, hpr, hrk, hX, hRS, hK⟩ := hrel
        have HPR := Hid.mk hpr
        have HRK := Hid.mk hrk
        have HX := Hid.mk hX
        have HRS := Hid.mk hRS
        have HK := Hid.mk hK
        have hlp : pre.length + rest.length = xs.length := by rw [← hpr]; simp
        have hszr := hK.size
        obtain ⟨x0, x1, x2, x3, x4, x5, x6⟩ := cells6 hX
        have xf := frz hX
        have hold : ∀ k, k < w.heap.size → wr.heap[k]? = w.heap[k]? := fun k hk => (hK.block k (by have := HW3.out; omega) (by omega)).trans (HB3.out.block k hk)
        have HOLD := Hid.mk hold
        clear hpr hrk hX hRS hK hold
        cases rest with
        | cons x rest =>
          obtain ⟨kb, ko, ls, d, t1, q0, q1, q2, q3, e1, e2, e3, g1, g2, g3, hx2, rfl, rfl, rfl, hkb, hkc, htx, hc1, hr1⟩ := HRK.out.uncons
          obtain ⟨_, _, _, _, _, _, _, _, kb', ko', _, d0, d1, d2, d3, d4, d5, d6, d7, d8, d9, hve, hte, hkb', -, hdc, hdt⟩ := (ApV.of htx).go
          simp only [Value.agg.injEq, Array.mk.injEq, List.cons.injEq, Value.slice.injEq, Option.some.injEq, Addr.mk.injEq, true_and, and_true] at hve
          obtain ⟨-, -, -, -, ⟨rfl, rfl⟩, -⟩ := hve
          simp only [Tm.mk.injEq, List.cons.injEq, and_true, true_and] at hte
          obtain ⟨-, -, -, -, -, rfl⟩ := hte
          have hcc := hc1.same (HOLD.out kb hkb)
          obtain ⟨b0, b1, b2, b3, b4, b5, b6, b7, b8, b9, hbe, k0, k1', k2, k3, k4, k5⟩ := hcc
          simp only [Value.agg.injEq, Array.mk.injEq, List.cons.injEq, Value.int.injEq, Value.bool.injEq, Value.string.injEq, Value.slice.injEq, true_and, and_true] at hbe
          obtain ⟨rfl, rfl, rfl, rfl, ⟨rfl, rfl, rfl⟩, rfl, rfl, rfl⟩ := hbe
          have hdd := hdc.same (HOLD.out kb hkb)
          obtain ⟨b0, b1, b2, b3, b4, b5, b6, b7, b8, b9, hbe, o0, o1, o2, o3, o4, o5⟩ := hdd
          simp only [Value.agg.injEq, Array.mk.injEq, List.cons.injEq, Value.int.injEq, Value.bool.injEq, Value.string.injEq, Value.slice.injEq, true_and, and_true] at hbe
          obtain ⟨rfl, rfl, rfl, rfl, ⟨rfl, rfl, rfl⟩, rfl, rfl, rfl⟩ := hbe
          have hw3 := HW3.out
          have hkbr : kb < wr.heap.size := by omega
          have HR1 := Hid.mk hr1
          have HDT := Hid.mk hdt
          simp only [List.length_cons] at hlp
          have hysl : ys.length = xs.length * 6 := HRS.out.own1.1
          have hzsl : zs.length = xs.length * 1 := HRS.out.own2.1
          have hm : ∀ c, c < 6 → ∃ u, wr.cell? ⟨A1, rest.length * 6 + c, none⟩ = some u := fun c hc => ⟨_, by rw [World.ownsRow.cellAt HRS.out.own1 _ (by omega)]; exact List.getElem?_eq_getElem (by omega)⟩
          obtain ⟨u0, m0⟩ := hm 0 (by omega)
          obtain ⟨u1, m1'⟩ := hm 1 (by omega)
          obtain ⟨u2, m2⟩ := hm 2 (by omega)
          obtain ⟨u3, m3⟩ := hm 3 (by omega)
          obtain ⟨u4, m4⟩ := hm 4 (by omega)
          obtain ⟨u5, m5⟩ := hm 5 (by omega)
          rw [Nat.add_zero] at m0
          obtain ⟨uz, mz⟩ : ∃ u, wr.cell? ⟨A2, rest.length, none⟩ = some u := ⟨_, by rw [World.ownsRow.cellAt HRS.out.own2 _ (by omega)]; exact List.getElem?_eq_getElem (by omega)⟩
          have mf := World.ownsRow.frozenAt HRS.out.own1
          have zf := World.ownsRow.frozenAt HRS.out.own2
          have n1A : A1 ≠ w.heap.size := by omega
          have n2A : A2 ≠ w.heap.size := by omega
          have n1k : A1 ≠ kb := by omega
          have n2k : A2 ≠ kb := by omega
          have n12 : A1 ≠ A2 := by omega
          have n1A' := n1A.symm
          have n2A' := n2A.symm
          have n1k' := n1k.symm
          have n2k' := n2k.symm
          have n12' := n12.symm
          have zk : (rest.length : Int) < (xs.length : Int) := by omega
          have zk0 : (0 : Int) ≤ (rest.length : Int) := by omega
          rw [show (((x :: rest).length : Int) - 1) = (rest.length : Int) by simp]
          clear hc1 hr1 htx hdc hdt hm hkb'
          go_wp2
          have hst := HRS.out.step HPR.out n12 hx2 HDT.out
          generalize hW8 : (((((((wr.setCell ⟨A1, rest.length * 6, none⟩ (.int .i64 d0)).setCell ⟨A1, rest.length * 6 + 1, none⟩ (.int .i64 d1)).setCell ⟨A1, rest.length * 6 + 2, none⟩ (.bool d2)).setCell ⟨A1, rest.length * 6 + 3, none⟩ (.string d3)).setCell ⟨A1, rest.length * 6 + 4, none⟩ (.slice d4 d5 d6)).setCell ⟨A1, rest.length * 6 + 5, none⟩ (.slice d7 d8 d9)).setCell ⟨A2, rest.length, none⟩ (.bool hd1)) = W8 at hst ⊢
          have hk8 : Kept (fun k => k = A1 ∨ k = A2) wr W8 := by
            rw [← hW8]
            exact (((((((Kept.refl (fun k => k = A1 ∨ k = A2) wr).setCell (p := ⟨A1, _, none⟩) (Or.inl rfl) _).setCell (p := ⟨A1, _, none⟩) (Or.inl rfl) _).setCell (p := ⟨A1, _, none⟩) (Or.inl rfl) _).setCell (p := ⟨A1, _, none⟩) (Or.inl rfl) _).setCell (p := ⟨A1, _, none⟩) (Or.inl rfl) _).setCell (p := ⟨A1, _, none⟩) (Or.inl rfl) _).setCell (p := ⟨A2, _, none⟩) (Or.inr rfl) _
          clear hW8
          have hX8 := (hk8.block _ (heap_lt HX.out) (by omega)).trans HX.out
          have hK9 : Kept (fun k => k = w.heap.size) W8 (set6W W8 w.heap.size (.int .i64 q0) (.int .i64 q1) (.bool q2) (.string q3) (.slice e1 e2 e3) (.slice g1 g2 g3)) := keep6 rfl
          have hs8 := hk8.size
          have hs9 := hK9.size
          refine ⟨⟨pre ++ [x], rest, t1, q0, q1, q2, q3, e1, g1, e2, e3, g2, g3, _, _, rfl, by rw [List.append_assoc]; exact HPR.out, HR1.out, set6 hX8, hst.move (hK9.block _ (by omega) (by omega)) (hK9.block _ (by omega) (by omega)), ?_⟩, by simp only [intOf]; omega⟩
          exact ⟨hK9.os.trans (hk8.os.trans HK.out.os), hK9.tape.trans (hk8.tape.trans HK.out.tape), hK9.output.trans (hk8.output.trans HK.out.output), Nat.le_trans (Nat.le_trans hszr hs8) hs9, fun k hk hne => (hK9.block k (by omega) (fun e => hne (Or.inl e))).trans ((hk8.block k (by omega) (fun e => hne (Or.inr e))).trans (HK.out.block k hk hne))⟩
        | nil =>
          obtain ⟨hf5, htk, hv', htv⟩ := HRK.out.unnil
          have HZR := Hid.mk ((HK.out.block _ (heap_lt HZ3.out) (by omega)).trans HZ3.out)
          obtain ⟨y0, y1, y2, y3, y4, y5, y6⟩ := cells6 HZR.out
          have yf := frz HZR.out
          have HTV := Hid.mk htv
          clear htv hv'
          rw [show ((([] : List (Value × Tm)).length : Int) - 1) = -1 by simp]
          go_wp2
          have hw3 := HW3.out
          have hK9 : Kept (fun k => k = w.heap.size + 1) wr (set6W wr (w.heap.size + 1) (.int .i64 f1) (.int .i64 n1) (.bool hd1) (.string nm1) (.slice la1 m1 lc1) (.slice ka1 j1 kc1)) := keep6 rfl
          have hbZ : RowKit.Below w.heap.size w (set6W wr (w.heap.size + 1) (.int .i64 f1) (.int .i64 n1) (.bool hd1) (.string nm1) (.slice la1 m1 lc1) (.slice ka1 j1 kc1)) := (HB3.out.trans (HK.out.below (by omega) (fun k hk => by omega))).trans (hK9.below (by omega) (fun k hk => by omega))
          refine bodyPost_ret (v := .tuple #[.agg #[.int .i64 f1, .int .i64 n1, .bool hd1, .string nm1, .slice la1 m1 lc1, .slice ka1 j1 kc1], .slice (some ⟨A1, 0, none⟩) xs.length xs.length, .slice (some ⟨A2, 0, none⟩) xs.length xs.length]) (by simp [results, Try.results15, go_sem, y0, y1, y2, y3, y4, y5]) rfl ⟨hbZ, A1, A2, ys, zs, _, rfl, ?_, ⟨_, _, _, _, _, _, _, _, _, _, rfl⟩, HTV.out.on hbZ⟩
          exact HRS.out.move (hK9.block _ (by omega) (by omega)) (hK9.block _ (by omega) (by omega))
end Go.Proofs.Ythdcpodheimhaaa

/- tele.gathered: what stands at a row's head, and its arguments. -/
namespace Go.Proofs.Ythdcpodheimhaaa
open Go.RowKit Go.Sort Go.Shelf Go.Lib

/-- those of ts that have come, the last one first -/
def gotL (ts : List Tm) (m : Nat) : List Tm := (ts.drop (ts.length - m)).reverse

theorem gotL_len {ts : List Tm} {m : Nat} (h : m ≤ ts.length) : (gotL ts m).length = m := by unfold gotL; rw [List.length_reverse, List.length_drop]; omega

theorem gotL_all (ts : List Tm) : gotL ts ts.length = ts.reverse := by unfold gotL; rw [Nat.sub_self, List.drop_zero]

theorem gotL_nil (ts : List Tm) : gotL ts 0 = [] := by unfold gotL; rw [Nat.sub_zero, List.drop_length]; rfl

theorem gotL_succ {ts : List Tm} {m i : Nat} (hi : i < ts.length) (h : m + i + 1 = ts.length) : gotL ts (m + 1) = gotL ts m ++ [ts[i]] := by
  unfold gotL
  rw [show ts.length - (m + 1) = i by omega, List.drop_eq_getElem_cons hi, List.reverse_cons, show ts.length - m = i + 1 by omega]

/-- what holds between two rounds of tele.gathered -/
structure GI (w : World) (ts : List Tm) (hc : Array Value) (B : Nat) (m : Nat) (W : World) : Prop where
  below : RowKit.Below w.heap.size w W
  head : W.heap[w.heap.size]? = some (.cells hc 25 (0, 0))
  res : W.heap[w.heap.size + 1]? = some (.cells #[.int .i64 0, .int .i64 0, .bool false, .string { data := #[] }, .slice none 0 0, .slice none 0 0] 25 (0, 0))
  rows : ∃ (a : Option Addr) (cap : Nat) (hv : Value), W.heap[w.heap.size + 1 + 1]? = some (.cells #[.slice a m cap] 23 (0, 0)) ∧ W.heap[w.heap.size + 1 + 1 + 1]? = some (.cells #[hv] 28 (0, 0)) ∧ OB1 (B + 2) W hv ((gotL ts m).map Tm.hid) ∧ RowF W (B + 2) (fun k => decide (k < B + 2) || ownV hv k) a cap ((gotL ts m).map fun x => cleanT (argT x))
  pp : W.heap[w.heap.size + 1 + 1 + 1 + 1]? = some (.cells #[.pointer (some ⟨w.heap.size + 1 + 1 + 1, 0, none⟩)] 50 (0, 0))
  nb : W.heap[w.heap.size + 1 + 1 + 1 + 1 + 1]? = some (.cells #[.func (.func 40) #[] #[.pointer (some ⟨w.heap.size + 1 + 1 + 1 + 1, 0, none⟩)]] 48 (0, 0))

theorem GI.on {w : World} {ts : List Tm} {hc : Array Value} {B m : Nat} {W W' : World} (h : GI w ts hc B m W) (hl : w.heap.size + 1 + 1 + 1 + 1 + 1 < B) (hs : W.heap.size ≤ W'.heap.size) (hk : ∀ k, k < W.heap.size → ¬ (B ≤ k ∧ k < B + 2) → W'.heap[k]? = W.heap[k]?) (ho : W'.os = W.os) (ht : W'.tape = W.tape) (hu : W'.output = W.output) : GI w ts hc B m W' := by
  obtain ⟨a, cap, hv, b1, b2, b3, b4⟩ := h.rows
  have st : ∀ {k : Nat} {o : Obj}, W.heap[k]? = some o → k < B → W'.heap[k]? = some o := fun hh hlt => (hk _ (heap_lt hh) (by omega)).trans hh
  refine ⟨⟨ho.trans h.below.os, ht.trans h.below.tape, hu.trans h.below.output, Nat.le_trans h.below.size hs, fun k hk2 => (hk k (Nat.lt_of_lt_of_le hk2 h.below.size) (by omega)).trans (h.below.block k hk2)⟩, st h.head (by omega), st h.res (by omega), ⟨a, cap, hv, st b1 (by omega), st b2 (by omega), b3.move fun k hk2 => ?_, b4.go2 hs (fun k hk2 => ?_) (fun k h1 h2 h3 => ⟨h2, ?_⟩)⟩, st h.pp (by omega), st h.nb (by omega)⟩
  · have := b3.lt hk2
    exact hk k this.2 (by omega)
  · obtain ⟨ys, kvs, ho, -⟩ := b4.go
    have := row_block ho hk2
    exact hk k this.2 (by omega)
  · rw [Bool.or_eq_false_iff, decide_eq_false_iff_not] at h2
    exact hk k h1 (by omega)

attribute [local go_sem] Oper.semAt_some

set_option maxRecDepth 100000 in
set_option maxHeartbeats 2000000 in
theorem backward2_seq (m b1 : Nat) (b n cap : Nat) (ad : Option Addr) (had : 0 < n → ad = some ⟨b, 0, none⟩) (kv : Nat → Value) (w : World) (hb1 : b1 < w.heap.size) (hbn : b < w.heap.size) (hB1 : w.heap[b1]? = some (.cells #[.slice ad n cap] 23 (0, 0))) (hn : n ≤ 1000000) (hkv : ∀ i, i < n → CellsAt w b (i * 6) (kv i)) :
    SeqY m Try.prog 55 #[.pointer (some ⟨b1, 0, none⟩)] encB (fun k => k = b ∨ k = b1) (backL kv n) w := by
  intro l B J W hW hsz hJ hY h0
  have HY := Hid.mk hY
  have HJ0 := Hid.mk h0
  have HKV := Hid.mk hkv
  have hsW := hW.size
  have HOLD : Hid (∀ k, (k = b ∨ k = b1) → W.heap[k]? = w.heap[k]?) := fun k hk => hW.block k (by omega)
  have HB1 := Hid.mk hB1
  obtain ⟨c0, c1, c2⟩ := cells1 ((HOLD.out b1 (Or.inr rfl)).trans hB1)
  have HSZ := Hid.mk hsz
  clear hJ hY hW hB1 hkv h0 hsz
  refine callsIn_of_wp Try.func55 rfl trivial ?_ rfl
  simp only [Try.ntmps55, List.size_toArray, List.length_cons, List.length_nil, Nat.reduceAdd, Nat.reduceSub, Array.replicate_succ, Array.replicate_zero, List.push_toArray, List.append_toArray, List.nil_append, List.cons_append]
  gi_wp2_with fail
  gi_loopw [3] (fun i wr => ∃ (k : Nat) (pre : List (Int × Value)), k ≤ n ∧ i = .int .i64 ((k : Int) - 1) ∧ pre ++ backL kv k = backL kv n ∧ J pre wr ∧ (∀ j, (j = b ∨ j = b1) → wr.heap[j]? = w.heap[j]?) ∧ W.heap.size ≤ wr.heap.size) (fun i _ => (intOf i + 1).toNat)
  case atStart => exact ⟨n, [], Nat.le_refl _, rfl, rfl, HJ0.out, HOLD.out, Nat.le_refl _⟩
  case round =>
    obtain ⟨k, pre, hk, rfl, hpr, hJk, hOk, hszk⟩ := hrel
    have HPR := Hid.mk hpr
    have HJK := Hid.mk hJk
    have HOK := Hid.mk hOk
    clear hpr hJk hOk c0 c1 c2
    obtain ⟨c0, c1, c2⟩ := cells1 ((HOK.out b1 (Or.inr rfl)).trans HB1.out)
    cases k with
    | zero =>
      gi_wp2
      refine bodyPost_end (results_none rfl _ _ _) rfl ?_
      refine ⟨⟨_, rfl⟩, ?_⟩
      have := HPR.out
      rw [backL, List.append_nil] at this
      rw [← this]
      exact HJK.out
    | succ k =>
      have e1 : ((k + 1 : Nat) : Int) - 1 = (k : Int) := by omega
      obtain rfl := had (by omega)
      rw [e1]
      obtain ⟨d0, d1, d2, d3, d4, d5, d6, d7, d8, d9, hve, i0, i1, i2, i3, i4, i5⟩ := (HKV.out k (by omega)).same (HOK.out b (Or.inl rfl))
      obtain ⟨fn, tmps, assign, body, hy, hR⟩ := HY.out pre ((k : Int), kv k) (backL kv k) wr HPR.out (by have := HSZ.out; omega) HJK.out
      dsimp only [encB] at hy
      rw [hve] at hy
      have zk : (k : Int) < (n : Int) := by omega
      have zk0 : ¬ (k : Int) < 0 := by omega
      have hbl : b < wr.heap.size := by omega
      clear hve
      gi_wp2_with fail
      refine ⟨fun h => (by simp [Fence.wide] at h), hR.mono ?_⟩
      rintro e W3 ⟨rfl, hJ3, hrk3⟩
      have HJ3 := Hid.mk hJ3
      have hs3 := hrk3.size
      have HO3 : Hid (∀ j, (j = b ∨ j = b1) → W3.heap[j]? = w.heap[j]?) := fun j hj => (hrk3.block j (by omega) (Or.inl hj)).trans (HOK.out j hj)
      clear hJ3 hrk3 hy hR
      gi_wp2
      refine ⟨⟨k, pre ++ [((k : Int), kv k)], by omega, by go_num, ?_, HJ3.out, HO3.out, by omega⟩, ?_⟩
      · rw [List.append_assoc]; exact HPR.out
      · simp only [intOf]; omega

set_option maxRecDepth 100000 in
set_option maxHeartbeats 8000000 in
theorem gathered_walk (t : Tm) (v : Value) (ts : List Tm) (kv : Nat → Value) (ad : Option Addr) (b ca : Nat) (w : World) (hv : TV w v t) (hG' : GT t ∧ (sizeT t : Int) ≤ 16777216 ∧ (heightT t : Int) ≤ 65536) (hbw : b < w.heap.size) (had : 0 < ts.length → ad = some ⟨b, 0, none⟩) (hkv : ∀ i (hi : i < ts.length), CellsAt w b (i * 6) (kv i) ∧ ApV w (kv i) ts[i]) (hts : ∀ x ∈ ts, GT (argT x) ∧ (sizeT (argT x) : Int) ≤ 16777216 ∧ (heightT (argT x) : Int) ≤ 65536) (hn : ts.length ≤ 500) : Calls Try.prog 30 #[v, .slice ad ts.length ca] w fun e w' => RowKit.Below w.heap.size w w' ∧ ∃ (B : Nat) (P : Nat → Bool) (a : Option Addr) (cap : Nat) (hv rv : Value), e = .returned (.tuple #[rv, .slice a ts.length cap, hv]) ∧ RowF w' B P a cap (ts.reverse.map fun x => cleanT (argT x)) ∧ OB1 B w' hv (ts.reverse.map Tm.hid) ∧ ShapeT rv ∧ TF w' (fun k => decide (k < w.heap.size)) rv (cleanT t) ∧ w.heap.size ≤ B ∧ (∀ k, k < w.heap.size → P k = true) := by
  have HV := Hid.mk hv
  have HGT := Hid.mk hG'
  have HKX := Hid.mk hkv
  have HTG := Hid.mk hts
  have HAD := Hid.mk had
  obtain ⟨la, lc, ka, kc, rfl⟩ := hv.shape
  clear hv hG' hkv hts had
  generalize t.form = f at *
  generalize t.n = n at *
  generalize t.hid = hd at *
  generalize t.name = nm at *
  generalize t.levels.length = l1 at *
  generalize t.kids.length = k1 at *
  obtain ⟨W0, hW0⟩ : ∃ W0, (((w.alloc (.cells #[.int .i64 f, .int .i64 n, .bool hd, .string nm, .slice la l1 lc, .slice ka k1 kc] 25)).alloc (.cells #[.int .i64 0, .int .i64 0, .bool false, .string { data := #[] }, .slice none 0 0, .slice none 0 0] 25)).alloc (.cells #[.slice none 0 0] 23)).alloc (.cells #[.slice none 0 0] 28) = W0 := ⟨_, rfl⟩
  have hs0 : W0.heap.size = w.heap.size + 1 + 1 + 1 + 1 := by rw [← hW0]; simp
  have HW0 := Hid.mk hW0
  have HS0 := Hid.mk hs0
  clear hW0 hs0
  refine (callsIn_wide (n := 6)).1 ?_
  refine callsIn_of_wp_marks Try.func30 rfl trivial ?_ rfl
  simp only [Try.ntmps30, List.size_toArray, List.length_cons, List.length_nil, Nat.reduceAdd, Nat.reduceSub, Array.replicate_succ, Array.replicate_zero, List.push_toArray, List.append_toArray, List.nil_append, List.cons_append]
  gi_wp2_with fail
  refine ⟨trivial, ?_⟩
  rw [HW0.out]
  refine ((callsIn_wide (n := 5)).2 (noting_any _ _)).mono ?_
  rintro e w2 ⟨rfl, hw2⟩
  rw [HS0.out]
  have hs2 : w2.heap.size = w.heap.size + 1 + 1 + 1 + 1 + 1 := by rw [hw2]; simp [HS0.out]
  have HW2 := Hid.mk hw2
  have HS2 := Hid.mk hs2
  clear hw2 hs2
  gi_wp2_with fail
  refine ⟨trivial, ?_⟩
  refine ((callsIn_wide (n := 5)).2 (Backward_any _ _ _ _)).mono ?_
  rintro e w3 ⟨rfl, hw3⟩
  have hw3' : w3 = ((((((w.alloc (.cells #[.int .i64 f, .int .i64 n, .bool hd, .string nm, .slice la l1 lc, .slice ka k1 kc] 25)).alloc (.cells #[.int .i64 0, .int .i64 0, .bool false, .string { data := #[] }, .slice none 0 0, .slice none 0 0] 25)).alloc (.cells #[.slice none 0 0] 23)).alloc (.cells #[.slice none 0 0] 28)).alloc (.cells #[.pointer (some ⟨w.heap.size + 1 + 1 + 1, 0, none⟩)] 50)).alloc (.cells #[.func (.func 40) #[] #[.pointer (some ⟨w.heap.size + 1 + 1 + 1 + 1, 0, none⟩)]] 48)).alloc (.cells #[.slice ad ts.length ca] 23) := by rw [hw3, HW2.out, HW0.out]
  obtain ⟨k0, k1', k2, k3, k4, k5, k6⟩ := box7 (w := w) (a := .cells #[.int .i64 f, .int .i64 n, .bool hd, .string nm, .slice la l1 lc, .slice ka k1 kc] 25) (b := .cells #[.int .i64 0, .int .i64 0, .bool false, .string { data := #[] }, .slice none 0 0, .slice none 0 0] 25) (c := .cells #[.slice none 0 0] 23) (d := .cells #[.slice none 0 0] 28) (e := .cells #[.pointer (some ⟨w.heap.size + 1 + 1 + 1, 0, none⟩)] 50) (f := .cells #[.func (.func 40) #[] #[.pointer (some ⟨w.heap.size + 1 + 1 + 1 + 1, 0, none⟩)]] 48) (g := .cells #[.slice ad ts.length ca] 23)
  rw [← hw3'] at k0 k1' k2 k3 k4 k5 k6
  have hb3 : RowKit.Below w.heap.size w w3 := by rw [hw3']; exact (((((((Below.refl _ _).alloc (Nat.le_refl _) _).alloc (by simp) _).alloc (by simp; omega) _).alloc (by simp; omega) _).alloc (by simp; omega) _).alloc (by simp; omega) _).alloc (by simp; omega) _
  have hs3 : w3.heap.size = w.heap.size + 1 + 1 + 1 + 1 + 1 + 1 + 1 := by rw [hw3']; simp
  have hbe : (w2.alloc (.cells #[.func (.func 40) #[] #[.pointer (some ⟨w.heap.size + 1 + 1 + 1 + 1, 0, none⟩)]] 48)).heap.size = w.heap.size + 1 + 1 + 1 + 1 + 1 + 1 := by simp [HS2.out]
  rw [hbe]
  have h0 : GI w ts #[.int .i64 f, .int .i64 n, .bool hd, .string nm, .slice la l1 lc, .slice ka k1 kc] w3.heap.size 0 w3 := ⟨hb3, k0, k1', ⟨none, 0, .slice none 0 0, k2, k3, by rw [gotL_nil]; exact OB1.nil _ _, by rw [gotL_nil]; exact RowF.nil _ _ _⟩, k4, k5⟩
  have HSEQ : Hid (SeqY 5 Try.prog 55 #[.pointer (some ⟨w.heap.size + 1 + 1 + 1 + 1 + 1 + 1, 0, none⟩)] encB (fun k => k = b ∨ k = w.heap.size + 1 + 1 + 1 + 1 + 1 + 1) (backL kv ts.length) w3) := backward2_seq 5 (w.heap.size + 1 + 1 + 1 + 1 + 1 + 1) b ts.length ca ad HAD.out kv w3 (by omega) (by omega) k6 (by omega) (fun i hi => (HKX.out i hi).1.same (hb3.block _ hbw))
  have HS3 := Hid.mk hs3
  have HI0 := Hid.mk h0
  clear hw3 hw3' k0 k1' k2 k3 k4 k5 k6 hb3 h0 hs3 hbe
  gi_wp2_with fail
  rw [HS2.out]
  refine rangeY (gf := 55) (lb := #[.pointer (some ⟨w.heap.size + 1 + 1 + 1 + 1 + 1 + 1, 0, none⟩)]) rfl (enters_of Try.func55 (by kernel_rfl) rfl) HSEQ.out (Below.refl _ _) (fun _ => rfl)
    (fun pre W => GI w ts #[.int .i64 f, .int .i64 n, .bool hd, .string nm, .slice la l1 lc, .slice ka k1 kc] w3.heap.size pre.length W) (fun s A A' h1 h2 h3 h4 h5 h6 => GI.on h1 (by have := HS3.out; omega) h2 h3 h4 h5 h6) HI0.out
    (fun x a' W => ∃ pb, a' = { tmps := #[.agg #[.int .i64 f, .int .i64 n, .bool hd, .string nm, .slice la l1 lc, .slice ka k1 kc], .slice ad ts.length ca, .pointer (some ⟨w.heap.size, 0, none⟩), undef, .pointer (some ⟨w.heap.size + 1, 0, none⟩), .slice none 0 0, .slice none 0 0, .pointer (some ⟨w.heap.size + 1 + 1, 0, none⟩), .pointer (some ⟨w.heap.size + 1 + 1 + 1, 0, none⟩), .pointer (some ⟨w.heap.size + 1 + 1 + 1 + 1 + 1, 0, none⟩), undef, .pointer (some ⟨pb, 0, none⟩), .func (.func 40) #[] #[.pointer (some ⟨w.heap.size + 1 + 1 + 1 + 1, 0, none⟩)], .slice ad ts.length ca, .func (.func 55) #[] #[.pointer (some ⟨w.heap.size + 1 + 1 + 1 + 1 + 1 + 1, 0, none⟩)], .int .i64 x.1, x.2, undef, undef, undef, undef, undef, undef, undef, undef, undef, undef, undef, undef, undef, undef, undef, undef, undef], defers := [] } ∧ w3.heap.size + 2 ≤ pb ∧ w.heap.size + 1 + 1 < W.heap.size ∧ W.heap[pb]? = some (.cells (cellsV x.2) 25 (0, 0)) ∧ ∀ a n cap, W.heap[w.heap.size + 1 + 1]? = some (.cells #[.slice a n cap] 23 (0, 0)) → ownB a pb = false) ?ax ?assign ?body ?done
  case ax =>
    rintro x a' A A' ⟨pb, e, h1, h2, h3, h4⟩ hs hk _ _ _
    have hlt := heap_lt h3
    have := HS3.out
    refine ⟨pb, e, h1, by omega, (hk pb hlt (by omega)).trans h3, fun a n cap h => h4 a n cap ?_⟩
    rw [← h]
    exact (hk _ h2 (by omega)).symm
  case assign =>
    intro l pre x rest W K hpre hszW hI hK
    have HK := Hid.mk hK
    have HI := Hid.mk hI
    obtain ⟨i, hil, rfl, hlen⟩ := backL_at kv _ _ _ _ hpre
    obtain ⟨d0, d1, d2, d3, d4, d5, d6, d7, d8, d9, hve, -⟩ := (HKX.out i hil).1
    have HVE := Hid.mk hve
    dsimp only [encB]
    rw [hve]
    clear hK hI hve hpre
    gi_wp2
    refine HK.out _ _ ⟨by simp, fun k hk _ => Below.heap_alloc _ _ k hk⟩ (GI.on HI.out (by have := HS3.out; omega) (by simp) (fun k hk _ => Below.heap_alloc _ _ k hk) rfl rfl rfl) ⟨W.heap.size, ?_, by omega, ?_, ?_, ?_⟩
    · rw [HVE.out]
    · have := HS3.out; simp; omega
    · rw [HVE.out]; exact alloc_new _ _
    · intro a n cap h
      obtain ⟨a2, cap2, hv, b1, -, -, b4⟩ := HI.out.rows
      rw [Below.heap_alloc W _ _ (heap_lt b1), b1] at h
      simp only [Option.some.injEq, Obj.cells.injEq, Array.mk.injEq, List.cons.injEq, Value.slice.injEq, and_true] at h
      obtain ⟨ys, kvs, ho, -⟩ := b4.go
      cases e : ownB a W.heap.size with
      | false => rfl
      | true =>
        rw [← h.1] at e
        have := (row_block ho e).2
        omega
  case body =>
    intro l pre x rest a' W hpre hszW hI hAx
    obtain ⟨i, hil, rfl, hlen⟩ := backL_at kv _ _ _ _ hpre
    obtain ⟨xn, xh, xm, ls, fT, d, xa, xc, kb, ko, xk, d0, d1, d2, d3, d4, d5, d6, d7, d8, d9, hx1, hx2, hkb, hxk, hdc, hdt⟩ := (HKX.out i hil).2.go
    obtain ⟨a, cap, hv, b1, b2, b3, b4⟩ := hI.rows
    have b5 := hI.pp
    have b6 := hI.nb
    have b7 := hI.res
    have b8 := hI.below
    have b9 := hI.head
    obtain ⟨pb, rfl, hpb, -, hPB, hnot⟩ := hAx
    have hpo := hnot _ _ _ b1
    dsimp only at hPB ⊢
    rw [hx1] at hPB ⊢
    obtain ⟨hgd, hgs, hgh⟩ := HTG.out ts[i] (List.getElem_mem hil)
    have hdd : argT ts[i] = d := by rw [hx2]; rfl
    rw [hdd] at hgd hgs hgh
    have HCOPY : Hid (∀ W', RowKit.Below w.heap.size w W' → Calls Try.prog 26 #[.agg #[.int .i64 d0, .int .i64 d1, .bool d2, .string d3, .slice d4 d5 d6, .slice d7 d8 d9]] W' fun e w' => ∃ v', e = .returned v' ∧ TO w' W'.heap.size w'.heap.size v' (cleanT d) ∧ RowKit.Below W'.heap.size W' w') := fun W' h => Copy_any d _ W' (hdt.on h) hgd hgs hgh
    have hlpre : ((gotL ts pre.length).map fun x => cleanT (argT x)).length = pre.length := by rw [List.length_map, gotL_len (by omega)]
    have hlhid : ((gotL ts pre.length).map Tm.hid).length = pre.length := by rw [List.length_map, gotL_len (by omega)]
    generalize hTS : ((gotL ts pre.length).map fun x => cleanT (argT x)) = TS at *
    generalize hHS : ((gotL ts pre.length).map Tm.hid) = HS at *
    obtain ⟨ys, kvs, hown, hkv⟩ := b4.go
    rw [hlpre] at hown
    have hysl : ys.length = pre.length * 6 := hown.1
    have hplen : pre.length ≤ 1000000 := by omega
    have hs3 := HS3.out
    have HCEL : Hid (∀ Wx : World, (∀ j, j = w.heap.size + 1 + 1 ∨ j = pb ∨ j = kb → Wx.heap[j]? = W.heap[j]?) → (fun w' => w'.cell? ⟨w.heap.size + 1 + 1, 0, none⟩ = some (.slice a pre.length cap) ∧ w'.cell? ⟨pb, 5, none⟩ = some (.slice (some ⟨kb, ko, none⟩) 2 xk) ∧ w'.cell? ⟨kb, ko + 6, none⟩ = some (.int .i64 d0) ∧ w'.cell? ⟨kb, ko + 6 + 1, none⟩ = some (.int .i64 d1) ∧ w'.cell? ⟨kb, ko + 6 + 2, none⟩ = some (.bool d2) ∧ w'.cell? ⟨kb, ko + 6 + 3, none⟩ = some (.string d3) ∧ w'.cell? ⟨kb, ko + 6 + 4, none⟩ = some (.slice d4 d5 d6) ∧ w'.cell? ⟨kb, ko + 6 + 5, none⟩ = some (.slice d7 d8 d9)) Wx) := fun Wx h => by
      have hD := (h _ (Or.inl rfl)).trans b1
      have hP := (h _ (Or.inr (Or.inl rfl))).trans hPB
      have hK := ((h _ (Or.inr (Or.inr rfl))).trans (b8.block kb hkb))
      have hc2 := hdc.same hK
      obtain ⟨p0, p1, p2, p3, p4, p5, p6, p7, p8, p9, hpe, c0, c1, c2, c3, c4, c5⟩ := hc2
      simp only [Value.agg.injEq, Array.mk.injEq, List.cons.injEq, Value.int.injEq, Value.bool.injEq, Value.string.injEq, Value.slice.injEq, true_and, and_true] at hpe
      obtain ⟨rfl, rfl, rfl, rfl, ⟨rfl, rfl, rfl⟩, rfl, rfl, rfl⟩ := hpe
      exact ⟨(cells1 hD).1, (cells6 hP).2.2.2.2.2.1, c0, c1, c2, c3, c4, c5⟩
    have hrb : ∀ k, ownB a k = true → w3.heap.size + 2 ≤ k ∧ k < W.heap.size := fun k hk => row_block hown hk
    have hvb : ∀ k, hv.ownBlock = some k → w3.heap.size + 2 ≤ k ∧ k < W.heap.size := fun k hk => b3.lt hk
    have hsw := b8.size
    have hlpb := heap_lt hPB
    have HBW := Hid.mk b8
    have HTS := Hid.mk hTS
    have HHS := Hid.mk hHS
    have HOWN := Hid.mk hown
    have HKV := Hid.mk hkv
    have HRB := Hid.mk hrb
    have HVB := Hid.mk hvb
    have HB1D := Hid.mk b1
    have HB2H := Hid.mk b2
    have HB3O := Hid.mk b3
    have HB5 := Hid.mk b5
    have HB6 := Hid.mk b6
    have HB7 := Hid.mk b7
    have HB9 := Hid.mk b9
    have HX2 := Hid.mk hx2
    have HDD := Hid.mk hdd
    have HNEW : Hid (∀ k, W.heap.size ≤ k → ((decide (k < w3.heap.size + 2) || ownV hv k) || ownB a k) = false) := fun k hk => by
      rw [Bool.or_eq_false_iff, Bool.or_eq_false_iff, decide_eq_false_iff_not]
      refine ⟨⟨by omega, ?_⟩, ?_⟩
      · unfold ownV; rw [decide_eq_false_iff_not]; intro e; have := hvb k e; omega
      · cases e : ownB a k with
        | false => rfl
        | true => have := hrb k e; omega
    have HPB := Hid.mk hPB
    have mx := mixed
    obtain ⟨i0, hi, iz0, iz1, iz2⟩ := info_parts infoTerm
    clear b1 b2 b3 b4 b5 b6 b7 b8 b9 hPB hdc hdt hown hkv hrb hvb hTS hHS hnot hgd hgs hgh hx2 hdd hI
    gi_wp2_with fail
    refine wpIn_mono (Q := (fun e a' W' => e = .normal ∧ ∃ (g c : Nat) (z17 z18 z19 z20 z21 z22 z23 z24 z25 z26 : Value), a' = { tmps := #[.agg #[.int .i64 f, .int .i64 n, .bool hd, .string nm, .slice la l1 lc, .slice ka k1 kc], .slice ad ts.length ca, .pointer (some ⟨w.heap.size, 0, none⟩), undef, .pointer (some ⟨w.heap.size + 1, 0, none⟩), .slice none 0 0, .slice none 0 0, .pointer (some ⟨w.heap.size + 1 + 1, 0, none⟩), .pointer (some ⟨w.heap.size + 1 + 1 + 1, 0, none⟩), .pointer (some ⟨w.heap.size + 1 + 1 + 1 + 1 + 1, 0, none⟩), undef, .pointer (some ⟨pb, 0, none⟩), .func (.func 40) #[] #[.pointer (some ⟨w.heap.size + 1 + 1 + 1 + 1, 0, none⟩)], .slice ad ts.length ca, .func (.func 55) #[] #[.pointer (some ⟨w.heap.size + 1 + 1 + 1 + 1 + 1 + 1, 0, none⟩)], .int .i64 i, .agg #[.int .i64 5, .int .i64 xn, .bool xh, .string xm, .slice xa ls.length xc, .slice (some ⟨kb, ko, none⟩) 2 xk], z17, z18, z19, z20, z21, z22, z23, z24, z25, z26, undef, undef, undef, undef, undef, undef, undef], defers := [] } ∧ W'.heap[w.heap.size + 1 + 1]? = some (.cells #[.slice (some ⟨g, 0, none⟩) (pre.length + 1) c] 23 (0, 0)) ∧ RowF W' (w3.heap.size + 2) (fun k => decide (k < w3.heap.size + 2) || ownV hv k) (some ⟨g, 0, none⟩) c (TS ++ [cleanT d]) ∧ (ownB a g = true ∨ W.heap.size ≤ g) ∧ Kept (fun k => k = w.heap.size + 1 + 1 ∨ ownB a k = true) W W')) ?_ ?_
    · refine wpIn_region_late (S := fun w' => w'.cell? ⟨w.heap.size + 1 + 1, 0, none⟩ = some (.slice a pre.length cap) ∧ w'.cell? ⟨pb, 5, none⟩ = some (.slice (some ⟨kb, ko, none⟩) 2 xk) ∧ w'.cell? ⟨kb, ko + 6, none⟩ = some (.int .i64 d0) ∧ w'.cell? ⟨kb, ko + 6 + 1, none⟩ = some (.int .i64 d1) ∧ w'.cell? ⟨kb, ko + 6 + 2, none⟩ = some (.bool d2) ∧ w'.cell? ⟨kb, ko + 6 + 3, none⟩ = some (.string d3) ∧ w'.cell? ⟨kb, ko + 6 + 4, none⟩ = some (.slice d4 d5 d6) ∧ w'.cell? ⟨kb, ko + 6 + 5, none⟩ = some (.slice d7 d8 d9)) (fun i => decide (9 ≤ i)) mx (noDefer_spec (by kernel_rfl)) (fun h => by obtain ⟨_, _, h, -⟩ := h; cases h) ?_ (fun hHeld => ?_)
      · (try dsimp only)
        exact HCEL.out _ (fun j _ => rfl)
      refine wpAnyM_take (i := 0) (v := ?_) rfl (by kernel_rfl) (by kernel_rfl) (by kernel_rfl) (by kernel_rfl) (fun _ _ _ h => by cases h.1) (Or.inl ⟨by rfl, ?_⟩) (by assumption) ?_
      rotate_left
      · (intro w hSw; (try dsimp only at hSw); go_simp; (try with_reducible rfl))
      refine wpAnyM_take (i := 1) (v := ?_) rfl (by kernel_rfl) (by kernel_rfl) (by kernel_rfl) (by kernel_rfl) (fun _ _ _ h => by cases h.1) (Or.inl ⟨by rfl, ?_⟩) (by assumption) ?_
      rotate_left
      · (intro w hSw; (try dsimp only at hSw); go_simp; (try with_reducible rfl))
      refine wpAnyM_take (i := 2) (v := ?_) rfl (by kernel_rfl) (by kernel_rfl) (by kernel_rfl) (by kernel_rfl) (fun _ _ _ h => by cases h.1) (Or.inl ⟨by rfl, ?_⟩) (by assumption) ?_
      rotate_left
      · (intro w hSw; (try dsimp only at hSw); go_simp; (try with_reducible rfl))
      refine wpAnyM_take (i := 3) (v := ?_) rfl (by kernel_rfl) (by kernel_rfl) (by kernel_rfl) (by kernel_rfl) (fun _ _ _ h => by cases h.1) (Or.inl ⟨by rfl, ?_⟩) (by assumption) ?_
      rotate_left
      · (intro w hSw; (try dsimp only at hSw); go_simp; (try with_reducible rfl))
      refine wpAnyM_take (i := 4) (v := ?_) rfl (by kernel_rfl) (by kernel_rfl) (by kernel_rfl) (by kernel_rfl) (fun _ _ _ h => by cases h.1) (Or.inl ⟨by rfl, ?_⟩) (by assumption) ?_
      rotate_left
      · (intro w hSw; (try dsimp only at hSw); go_simp; (try with_reducible rfl))
      refine wpAnyM_take (i := 6) (v := ?_) rfl (by kernel_rfl) (by kernel_rfl) (by kernel_rfl) (by kernel_rfl) (fun _ _ _ h => by cases h.1) (Or.inl ⟨by rfl, ?_⟩) (by assumption) ?_
      rotate_left
      · (intro w hSw; (try dsimp only at hSw); go_simp; (try with_reducible rfl))
      refine wpAnyM_two (i := 5) (k := 7) (by kernel_rfl) ?_ ?_
      · (skip)
        refine ⟨_, rfl, fun K hK => ?_⟩
        go_simp
        go_at_call 26
        refine (HCOPY.out W.drew (HBW.out.drew)).mono ?_
        rintro e w6 ⟨v6, rfl, hto6, hb6⟩
        obtain ⟨u0, u1, u2, u3, r1, r2, r3, s1', s2', s3', rfl⟩ := hto6.shapeE
        refine hK.out _ _ (fun _ => ?_) (fun hHeld => ?_)
        · (try dsimp only)
          exact HCEL.out _ (fun j hj => hb6.block j (by show j < W.heap.size; rcases hj with rfl | rfl | rfl; exact heap_lt HB1D.out; exact hlpb; omega))
        replace hHeld := hHeld rfl
        clear hK K
        refine wpAnyM_one (i := 7) (by kernel_rfl) ?_
        refine ⟨_, rfl, fun K hK => ?_⟩
        go_simp
        refine hK.out _ _ (fun _ => ?_) (fun hHeld => ?_)
        · (try dsimp only)
          exact HCEL.out _ (fun j hj => (Below.heap_alloc _ _ j (by have := hb6.size; have : W.drew.heap.size = W.heap.size := rfl; rcases hj with rfl | rfl | rfl; (have := heap_lt HB1D.out; omega); omega; omega)).trans (hb6.block j (by show j < W.heap.size; rcases hj with rfl | rfl | rfl; exact heap_lt HB1D.out; exact hlpb; omega)))
        replace hHeld := hHeld rfl
        clear hK K
        have hbx : RowKit.Below W.heap.size W (w6.alloc (.cells #[.int .i64 0, .int .i64 0, .bool false, .string { data := #[] }, .slice none 0 0, .slice none 0 0] 25)) := ((Below.refl _ W).drew.trans hb6).trans (((Below.refl _ w6).alloc (Nat.le_refl _) _).mono hb6.size)
        have HBX := Hid.mk hbx
        have HTX : Hid (TF (w6.alloc (.cells #[.int .i64 0, .int .i64 0, .bool false, .string { data := #[] }, .slice none 0 0, .slice none 0 0] 25)) (fun k => (decide (k < w3.heap.size + 2) || ownV hv k) || ownB a k) (.agg #[.int .i64 u0, .int .i64 u1, .bool u2, .string u3, .slice r1 r2 r3, .slice s1' s2' s3']) (cleanT d)) := TF.on (hto6.tf _ (fun k h1 h2 => HNEW.out k h1)) ((Below.refl _ w6).alloc (Nat.le_refl _) _)
        have HNX : Hid ((w6.alloc (.cells #[.int .i64 0, .int .i64 0, .bool false, .string { data := #[] }, .slice none 0 0, .slice none 0 0] 25)).heap[w6.heap.size]? = some (.cells #[.int .i64 0, .int .i64 0, .bool false, .string { data := #[] }, .slice none 0 0, .slice none 0 0] 25 (0, 0))) := alloc_new _ _
        obtain ⟨W6, hW6⟩ : ∃ W6, w6.alloc (.cells #[.int .i64 0, .int .i64 0, .bool false, .string { data := #[] }, .slice none 0 0, .slice none 0 0] 25) = W6 := ⟨_, rfl⟩
        have HBW6 : Hid (RowKit.Below W.heap.size W W6) := (by unfold Hid; rw [← hW6]; exact HBX.out)
        have HTF6 : Hid (TF W6 (fun k => (decide (k < w3.heap.size + 2) || ownV hv k) || ownB a k) (.agg #[.int .i64 u0, .int .i64 u1, .bool u2, .string u3, .slice r1 r2 r3, .slice s1' s2' s3']) (cleanT d)) := (by unfold Hid; rw [← hW6]; exact HTX.out)
        have HNB : Hid (W6.heap[w6.heap.size]? = some (.cells #[.int .i64 0, .int .i64 0, .bool false, .string { data := #[] }, .slice none 0 0, .slice none 0 0] 25 (0, 0))) := (by unfold Hid; rw [← hW6]; exact HNX.out)
        have hs6 := HBW6.out.size
        have HOWN6 : Hid (W6.ownsRow (w3.heap.size + 2) 25 6 (.slice a pre.length cap) pre.length ys) := owns_block HOWN.out (fun g hg => HBW6.out.block g (by subst hg; exact (World.ownsRow.lt HOWN.out g rfl).2))
        have HKV6 : Hid (∀ j t, TS[j]? = some t → SixAt ys (j * 6) (kvs j) ∧ TF W6 (fun k => (decide (k < w3.heap.size + 2) || ownV hv k) || ownB a k) (kvs j) t) := fun j t hj => ⟨(HKV.out j t hj).1, (HKV.out j t hj).2.on HBW6.out⟩
        have HNEWS := Hid.mk (World.news_of_block (cs := #[.int .i64 0, .int .i64 0, .bool false, .string { data := #[] }, .slice none 0 0, .slice none 0 0]) (t := 25) (fr := (0, 0)) HNB.out)
        rw [hW6] at hHeld ⊢
        have hs66 := hb6.size
        clear hb6 hto6 hbx hW6 HBX HTX HNX
        refine wpAnyM_one (i := 8) (by kernel_rfl) ?_
        refine ⟨_, rfl, fun K hK => ?_⟩
        refine step_append_lies _ (by rfl) _ _ _ (by rfl) (w3.heap.size + 2) 25 i0 _ 6 88 Try.underlying23 hi iz0 iz1 iz2 rfl (by decide) (.slice a pre.length cap) pre.length ys (by rfl) HOWN6.out ⟨w6.heap.size, 0, none⟩ 1 1 [.int .i64 0, .int .i64 0, .bool false, .string { data := #[] }, .slice none 0 0, .slice none 0 0] (by rfl) (by rfl) HNEWS.out (by simp [Value.oneCell']) (by omega) (by simp [maxLen]; omega) (by omega) (by omega) _ rfl ?_
        intro g7 c7 W7 hown7 hgr7 hat7 hlt7
        have hg7B := (World.ownsRow.lt hown7 g7 rfl).1
        have zj : (pre.length : Int) < (pre.length : Int) + 1 := by omega
        have hgD : g7 ≠ w.heap.size + 1 + 1 := by omega
        have hgD' : w.heap.size + 1 + 1 ≠ g7 := by omega
        have h67 : ∀ k, k < W.heap.size → ownB a k = false → W7.heap[k]? = W.heap[k]? := fun k hk ho => (hgr7.block k (by omega) (ownB_none ho)).trans (HBW6.out.block k hk)
        have hoD : ownB a (w.heap.size + 1 + 1) = false := by cases e : ownB a (w.heap.size + 1 + 1) with | false => rfl | true => exact absurd (HRB.out _ e).1 (by omega)
        have hokb : ownB a kb = false := by cases e : ownB a kb with | false => rfl | true => exact absurd (HRB.out _ e).1 (by omega)
        have hD7 := (h67 _ (heap_lt HB1D.out) hoD).trans HB1D.out
        obtain ⟨hf1, hf2, hf3⟩ := fin9 (W6 := W6) (W7 := W7) (D := w.heap.size + 1 + 1) (a := a) (cap := cap) (P := fun k => decide (k < w3.heap.size + 2) || ownV hv k) (s := .slice (some ⟨g7, 0, none⟩) (pre.length + 1) c7) hown7 hlpre hysl HKV6.out hgr7 hat7 HTF6.out hgD' (by simp; omega) hD7
        have HF1 := Hid.mk hf1
        have HF2 := Hid.mk hf2
        have HAT : Hid (ownB a g7 = true ∨ W.heap.size ≤ g7) := by
          rcases hat7 with h | h
          · left
            cases a with
            | none => cases h
            | some ad => simp [Value.ownBlock] at h; simp [ownB]; exact h
          · right; omega
        have HF3 : Hid (Kept (fun k => k = w.heap.size + 1 + 1 ∨ ownB a k = true) W (((((((W7.setCell ⟨g7, pre.length * 6, none⟩ (.int .i64 u0)).setCell ⟨g7, pre.length * 6 + 1, none⟩ (.int .i64 u1)).setCell ⟨g7, pre.length * 6 + 2, none⟩ (.bool u2)).setCell ⟨g7, pre.length * 6 + 3, none⟩ (.string u3)).setCell ⟨g7, pre.length * 6 + 4, none⟩ (.slice r1 r2 r3)).setCell ⟨g7, pre.length * 6 + 5, none⟩ (.slice s1' s2' s3')).setCell ⟨w.heap.size + 1 + 1, 0, none⟩ (.slice (some ⟨g7, 0, none⟩) (pre.length + 1) c7))) := ⟨hf3.os.trans (hgr7.os.trans HBW6.out.os), hf3.tape.trans (hgr7.tape.trans HBW6.out.tape), hf3.output.trans (hgr7.output.trans HBW6.out.output), Nat.le_trans (Nat.le_trans HBW6.out.size hgr7.size) hf3.size, fun k hk hp => by
          have ho : ownB a k = false := by cases e : ownB a k with | false => rfl | true => exact absurd (Or.inr e) hp
          refine (hf3.block k (by have := hgr7.size; omega) ?_).trans (h67 k hk ho)
          rintro (e | e)
          · exact hp (Or.inl e)
          · subst e
            rcases HAT.out with h | h
            · rw [ho] at h; cases h
            · omega⟩
        have HCE7 := Hid.mk (HCEL.out W7 (fun j hj => by
          rcases hj with rfl | rfl | rfl
          · exact h67 _ (heap_lt HB1D.out) hoD
          · exact h67 _ hlpb hpo
          · exact h67 _ (by omega) hokb))
        have hm : ∀ j u, j < 6 → ([.int .i64 0, .int .i64 0, .bool false, .string { data := #[] }, .slice none 0 0, .slice none 0 0] : List Value)[j]? = some u → W7.cell? ⟨g7, pre.length * 6 + j, none⟩ = some u := fun j u hj hu => by
          rw [World.ownsRow.cellAt hown7 _ (by omega), List.getElem?_append_right (by omega), hysl, Nat.add_sub_cancel_left]
          exact hu
        have m0 := hm 0 _ (by omega) rfl
        have m1 := hm 1 _ (by omega) rfl
        have m2 := hm 2 _ (by omega) rfl
        have m3 := hm 3 _ (by omega) rfl
        have m4 := hm 4 _ (by omega) rfl
        have m5 := hm 5 _ (by omega) rfl
        rw [Nat.add_zero] at m0
        have mf := World.ownsRow.frozenAt hown7
        obtain ⟨n0, nf, nl⟩ := cells1 hD7
        clear hown7 hgr7 hat7 hf1 hf2 hf3 h67 hm hD7
        refine hK.out _ _ (fun _ => ?_) (fun hHeld => ?_)
        · (try dsimp only)
          exact HCE7.out
        replace hHeld := hHeld rfl
        clear hK K
        clear hHeld
        refine wpAnyM_two (i := 9) (k := 11) (by kernel_rfl) ?_ ?_
        · (skip)
          refine ⟨_, rfl, fun K hK => ?_⟩
          go_simp
          refine hK.out _ _ (fun h => by cases h) (fun _ => ?_)
          clear hK K
          refine wpAnyM_two (i := 10) (k := 11) (by kernel_rfl) ?_ ?_
          · (skip)
            refine ⟨_, rfl, fun K hK => ?_⟩
            go_simp
            refine hK.out _ _ (fun h => by cases h) (fun _ => ?_)
            clear hK K
            refine wpAnyM_one (i := 11) (by kernel_rfl) ?_
            refine ⟨_, rfl, fun K hK => ?_⟩
            go_simp
            refine hK.out _ _ (fun h => by cases h) (fun _ => ?_)
            clear hK K
            refine wpAnyM_done (by kernel_rfl) ?_ _
            exact ⟨rfl, g7, c7, _, _, _, _, _, _, _, _, _, _, rfl, HF2.out, HF1.out, HAT.out, HF3.out⟩
          · (skip)
            refine ⟨_, rfl, fun K hK => ?_⟩
            go_simp
            refine hK.out _ _ (fun h => by cases h) (fun _ => ?_)
            clear hK K
            refine wpAnyM_one (i := 10) (by kernel_rfl) ?_
            refine ⟨_, rfl, fun K hK => ?_⟩
            go_simp
            refine hK.out _ _ (fun h => by cases h) (fun _ => ?_)
            clear hK K
            refine wpAnyM_done (by kernel_rfl) ?_ _
            rw [setCell_swap _ hgD' , setCell_swap _ hgD', setCell_swap _ hgD', setCell_swap _ hgD', setCell_swap _ hgD', setCell_swap _ hgD']
            exact ⟨rfl, g7, c7, _, _, _, _, _, _, _, _, _, _, rfl, HF2.out, HF1.out, HAT.out, HF3.out⟩
        · (skip)
          refine ⟨_, rfl, fun K hK => ?_⟩
          go_simp
          refine hK.out _ _ (fun h => by cases h) (fun _ => ?_)
          clear hK K
          refine wpAnyM_one (i := 9) (by kernel_rfl) ?_
          refine ⟨_, rfl, fun K hK => ?_⟩
          go_simp
          refine hK.out _ _ (fun h => by cases h) (fun _ => ?_)
          clear hK K
          refine wpAnyM_one (i := 10) (by kernel_rfl) ?_
          refine ⟨_, rfl, fun K hK => ?_⟩
          go_simp
          refine hK.out _ _ (fun h => by cases h) (fun _ => ?_)
          clear hK K
          refine wpAnyM_done (by kernel_rfl) ?_ _
          rw [setCell_swap _ hgD' , setCell_swap _ hgD', setCell_swap _ hgD', setCell_swap _ hgD', setCell_swap _ hgD', setCell_swap _ hgD']
          exact ⟨rfl, g7, c7, _, _, _, _, _, _, _, _, _, _, rfl, HF2.out, HF1.out, HAT.out, HF3.out⟩
      · (skip)
        refine ⟨_, rfl, fun K hK => ?_⟩
        go_simp
        refine hK.out _ _ (fun _ => ?_) (fun hHeld => ?_)
        · (try dsimp only)
          exact HCEL.out _ (fun j hj => Below.heap_alloc _ _ j (by show j < W.heap.size; rcases hj with rfl | rfl | rfl; exact heap_lt HB1D.out; exact hlpb; omega))
        replace hHeld := hHeld rfl
        clear hK K
        have hb5 : RowKit.Below W.heap.size W (W.drew.alloc (.cells #[.int .i64 0, .int .i64 0, .bool false, .string { data := #[] }, .slice none 0 0, .slice none 0 0] 25)) := (Below.refl _ W).drew.alloc (Nat.le_refl _) _
        refine wpAnyM_one (i := 5) (by kernel_rfl) ?_
        refine ⟨_, rfl, fun K hK => ?_⟩
        go_simp
        go_at_call 26
        refine (HCOPY.out (W.drew.alloc (.cells #[.int .i64 0, .int .i64 0, .bool false, .string { data := #[] }, .slice none 0 0, .slice none 0 0] 25)) (HBW.out.trans (hb5.mono HBW.out.size))).mono ?_
        rintro e w6 ⟨v6, rfl, hto6, hb6⟩
        obtain ⟨u0, u1, u2, u3, r1, r2, r3, s1', s2', s3', rfl⟩ := hto6.shapeE
        refine hK.out _ _ (fun _ => ?_) (fun hHeld => ?_)
        · (try dsimp only)
          exact HCEL.out _ (fun j hj => (hb6.block j (Nat.lt_of_lt_of_le (by rcases hj with rfl | rfl | rfl; exact heap_lt HB1D.out; exact hlpb; omega) hb5.size)).trans (hb5.block j (by rcases hj with rfl | rfl | rfl; exact heap_lt HB1D.out; exact hlpb; omega)))
        replace hHeld := hHeld rfl
        clear hK K
        have hbx : RowKit.Below W.heap.size W w6 := hb5.trans (hb6.mono hb5.size)
        have HBX := Hid.mk hbx
        have HTX : Hid (TF w6 (fun k => (decide (k < w3.heap.size + 2) || ownV hv k) || ownB a k) (.agg #[.int .i64 u0, .int .i64 u1, .bool u2, .string u3, .slice r1 r2 r3, .slice s1' s2' s3']) (cleanT d)) := hto6.tf _ (fun k h1 h2 => HNEW.out k (Nat.le_trans hb5.size h1))
        have HNX : Hid (w6.heap[W.heap.size]? = some (.cells #[.int .i64 0, .int .i64 0, .bool false, .string { data := #[] }, .slice none 0 0, .slice none 0 0] 25 (0, 0))) := (hb6.block _ (by simp)).trans (alloc_new W.drew _)
        obtain ⟨W6, hW6⟩ : ∃ W6, w6 = W6 := ⟨_, rfl⟩
        have HBW6 : Hid (RowKit.Below W.heap.size W W6) := (by unfold Hid; rw [← hW6]; exact HBX.out)
        have HTF6 : Hid (TF W6 (fun k => (decide (k < w3.heap.size + 2) || ownV hv k) || ownB a k) (.agg #[.int .i64 u0, .int .i64 u1, .bool u2, .string u3, .slice r1 r2 r3, .slice s1' s2' s3']) (cleanT d)) := (by unfold Hid; rw [← hW6]; exact HTX.out)
        have HNB : Hid (W6.heap[W.heap.size]? = some (.cells #[.int .i64 0, .int .i64 0, .bool false, .string { data := #[] }, .slice none 0 0, .slice none 0 0] 25 (0, 0))) := (by unfold Hid; rw [← hW6]; exact HNX.out)
        have hs6 := HBW6.out.size
        have HOWN6 : Hid (W6.ownsRow (w3.heap.size + 2) 25 6 (.slice a pre.length cap) pre.length ys) := owns_block HOWN.out (fun g hg => HBW6.out.block g (by subst hg; exact (World.ownsRow.lt HOWN.out g rfl).2))
        have HKV6 : Hid (∀ j t, TS[j]? = some t → SixAt ys (j * 6) (kvs j) ∧ TF W6 (fun k => (decide (k < w3.heap.size + 2) || ownV hv k) || ownB a k) (kvs j) t) := fun j t hj => ⟨(HKV.out j t hj).1, (HKV.out j t hj).2.on HBW6.out⟩
        have HNEWS := Hid.mk (World.news_of_block (cs := #[.int .i64 0, .int .i64 0, .bool false, .string { data := #[] }, .slice none 0 0, .slice none 0 0]) (t := 25) (fr := (0, 0)) HNB.out)
        rw [hW6] at hHeld ⊢
        clear hb6 hto6 hbx hW6 HBX HTX HNX hb5
        refine wpAnyM_one (i := 8) (by kernel_rfl) ?_
        refine ⟨_, rfl, fun K hK => ?_⟩
        refine step_append_lies _ (by rfl) _ _ _ (by rfl) (w3.heap.size + 2) 25 i0 _ 6 88 Try.underlying23 hi iz0 iz1 iz2 rfl (by decide) (.slice a pre.length cap) pre.length ys (by rfl) HOWN6.out ⟨W.heap.size, 0, none⟩ 1 1 [.int .i64 0, .int .i64 0, .bool false, .string { data := #[] }, .slice none 0 0, .slice none 0 0] (by rfl) (by rfl) HNEWS.out (by simp [Value.oneCell']) (by omega) (by simp [maxLen]; omega) (by omega) (by omega) _ rfl ?_
        intro g7 c7 W7 hown7 hgr7 hat7 hlt7
        have hg7B := (World.ownsRow.lt hown7 g7 rfl).1
        have zj : (pre.length : Int) < (pre.length : Int) + 1 := by omega
        have hgD : g7 ≠ w.heap.size + 1 + 1 := by omega
        have hgD' : w.heap.size + 1 + 1 ≠ g7 := by omega
        have h67 : ∀ k, k < W.heap.size → ownB a k = false → W7.heap[k]? = W.heap[k]? := fun k hk ho => (hgr7.block k (by omega) (ownB_none ho)).trans (HBW6.out.block k hk)
        have hoD : ownB a (w.heap.size + 1 + 1) = false := by cases e : ownB a (w.heap.size + 1 + 1) with | false => rfl | true => exact absurd (HRB.out _ e).1 (by omega)
        have hokb : ownB a kb = false := by cases e : ownB a kb with | false => rfl | true => exact absurd (HRB.out _ e).1 (by omega)
        have hD7 := (h67 _ (heap_lt HB1D.out) hoD).trans HB1D.out
        obtain ⟨hf1, hf2, hf3⟩ := fin9 (W6 := W6) (W7 := W7) (D := w.heap.size + 1 + 1) (a := a) (cap := cap) (P := fun k => decide (k < w3.heap.size + 2) || ownV hv k) (s := .slice (some ⟨g7, 0, none⟩) (pre.length + 1) c7) hown7 hlpre hysl HKV6.out hgr7 hat7 HTF6.out hgD' (by simp; omega) hD7
        have HF1 := Hid.mk hf1
        have HF2 := Hid.mk hf2
        have HAT : Hid (ownB a g7 = true ∨ W.heap.size ≤ g7) := by
          rcases hat7 with h | h
          · left
            cases a with
            | none => cases h
            | some ad => simp [Value.ownBlock] at h; simp [ownB]; exact h
          · right; omega
        have HF3 : Hid (Kept (fun k => k = w.heap.size + 1 + 1 ∨ ownB a k = true) W (((((((W7.setCell ⟨g7, pre.length * 6, none⟩ (.int .i64 u0)).setCell ⟨g7, pre.length * 6 + 1, none⟩ (.int .i64 u1)).setCell ⟨g7, pre.length * 6 + 2, none⟩ (.bool u2)).setCell ⟨g7, pre.length * 6 + 3, none⟩ (.string u3)).setCell ⟨g7, pre.length * 6 + 4, none⟩ (.slice r1 r2 r3)).setCell ⟨g7, pre.length * 6 + 5, none⟩ (.slice s1' s2' s3')).setCell ⟨w.heap.size + 1 + 1, 0, none⟩ (.slice (some ⟨g7, 0, none⟩) (pre.length + 1) c7))) := ⟨hf3.os.trans (hgr7.os.trans HBW6.out.os), hf3.tape.trans (hgr7.tape.trans HBW6.out.tape), hf3.output.trans (hgr7.output.trans HBW6.out.output), Nat.le_trans (Nat.le_trans HBW6.out.size hgr7.size) hf3.size, fun k hk hp => by
          have ho : ownB a k = false := by cases e : ownB a k with | false => rfl | true => exact absurd (Or.inr e) hp
          refine (hf3.block k (by have := hgr7.size; omega) ?_).trans (h67 k hk ho)
          rintro (e | e)
          · exact hp (Or.inl e)
          · subst e
            rcases HAT.out with h | h
            · rw [ho] at h; cases h
            · omega⟩
        have HCE7 := Hid.mk (HCEL.out W7 (fun j hj => by
          rcases hj with rfl | rfl | rfl
          · exact h67 _ (heap_lt HB1D.out) hoD
          · exact h67 _ hlpb hpo
          · exact h67 _ (by omega) hokb))
        have hm : ∀ j u, j < 6 → ([.int .i64 0, .int .i64 0, .bool false, .string { data := #[] }, .slice none 0 0, .slice none 0 0] : List Value)[j]? = some u → W7.cell? ⟨g7, pre.length * 6 + j, none⟩ = some u := fun j u hj hu => by
          rw [World.ownsRow.cellAt hown7 _ (by omega), List.getElem?_append_right (by omega), hysl, Nat.add_sub_cancel_left]
          exact hu
        have m0 := hm 0 _ (by omega) rfl
        have m1 := hm 1 _ (by omega) rfl
        have m2 := hm 2 _ (by omega) rfl
        have m3 := hm 3 _ (by omega) rfl
        have m4 := hm 4 _ (by omega) rfl
        have m5 := hm 5 _ (by omega) rfl
        rw [Nat.add_zero] at m0
        have mf := World.ownsRow.frozenAt hown7
        obtain ⟨n0, nf, nl⟩ := cells1 hD7
        clear hown7 hgr7 hat7 hf1 hf2 hf3 h67 hm hD7
        refine hK.out _ _ (fun _ => ?_) (fun hHeld => ?_)
        · (try dsimp only)
          exact HCE7.out
        replace hHeld := hHeld rfl
        clear hK K
        clear hHeld
        refine wpAnyM_two (i := 9) (k := 11) (by kernel_rfl) ?_ ?_
        · (skip)
          refine ⟨_, rfl, fun K hK => ?_⟩
          go_simp
          refine hK.out _ _ (fun h => by cases h) (fun _ => ?_)
          clear hK K
          refine wpAnyM_two (i := 10) (k := 11) (by kernel_rfl) ?_ ?_
          · (skip)
            refine ⟨_, rfl, fun K hK => ?_⟩
            go_simp
            refine hK.out _ _ (fun h => by cases h) (fun _ => ?_)
            clear hK K
            refine wpAnyM_one (i := 11) (by kernel_rfl) ?_
            refine ⟨_, rfl, fun K hK => ?_⟩
            go_simp
            refine hK.out _ _ (fun h => by cases h) (fun _ => ?_)
            clear hK K
            refine wpAnyM_done (by kernel_rfl) ?_ _
            exact ⟨rfl, g7, c7, _, _, _, _, _, _, _, _, _, _, rfl, HF2.out, HF1.out, HAT.out, HF3.out⟩
          · (skip)
            refine ⟨_, rfl, fun K hK => ?_⟩
            go_simp
            refine hK.out _ _ (fun h => by cases h) (fun _ => ?_)
            clear hK K
            refine wpAnyM_one (i := 10) (by kernel_rfl) ?_
            refine ⟨_, rfl, fun K hK => ?_⟩
            go_simp
            refine hK.out _ _ (fun h => by cases h) (fun _ => ?_)
            clear hK K
            refine wpAnyM_done (by kernel_rfl) ?_ _
            rw [setCell_swap _ hgD' , setCell_swap _ hgD', setCell_swap _ hgD', setCell_swap _ hgD', setCell_swap _ hgD', setCell_swap _ hgD']
            exact ⟨rfl, g7, c7, _, _, _, _, _, _, _, _, _, _, rfl, HF2.out, HF1.out, HAT.out, HF3.out⟩
        · (skip)
          refine ⟨_, rfl, fun K hK => ?_⟩
          go_simp
          refine hK.out _ _ (fun h => by cases h) (fun _ => ?_)
          clear hK K
          refine wpAnyM_one (i := 9) (by kernel_rfl) ?_
          refine ⟨_, rfl, fun K hK => ?_⟩
          go_simp
          refine hK.out _ _ (fun h => by cases h) (fun _ => ?_)
          clear hK K
          refine wpAnyM_one (i := 10) (by kernel_rfl) ?_
          refine ⟨_, rfl, fun K hK => ?_⟩
          go_simp
          refine hK.out _ _ (fun h => by cases h) (fun _ => ?_)
          clear hK K
          refine wpAnyM_done (by kernel_rfl) ?_ _
          rw [setCell_swap _ hgD' , setCell_swap _ hgD', setCell_swap _ hgD', setCell_swap _ hgD', setCell_swap _ hgD', setCell_swap _ hgD']
          exact ⟨rfl, g7, c7, _, _, _, _, _, _, _, _, _, _, rfl, HF2.out, HF1.out, HAT.out, HF3.out⟩
    · rintro e a' W' ⟨rfl, g, c, z17, z18, z19, z20, z21, z22, z23, z24, z25, z26, rfl, hD, hRow, hat, hK⟩
      have HD := Hid.mk hD
      have HROW' := Hid.mk hRow
      have HAT := Hid.mk hat
      have HK := Hid.mk hK
      have hs' := hK.size
      have st : ∀ {k : Nat} {o : Obj}, W.heap[k]? = some o → k ≠ w.heap.size + 1 + 1 → k < w3.heap.size + 2 → W'.heap[k]? = some o := fun {k o} hh h1 h2 => (HK.out.block k (heap_lt hh) (by
        rintro (h | h)
        · exact h1 h
        · have := HRB.out k h; omega)).trans hh
      have HPB' : Hid (W'.heap[pb]? = some (.cells #[.int .i64 5, .int .i64 xn, .bool xh, .string xm, .slice xa ls.length xc, .slice (some ⟨kb, ko, none⟩) 2 xk] 25 (0, 0))) := (HK.out.block pb hlpb (by
        rintro (h | h)
        · omega
        · rw [hpo] at h; cases h)).trans HPB.out
      have HNb := Hid.mk (st HB6.out (by omega) (by omega))
      have HPp := Hid.mk (st HB5.out (by omega) (by omega))
      have HHb := Hid.mk (st HB2H.out (by omega) (by omega))
      have HZb := Hid.mk (st HB7.out (by omega) (by omega))
      have HRb := Hid.mk (st HB9.out (by omega) (by omega))
      have HOB' : Hid (OB1 (w3.heap.size + 2) W' hv HS) := HB3O.out.move fun k hk => HK.out.block k (HVB.out k hk).2 (by
        rintro (h | h)
        · have := HVB.out k hk; omega
        · rw [own_apart HOWN.out HB3O.out hk] at h; cases h)
      have HBW' : Hid (RowKit.Below w.heap.size w W') := HBW.out.trans (HK.out.below HBW.out.size (fun k hk => by
        rcases hk with h | h
        · omega
        · have := HRB.out k h; omega))
      have HNOT := noting1_any (w3.heap.size + 2) (w.heap.size + 1 + 1 + 1) (w.heap.size + 1 + 1 + 1 + 1) HS hv 5 xn xh xm xa (some ⟨kb, ko, none⟩) ls.length xc 2 xk W' HPp.out HHb.out HOB'.out (by omega) (by omega) (by omega) (by omega)
      obtain ⟨n0, nf, nl⟩ := cells1 HNb.out
      obtain ⟨p0, p1, p2, p3, p4, p5, p6⟩ := cells6 HPB'.out
      clear hD hRow hat hK st
      gi_wp2_with fail
      refine ⟨trivial, ?_⟩
      refine (CallsIn.inRound l ((callsIn_wide (n := 3)).2 HNOT)).mono ?_
      rintro e w5 ⟨rfl, ⟨hv', hH5, hO5, hown5⟩, hK5⟩
      have hs5 := hK5.size
      have st5 : ∀ {k : Nat} {o : Obj}, W'.heap[k]? = some o → k ≠ w.heap.size + 1 + 1 + 1 → k < w3.heap.size + 2 → w5.heap[k]? = some o := fun {k o} hh h1 h2 => (hK5.block k (heap_lt hh) (by
        rintro (h | h)
        · exact h1 h
        · have := HVB.out k h; omega)).trans hh
      have HD5 := Hid.mk (st5 HD.out (by omega) (by omega))
      have HRb5 := Hid.mk (st5 HRb.out (by omega) (by omega))
      have HNb5 := Hid.mk (st5 HNb.out (by omega) (by omega))
      have HPp5 := Hid.mk (st5 HPp.out (by omega) (by omega))
      have HZb5 := Hid.mk (st5 HZb.out (by omega) (by omega))
      have HB5' : Hid (RowKit.Below w.heap.size w w5) := HBW'.out.trans (hK5.below HBW'.out.size (fun k hk => by
        rcases hk with h | h
        · omega
        · have := HVB.out k h; omega))
      have HH5 := Hid.mk hH5
      have HO5 := Hid.mk hO5
      have HOWN5 := Hid.mk hown5
      have HK5 := Hid.mk hK5
      clear hH5 hO5 hown5 hK5 st5 HNOT p0 p1 p2 p3 p4 p5 p6 n0 nf nl
      gi_wp2
      rw [← HS3.out]
      show RK2 (fun k => k = b ∨ k = w.heap.size + 1 + 1 + 1 + 1 + 1 + 1) w3.heap.size W w5 ∧ GI w ts #[.int .i64 f, .int .i64 n, .bool hd, .string nm, .slice la l1 lc, .slice ka k1 kc] w3.heap.size (pre.length + 1) w5
      obtain ⟨ys', kvs', ho', -⟩ := HROW'.out.go
      have hgB : ∀ k, ownB (some ⟨g, 0, none⟩) k = true → w3.heap.size + 2 ≤ k ∧ k < W'.heap.size := fun k hk => row_block ho' hk
      have hgs := gotL_succ hil hlen
      refine ⟨⟨by omega, fun k h1 h2 => ?_⟩, HB5'.out, HRb5.out, HZb5.out, ⟨some ⟨g, 0, none⟩, c, hv', ?_, HH5.out, ?_, ?_⟩, HPp5.out, HNb5.out⟩
      · refine (HK5.out.block k (by omega) ?_).trans (HK.out.block k h1 ?_)
        · rintro (h | h)
          · rcases h2 with (e | e) | e <;> omega
          · have := HVB.out k h; rcases h2 with (e | e) | e <;> omega
        · rintro (h | h)
          · rcases h2 with (e | e) | e <;> omega
          · have := HRB.out k h; rcases h2 with (e | e) | e <;> omega
      · exact HD5.out
      · rw [hgs, List.map_append, HHS.out]
        have hx : [ts[i]].map Tm.hid = [xh] := by rw [HX2.out]; rfl
        rw [hx]
        exact HO5.out
      · rw [hgs, List.map_append, HTS.out]
        have hx : [ts[i]].map (fun x => cleanT (argT x)) = [cleanT d] := by rw [List.map_singleton, HDD.out]
        rw [hx]
        refine HROW'.out.go2 (by omega) (fun k hk => ?_) (fun k h1 h2 h3 => ?_)
        · have hkB := hgB k hk
          refine HK5.out.block k hkB.2 ?_
          rintro (h | h)
          · omega
          · rw [own_apart ho' HOB'.out h] at hk; cases hk
        · rw [Bool.or_eq_false_iff, decide_eq_false_iff_not] at h2
          have hnv : hv.ownBlock ≠ some k := by have := h2.2; unfold ownV at this; simpa using this
          refine ⟨?_, HK5.out.block k h1 ?_⟩
          · rw [Bool.or_eq_false_iff, decide_eq_false_iff_not]
            refine ⟨h2.1, ?_⟩
            unfold ownV
            rw [decide_eq_false_iff_not]
            intro e
            rcases HOWN5.out with h | h
            · exact hnv (by rw [← h]; exact e)
            · have := h k e; omega
          · rintro (h | h)
            · omega
            · exact hnv h
  case done =>
    rintro DD W hDDE hI hK
    rw [backL_len] at hI
    obtain ⟨a, cap, hv, b1, b2, b3, b4⟩ := hI.rows
    rw [gotL_all] at b3 b4
    have HDE := Hid.mk hDDE
    have HKD := Hid.mk hK
    have HDX := Hid.mk b1
    have HHX := Hid.mk b2
    have HO := Hid.mk b3
    have HROWX := Hid.mk b4
    have HZX := Hid.mk hI.res
    have HBX := Hid.mk hI.below
    have HHD := Hid.mk hI.head
    clear hK b1 b2 b3 b4 hI hDDE
    have HCP : Hid (∀ W', RowKit.Below w.heap.size w W' → Calls Try.prog 26 #[.agg #[.int .i64 f, .int .i64 n, .bool hd, .string nm, .slice la l1 lc, .slice ka k1 kc]] W' fun e w' => ∃ v', e = .returned v' ∧ TO w' W'.heap.size w'.heap.size v' (cleanT t) ∧ RowKit.Below W'.heap.size W' w') := fun W' h => Copy_any t _ W' (HV.out.on h) HGT.out.1 HGT.out.2.1 HGT.out.2.2
    have hs3 := HS3.out
    have HCEL : Hid (∀ Wx : World, (∀ k, k < W.heap.size → k ≠ w.heap.size + 1 → Wx.heap[k]? = W.heap[k]?) → (fun w' => w'.cell? ⟨w.heap.size + 1 + 1, 0, none⟩ = some (.slice a ts.length cap) ∧ w'.cell? ⟨w.heap.size + 1 + 1 + 1, 0, none⟩ = some hv ∧ w'.cell? ⟨w.heap.size, 0, none⟩ = some (.int .i64 f) ∧ w'.cell? ⟨w.heap.size, 1, none⟩ = some (.int .i64 n) ∧ w'.cell? ⟨w.heap.size, 2, none⟩ = some (.bool hd) ∧ w'.cell? ⟨w.heap.size, 3, none⟩ = some (.string nm) ∧ w'.cell? ⟨w.heap.size, 4, none⟩ = some (.slice la l1 lc) ∧ w'.cell? ⟨w.heap.size, 5, none⟩ = some (.slice ka k1 kc)) Wx) := fun Wx h => by
      have hD := (h _ (heap_lt HDX.out) (by omega)).trans HDX.out
      have hH := (h _ (heap_lt HHX.out) (by omega)).trans HHX.out
      obtain ⟨c0, c1, c2, c3, c4, c5, -⟩ := cells6 ((h _ (heap_lt HHD.out) (by omega)).trans HHD.out)
      exact ⟨(cells1 hD).1, (cells1 hH).1, c0, c1, c2, c3, c4, c5⟩
    have mx := mixed
    have hsZ : w.heap.size + 1 < W.heap.size := heap_lt HZX.out
    gi_wp2_with fail
    refine wpIn_mono (Q := (fun e a' W' => e = .normal ∧ ∃ (DD : Nat) (z30 z31 z32 z33 : Value) (u0 u1 : Int) (u2 : Bool) (u3 : ByteArray) (r1 : Option Addr) (r2 r3 : Nat) (s1' : Option Addr) (s2' s3' : Nat), a' = { tmps := #[.agg #[.int .i64 f, .int .i64 n, .bool hd, .string nm, .slice la l1 lc, .slice ka k1 kc], .slice ad ts.length ca, .pointer (some ⟨w.heap.size, 0, none⟩), undef, .pointer (some ⟨w.heap.size + 1, 0, none⟩), .slice a ts.length cap, hv, .pointer (some ⟨w.heap.size + 1 + 1, 0, none⟩), .pointer (some ⟨w.heap.size + 1 + 1 + 1, 0, none⟩), .pointer (some ⟨w.heap.size + 1 + 1 + 1 + 1 + 1, 0, none⟩), undef, undef, .func (.func 40) #[] #[.pointer (some ⟨w.heap.size + 1 + 1 + 1 + 1, 0, none⟩)], .slice ad ts.length ca, .func (.func 55) #[] #[.pointer (some ⟨w.heap.size + 1 + 1 + 1 + 1 + 1 + 1, 0, none⟩)], undef, undef, undef, undef, undef, undef, undef, undef, undef, undef, undef, undef, undef, undef, undef, z30, z31, z32, z33], defers := [{ target := .collected DD, args := #[] }] } ∧ DD = w3.heap.size ∧ W'.heap[w.heap.size + 1]? = some (.cells #[.int .i64 u0, .int .i64 u1, .bool u2, .string u3, .slice r1 r2 r3, .slice s1' s2' s3'] 25 (0, 0)) ∧ TO W' W.heap.size W'.heap.size (.agg #[.int .i64 u0, .int .i64 u1, .bool u2, .string u3, .slice r1 r2 r3, .slice s1' s2' s3']) (cleanT t) ∧ Kept (fun k => k = w.heap.size + 1) W W')) ?_ ?_
    · refine wpIn_wide.2 ?_
      refine wp_region_late (S := fun w' => w'.cell? ⟨w.heap.size + 1 + 1, 0, none⟩ = some (.slice a ts.length cap) ∧ w'.cell? ⟨w.heap.size + 1 + 1 + 1, 0, none⟩ = some hv ∧ w'.cell? ⟨w.heap.size, 0, none⟩ = some (.int .i64 f) ∧ w'.cell? ⟨w.heap.size, 1, none⟩ = some (.int .i64 n) ∧ w'.cell? ⟨w.heap.size, 2, none⟩ = some (.bool hd) ∧ w'.cell? ⟨w.heap.size, 3, none⟩ = some (.string nm) ∧ w'.cell? ⟨w.heap.size, 4, none⟩ = some (.slice la l1 lc) ∧ w'.cell? ⟨w.heap.size, 5, none⟩ = some (.slice ka k1 kc)) (fun _ => false) mx ?_ (fun hHeld => ?_)
      · (try dsimp only)
        exact HCEL.out _ (fun j _ _ => rfl)
      refine wpAnyM_take (i := 0) (v := ?_) rfl (by kernel_rfl) (by kernel_rfl) (by kernel_rfl) (by kernel_rfl) (fun _ _ _ h => by cases h.1) (Or.inl ⟨by rfl, ?_⟩) (by assumption) ?_
      rotate_left
      · (intro w hSw; (try dsimp only at hSw); go_simp; (try with_reducible rfl))
      refine wpAnyM_take (i := 2) (v := ?_) rfl (by kernel_rfl) (by kernel_rfl) (by kernel_rfl) (by kernel_rfl) (fun _ _ _ h => by cases h.1) (Or.inl ⟨by rfl, ?_⟩) (by assumption) ?_
      rotate_left
      · (intro w hSw; (try dsimp only at hSw); go_simp; (try with_reducible rfl))
      refine wpAnyM_take (i := 3) (v := ?_) rfl (by kernel_rfl) (by kernel_rfl) (by kernel_rfl) (by kernel_rfl) (fun _ _ _ h => by cases h.1) (Or.inl ⟨by rfl, ?_⟩) (by assumption) ?_
      rotate_left
      · (intro w hSw; (try dsimp only at hSw); go_simp; (try with_reducible rfl))
      refine wpAnyM_one (i := 1) (by kernel_rfl) ?_
      refine ⟨_, rfl, fun K hK => ?_⟩
      go_simp
      go_at_call 26
      refine (HCP.out W.drew HBX.out.drew).mono ?_
      rintro e w6 ⟨v6, rfl, hto6, hb6⟩
      obtain ⟨u0, u1, u2, u3, r1, r2, r3, s1', s2', s3', rfl⟩ := hto6.shapeE
      have hZ6 := (hb6.block _ (heap_lt HZX.out)).trans HZX.out
      obtain ⟨o0, o1, o2, o3, o4, o5, o6⟩ := cells6 hZ6
      have of := frz hZ6
      have HK6 : Hid (Kept (fun k => k = w.heap.size + 1) W w6) := Kept.of_below ((Below.refl _ W).drew.trans hb6)
      have HTO6 := Hid.mk hto6
      have HZ6 := Hid.mk hZ6
      have hs6 := hb6.size
      clear hto6 hZ6
      refine hK.out _ _ (fun _ => ?_) (fun hHeld => ?_)
      · (try dsimp only)
        exact HCEL.out _ (fun k hk _ => hb6.block k hk)
      replace hHeld := hHeld rfl
      clear hK K
      refine wpAnyM_one (i := 4) (by kernel_rfl) ?_
      refine ⟨_, rfl, fun K hK => ?_⟩
      go_simp
      have HK9 : Hid (Kept (fun k => k = w.heap.size + 1) W (set6W w6 (w.heap.size + 1) (.int .i64 u0) (.int .i64 u1) (.bool u2) (.string u3) (.slice r1 r2 r3) (.slice s1' s2' s3'))) := HK6.out.trans (keep6 rfl)
      refine hK.out _ _ (fun _ => ?_) (fun hHeld => ?_)
      · (try dsimp only)
        exact HCEL.out _ (fun k hk hne => HK9.out.block k hk hne)
      replace hHeld := hHeld rfl
      clear hK K
      refine wpAnyM_one (i := 5) (by kernel_rfl) ?_
      refine ⟨_, rfl, fun K hK => ?_⟩
      go_simp
      refine hK.out _ _ (fun _ => ?_) (fun hHeld => ?_)
      · (try dsimp only)
        exact hHeld
      replace hHeld := hHeld rfl
      clear hK K
      refine wpAnyM_one (i := 6) (by kernel_rfl) ?_
      refine ⟨_, rfl, fun K hK => ?_⟩
      go_simp
      refine hK.out _ _ (fun _ => ?_) (fun hHeld => ?_)
      · (try dsimp only)
        exact hHeld
      replace hHeld := hHeld rfl
      clear hK K
      refine wpAnyM_done (by kernel_rfl) ?_ _
      exact ⟨rfl, _, _, _, _, _, u0, u1, u2, u3, r1, r2, r3, s1', s2', s3', rfl, HDE.out, set6 HZ6.out, (HTO6.out.on (fun k h1 h2 => (keep6 (P := fun k => k = w.heap.size + 1) rfl).block k h2 (by have : W.drew.heap.size = W.heap.size := rfl; omega))).mono (Nat.le_refl _) (by rw [size6]; exact Nat.le_refl _), HK9.out⟩
    · rintro e a' W' ⟨rfl, DD', z30, z31, z32, z33, u0, u1, u2, u3, r1, r2, r3, s1', s2', s3', rfl, hDD, hZ9, hto9, hK9⟩
      have HDD := Hid.mk hDD
      have HZ9 := Hid.mk hZ9
      have HTO9 := Hid.mk hto9
      have HK9 := Hid.mk hK9
      clear hDD hZ9 hto9 hK9
      gi_wp2
      have hK' : W'.heap[DD']? = some (.deferred (some [])) := by
        rw [HDD.out, ← HDE.out]
        exact (HK9.out.block _ (heap_lt HKD.out) (by have := HDE.out; omega)).trans HKD.out
      refine ⟨by simp, .inl ⟨_, _, rfl, run_takeDeferred hK', ?_⟩⟩
      have hDl := heap_lt hK'
      have hsz9 := HK9.out.size
      have hbp : RowKit.Below w.heap.size w (W'.putObj DD' (.deferred none)) := (HBX.out.trans (HK9.out.below HBX.out.size (fun k hk => by omega))).trans (belowK_b (w := w) (Nat.le_refl _) _ _ _ _ (by have := HDD.out; omega) hK' rfl rfl)
      have hZ' := (World.putObj_heap_other (w := W') (r := DD') (k := w.heap.size + 1) (o := .deferred none) (by have := HDD.out; omega)).trans HZ9.out
      obtain ⟨m0, m1, m2, m3, m4, m5, m6⟩ := cells6 hZ'
      have hpk : ∀ k, k ≠ w3.heap.size → (W'.putObj DD' (.deferred none)).heap[k]? = W'.heap[k]? := fun k hk => World.putObj_heap_other (by have := HDD.out; omega)
      have hps : (W'.putObj DD' (.deferred none)).heap.size = W'.heap.size := by simp [World.putObj]
      refine ⟨.tuple #[.agg #[.int .i64 u0, .int .i64 u1, .bool u2, .string u3, .slice r1 r2 r3, .slice s1' s2' s3'], .slice a ts.length cap, hv], by simp [results, Try.f30, go_sem, m0, m1, m2, m3, m4, m5], hbp, w3.heap.size + 2, (fun k => decide (k < w3.heap.size + 2) || ownV hv k), a, cap, hv, _, rfl, ?_, ?_, ⟨_, _, _, _, _, _, _, _, _, _, rfl⟩, ?_, by omega, fun k hk => by rw [Bool.or_eq_true, decide_eq_true_eq]; left; omega⟩
      · refine HROWX.out.go2 (by rw [hps]; exact hsz9) (fun k hk => ?_) (fun k h1 h2 h3 => ⟨h2, ?_⟩)
        · obtain ⟨ys, kvs, ho, -⟩ := HROWX.out.go
          have := row_block ho hk
          exact (hpk k (by omega)).trans (HK9.out.block k this.2 (by omega))
        · rw [Bool.or_eq_false_iff, decide_eq_false_iff_not] at h2
          exact (hpk k (by omega)).trans (HK9.out.block k h1 (by omega))
      · exact HO.out.move fun k hk => by
          have := HO.out.lt hk
          exact (hpk k (by omega)).trans (HK9.out.block k this.2 (by omega))
      · refine (HTO9.out.on (fun k h1 h2 => hpk k ?_)).tf _ (fun k h1 _ => ?_)
        · have := heap_lt HKD.out
          have := HDE.out
          omega
        · rw [decide_eq_false_iff_not]
          have := HBX.out.size
          omega
end Go.Proofs.Ythdcpodheimhaaa

/- tele.Spine, at right terms. -/
namespace Go.Proofs.Ythdcpodheimhaaa
open Go.RowKit Go.Sort Go.Shelf Go.Lib

def lenV : Value → Nat
  | .slice _ n _ => n
  | _ => 0

theorem apps_cells {wr : World} {xs : List (Value × Tm)} {a : Option Addr} {B cap : Nat} {P : Nat → Bool} (hrow : RowF wr B P a cap (xs.map fun x => x.2)) (hfm : ∀ x ∈ xs, ∃ n hd nm ls f d, x.2 = .mk 5 n hd nm ls [f, d]) (b0 : Nat) (hb0 : b0 < wr.heap.size) (ts : List Tm) (hts : ts = xs.map fun x => x.2) : ∃ (kvs : Nat → Value) (b : Nat), b < wr.heap.size ∧ (0 < ts.length → a = some ⟨b, 0, none⟩) ∧ ∀ i (hi : i < ts.length), CellsAt wr b (i * 6) (kvs i) ∧ ApV wr (kvs i) ts[i] := by
  rw [← hts] at hrow
  obtain ⟨ys, kvs, hown, hkv⟩ := hrow.go
  have hap : ∀ i (hi : i < ts.length), ApV wr (kvs i) ts[i] := fun i hi => by
    have htv := (hkv i _ (List.getElem?_eq_getElem hi)).2.tv
    have hm : ts[i] ∈ xs.map fun x => x.2 := by rw [← hts]; exact List.getElem_mem hi
    obtain ⟨y, hy, he⟩ := List.mem_map.1 hm
    obtain ⟨n, hd, nm, ls, f, d, hform⟩ := hfm y hy
    rw [← he, hform] at htv ⊢
    exact ApV.of htv
  rcases hown.2 with ⟨-, hn⟩ | ⟨g, cap', cur, hve, hg, hh, -⟩
  · exact ⟨kvs, b0, hb0, fun h => by omega, fun i hi => by omega⟩
  · simp only [Value.slice.injEq] at hve
    obtain ⟨rfl, -, -⟩ := hve
    exact ⟨kvs, g, heap_lt hh, fun _ => rfl, fun i hi => ⟨(hkv i _ (List.getElem?_eq_getElem hi)).1.cells hown (by omega), hap i hi⟩⟩

attribute [local go_sem] Oper.semAt_some

set_option maxRecDepth 100000 in
set_option maxHeartbeats 8000000 in
theorem Spine_walk (t t' : Tm) (v v' : Value) (xs : List (Value × Tm)) (w : World) (hv : TV w v t) (hsm : smT 1000000 t) (hc : checkT t = 0) (hrow : ApRow w xs v t v' t') : Calls Try.prog 14 #[v] w fun e w' => RowKit.Below w.heap.size w w' ∧ ∃ (B : Nat) (P : Nat → Bool) (a : Option Addr) (cap : Nat) (hv rv : Value), e = .returned (.tuple #[rv, .slice a xs.length cap, hv]) ∧ RowF w' B P a cap (xs.reverse.map fun x => cleanT (argT x.2)) ∧ OB1 B w' hv (xs.reverse.map fun x => x.2.hid) ∧ ShapeT rv ∧ TV w' rv (cleanT t') := by
  have HCH := fun (W : World) (h : RowKit.Below w.heap.size w W) => Check_any t v W (hv.on h) hsm
  rw [hc] at HCH
  obtain ⟨hs, hh, hf⟩ := check_ok hc
  have hfacts := hrow.facts ⟨hsm, hf⟩
  have HFX := Hid.mk hfacts
  have HZZ : Hid (sizeT t ≤ 20000 ∧ heightT t ≤ 500) := ⟨hs, hh⟩
  have hxl : xs.length ≤ 500 := Nat.le_trans hfacts.2.2.2.2 hh
  have HROW := Hid.mk hrow
  have HFM := Hid.mk hrow.forms
  obtain ⟨la, lc, ka, kc, rfl⟩ := hv.shape
  clear hv hrow hfacts hs hh hf hsm hc
  generalize t.form = f at *
  generalize t.n = n at *
  generalize t.hid = hd at *
  generalize t.name = nm at *
  generalize t.levels.length = l1 at *
  generalize t.kids.length = k1 at *
  obtain ⟨W0, hW0⟩ : ∃ W0, (w.alloc (.cells #[.int .i64 f, .int .i64 n, .bool hd, .string nm, .slice la l1 lc, .slice ka k1 kc] 25)).alloc (.cells #[.int .i64 0, .int .i64 0, .bool false, .string { data := #[] }, .slice none 0 0, .slice none 0 0] 25) = W0 := ⟨_, rfl⟩
  have hb0 : RowKit.Below w.heap.size w W0 := by rw [← hW0]; exact ((Below.refl _ _).alloc (Nat.le_refl _) _).alloc (by simp) _
  have HX0 : Hid (W0.heap[w.heap.size]? = some (.cells #[.int .i64 f, .int .i64 n, .bool hd, .string nm, .slice la l1 lc, .slice ka k1 kc] 25 (0, 0))) := by unfold Hid; rw [← hW0]; exact box_at
  have HR0 : Hid (W0.heap[w.heap.size + 1]? = some (.cells #[.int .i64 0, .int .i64 0, .bool false, .string { data := #[] }, .slice none 0 0, .slice none 0 0] 25 (0, 0))) := by unfold Hid; rw [← hW0]; exact box_at1
  have HC0 := HCH W0 hb0
  have HB0 := Hid.mk hb0
  have HW0 := Hid.mk hW0
  obtain ⟨x0, x1, x2, x3, x4, x5, x6⟩ := cells6 HX0.out
  clear hW0 hb0 HCH
  go_enter Try.func14, Try.ntmps14
  go_wp2_with fail
  rw [HW0.out]
  refine HC0.mono ?_
  rintro e w1 ⟨rfl, hb1⟩
  have HX1 := Hid.mk ((hb1.block _ (heap_lt HX0.out)).trans HX0.out)
  have HR1 := Hid.mk ((hb1.block _ (heap_lt HR0.out)).trans HR0.out)
  have HB1 : Hid (RowKit.Below w.heap.size w w1) := HB0.out.trans (hb1.mono HB0.out.size)
  have HS1 : Hid (w.heap.size + 1 < w1.heap.size) := heap_lt HR1.out
  clear HC0 hb1 x0 x1 x2 x3 x4 x5 x6
  go_wp2
  go_loopw [5] (fun (u5 : Value) (wr : World) => ∃ (pre rest : List (Value × Tm)) (tk : Tm) (f1 n1 : Int) (hd1 : Bool) (nm1 : ByteArray) (la1 ka1 : Option Addr) (m1 lc1 j1 kc1 : Nat) (a : Option Addr) (cap : Nat), u5 = .slice a pre.length cap ∧ pre ++ rest = xs ∧ ApRow w rest (.agg #[.int .i64 f1, .int .i64 n1, .bool hd1, .string nm1, .slice la1 m1 lc1, .slice ka1 j1 kc1]) tk v' t' ∧ wr.heap[w.heap.size]? = some (.cells #[.int .i64 f1, .int .i64 n1, .bool hd1, .string nm1, .slice la1 m1 lc1, .slice ka1 j1 kc1] 25 (0, 0)) ∧ RowF wr w1.heap.size (fun k => decide (w.heap.size ≤ k)) a cap (pre.map fun x => x.2) ∧ Kept (fun k => k = w.heap.size) w1 wr) (fun u _ => xs.length + 1 - lenV u)
  case atStart => exact ⟨[], xs, t, f, n, hd, nm, la, ka, l1, lc, k1, kc, none, 0, rfl, rfl, HROW.out, HX1.out, RowF.nil _ _ _, Kept.refl _ _⟩
  case round =>
    obtain ⟨pre, rest, tk, f1, n1, hd1, nm1, la1, ka1, m1, lc1, j1, kc1, a, cap, rfl, hpr, hrk, hX, hRow, hK⟩ := hrel
    have HPR := Hid.mk hpr
    have HRK := Hid.mk hrk
    have HX := Hid.mk hX
    have HROWR := Hid.mk hRow
    have HK := Hid.mk hK
    have hlp : pre.length + rest.length = xs.length := by rw [← hpr]; simp
    have hszr := hK.size
    have hs1 := HS1.out
    have HZ := Hid.mk ((hK.block _ (heap_lt HR1.out) (by omega)).trans HR1.out)
    have hold : ∀ k, k < w.heap.size → wr.heap[k]? = w.heap[k]? := fun k hk => (hK.block k (by omega) (by omega)).trans (HB1.out.block k hk)
    have HOLD := Hid.mk hold
    obtain ⟨x0, x1, x2, x3, x4, x5, x6⟩ := cells6 hX
    have xf := frz hX
    clear hpr hrk hX hRow hK hold
    cases rest with
    | cons x rest =>
      obtain ⟨kb, ko, ls, d, t1, q0, q1, q2, q3, e1, e2, e3, g1, g2, g3, hx2, rfl, rfl, rfl, hkb, hkc, htx, hc1, hr1⟩ := HRK.out.uncons
      have HCC : Hid (∀ Wx : World, Wx.heap[kb]? = w.heap[kb]? → Wx.cell? ⟨kb, ko, none⟩ = some (.int .i64 q0) ∧ Wx.cell? ⟨kb, ko + 1, none⟩ = some (.int .i64 q1) ∧ Wx.cell? ⟨kb, ko + 2, none⟩ = some (.bool q2) ∧ Wx.cell? ⟨kb, ko + 3, none⟩ = some (.string q3) ∧ Wx.cell? ⟨kb, ko + 4, none⟩ = some (.slice e1 e2 e3) ∧ Wx.cell? ⟨kb, ko + 5, none⟩ = some (.slice g1 g2 g3)) := fun Wx h => by
        obtain ⟨b0, b1, b2, b3, b4, b5, b6, b7, b8, b9, hbe, k0, k1', k2, k3, k4, k5⟩ := hc1.same h
        simp only [Value.agg.injEq, Array.mk.injEq, List.cons.injEq, Value.int.injEq, Value.bool.injEq, Value.string.injEq, Value.slice.injEq, true_and, and_true] at hbe
        obtain ⟨rfl, rfl, rfl, rfl, ⟨rfl, rfl, rfl⟩, rfl, rfl, rfl⟩ := hbe
        exact ⟨k0, k1', k2, k3, k4, k5⟩
      have hkbr : kb < wr.heap.size := by omega
      have HR1' := Hid.mk hr1
      have HTX := Hid.mk htx
      obtain ⟨ys, kvs, hown, hkv⟩ := HROWR.out.go
      have hlm : (pre.map fun x => x.2).length = pre.length := by rw [List.length_map]
      rw [hlm] at hown
      have HOWN := Hid.mk hown
      have HKV := Hid.mk hkv
      have hysl : ys.length = pre.length * 6 := hown.1
      have hpl : pre.length ≤ 500 := by omega
      have HRB : Hid (∀ k, ownB a k = true → w1.heap.size ≤ k ∧ k < wr.heap.size) := fun k hk => row_block HOWN.out hk
      clear hc1 hr1 htx hown hkv
      have HOWN1 : Hid ((wr.alloc (.cells #[.int .i64 5, .int .i64 n1, .bool hd1, .string nm1, .slice la1 m1 lc1, .slice (some ⟨kb, ko, none⟩) 2 kc1] 25)).ownsRow w1.heap.size 25 6 (.slice a pre.length cap) pre.length ys) := HOWN.out.alloc _
      have HNB := Hid.mk (World.news_of_block (cs := #[.int .i64 5, .int .i64 n1, .bool hd1, .string nm1, .slice la1 m1 lc1, .slice (some ⟨kb, ko, none⟩) 2 kc1]) (t := 25) (fr := (0, 0)) (alloc_new wr (.cells #[.int .i64 5, .int .i64 n1, .bool hd1, .string nm1, .slice la1 m1 lc1, .slice (some ⟨kb, ko, none⟩) 2 kc1] 25)))
      have hB1 : w1.heap.size ≤ (wr.alloc (.cells #[.int .i64 5, .int .i64 n1, .bool hd1, .string nm1, .slice la1 m1 lc1, .slice (some ⟨kb, ko, none⟩) 2 kc1] 25)).heap.size := by simp; omega
      have HF7 : Hid (∀ (g7 c7 : Nat) (W7 : World), W7.ownsRow w1.heap.size 25 6 (.slice (some ⟨g7, 0, none⟩) (pre.length + 1) c7) (pre.length + 1) (ys ++ [.int .i64 5, .int .i64 n1, .bool hd1, .string nm1, .slice la1 m1 lc1, .slice (some ⟨kb, ko, none⟩) 2 kc1]) → (wr.alloc (.cells #[.int .i64 5, .int .i64 n1, .bool hd1, .string nm1, .slice la1 m1 lc1, .slice (some ⟨kb, ko, none⟩) 2 kc1] 25)).grownBy W7 (Value.slice a pre.length cap).ownBlock → ((Value.slice a pre.length cap).ownBlock = some g7 ∨ g7 = (wr.alloc (.cells #[.int .i64 5, .int .i64 n1, .bool hd1, .string nm1, .slice la1 m1 lc1, .slice (some ⟨kb, ko, none⟩) 2 kc1] 25)).heap.size) →
          (∀ k, k < w1.heap.size → W7.heap[k]? = wr.heap[k]?) ∧ RowF W7 w1.heap.size (fun k => decide (w.heap.size ≤ k)) (some ⟨g7, 0, none⟩) c7 ((pre.map fun x => x.2) ++ [x.2]) ∧ wr.heap.size ≤ W7.heap.size ∧ W7.os = wr.os ∧ W7.tape = wr.tape ∧ W7.output = wr.output ∧ (∀ k, k < wr.heap.size → ownB a k = false → W7.heap[k]? = wr.heap[k]?)) := by
        intro g7 c7 W7 hown7 hgr7 hat7
        have hk7 : ∀ k, k < wr.heap.size → ownB a k = false → W7.heap[k]? = wr.heap[k]? := fun k hk ho => (hgr7.block k (by simp; omega) (ownB_none ho)).trans (Below.heap_alloc _ _ k hk)
        refine ⟨fun k hk => hk7 k (by omega) ?_, ?_, by have := hgr7.size; simp at this; omega, hgr7.os, hgr7.tape, hgr7.output, hk7⟩
        · cases e : ownB a k with
          | false => rfl
          | true => have := HRB.out k e; omega
        · refine RowF.snoc (w := wr.alloc (.cells #[.int .i64 5, .int .i64 n1, .bool hd1, .string nm1, .slice la1 m1 lc1, .slice (some ⟨kb, ko, none⟩) 2 kc1] 25)) (cap := cap) (fun j t hj => ⟨(HKV.out j t hj).1, (HKV.out j t hj).2.on ((Below.refl _ _).alloc (Nat.le_refl _) _)⟩) (by rw [hlm]; exact hysl) (by rw [hlm]; exact hown7) (by rw [hlm]; exact hgr7) (by rw [hlm]; exact hat7) ?_
          rw [hx2]
          refine TF.move (w := w) (P := fun k => decide (w.heap.size ≤ k)) (HTX.out.tf (fun k hk => by simp; omega)) (by simp; omega) (fun k hk hp => ⟨?_, (Below.heap_alloc _ _ k (by omega)).trans (HOLD.out k hk)⟩)
          rw [Bool.or_eq_false_iff]
          refine ⟨hp, ?_⟩
          cases e : ownB a k with
          | false => rfl
          | true => have := HRB.out k e; omega
      go_wp2_with (at_builtin; refine wpList_appF rfl _ _ rfl w1.heap.size (.slice a pre.length cap) pre.length ys [.int .i64 5, .int .i64 n1, .bool hd1, .string nm1, .slice la1 m1 lc1, .slice (some ⟨kb, ko, none⟩) 2 kc1] wr.heap.size 1 rfl rfl HOWN1.out rfl HNB.out (by simp [Value.oneCell']) (by omega) hB1 ?_; intro g7 c7 W7 hown7 hgr7 hat7; obtain ⟨hold7, hrow7, hs7, ho7, ht7, hu7, hk7⟩ := HF7.out g7 c7 W7 hown7 hgr7 hat7; have HOLD7 := Hid.mk hold7; have HROW7 := Hid.mk hrow7; have HOT7 : Hid (W7.os = wr.os ∧ W7.tape = wr.tape ∧ W7.output = wr.output) := ⟨ho7, ht7, hu7⟩; have HX7 := Hid.mk ((hold7 w.heap.size (by omega)).trans HX.out); clear x0 x1 x2 x3 x4 x5 x6 xf hown7 hgr7 hat7 hrow7 ho7 ht7 hu7; obtain ⟨x0, x1, x2, x3, x4, x5, x6⟩ := cells6 HX7.out; have xf := frz HX7.out; have hcc := HCC.out W7 ((hold7 kb (by omega)).trans (HOLD.out kb hkb)); obtain ⟨k0, k1', k2, k3, k4, k5⟩ := hcc; clear hold7 hk7)
      have hK9 : Kept (fun k => k = w.heap.size) W7 (set6W W7 w.heap.size (.int .i64 q0) (.int .i64 q1) (.bool q2) (.string q3) (.slice e1 e2 e3) (.slice g1 g2 g3)) := keep6 rfl
      have hs9 := hK9.size
      refine ⟨⟨pre ++ [x], rest, t1, q0, q1, q2, q3, e1, g1, e2, e3, g2, g3, some ⟨g7, 0, none⟩, c7, by rw [List.length_append, List.length_singleton], by rw [List.append_assoc]; exact HPR.out, HR1'.out, set6 HX7.out, ?_, ?_⟩, by simp only [List.length_cons] at hlp; simp only [lenV]; omega⟩
      · rw [List.map_append]
        obtain ⟨ys7, kvs7, ho7, -⟩ := HROW7.out.go
        refine HROW7.out.go2 hs9 (fun k hk => ?_) (fun k h1 h2 h3 => ⟨h2, ?_⟩)
        · have := row_block ho7 hk
          exact hK9.block k this.2 (by omega)
        · rw [decide_eq_false_iff_not] at h2
          exact hK9.block k h1 (by omega)
      · exact ⟨hK9.os.trans (HOT7.out.1.trans HK.out.os), hK9.tape.trans (HOT7.out.2.1.trans HK.out.tape), hK9.output.trans (HOT7.out.2.2.trans HK.out.output), Nat.le_trans (Nat.le_trans hszr hs7) hs9, fun k hk hne => (hK9.block k (by omega) hne).trans ((HOLD7.out k hk).trans (HK.out.block k hk hne))⟩
    | nil =>
      obtain ⟨hf5, htk, hv', htv⟩ := HRK.out.unnil
      have hpx : xs = pre := by rw [← HPR.out, List.append_nil]
      subst hpx
      have hBr : RowKit.Below w.heap.size w wr := HB1.out.trans (HK.out.below (by omega) (fun k hk => by omega))
      have hlm : (xs.map fun x => x.2).length = xs.length := by rw [List.length_map]
      obtain ⟨tl, htl⟩ : ∃ tl : List Tm, tl = xs.map (fun x => x.2) := ⟨_, rfl⟩
      have hlt : tl.length = xs.length := by rw [htl, hlm]
      obtain ⟨kvs, b, hb, had, hcells⟩ := apps_cells HROWR.out (fun x hx => (HFM.out x hx).2) _ (heap_lt HX.out) tl htl
      have hz := HZZ.out
      have HGA := gathered_walk t' _ tl kvs a b cap wr (htv.on hBr) ⟨HFX.out.2.1, by have := HFX.out.2.2.1; omega, by have := HFX.out.2.2.2.1; omega⟩ hb had hcells (fun x hx => by
        rw [htl] at hx
        obtain ⟨y, hy, rfl⟩ := List.mem_map.1 hx
        obtain ⟨h1, h2, h3⟩ := HFX.out.1 y hy
        exact ⟨h1, by omega, by omega⟩) (by omega)
      rw [hlt, htl, ← List.map_reverse, List.map_map, List.map_map] at HGA
      have HBR := Hid.mk hBr
      clear htv hv' hBr hcells had hb hz hlt htl
      go_wp2_with fail
      refine HGA.mono ?_
      rintro e w9 ⟨hb9, B, P, a9, cap9, hv9, rv9, rfl, hrow9, hob9, ⟨r0, r1, r2, r3, r4, r5, r6, r7, r8, r9, rfl⟩, htf9, hB9, hP9⟩
      have HZ9 := Hid.mk ((hb9.block _ (heap_lt HZ.out)).trans HZ.out)
      have HB9 := Hid.mk hb9
      have HROW9 := Hid.mk hrow9
      have HOB9 := Hid.mk hob9
      have HTF9 := Hid.mk htf9
      have HBP9 : Hid (wr.heap.size ≤ B ∧ ∀ k, k < wr.heap.size → P k = true) := ⟨hB9, hP9⟩
      have hlz := heap_lt HZ.out
      clear hb9 hrow9 hob9 htf9 hB9 hP9 HGA x0 x1 x2 x3 x4 x5 x6 xf
      obtain ⟨y0, y1, y2, y3, y4, y5, y6⟩ := cells6 HZ9.out
      have yf := frz HZ9.out
      go_wp2
      have hs9 := HB9.out.size
      have hK9 : Kept (fun k => k = w.heap.size + 1) w9 (set6W w9 (w.heap.size + 1) (.int .i64 r0) (.int .i64 r1) (.bool r2) (.string r3) (.slice r4 r5 r6) (.slice r7 r8 r9)) := keep6 rfl
      have hbZ : RowKit.Below w.heap.size w (set6W w9 (w.heap.size + 1) (.int .i64 r0) (.int .i64 r1) (.bool r2) (.string r3) (.slice r4 r5 r6) (.slice r7 r8 r9)) := (HBR.out.trans (HB9.out.mono HBR.out.size)).trans (hK9.below (by have := HBR.out.size; omega) (fun k hk => by omega))
      have hB9 := HBP9.out.1
      have hPz : ∀ k, P k = false → wr.heap.size ≤ k := fun k hk => by
        rcases Nat.lt_or_ge k wr.heap.size with h | h
        · rw [HBP9.out.2 k h] at hk; cases hk
        · exact h
      refine bodyPost_ret (v := .tuple #[.agg #[.int .i64 r0, .int .i64 r1, .bool r2, .string r3, .slice r4 r5 r6, .slice r7 r8 r9], .slice a9 xs.length cap9, hv9]) (by simp [results, Try.results14, go_sem, y0, y1, y2, y3, y4, y5]) rfl ⟨hbZ, B, P, a9, cap9, hv9, _, rfl, ?_, ?_, ⟨_, _, _, _, _, _, _, _, _, _, rfl⟩, ?_⟩
      · obtain ⟨ys, kvs, ho, -⟩ := HROW9.out.go
        refine HROW9.out.go2 hK9.size (fun k hk => ?_) (fun k h1 h2 h3 => ⟨h2, ?_⟩)
        · have := row_block ho hk
          exact hK9.block k this.2 (by omega)
        · have := hPz k h2
          exact hK9.block k h1 (by omega)
      · exact HOB9.out.move fun k hk => by
          have := HOB9.out.lt hk
          exact hK9.block k this.2 (by omega)
      · exact (HTF9.out.move (P := fun k => decide (k < wr.heap.size)) (Q := fun _ => false) hK9.size (fun k h1 h2 => ⟨rfl, hK9.block k h1 (by rw [decide_eq_false_iff_not] at h2; omega)⟩)).tv
end Go.Proofs.Ythdcpodheimhaaa

/- telamonlaw4.TeleSpine: the walk. -/
namespace Go.Proofs.Ythdcpodheimhaaa
open Go.RowKit Go.Sort Go.Shelf Go.Lib

theorem RowsS.tl {w wr : World} {B A1 A2 : Nat} {xs : List (Value × Tm)} {ys zs : List Value} (h : RowsS w wr B A1 A2 xs 0 ys zs) (hb : RowKit.Below w.heap.size w wr) : TL wr (some ⟨A1, 0, none⟩) (xs.reverse.map fun x => argT x.2) := by
  refine Or.inr ⟨A1, rfl, (World.ownsRow.lt h.own1 _ rfl).2, fun i t hi => ?_⟩
  rw [List.getElem?_map] at hi
  obtain ⟨x, hx, rfl⟩ := Option.map_eq_some_iff.1 hi
  obtain ⟨dv, h1, h2⟩ := h.val1 i x (Nat.zero_le _) hx
  have hlt := (List.getElem?_eq_some_iff.1 hx).1
  rw [List.length_reverse] at hlt
  exact (h1.cells h.own1 (by omega)).tc (h2.on hb)

theorem RowsS.bool {w wr : World} {B A1 A2 : Nat} {xs : List (Value × Tm)} {ys zs : List Value} (h : RowsS w wr B A1 A2 xs 0 ys zs) {k : Nat} (hk : k < (xs.reverse.map fun x => x.2.hid).length) : wr.cell? ⟨A2, k, none⟩ = some (.bool ((xs.reverse.map fun x => x.2.hid)[k]'hk)) := by
  have hk' : k < xs.reverse.length := by simpa using hk
  have hl : k < xs.length := by simpa using hk'
  rw [World.ownsRow.cellAt h.own2 k (by omega), h.val2 k _ (Nat.zero_le _) (List.getElem?_eq_getElem hk')]
  simp

theorem RowsS.on {w wr wz : World} {B A1 A2 k : Nat} {xs : List (Value × Tm)} {ys zs : List Value} (h : RowsS w wr B A1 A2 xs k ys zs) (hb : RowKit.Below wr.heap.size wr wz) : RowsS w wz B A1 A2 xs k ys zs := h.move (hb.block _ (World.ownsRow.lt h.own1 _ rfl).2) (hb.block _ (World.ownsRow.lt h.own2 _ rfl).2)

attribute [local go_sem] Oper.semAt_some

set_option maxRecDepth 100000 in
set_option maxHeartbeats 20000000 in
theorem spine_law (t : Tm) (v : Value) (w : World) (hok : okT t) (hv : TV w v t) : Calls Try.prog 4 #[v] w fun e w' => e = .returned (.bool true) ∧ RowKit.Below w.heap.size w w' := by
  have HBT := fun (W : World) (g : RowKit.Below w.heap.size w W) => Big_any t v W hok (hv.on g)
  have HVT := Hid.mk hv
  have mx := mixed
  obtain ⟨a0, a1, a2, a3, a4, a5, a6, a7, a8, a9, rfl⟩ := hv.shapeT
  clear hv hok
  obtain ⟨W0, hW0⟩ : ∃ W0, w.alloc (.cells #[.int .i64 a0, .int .i64 a1, .bool a2, .string a3, .slice a4 a5 a6, .slice a7 a8 a9] 25) = W0 := ⟨_, rfl⟩
  have HB0 : Hid (RowKit.Below w.heap.size w W0) := by unfold Hid; rw [← hW0]; exact (Below.refl _ _).alloc (Nat.le_refl _) _
  have HT0 : Hid (W0.heap[w.heap.size]? = some (.cells #[.int .i64 a0, .int .i64 a1, .bool a2, .string a3, .slice a4 a5 a6, .slice a7 a8 a9] 25 (0, 0))) := by unfold Hid; rw [← hW0]; exact alloc_new _ _
  have HW0 := Hid.mk hW0
  clear hW0
  have HAL := alive4_any W0
  go_enter Try.func4, Try.ntmps4
  go_wp2_with fail
  rw [HW0.out]
  refine HAL.mono ?_
  rintro e w1 ⟨rfl, hb1⟩
  have HB1 : Hid (RowKit.Below w.heap.size w w1) := HB0.out.trans (hb1.mono HB0.out.size)
  have HT1 := Hid.mk ((hb1.block _ (heap_lt HT0.out)).trans HT0.out)
  clear hb1 HAL
  obtain ⟨x0, x1, x2, x3, x4, x5, x6⟩ := cells6 HT1.out
  go_wp2_with fail
  refine (HBT _ HB1.out).mono ?_
  rintro e w2 ⟨⟨q2, rfl, hs2⟩, hg2⟩
  have HB2 : Hid (RowKit.Below w.heap.size w w2) := HB1.out.trans (hg2.below.mono HB1.out.size)
  have HT2 := Hid.mk ((hg2.below.block _ (heap_lt HT1.out)).trans HT1.out)
  clear hg2 x0 x1 x2 x3 x4 x5 x6
  cases q2
  rotate_left
  · go_wp2
    go_ret
    exact ⟨rfl, HB2.out⟩
  have hPt := hs2 rfl
  clear hs2 HBT
  have HCK := rCheck_any t _ w2 (HVT.out.on HB2.out) hPt
  obtain ⟨x0, x1, x2, x3, x4, x5, x6⟩ := cells6 HT2.out
  go_wp2_with fail
  refine HCK.mono ?_
  rintro e w3 ⟨rfl, hb3⟩
  have HB3 : Hid (RowKit.Below w.heap.size w w3) := HB2.out.trans (hb3.mono HB2.out.size)
  have HT3 := Hid.mk ((hb3.block _ (heap_lt HT2.out)).trans HT2.out)
  clear hb3 HCK x0 x1 x2 x3 x4 x5 x6
  by_cases hc : checkT t = 0
  rotate_left
  · have hc' : (checkT t != 0) = true := by simpa using hc
    go_wp2
    go_ret
    exact ⟨rfl, HB3.out⟩
  rw [hc]
  obtain ⟨xs, v', t', hrow⟩ := ap_row (heightT t) t _ (Nat.le_refl _) (HVT.out.on HB3.out) ⟨hPt, (check_ok hc).2.2⟩
  have hfacts := hrow.facts ⟨hPt, (check_ok hc).2.2⟩
  have hl5 : xs.length ≤ 500 := Nat.le_trans hfacts.2.2.2.2 (check_ok hc).2.1
  have HFX := Hid.mk hfacts
  have HROW := Hid.mk hrow
  have HSP := Spine_walk t t' _ v' xs w3 (HVT.out.on HB3.out) hPt hc hrow
  have HRS := fun (W : World) (h : RowKit.Below w3.heap.size w3 W) => rSpine_walk t t' _ v' xs W (HVT.out.on (HB3.out.trans (h.mono HB3.out.size))) (HROW.out.on h) hl5
  obtain ⟨x0, x1, x2, x3, x4, x5, x6⟩ := cells6 HT3.out
  clear hfacts hrow
  go_wp2_with fail
  refine HSP.mono ?_
  rintro e w4 ⟨hb4, B, P, a, cap, hv, rv, rfl, hrw, hob, ⟨r0, r1, r2, r3, r4, r5, r6, r7, r8, r9, rfl⟩, htr⟩
  obtain ⟨ha, hcap, rfl⟩ := hob.shape
  rw [List.length_map, List.length_reverse] at hob
  rw [List.length_map, List.length_reverse]
  have HTL4 := Hid.mk hrw.tl
  have HOB4 := Hid.mk hob
  have HTR4 := Hid.mk htr
  have HB4 : Hid (RowKit.Below w.heap.size w w4) := HB3.out.trans (hb4.mono HB3.out.size)
  obtain ⟨W5, hW5⟩ : ∃ W5, w4.alloc (.cells #[.int .i64 r0, .int .i64 r1, .bool r2, .string r3, .slice r4 r5 r6, .slice r7 r8 r9] 25) = W5 := ⟨_, rfl⟩
  have hb5 : RowKit.Below w4.heap.size w4 W5 := by rw [← hW5]; exact (Below.refl _ _).alloc (Nat.le_refl _) _
  have HB45 := Hid.mk hb5
  have HB35 : Hid (RowKit.Below w3.heap.size w3 W5) := hb4.trans (hb5.mono hb4.size)
  have HB5 : Hid (RowKit.Below w.heap.size w W5) := HB4.out.trans (hb5.mono HB4.out.size)
  have HT5 : Hid (W5.heap[w.heap.size]? = some (.cells #[.int .i64 a0, .int .i64 a1, .bool a2, .string a3, .slice a4 a5 a6, .slice a7 a8 a9] 25 (0, 0))) := (HB35.out.block _ (heap_lt HT3.out)).trans HT3.out
  have HZ5 : Hid (W5.heap[w4.heap.size]? = some (.cells #[.int .i64 r0, .int .i64 r1, .bool r2, .string r3, .slice r4 r5 r6, .slice r7 r8 r9] 25 (0, 0))) := by unfold Hid; rw [← hW5]; exact alloc_new _ _
  have HT4 := Hid.mk ((hb4.block _ (heap_lt HT3.out)).trans HT3.out)
  have HC5 := HRS W5 HB35.out
  have HW5 := Hid.mk hW5
  clear hb4 hb5 HSP HRS hrw hob htr hW5 x0 x1 x2 x3 x4 x5 x6
  obtain ⟨x0, x1, x2, x3, x4, x5, x6⟩ := cells6 HT4.out
  go_wp2_with fail
  rw [HW5.out]
  refine HC5.mono ?_
  rintro e w6 ⟨hb6, A1, A2, ys, zs, rv', rfl, hrs, ⟨s0, s1, s2, s3, s4, s5, s6, s7, s8, s9, rfl⟩, hty⟩
  have HB56 := Hid.mk hb6
  have HB6 : Hid (RowKit.Below w.heap.size w w6) := HB5.out.trans (hb6.mono HB5.out.size)
  have HB46 : Hid (RowKit.Below w4.heap.size w4 w6) := HB45.out.trans (hb6.mono HB45.out.size)
  have HZ6 := Hid.mk ((hb6.block _ (heap_lt HZ5.out)).trans HZ5.out)
  have HRS6 := Hid.mk hrs
  have HTY6 := Hid.mk hty
  have HTL6 := Hid.mk (hrs.tl hb6)
  clear hb6 HC5 x0 x1 x2 x3 x4 x5 x6 hrs hty
  go_wp2
  obtain ⟨W7, hW7⟩ : ∃ W7, w6.alloc (.cells #[.int .i64 s0, .int .i64 s1, .bool s2, .string s3, .slice s4 s5 s6, .slice s7 s8 s9] 25) = W7 := ⟨_, rfl⟩
  have hb7 : RowKit.Below w6.heap.size w6 W7 := by rw [← hW7]; exact (Below.refl _ _).alloc (Nat.le_refl _) _
  have HB67 := Hid.mk hb7
  have HB47 : Hid (RowKit.Below w4.heap.size w4 W7) := HB46.out.trans (hb7.mono HB46.out.size)
  have HB7 : Hid (RowKit.Below w.heap.size w W7) := HB6.out.trans (hb7.mono HB6.out.size)
  have HZ7 := Hid.mk ((hb7.block _ (heap_lt HZ6.out)).trans HZ6.out)
  have HY7 : Hid (W7.heap[w6.heap.size]? = some (.cells #[.int .i64 s0, .int .i64 s1, .bool s2, .string s3, .slice s4 s5 s6, .slice s7 s8 s9] 25 (0, 0))) := by unfold Hid; rw [← hW7]; exact alloc_new _ _
  rw [hW7]
  clear hW7 hb7
  go_loopw [11] (fun i wr => ∃ k : Nat, k ≤ xs.length ∧ i = .int .i64 k ∧ RowKit.Below W7.heap.size W7 wr) (fun i _ => xs.length - (intOf i).toNat)
  case atStart => exact ⟨0, Nat.zero_le _, rfl, Below.refl _ _⟩
  case round =>
    obtain ⟨k, hk, rfl, hb⟩ := hrel
    have HBR := Hid.mk hb
    have HB4R : Hid (RowKit.Below w4.heap.size w4 wr) := HB47.out.trans (hb.mono HB47.out.size)
    have HB6R : Hid (RowKit.Below w6.heap.size w6 wr) := HB67.out.trans (hb.mono HB67.out.size)
    clear hb
    by_cases hlt : k < xs.length
    · have hk' : k < (xs.reverse.map fun x => x.2.hid).length := by rw [List.length_map, List.length_reverse]; exact hlt
      have hob1 := (HOB4.out.on HB4R.out).at hk'
      have c2 := (HRS6.out.on HB6R.out).bool hk'
      have hl2 : A2 < wr.heap.size := (World.ownsRow.lt (HRS6.out.on HB6R.out).own2 _ rfl).2
      generalize (xs.reverse.map fun x => x.2.hid)[k]'hk' = bv at hob1 c2
      obtain ⟨g1, rfl, hl1, c1⟩ := hob1
      have zk : (k : Int) < (xs.length : Int) := by omega
      cases bv <;>
      · go_wp2
        go_quiet (fail)
        go_wp2
        exact ⟨⟨k + 1, hlt, by go_num, HBR.out.trans ((((Grew.refl _).drewN _).below).mono HBR.out.size)⟩, by simp [intOf]; omega⟩
    · have hkl : k = xs.length := by omega
      subst hkl
      have HSM : ∀ (W : World), RowKit.Below wr.heap.size wr W → Calls Try.prog 11 #[.slice a xs.length cap, .slice (some ⟨A1, 0, none⟩) xs.length xs.length] W fun e w' => e = .returned (.bool true) ∧ RowKit.Below W.heap.size W w' := fun W h => by
        have h4 : RowKit.Below w4.heap.size w4 W := HB4R.out.trans (h.mono HB4R.out.size)
        have h6 : RowKit.Below w6.heap.size w6 W := HB6R.out.trans (h.mono HB6R.out.size)
        have := same4_yes (xs.reverse.map fun x => argT x.2) a (some ⟨A1, 0, none⟩) cap xs.length W (by rw [List.map_map]; exact HTL4.out.on h4) (HTL6.out.on h6) (fun x hx => by
          obtain ⟨y, hy, rfl⟩ := List.mem_map.1 hx
          exact (HFX.out.1 y (List.mem_reverse.1 hy)).1) (by rw [List.length_map, List.length_reverse]; omega)
        rw [List.length_map, List.length_reverse] at this
        exact this
      have HCL : ∀ (W : World), RowKit.Below wr.heap.size wr W → Calls Try.prog 13 #[.agg #[.int .i64 s0, .int .i64 s1, .bool s2, .string s3, .slice s4 s5 s6, .slice s7 s8 s9]] W fun e w' => ∃ v', e = .returned v' ∧ ShapeT v' ∧ TF w' (fun k => decide (k < W.heap.size)) v' (cleanT t') ∧ RowKit.Below W.heap.size W w' := fun W h => Clean_any t' _ W HFX.out.2.1.1 HFX.out.2.1.2 (HTY6.out.on (HB6R.out.trans (h.mono HB6R.out.size)))
      have HEX : ∀ (W : World) (vb : Value), RowKit.Below wr.heap.size wr W → TV W vb (cleanT t') → Calls Try.prog 12 #[.agg #[.int .i64 r0, .int .i64 r1, .bool r2, .string r3, .slice r4 r5 r6, .slice r7 r8 r9], vb] W fun e w' => e = .returned (.bool true) ∧ RowKit.Below W.heap.size W w' := fun W vb h hb => Exactly_exa _ vb (cleanT t') W (smT_clean 1000000 _ HFX.out.2.1.1) (HTR4.out.on (HB4R.out.trans (h.mono HB4R.out.size))) hb
      obtain ⟨z0, z1, z2, z3, z4, z5, z6⟩ := cells6 ((HBR.out.block _ (heap_lt HZ7.out)).trans HZ7.out)
      obtain ⟨y0, y1, y2, y3, y4, y5, y6⟩ := cells6 ((HBR.out.block _ (heap_lt HY7.out)).trans HY7.out)
      have HCEL : Hid (∀ W : World, RowKit.Below wr.heap.size wr W → W.cell? ⟨w4.heap.size, 0, none⟩ = some (.int .i64 r0) ∧ W.cell? ⟨w4.heap.size, 1, none⟩ = some (.int .i64 r1) ∧ W.cell? ⟨w4.heap.size, 2, none⟩ = some (.bool r2) ∧ W.cell? ⟨w4.heap.size, 3, none⟩ = some (.string r3) ∧ W.cell? ⟨w4.heap.size, 4, none⟩ = some (.slice r4 r5 r6) ∧ W.cell? ⟨w4.heap.size, 5, none⟩ = some (.slice r7 r8 r9) ∧ W.cell? ⟨w6.heap.size, 0, none⟩ = some (.int .i64 s0) ∧ W.cell? ⟨w6.heap.size, 1, none⟩ = some (.int .i64 s1) ∧ W.cell? ⟨w6.heap.size, 2, none⟩ = some (.bool s2) ∧ W.cell? ⟨w6.heap.size, 3, none⟩ = some (.string s3) ∧ W.cell? ⟨w6.heap.size, 4, none⟩ = some (.slice s4 s5 s6) ∧ W.cell? ⟨w6.heap.size, 5, none⟩ = some (.slice s7 s8 s9)) := fun W h => ⟨(h.cell (p := ⟨w4.heap.size, 0, none⟩) z6).trans z0, (h.cell (p := ⟨w4.heap.size, 1, none⟩) z6).trans z1, (h.cell (p := ⟨w4.heap.size, 2, none⟩) z6).trans z2, (h.cell (p := ⟨w4.heap.size, 3, none⟩) z6).trans z3, (h.cell (p := ⟨w4.heap.size, 4, none⟩) z6).trans z4, (h.cell (p := ⟨w4.heap.size, 5, none⟩) z6).trans z5, (h.cell (p := ⟨w6.heap.size, 0, none⟩) y6).trans y0, (h.cell (p := ⟨w6.heap.size, 1, none⟩) y6).trans y1, (h.cell (p := ⟨w6.heap.size, 2, none⟩) y6).trans y2, (h.cell (p := ⟨w6.heap.size, 3, none⟩) y6).trans y3, (h.cell (p := ⟨w6.heap.size, 4, none⟩) y6).trans y4, (h.cell (p := ⟨w6.heap.size, 5, none⟩) y6).trans y5⟩
      clear z0 z1 z2 z3 z4 z5 y0 y1 y2 y3 y4 y5
      go_wp2_with fail
      refine wp_region_late (S := fun w' => w'.cell? ⟨w4.heap.size, 0, none⟩ = some (.int .i64 r0) ∧ w'.cell? ⟨w4.heap.size, 1, none⟩ = some (.int .i64 r1) ∧ w'.cell? ⟨w4.heap.size, 2, none⟩ = some (.bool r2) ∧ w'.cell? ⟨w4.heap.size, 3, none⟩ = some (.string r3) ∧ w'.cell? ⟨w4.heap.size, 4, none⟩ = some (.slice r4 r5 r6) ∧ w'.cell? ⟨w4.heap.size, 5, none⟩ = some (.slice r7 r8 r9) ∧ w'.cell? ⟨w6.heap.size, 0, none⟩ = some (.int .i64 s0) ∧ w'.cell? ⟨w6.heap.size, 1, none⟩ = some (.int .i64 s1) ∧ w'.cell? ⟨w6.heap.size, 2, none⟩ = some (.bool s2) ∧ w'.cell? ⟨w6.heap.size, 3, none⟩ = some (.string s3) ∧ w'.cell? ⟨w6.heap.size, 4, none⟩ = some (.slice s4 s5 s6) ∧ w'.cell? ⟨w6.heap.size, 5, none⟩ = some (.slice s7 s8 s9)) (fun _ => false) mx ?_ (fun hHeld => ?_)
      · (try dsimp only)
        exact HCEL.out _ (Below.refl _ _).drew
      refine wpAnyM_take (i := 0) (v := .agg #[.int .i64 r0, .int .i64 r1, .bool r2, .string r3, .slice r4 r5 r6, .slice r7 r8 r9]) rfl (by kernel_rfl) (by kernel_rfl) (by kernel_rfl) (by kernel_rfl) (fun _ _ _ h => h) (yl_load (t := 25) (x := .tmp 5) (p := .pointer (some ⟨w4.heap.size, 0, none⟩)) rfl (by kernel_rfl) (by kernel_rfl) (fun w hSw => by (try dsimp only at hSw); go_simp)) (by assumption) ?_
      refine wpAnyM_take (i := 1) (v := .agg #[.int .i64 s0, .int .i64 s1, .bool s2, .string s3, .slice s4 s5 s6, .slice s7 s8 s9]) rfl (by kernel_rfl) (by kernel_rfl) (by kernel_rfl) (by kernel_rfl) (fun _ _ _ h => h) (yl_load (t := 25) (x := .tmp 8) (p := .pointer (some ⟨w6.heap.size, 0, none⟩)) rfl (by kernel_rfl) (by kernel_rfl) (fun w hSw => by (try dsimp only at hSw); go_simp)) (by assumption) ?_
      refine wpAnyM_one (i := 2) (by kernel_rfl) ?_
      refine ⟨_, rfl, fun K hK => ?_⟩
      go_simp
      go_at_call 13
      refine (HCL _ (Below.refl _ _).drew).mono ?_
      rintro e wC ⟨vC, rfl, ⟨u0, u1, u2, u3, u4, u5, u6, u7, u8, u9, rfl⟩, htC, bC⟩
      have hbwC : RowKit.Below wr.heap.size wr wC := (Below.refl _ _).drew.trans bC
      have HEC := HEX wC _ hbwC htC.tv
      clear bC htC
      refine hK.out _ _ (fun _ => ?_) (fun hHeld' => ?_)
      · (try dsimp only)
        exact HCEL.out _ hbwC
      replace hHeld' := hHeld' rfl
      clear hHeld hK K
      have hHeld := hHeld'
      clear hHeld'
      refine wpAnyM_one (i := 3) (by kernel_rfl) ?_
      refine ⟨_, rfl, fun K hK => ?_⟩
      go_simp
      go_at_call 12
      refine (HEC).mono ?_
      rintro e wE ⟨rfl, bE⟩
      have hbwE : RowKit.Below wr.heap.size wr wE := hbwC.trans (bE.mono hbwC.size)
      clear bE
      refine hK.out _ _ (fun _ => ?_) (fun hHeld' => ?_)
      · (try dsimp only)
        exact HCEL.out _ hbwE
      replace hHeld' := hHeld' rfl
      clear hHeld hK K
      have hHeld := hHeld'
      clear hHeld'
      refine wpAnyM_take (i := 4) (v := .bool true) rfl (by kernel_rfl) (by kernel_rfl) (by kernel_rfl) (by kernel_rfl) (fun _ _ _ h => h) (Or.inl ⟨by kernel_rfl, fun _ _ => by kernel_rfl⟩) (by assumption) ?_
      refine wpAnyM_take (i := 5) (v := .slice a xs.length cap) rfl (by kernel_rfl) (by kernel_rfl) (by kernel_rfl) (by kernel_rfl) (fun _ _ _ h => h) (Or.inl ⟨by kernel_rfl, fun _ _ => by kernel_rfl⟩) (by assumption) ?_
      refine wpAnyM_take (i := 6) (v := .slice (some ⟨A1, 0, none⟩) xs.length xs.length) rfl (by kernel_rfl) (by kernel_rfl) (by kernel_rfl) (by kernel_rfl) (fun _ _ _ h => h) (Or.inl ⟨by kernel_rfl, fun _ _ => by kernel_rfl⟩) (by assumption) ?_
      refine wpAnyM_one (i := 7) (by kernel_rfl) ?_
      refine ⟨_, rfl, fun K hK => ?_⟩
      go_simp
      go_at_call 11
      refine (HSM _ hbwE).mono ?_
      rintro e wX ⟨rfl, bX⟩
      have hbwX : RowKit.Below wr.heap.size wr wX := hbwE.trans (bX.mono hbwE.size)
      clear bX
      refine hK.out _ _ (fun _ => ?_) (fun hHeld' => ?_)
      · (try dsimp only)
        exact HCEL.out _ hbwX
      replace hHeld' := hHeld' rfl
      clear hHeld hK K
      have hHeld := hHeld'
      clear hHeld'
      refine wpAnyM_take (i := 8) (v := .bool true) rfl (by kernel_rfl) (by kernel_rfl) (by kernel_rfl) (by kernel_rfl) (fun _ _ _ h => h) (Or.inl ⟨by kernel_rfl, fun _ _ => by kernel_rfl⟩) (by assumption) ?_
      refine wpAnyM_take (i := 9) (v := .bool true) rfl (by kernel_rfl) (by kernel_rfl) (by kernel_rfl) (by kernel_rfl) (fun _ _ _ h => h) (Or.inl ⟨by kernel_rfl, fun _ _ => by kernel_rfl⟩) (by assumption) ?_
      refine wpAnyM_done (by kernel_rfl) ?_ _
      rename_i hret
      refine hret _ _ (wp_ret ?_)
      change bodyPost Try.prog Try.f4 (fun e w' => e = .returned (.bool true) ∧ RowKit.Below w.heap.size w w') .ret _ _
      refine bodyPost_ret (v := .bool true) (by kernel_rfl) (by kernel_rfl) ?_
      exact ⟨rfl, HB7.out.trans ((HBR.out.trans (hbwX.mono HBR.out.size)).mono HB7.out.size)⟩
end Go.Proofs.Ythdcpodheimhaaa

/- Lists of terms and of Hids that are handed in; telamonlaw4.big. -/
namespace Go.Proofs.Ythdcpodheimhaaa
open Go.RowKit Go.Sort Go.ChangeShapes Go.WideShapes Go.ChangeAt

/-- a slice at address a, wherever it begins, holds the terms ts -/
def TK (w : World) (a : Option Addr) (ts : List Tm) : Prop := ts = [] ∨ ∃ b o, a = some ⟨b, o, none⟩ ∧ b < w.heap.size ∧ ∀ i t, ts[i]? = some t → TC w b (o + i * 6) t

theorem TK.on {w w' : World} {a : Option Addr} {ts : List Tm} (h : TK w a ts) (hb : RowKit.Below w.heap.size w w') : TK w' a ts := by
  rcases h with h | ⟨b, o, ha, hlt, h⟩
  · exact Or.inl h
  · exact Or.inr ⟨b, o, ha, Nat.lt_of_lt_of_le hlt hb.size, fun i t hi => (h i t hi).on hb⟩

/-- a slice at address a, wherever it begins, holds the Hids hs -/
def BK (w : World) (a : Option Addr) (hs : List Bool) : Prop := hs = [] ∨ ∃ b o, a = some ⟨b, o, none⟩ ∧ b < w.heap.size ∧ ∀ i h, hs[i]? = some h → w.cell? ⟨b, o + i, none⟩ = some (.bool h)

theorem BK.on {w w' : World} {a : Option Addr} {hs : List Bool} (h : BK w a hs) (hb : RowKit.Below w.heap.size w w') : BK w' a hs := by
  rcases h with h | ⟨b, o, ha, hlt, h⟩
  · exact Or.inl h
  · exact Or.inr ⟨b, o, ha, Nat.lt_of_lt_of_le hlt hb.size, fun i x hi => (hb.cell (p := ⟨b, o + i, none⟩) hlt).trans (h i x hi)⟩

set_option maxRecDepth 100000 in
theorem open_terms {H : Type} {enc : TypeId × Value → H} {W : World} {r : Reach} {b0 : Nat} {v : Value} {d : DataW H} {p : List MemPlace} (hv : Value.okWide Try.prog W r b0 23 v) (h : DataW.Trod enc Try.prog W 0 (fun _ => true) true 23 v d p) : ∃ (ts : List Tm) (a : Option Addr) (cap : Nat), v = .slice a ts.length cap ∧ TK W a ts ∧ ((∀ n ∈ d.weights Try.prog 23, n ≤ reachBytes) → ts.length ≤ 8796093022208 ∧ ∀ t ∈ ts, okT t) := by
  obtain ⟨a0, len0, cap0, rfl⟩ := okWide_slice Try.underlying23 hv
  obtain ⟨fuel, h5⟩ := h
  rcases DataW.trod_slice Try.underlying23 h5 with ⟨e5, -⟩ | ⟨a, len, cap, elems, rest, m2, hm2, e5, x5, -, hle, hcm, hel, hk, -, -⟩
  · simp [Value.cells] at e5
    obtain ⟨rfl, rfl, rfl⟩ := e5
    exact ⟨[], none, 0, rfl, Or.inl rfl, fun _ => ⟨Nat.zero_le _, fun t ht => by cases ht⟩⟩
  · simp [Value.cells] at e5
    obtain ⟨rfl, rfl, rfl⟩ := e5
    rw [cellsTerm] at hk
    have x5 := congrArg Prod.fst x5
    dsimp only at x5
    have hcell : ∀ i, i < len0 → ∃ cs' y, W.cells? 0 (a.add (i * 6)) 6 = some cs' ∧ DataW.trod enc Try.prog W 0 (fun _ => true) true m2 25 cs' = some y ∧ ((∀ n ∈ d.weights Try.prog 23, n ≤ reachBytes) → ∀ n ∈ y.1.weights Try.prog 25, n ≤ reachBytes) := fun i hi => by
      have := hk i hi
      rw [List.getElem?_eq_getElem (by omega)] at this
      obtain ⟨cs', h1, h2⟩ := Option.bind_eq_some_iff.1 this
      refine ⟨cs', _, h1, h2, fun hw n hn => hw n ?_⟩
      rw [x5, weights_slice Try.underlying23]
      exact List.mem_cons_of_mem _ (List.mem_append_left _ (weights_all (List.mem_map.2 ⟨_, List.getElem_mem _, rfl⟩) hn))
    have W6 : (∀ n ∈ d.weights Try.prog 23, n ≤ reachBytes) → len0 ≤ 8796093022208 := fun hw => by
      have h1 := hw ((elems.length + rest.length) * 88) (by rw [x5, weights_slice Try.underlying23, bytesTerm]; simp)
      unfold reachBytes at h1
      omega
    rcases Nat.eq_zero_or_pos len0 with hz | hp
    · subst hz
      exact ⟨[], some a, cap0, rfl, Or.inl rfl, fun _ => ⟨Nat.zero_le _, fun t ht => by cases ht⟩⟩
    · obtain ⟨b, off, spot⟩ := a
      obtain ⟨cs0, y0', q0, -, -⟩ := hcell 0 hp
      have hc0 := (World.cells?_some q0).2.2 0 (by decide)
      have hlen0 := (World.cells?_some q0).2.1
      have hsome : ∃ u, W.cell? ((⟨b, off, spot⟩ : Addr).add (0 * 6) |>.add 0) = some u := ⟨cs0[0]'(by omega), by rw [hc0]; simp [hlen0]⟩
      obtain ⟨u, hu⟩ := hsome
      have hspot : spot = none := by simpa [Addr.add] using World.cell?_spot hu
      subst hspot
      have hblt : b < W.heap.size := World.block_lt_of_cell? W _ (by simpa [Addr.add] using hu)
      have htm : ∀ i, ∃ t, i < len0 → TC W b (off + i * 6) t ∧ ((∀ n ∈ d.weights Try.prog 23, n ≤ reachBytes) → okT t) := fun i => by
        by_cases hi : i < len0
        · obtain ⟨cs', y, q1, q2, q3⟩ := hcell i hi
          rw [add_plain] at q1
          obtain ⟨t, ht, hok⟩ := open_cells m2 b (off + i * 6) cs' y q1 q2
          exact ⟨t, fun _ => ⟨ht, fun hw => hok (q3 hw)⟩⟩
        · exact ⟨.mk 0 0 false ByteArray.empty [] [], fun h => absurd h hi⟩
      obtain ⟨F, hF⟩ := Classical.skolem.1 htm
      refine ⟨(List.range len0).map F, some ⟨b, off, none⟩, cap0, by simp, Or.inr ⟨b, off, rfl, hblt, fun i t hi => ?_⟩, fun hw => ⟨by simpa using W6 hw, fun k hk' => ?_⟩⟩
      · rw [List.getElem?_map] at hi
        have hi' : i < len0 := by
          rcases Nat.lt_or_ge i len0 with h | h
          · exact h
          · rw [List.getElem?_eq_none (by simpa using h)] at hi; simp at hi
        rw [List.getElem?_range hi'] at hi
        simp only [Option.map_some, Option.some.injEq] at hi
        rw [← hi]
        exact (hF i hi').1
      · obtain ⟨i, hi, rfl⟩ := List.mem_map.1 hk'
        exact (hF i (by simpa using hi)).2 hw

set_option maxRecDepth 100000 in
theorem open_bools1 {H : Type} {enc : TypeId × Value → H} {W : World} {r : Reach} {b0 : Nat} {v : Value} {d : DataW H} {p : List MemPlace} (hv : Value.okWide Try.prog W r b0 28 v) (h : DataW.Trod enc Try.prog W 0 (fun _ => true) true 28 v d p) : ∃ (hs : List Bool) (a : Option Addr) (cap : Nat), v = .slice a hs.length cap ∧ BK W a hs := by
  obtain ⟨a0, len0, cap0, rfl⟩ := okWide_slice Try.underlying28 hv
  obtain ⟨fuel, hf⟩ := h
  rcases Go.Deep.open_bools Try.underlying28 Try.underlying4 cB hf with ⟨e1, -⟩ | ⟨a, len, cap, B, e1, -, hl, hm, -, hc⟩
  · simp [Value.cells] at e1
    obtain ⟨rfl, rfl, rfl⟩ := e1
    exact ⟨[], none, 0, rfl, Or.inl rfl⟩
  · simp [Value.cells] at e1
    obtain ⟨rfl, rfl, rfl⟩ := e1
    refine ⟨(List.range len0).map B, some a, cap0, by simp, ?_⟩
    rcases Nat.eq_zero_or_pos len0 with hz | hp
    · left; simp [hz]
    · right
      obtain ⟨b, off, spot⟩ := a
      have h0 := hc 0 (by omega)
      have hspot : spot = none := by simpa [Addr.add] using World.cell?_spot h0
      subst hspot
      refine ⟨b, off, rfl, World.block_lt_of_cell? W _ (by simpa [Addr.add] using h0), fun i x hi => ?_⟩
      rw [List.getElem?_map] at hi
      have hi' : i < len0 := by
        rcases Nat.lt_or_ge i len0 with h | h
        · exact h
        · rw [List.getElem?_eq_none (by simpa using h)] at hi; simp at hi
      rw [List.getElem?_range hi'] at hi
      simp only [Option.map_some, Option.some.injEq] at hi
      have := hc i (by omega)
      rw [add_plain] at this
      rw [this, hi]

set_option maxRecDepth 100000 in
set_option maxHeartbeats 4000000 in
theorem big4_any (ts : List Tm) (a : Option Addr) (cap : Nat) (w : World) (hL : TK w a ts) (hok : ∀ t ∈ ts, okT t) (hn : ts.length ≤ 8796093022208) : Calls Try.prog 16 #[.slice a ts.length cap] w fun e w' => (∃ q : Bool, e = .returned (.bool q) ∧ (q = false → ts.length ≤ 100 ∧ ∀ t ∈ ts, smT 1000000 t)) ∧ RowKit.Below w.heap.size w w' := by
  have HL := Hid.mk hL
  have HOK := Hid.mk hok
  clear hL hok
  go_enter Try.func16, Try.ntmps16
  by_cases h100 : (100 : Int) < (ts.length : Int)
  · go_wp2
    go_ret
    exact ⟨⟨true, rfl, fun h => by cases h⟩, Below.refl _ _⟩
  · go_wp2
    go_loopw [3] (fun i wr => ∃ k : Nat, k ≤ ts.length ∧ i = .int .i64 k ∧ RowKit.Below w.heap.size w wr ∧ ∀ t ∈ ts.take k, smT 1000000 t) (fun i _ => ts.length - (intOf i).toNat)
    case atStart => exact ⟨0, Nat.zero_le _, rfl, Below.refl _ _, fun t ht => by simp at ht⟩
    case round =>
      obtain ⟨k, hk, rfl, hb, hsm⟩ := hrel
      have HBR := Hid.mk hb
      have HSM := Hid.mk hsm
      clear hb hsm
      by_cases hlt : k < ts.length
      · have hbk : ts[k]? = some ts[k] := List.getElem?_eq_getElem hlt
        obtain ⟨bb, o, rfl, hla, hta⟩ := (HL.out.on HBR.out).resolve_left (by intro e; subst e; simp at hlt)
        obtain ⟨a0, a1, a2, a3, a4, a5, a6, a7, a8, a9, i0, i1, i2, i3, i4, i5, hva⟩ := (hta k ts[k] hbk).valE
        have HBG := Big_any ts[k] _ wr (HOK.out _ (List.getElem_mem hlt)) hva
        have zk : (k : Int) < (ts.length : Int) := by omega
        clear hva hta
        go_wp2_with fail
        refine HBG.mono ?_
        rintro e w2 ⟨⟨q2, rfl, hs2⟩, hg2⟩
        have HB2 : Hid (RowKit.Below w.heap.size w w2) := HBR.out.trans (hg2.below.mono HBR.out.size)
        have HS2 := Hid.mk hs2
        clear hg2 hs2 HBG
        cases q2
        · go_wp2
          refine ⟨⟨k + 1, hlt, by go_num, HB2.out, fun t ht => ?_⟩, by simp [intOf]; omega⟩
          rw [List.take_add_one, hbk] at ht
          rcases List.mem_append.1 ht with h | h
          · exact HSM.out t h
          · have : t = ts[k] := by simpa using h
            rw [this]
            exact HS2.out trivial
        · go_wp2
          go_ret
          exact ⟨⟨true, rfl, fun h => by cases h⟩, HB2.out⟩
      · go_wp2
        go_ret
        refine ⟨⟨false, rfl, fun _ => ⟨by omega, fun t ht => HSM.out t ?_⟩⟩, HBR.out⟩
        rw [List.take_of_length_le (by omega)]
        exact ht
end Go.Proofs.Ythdcpodheimhaaa

/- tele.told, tele.fault, tele.answered, whatever is handed in; telamonlaw4.same, wherever the lists begin. -/
namespace Go.Proofs.Ythdcpodheimhaaa
open Go.RowKit Go.Sort

theorem TL.tk {w : World} {a : Option Addr} {ts : List Tm} (h : TL w a ts) : TK w a ts := by
  rcases h with h | ⟨b, ha, hb, h⟩
  · exact Or.inl h
  · exact Or.inr ⟨b, 0, ha, hb, fun i t hi => by rw [Nat.zero_add]; exact h i t hi⟩

theorem told_any (a : Option Addr) (n cap : Nat) (w : World) : Calls Try.prog 35 #[.slice a n cap] w fun e w' => e = .returned (.func (.func 48) #[] #[.pointer (some ⟨w.heap.size, 0, none⟩)]) ∧ w' = w.alloc (.cells #[.slice a n cap] 28) := by
  go_enter Try.func35, Try.ntmps35
  go_wp2
  go_ret
  exact ⟨rfl, rfl⟩

theorem told1_any (b : Nat) (a : Option Addr) (cap : Nat) (hs : List Bool) (i : Nat) (w : World) (hb : w.heap[b]? = some (.cells #[.slice a hs.length cap] 28 (0, 0))) (hB : BK w a hs) : Calls Try.prog 48 #[.int .i64 i, .pointer (some ⟨b, 0, none⟩)] w fun e w' => e = .returned (.bool (hs.getD i false)) ∧ w' = w := by
  obtain ⟨c0, c1, c2⟩ := cells1 hb
  clear hb
  by_cases hlt : i < hs.length
  · obtain ⟨g, o, rfl, hg, hc⟩ := hB.resolve_left (by intro e; subst e; simp at hlt)
    have hx := hc i hs[i] (List.getElem?_eq_getElem hlt)
    have he : hs.getD i false = hs[i] := by simp [hlt]
    rw [he]
    generalize hs[i] = x at *
    have zi : (i : Int) < (hs.length : Int) := by omega
    clear he hc hB
    go_enter Try.func48, Try.ntmps48
    go_wp2
    go_ret
    exact ⟨rfl, rfl⟩
  · have he : hs.getD i false = false := by simp [List.getD, List.getElem?_eq_none (by omega : hs.length ≤ i)]
    rw [he]
    have zi : ¬ (i : Int) < (hs.length : Int) := by omega
    go_enter Try.func48, Try.ntmps48
    go_wp2
    go_ret
    exact ⟨rfl, rfl⟩

/-- what is wrong with a telescope and the term that it belongs to -/
def faultR : List Tm → Tm → Int
  | [], t => checkT t
  | x :: l, t => if checkT x = 0 then faultR l t else checkT x

theorem faultR_ok : ∀ (ts : List Tm) (t : Tm), faultR ts t = 0 → (∀ x ∈ ts, checkT x = 0) ∧ checkT t = 0
  | [], t, h => ⟨fun x hx => (by cases hx), h⟩
  | x :: l, t, h => by
    unfold faultR at h
    by_cases hx : checkT x = 0
    · rw [if_pos hx] at h
      obtain ⟨h1, h2⟩ := faultR_ok l t h
      exact ⟨fun y hy => by rcases List.mem_cons.1 hy with rfl | hy; exact hx; exact h1 y hy, h2⟩
    · rw [if_neg hx] at h; exact absurd h hx

set_option maxRecDepth 100000 in
set_option maxHeartbeats 2000000 in
theorem fault_any (ts : List Tm) (a : Option Addr) (cap : Nat) (t : Tm) (v : Value) (w : World) (hL : TK w a ts) (hv : TV w v t) (hn : ts.length ≤ 60) (hts : ∀ x ∈ ts, smT 1000000 x) (hsm : smT 1000000 t) : Calls Try.prog 32 #[.slice a ts.length cap, v] w fun e w' => e = .returned (.int .i64 (faultR ts t)) ∧ RowKit.Below w.heap.size w w' := by
  have HCT := fun (W : World) (h : RowKit.Below w.heap.size w W) => Check_any t v W (hv.on h) hsm
  obtain ⟨FR, hFR⟩ : ∃ FR, faultR ts t = FR := ⟨_, rfl⟩
  rw [hFR]
  have HFR := Hid.mk hFR
  clear hFR
  have HCT' : Hid (∀ k, k ≤ ts.length → ¬ k < ts.length → faultR (ts.drop k) t = checkT t) := fun k h1 h2 => by rw [List.drop_of_length_le (by omega)]; rfl
  obtain ⟨CT, hCT⟩ : ∃ CT, checkT t = CT := ⟨_, rfl⟩
  obtain ⟨FD, hFD⟩ : ∃ FD : Nat → Int, ∀ k, faultR (ts.drop k) t = FD k := ⟨fun k => faultR (ts.drop k) t, fun _ => rfl⟩
  have HFD : Hid (FD 0 = FR ∧ (∀ k (hk : k < ts.length), FD k = if checkT ts[k] = 0 then FD (k + 1) else checkT ts[k]) ∧ ∀ k, ¬ k < ts.length → FD k = CT) := ⟨by rw [← hFD, List.drop_zero]; exact HFR.out, fun k hk => by rw [← hFD, ← hFD, List.drop_eq_getElem_cons hk]; rfl, fun k hk => by rw [← hFD, List.drop_of_length_le (by omega), ← hCT]; rfl⟩
  rw [hCT] at HCT
  clear hFD HCT' hCT HFR
  obtain ⟨la, lc, ka, kc, rfl⟩ := hv.shape
  clear hv
  generalize t.form = f at *
  generalize t.n = n at *
  generalize t.hid = hd at *
  generalize t.name = nm at *
  generalize t.levels.length = l1 at *
  generalize t.kids.length = k1 at *
  have HTS := Hid.mk hts
  have HL := Hid.mk hL
  have h60 : ¬ (60 : Int) < (ts.length : Int) := by omega
  obtain ⟨W0, hW0⟩ : ∃ W0, w.alloc (.cells #[.int .i64 f, .int .i64 n, .bool hd, .string nm, .slice la l1 lc, .slice ka k1 kc] 25) = W0 := ⟨_, rfl⟩
  have hb0 : RowKit.Below w.heap.size w W0 := by rw [← hW0]; exact (Below.refl _ _).alloc (Nat.le_refl _) _
  have HX0 : Hid (W0.heap[w.heap.size]? = some (.cells #[.int .i64 f, .int .i64 n, .bool hd, .string nm, .slice la l1 lc, .slice ka k1 kc] 25 (0, 0))) := by unfold Hid; rw [← hW0]; exact alloc_new _ _
  have HB0 := Hid.mk hb0
  have HW0 := Hid.mk hW0
  clear hW0 hb0 hts hL
  go_enter Try.func32, Try.ntmps32
  go_wp2
  rw [HW0.out]
  go_loopw [13] (fun i wr => ∃ k : Nat, k ≤ ts.length ∧ i = .int .i64 k ∧ RowKit.Below W0.heap.size W0 wr ∧ FD k = FR) (fun i _ => ts.length - (intOf i).toNat)
  case atStart => exact ⟨0, Nat.zero_le _, rfl, Below.refl _ _, HFD.out.1⟩
  case round =>
    obtain ⟨k, hk, rfl, hb, hfd⟩ := hrel
    have HF := Hid.mk hfd
    clear hfd
    have HBR := Hid.mk hb
    have HBW : Hid (RowKit.Below w.heap.size w wr) := HB0.out.trans (hb.mono HB0.out.size)
    clear hb
    by_cases hlt : k < ts.length
    · have hbk : ts[k]? = some ts[k] := List.getElem?_eq_getElem hlt
      have hGk := HTS.out ts[k] (List.getElem_mem hlt)
      obtain ⟨ba, oo, rfl, hla, hta⟩ := (HL.out.on HBW.out).resolve_left (by intro e; subst e; simp at hlt)
      obtain ⟨a0, a1, a2, a3, a4, a5, a6, a7, a8, a9, i0, i1, i2, i3, i4, i5, hva⟩ := (hta k ts[k] hbk).valE
      obtain ⟨W1, hW1⟩ : ∃ W1, wr.alloc (.cells #[.int .i64 a0, .int .i64 a1, .bool a2, .string a3, .slice a4 a5 a6, .slice a7 a8 a9] 25) = W1 := ⟨_, rfl⟩
      have hb1 : RowKit.Below wr.heap.size wr W1 := by rw [← hW1]; exact (Below.refl _ _).alloc (Nat.le_refl _) _
      have HX1 : Hid (W1.heap[wr.heap.size]? = some (.cells #[.int .i64 a0, .int .i64 a1, .bool a2, .string a3, .slice a4 a5 a6, .slice a7 a8 a9] 25 (0, 0))) := by unfold Hid; rw [← hW1]; exact alloc_new _ _
      have HC := Check_any ts[k] _ W1 (hva.on hb1) hGk
      have hstep := HFD.out.2.1 k hlt
      rw [HF.out] at hstep
      obtain ⟨CK, hCK⟩ : ∃ CK, checkT ts[k] = CK := ⟨_, rfl⟩
      rw [hCK] at HC hstep
      have HST := Hid.mk hstep
      clear hstep hCK
      have HB1 : Hid (RowKit.Below W0.heap.size W0 W1) := HBR.out.trans (hb1.mono HBR.out.size)
      have HW1 := Hid.mk hW1
      have zk : (k : Int) < (ts.length : Int) := by omega
      obtain ⟨x0, x1, x2, x3, x4, x5, x6⟩ := cells6 HX1.out
      clear hva hta hbk hGk hb1 hW1
      go_wp2_with (rw [HW1.out])
      refine HC.mono ?_
      rintro e w2 ⟨rfl, hb2⟩
      have HB2 : Hid (RowKit.Below W0.heap.size W0 w2) := HB1.out.trans (hb2.mono HB1.out.size)
      clear hb2 HC
      by_cases hck : CK = 0
      · subst hck
        go_wp2
        exact ⟨⟨k + 1, hlt, by go_num, HB2.out, by have := HST.out; simpa using this.symm⟩, by simp [intOf]; omega⟩
      · have hck' : (CK != 0) = true := by simpa using hck
        go_wp2
        go_ret
        exact ⟨by have := HST.out; rw [if_neg hck] at this; simp [this], HB0.out.trans (HB2.out.mono HB0.out.size)⟩
    · have HC := HCT wr HBW.out
      have HX2 := Hid.mk ((HBR.out.block _ (heap_lt HX0.out)).trans HX0.out)
      obtain ⟨x0, x1, x2, x3, x4, x5, x6⟩ := cells6 HX2.out
      go_wp2_with fail
      refine HC.mono ?_
      rintro e w2 ⟨rfl, hb2⟩
      have HB2 : Hid (RowKit.Below w.heap.size w w2) := HBW.out.trans (hb2.mono HBW.out.size)
      clear hb2 HC
      go_wp2
      go_ret
      exact ⟨by simp [← HF.out, HFD.out.2.2 k hlt], HB2.out⟩

set_option maxRecDepth 100000 in
set_option maxHeartbeats 4000000 in
theorem same4K_yes (bs : List Tm) (aa ab : Option Addr) (ca cb : Nat) (w : World) (hA : TK w aa (bs.map cleanT)) (hB : TK w ab bs) (hG : ∀ t ∈ bs, GT t) (hn : bs.length ≤ 1000000) : Calls Try.prog 11 #[.slice aa bs.length ca, .slice ab bs.length cb] w fun e w' => e = .returned (.bool true) ∧ RowKit.Below w.heap.size w w' := by
  have HA := Hid.mk hA
  have HB := Hid.mk hB
  have HG := Hid.mk hG
  have mx := mixed
  clear hA hB hG
  go_enter Try.func11, Try.ntmps11
  go_wp2
  go_loopw [5] (fun i wr => ∃ k : Nat, k ≤ bs.length ∧ i = .int .i64 k ∧ RowKit.Below w.heap.size w wr) (fun i _ => bs.length - (intOf i).toNat)
  case atStart => exact ⟨0, Nat.zero_le _, rfl, Below.refl _ _⟩
  case round =>
    obtain ⟨k, hk, rfl, hb⟩ := hrel
    have HBR := Hid.mk hb
    clear hb
    by_cases hlt : k < bs.length
    · have hbk : bs[k]? = some bs[k] := List.getElem?_eq_getElem hlt
      have hGk := HG.out bs[k] (List.getElem_mem hlt)
      obtain ⟨ba, oa, rfl, hla, hta⟩ := (HA.out.on HBR.out).resolve_left (by intro e; have := congrArg List.length e; simp at this; subst this; simp at hlt)
      obtain ⟨bb, ob, rfl, hlb, htb⟩ := (HB.out.on HBR.out).resolve_left (by intro e; subst e; simp at hlt)
      obtain ⟨a0, a1, a2, a3, a4, a5, a6, a7, a8, a9, i0, i1, i2, i3, i4, i5, hva⟩ := (hta k (cleanT bs[k]) (by rw [List.getElem?_map, hbk]; rfl)).valE
      obtain ⟨c0, c1, c2, c3, c4, c5, c6, c7, c8, c9, j0, j1, j2, j3, j4, j5, hvb⟩ := (htb k bs[k] hbk).valE
      have HTA := Hid.mk hva
      have HSM := Hid.mk hGk.1
      have HCL := Clean_any bs[k] _ wr.drew hGk.1 hGk.2 (hvb.on (Below.refl _ wr).drew)
      have zk : (k : Int) < (bs.length : Int) := by omega
      have HCEL : Hid (∀ Wx : World, (∀ k, k < wr.heap.size → Wx.heap[k]? = wr.heap[k]?) → (fun w' => w'.cell? ⟨ba, oa + k * 6, none⟩ = some (.int .i64 a0) ∧ w'.cell? ⟨ba, oa + k * 6 + 1, none⟩ = some (.int .i64 a1) ∧ w'.cell? ⟨ba, oa + k * 6 + 2, none⟩ = some (.bool a2) ∧ w'.cell? ⟨ba, oa + k * 6 + 3, none⟩ = some (.string a3) ∧ w'.cell? ⟨ba, oa + k * 6 + 4, none⟩ = some (.slice a4 a5 a6) ∧ w'.cell? ⟨ba, oa + k * 6 + 5, none⟩ = some (.slice a7 a8 a9) ∧ w'.cell? ⟨bb, ob + k * 6, none⟩ = some (.int .i64 c0) ∧ w'.cell? ⟨bb, ob + k * 6 + 1, none⟩ = some (.int .i64 c1) ∧ w'.cell? ⟨bb, ob + k * 6 + 2, none⟩ = some (.bool c2) ∧ w'.cell? ⟨bb, ob + k * 6 + 3, none⟩ = some (.string c3) ∧ w'.cell? ⟨bb, ob + k * 6 + 4, none⟩ = some (.slice c4 c5 c6) ∧ w'.cell? ⟨bb, ob + k * 6 + 5, none⟩ = some (.slice c7 c8 c9)) Wx) := fun Wx h => by
        have h1 := h ba hla
        have h2 := h bb hlb
        exact ⟨(World.cell?_of_block (a := ⟨ba, oa + k * 6, none⟩) h1).trans i0, (World.cell?_of_block (a := ⟨ba, oa + k * 6 + 1, none⟩) h1).trans i1, (World.cell?_of_block (a := ⟨ba, oa + k * 6 + 2, none⟩) h1).trans i2, (World.cell?_of_block (a := ⟨ba, oa + k * 6 + 3, none⟩) h1).trans i3, (World.cell?_of_block (a := ⟨ba, oa + k * 6 + 4, none⟩) h1).trans i4, (World.cell?_of_block (a := ⟨ba, oa + k * 6 + 5, none⟩) h1).trans i5, (World.cell?_of_block (a := ⟨bb, ob + k * 6, none⟩) h2).trans j0, (World.cell?_of_block (a := ⟨bb, ob + k * 6 + 1, none⟩) h2).trans j1, (World.cell?_of_block (a := ⟨bb, ob + k * 6 + 2, none⟩) h2).trans j2, (World.cell?_of_block (a := ⟨bb, ob + k * 6 + 3, none⟩) h2).trans j3, (World.cell?_of_block (a := ⟨bb, ob + k * 6 + 4, none⟩) h2).trans j4, (World.cell?_of_block (a := ⟨bb, ob + k * 6 + 5, none⟩) h2).trans j5⟩
      clear hva hvb hta htb hbk hGk i0 i1 i2 i3 i4 i5 j0 j1 j2 j3 j4 j5
      go_wp2_with fail
      refine wp_region_late (S := fun w' => w'.cell? ⟨ba, oa + k * 6, none⟩ = some (.int .i64 a0) ∧ w'.cell? ⟨ba, oa + k * 6 + 1, none⟩ = some (.int .i64 a1) ∧ w'.cell? ⟨ba, oa + k * 6 + 2, none⟩ = some (.bool a2) ∧ w'.cell? ⟨ba, oa + k * 6 + 3, none⟩ = some (.string a3) ∧ w'.cell? ⟨ba, oa + k * 6 + 4, none⟩ = some (.slice a4 a5 a6) ∧ w'.cell? ⟨ba, oa + k * 6 + 5, none⟩ = some (.slice a7 a8 a9) ∧ w'.cell? ⟨bb, ob + k * 6, none⟩ = some (.int .i64 c0) ∧ w'.cell? ⟨bb, ob + k * 6 + 1, none⟩ = some (.int .i64 c1) ∧ w'.cell? ⟨bb, ob + k * 6 + 2, none⟩ = some (.bool c2) ∧ w'.cell? ⟨bb, ob + k * 6 + 3, none⟩ = some (.string c3) ∧ w'.cell? ⟨bb, ob + k * 6 + 4, none⟩ = some (.slice c4 c5 c6) ∧ w'.cell? ⟨bb, ob + k * 6 + 5, none⟩ = some (.slice c7 c8 c9)) (fun _ => false) mx ?_ (fun hHeld => ?_)
      · (try dsimp only)
        exact HCEL.out _ (fun j _ => rfl)
      refine wpAnyM_take (i := 0) (v := ?_) rfl (by kernel_rfl) (by kernel_rfl) (by kernel_rfl) (by kernel_rfl) (fun _ _ _ h => h) (Or.inl ⟨by rfl, ?_⟩) (by assumption) ?_
      rotate_left
      · (intro w hSw; (try dsimp only at hSw); go_simp; (try with_reducible rfl))
      refine wpAnyM_take (i := 1) (v := ?_) rfl (by kernel_rfl) (by kernel_rfl) (by kernel_rfl) (by kernel_rfl) (fun _ _ _ h => h) (Or.inl ⟨by rfl, ?_⟩) (by assumption) ?_
      rotate_left
      · (intro w hSw; (try dsimp only at hSw); go_simp; (try with_reducible rfl))
      refine wpAnyM_take (i := 2) (v := ?_) rfl (by kernel_rfl) (by kernel_rfl) (by kernel_rfl) (by kernel_rfl) (fun _ _ _ h => h) (Or.inl ⟨by rfl, ?_⟩) (by assumption) ?_
      rotate_left
      · (intro w hSw; (try dsimp only at hSw); go_simp; (try with_reducible rfl))
      refine wpAnyM_take (i := 3) (v := ?_) rfl (by kernel_rfl) (by kernel_rfl) (by kernel_rfl) (by kernel_rfl) (fun _ _ _ h => h) (Or.inl ⟨by rfl, ?_⟩) (by assumption) ?_
      rotate_left
      · (intro w hSw; (try dsimp only at hSw); go_simp; (try with_reducible rfl))
      refine wpAnyM_take (i := 4) (v := ?_) rfl (by kernel_rfl) (by kernel_rfl) (by kernel_rfl) (by kernel_rfl) (fun _ _ _ h => h) (Or.inl ⟨by rfl, ?_⟩) (by assumption) ?_
      rotate_left
      · (intro w hSw; (try dsimp only at hSw); go_simp; (try with_reducible rfl))
      refine wpAnyM_take (i := 5) (v := ?_) rfl (by kernel_rfl) (by kernel_rfl) (by kernel_rfl) (by kernel_rfl) (fun _ _ _ h => h) (Or.inl ⟨by rfl, ?_⟩) (by assumption) ?_
      rotate_left
      · (intro w hSw; (try dsimp only at hSw); go_simp; (try with_reducible rfl))
      refine wpAnyM_take (i := 6) (v := ?_) rfl (by kernel_rfl) (by kernel_rfl) (by kernel_rfl) (by kernel_rfl) (fun _ _ _ h => h) (Or.inl ⟨by rfl, ?_⟩) (by assumption) ?_
      rotate_left
      · (intro w hSw; (try dsimp only at hSw); go_simp; (try with_reducible rfl))
      refine wpAnyM_take (i := 7) (v := ?_) rfl (by kernel_rfl) (by kernel_rfl) (by kernel_rfl) (by kernel_rfl) (fun _ _ _ h => h) (Or.inl ⟨by rfl, ?_⟩) (by assumption) ?_
      rotate_left
      · (intro w hSw; (try dsimp only at hSw); go_simp; (try with_reducible rfl))
      refine wpAnyM_one (i := 8) (by kernel_rfl) ?_
      refine ⟨_, rfl, fun K hK => ?_⟩
      go_simp
      go_at_call 13
      refine HCL.mono ?_
      rintro e w6 ⟨v6, rfl, ⟨u0, u1, u2, u3, r1, r2, r3, s1', s2', s3', rfl⟩, htf6, hb6⟩
      have HB6 : Hid (RowKit.Below wr.heap.size wr w6) := (Below.refl _ wr).drew.trans hb6
      have HEX := Exactly_exa _ _ (cleanT bs[k]) w6 (smT_clean 1000000 _ HSM.out) (HTA.out.on HB6.out) htf6.tv
      clear htf6 hb6
      refine hK.out _ _ (fun _ => ?_) (fun hHeld => ?_)
      · (try dsimp only)
        exact HCEL.out _ (fun k hk => HB6.out.block k hk)
      replace hHeld := hHeld rfl
      clear hK K
      refine wpAnyM_one (i := 9) (by kernel_rfl) ?_
      refine ⟨_, rfl, fun K hK => ?_⟩
      go_simp
      go_at_call 12
      refine HEX.mono ?_
      rintro e w7 ⟨rfl, hb7⟩
      have HB7 : Hid (RowKit.Below wr.heap.size wr w7) := HB6.out.trans (hb7.mono HB6.out.size)
      clear hb7
      refine hK.out _ _ (fun _ => ?_) (fun hHeld => ?_)
      · (try dsimp only)
        exact HCEL.out _ (fun k hk => HB7.out.block k hk)
      replace hHeld := hHeld rfl
      clear hK K
      refine wpAnyM_one (i := 10) (by kernel_rfl) ?_
      refine ⟨_, rfl, fun K hK => ?_⟩
      go_simp
      refine hK.out _ _ (fun _ => ?_) (fun hHeld => ?_)
      · (try dsimp only)
        exact hHeld
      replace hHeld := hHeld rfl
      clear hK K
      refine wpAnyM_done (by kernel_rfl) ?_ _
      clear hHeld
      go_wp2
      exact ⟨⟨k + 1, hlt, by go_num, HBR.out.trans (HB7.out.mono HBR.out.size)⟩, by simp [intOf]; omega⟩
    · go_wp2
      go_ret
      exact ⟨rfl, HBR.out⟩

set_option maxRecDepth 100000 in
set_option maxHeartbeats 2000000 in
theorem tanswered_no (t : Tm) (v : Value) (w : World) (hv : TV w v t) (hsm : smT 1000000 t) (hc : checkT t ≠ 0) : Calls Try.prog 33 #[v] w fun e w' => e = .returned (.tuple #[zeroV, .int .i64 (checkT t)]) ∧ RowKit.Below w.heap.size w w' := by
  have HCH := fun (W : World) (h : RowKit.Below w.heap.size w W) => Check_any t v W (hv.on h) hsm
  have hc' : (checkT t != 0) = true := by simpa using hc
  obtain ⟨la, lc, ka, kc, rfl⟩ := hv.shape
  clear hv hc
  generalize checkT t = CT at *
  generalize t.form = f at *
  generalize t.n = n at *
  generalize t.hid = hd at *
  generalize t.name = nm at *
  generalize t.levels.length = l1 at *
  generalize t.kids.length = k1 at *
  obtain ⟨W0, hW0⟩ : ∃ W0, (w.alloc (.cells #[.int .i64 f, .int .i64 n, .bool hd, .string nm, .slice la l1 lc, .slice ka k1 kc] 25)).alloc (.cells #[.int .i64 0, .int .i64 0, .bool false, .string { data := #[] }, .slice none 0 0, .slice none 0 0] 25) = W0 := ⟨_, rfl⟩
  have hb0 : RowKit.Below w.heap.size w W0 := by rw [← hW0]; exact ((Below.refl _ _).alloc (Nat.le_refl _) _).alloc (by simp) _
  have HX0 : Hid (W0.heap[w.heap.size]? = some (.cells #[.int .i64 f, .int .i64 n, .bool hd, .string nm, .slice la l1 lc, .slice ka k1 kc] 25 (0, 0))) := by unfold Hid; rw [← hW0]; exact box_at
  have HR0 : Hid (W0.heap[w.heap.size + 1]? = some (.cells #[.int .i64 0, .int .i64 0, .bool false, .string { data := #[] }, .slice none 0 0, .slice none 0 0] 25 (0, 0))) := by unfold Hid; rw [← hW0]; exact box_at1
  have HC0 := HCH W0 hb0
  have HB0 := Hid.mk hb0
  have HW0 := Hid.mk hW0
  obtain ⟨x0, x1, x2, x3, x4, x5, x6⟩ := cells6 HX0.out
  clear hW0 hb0 HCH
  go_enter Try.func33, Try.ntmps33
  go_wp2_with fail
  rw [HW0.out]
  refine HC0.mono ?_
  rintro e w1 ⟨rfl, hb1⟩
  have HB1 : Hid (RowKit.Below w.heap.size w w1) := HB0.out.trans (hb1.mono HB0.out.size)
  have HR1 := Hid.mk ((hb1.block _ (heap_lt HR0.out)).trans HR0.out)
  have hs1 : w.heap.size + 1 < w1.heap.size := heap_lt HR1.out
  clear HC0 hb1 x0 x1 x2 x3 x4 x5 x6
  obtain ⟨y0, y1, y2, y3, y4, y5, y6⟩ := cells6 HR1.out
  have yf := frz HR1.out
  go_wp2
  refine bodyPost_ret (v := .tuple #[zeroV, .int .i64 CT]) (by simp [results, Try.results33, go_sem, zeroV, y0, y1, y2, y3, y4, y5]) rfl ⟨rfl, ?_⟩
  exact HB1.out.trans ((keep6 (P := fun k => k = w.heap.size + 1) rfl).below HB1.out.size (fun k hk => by omega))
end Go.Proofs.Ythdcpodheimhaaa

/- tele.Pis, whatever is handed in. -/
namespace Go.Proofs.Ythdcpodheimhaaa
open Go.RowKit Go.Sort Go.Shelf Go.Lib

def pihT (h : Bool) (d c : Tm) : Tm := .mk 3 0 h { data := #[] } [] [d, c]

/-- t with a TPi around it for each of the list, whose first one is the i-th -/
def pisT (hs : List Bool) : Nat → List Tm → Tm → Tm
  | _, [], t => t
  | i, d :: l, t => pihT (hs.getD i false) d (pisT hs (i + 1) l t)

theorem pisT_drop (hs : List Bool) (t : Tm) {ts : List Tm} {i : Nat} (hi : i < ts.length) : pisT hs i (ts.drop i) t = pihT (hs.getD i false) ts[i] (pisT hs (i + 1) (ts.drop (i + 1)) t) := by
  rw [List.drop_eq_getElem_cons hi, pisT]

theorem TV.twoH {w : World} {b : Nat} {f : Int} {h : Bool} {x y : Tm} {a0 a1 a2 a3 a4 a5 b0 b1 b2 b3 b4 b5 : Value} (hx : TV w (.agg #[a0, a1, a2, a3, a4, a5]) x) (hy : TV w (.agg #[b0, b1, b2, b3, b4, b5]) y) (hb : w.heap[b]? = some (.cells #[a0, a1, a2, a3, a4, a5, b0, b1, b2, b3, b4, b5] 25 (0, 0))) : TV w (.agg #[.int .i64 f, .int .i64 0, .bool h, .string { data := #[] }, .slice none 0 0, .slice (some ⟨b, 0, none⟩) 2 2]) (.mk f 0 h { data := #[] } [] [x, y]) := by
  have h0 := TV.two (f := f) rfl rfl hx hy hb
  generalize hvv : (Value.agg #[.int .i64 f, .int .i64 0, .bool false, .string { data := #[] }, .slice none 0 0, .slice (some ⟨b, 0, none⟩) 2 2]) = vv at h0
  generalize htt : (Tm.mk f 0 false { data := #[] } [] [x, y]) = tt at h0
  cases h0 with
  | mk hl hln hlc hlm hkn hkc hkm hk kids =>
    simp only [Tm.mk.injEq] at htt
    obtain ⟨-, -, -, -, rfl, rfl⟩ := htt
    simp only [Value.agg.injEq, Array.mk.injEq, List.cons.injEq, Value.slice.injEq] at hvv
    obtain ⟨-, -, -, -, ⟨rfl, -, rfl⟩, ⟨rfl, -, rfl⟩, -⟩ := hvv
    exact TV.mk hl hln hlc hlm hkn hkc hkm hk kids

theorem TF.twoH {w : World} {P : Nat → Bool} {b : Nat} {f : Int} {h : Bool} {x y : Tm} {a0 a1 a2 a3 a4 a5 b0 b1 b2 b3 b4 b5 : Value} (hx : TF w P (.agg #[a0, a1, a2, a3, a4, a5]) x) (hy : TF w P (.agg #[b0, b1, b2, b3, b4, b5]) y) (hb : w.heap[b]? = some (.cells #[a0, a1, a2, a3, a4, a5, b0, b1, b2, b3, b4, b5] 25 (0, 0))) (hP : P b = false) : TF w P (.agg #[.int .i64 f, .int .i64 0, .bool h, .string { data := #[] }, .slice none 0 0, .slice (some ⟨b, 0, none⟩) 2 2]) (.mk f 0 h { data := #[] } [] [x, y]) :=
  TV.twoH hx hy ((maskB_no w hP).trans hb)

theorem tanswered_any (t : Tm) (v : Value) (w : World) (hv : TV w v t) (hsm : smT 1000000 t) : Calls Try.prog 33 #[v] w fun e w' => (∃ v', e = .returned (.tuple #[v', .int .i64 (checkT t)]) ∧ ShapeT v' ∧ (checkT t = 0 → TO w' w.heap.size w'.heap.size v' (cleanT t))) ∧ RowKit.Below w.heap.size w w' := by
  by_cases hc : checkT t = 0
  · refine (tanswered_ok t v w hv hsm hc).mono ?_
    rintro e w' ⟨⟨v', rfl, h1, h2⟩, h3⟩
    exact ⟨⟨v', by rw [hc], h1, fun _ => h2⟩, h3⟩
  · refine (tanswered_no t v w hv hsm hc).mono ?_
    rintro e w' ⟨rfl, h3⟩
    exact ⟨⟨zeroV, rfl, ⟨_, _, _, _, _, _, _, _, _, _, rfl⟩, fun h => absurd h hc⟩, h3⟩

attribute [local go_sem] Oper.semAt_some

set_option maxRecDepth 100000 in
set_option maxHeartbeats 2000000 in
theorem backward3_seq (m b1 : Nat) (b o n cap : Nat) (ad : Option Addr) (had : 0 < n → ad = some ⟨b, o, none⟩) (kv : Nat → Value) (w : World) (hb1 : b1 < w.heap.size) (hbn : b < w.heap.size) (hB1 : w.heap[b1]? = some (.cells #[.slice ad n cap] 23 (0, 0))) (hn : n ≤ 1000000) (hkv : ∀ i, i < n → CellsAt w b (o + i * 6) (kv i)) :
    SeqY m Try.prog 55 #[.pointer (some ⟨b1, 0, none⟩)] encB (fun k => k = b ∨ k = b1) (backL kv n) w := by
  intro l B J W hW hsz hJ hY h0
  have HY := Hid.mk hY
  have HJ0 := Hid.mk h0
  have HKV := Hid.mk hkv
  have hsW := hW.size
  have HOLD : Hid (∀ k, (k = b ∨ k = b1) → W.heap[k]? = w.heap[k]?) := fun k hk => hW.block k (by omega)
  have HB1 := Hid.mk hB1
  obtain ⟨c0, c1, c2⟩ := cells1 ((HOLD.out b1 (Or.inr rfl)).trans hB1)
  have HSZ := Hid.mk hsz
  clear hJ hY hW hB1 hkv h0 hsz
  refine callsIn_of_wp Try.func55 rfl trivial ?_ rfl
  simp only [Try.ntmps55, List.size_toArray, List.length_cons, List.length_nil, Nat.reduceAdd, Nat.reduceSub, Array.replicate_succ, Array.replicate_zero, List.push_toArray, List.append_toArray, List.nil_append, List.cons_append]
  gi_wp2_with fail
  gi_loopw [3] (fun i wr => ∃ (k : Nat) (pre : List (Int × Value)), k ≤ n ∧ i = .int .i64 ((k : Int) - 1) ∧ pre ++ backL kv k = backL kv n ∧ J pre wr ∧ (∀ j, (j = b ∨ j = b1) → wr.heap[j]? = w.heap[j]?) ∧ W.heap.size ≤ wr.heap.size) (fun i _ => (intOf i + 1).toNat)
  case atStart => exact ⟨n, [], Nat.le_refl _, rfl, rfl, HJ0.out, HOLD.out, Nat.le_refl _⟩
  case round =>
    obtain ⟨k, pre, hk, rfl, hpr, hJk, hOk, hszk⟩ := hrel
    have HPR := Hid.mk hpr
    have HJK := Hid.mk hJk
    have HOK := Hid.mk hOk
    clear hpr hJk hOk c0 c1 c2
    obtain ⟨c0, c1, c2⟩ := cells1 ((HOK.out b1 (Or.inr rfl)).trans HB1.out)
    cases k with
    | zero =>
      gi_wp2
      refine bodyPost_end (results_none rfl _ _ _) rfl ?_
      refine ⟨⟨_, rfl⟩, ?_⟩
      have := HPR.out
      rw [backL, List.append_nil] at this
      rw [← this]
      exact HJK.out
    | succ k =>
      have e1 : ((k + 1 : Nat) : Int) - 1 = (k : Int) := by omega
      obtain rfl := had (by omega)
      rw [e1]
      obtain ⟨d0, d1, d2, d3, d4, d5, d6, d7, d8, d9, hve, i0, i1, i2, i3, i4, i5⟩ := (HKV.out k (by omega)).same (HOK.out b (Or.inl rfl))
      obtain ⟨fn, tmps, assign, body, hy, hR⟩ := HY.out pre ((k : Int), kv k) (backL kv k) wr HPR.out (by have := HSZ.out; omega) HJK.out
      dsimp only [encB] at hy
      rw [hve] at hy
      have zk : (k : Int) < (n : Int) := by omega
      have zk0 : ¬ (k : Int) < 0 := by omega
      have hbl : b < wr.heap.size := by omega
      clear hve
      gi_wp2_with fail
      refine ⟨fun h => (by simp [Fence.wide] at h), hR.mono ?_⟩
      rintro e W3 ⟨rfl, hJ3, hrk3⟩
      have HJ3 := Hid.mk hJ3
      have hs3 := hrk3.size
      have HO3 : Hid (∀ j, (j = b ∨ j = b1) → W3.heap[j]? = w.heap[j]?) := fun j hj => (hrk3.block j (by omega) (Or.inl hj)).trans (HOK.out j hj)
      clear hJ3 hrk3 hy hR
      gi_wp2
      refine ⟨⟨k, pre ++ [((k : Int), kv k)], by omega, by go_num, ?_, HJ3.out, HO3.out, by omega⟩, ?_⟩
      · rw [List.append_assoc]; exact HPR.out
      · simp only [intOf]; omega

/-- what holds between two rounds of tele.bound -/
structure BJ (w : World) (ts : List Tm) (t : Tm) (hs : List Bool) (ha : Option Addr) (hcp : Nat) (s1 s2 B : Nat) (pre : List (Int × Value)) (W : World) : Prop where
  below : RowKit.Below w.heap.size w W
  form : W.heap[w.heap.size]? = some (.cells #[.int .i64 3] 3 (0, 0))
  res : W.heap[w.heap.size + 1 + 1]? = some (.cells #[.int .i64 0, .int .i64 0, .bool false, .string { data := #[] }, .slice none 0 0, .slice none 0 0] 25 (0, 0))
  bools : W.heap[s1]? = some (.cells #[.slice ha hs.length hcp] 28 (0, 0))
  fn : W.heap[s2]? = some (.cells #[.func (.func 48) #[] #[.pointer (some ⟨s1, 0, none⟩)]] 65 (0, 0))
  term : ∃ (q0 q1 : Int) (q2 : Bool) (q3 : ByteArray) (q4 : Option Addr) (q5 q6 : Nat) (q7 : Option Addr) (q8 q9 : Nat), W.heap[w.heap.size + 1]? = some (.cells #[.int .i64 q0, .int .i64 q1, .bool q2, .string q3, .slice q4 q5 q6, .slice q7 q8 q9] 25 (0, 0)) ∧ TF W (offB (w.heap.size + 1) B) (.agg #[.int .i64 q0, .int .i64 q1, .bool q2, .string q3, .slice q4 q5 q6, .slice q7 q8 q9]) (pisT hs (ts.length - pre.length) (ts.drop (ts.length - pre.length)) t)

theorem BJ.on {w : World} {ts : List Tm} {t : Tm} {hs : List Bool} {ha : Option Addr} {hcp : Nat} {s1 s2 B : Nat} {pre : List (Int × Value)} {A A' : World} (h : BJ w ts t hs ha hcp s1 s2 B pre A) (hl : w.heap.size + 1 + 1 < s1 ∧ s1 < s2 ∧ s2 + 1 < B) (hsz2 : A.heap.size ≤ A'.heap.size) (hk : ∀ k, k < A.heap.size → ¬ (B ≤ k ∧ k < B + 2) → A'.heap[k]? = A.heap[k]?) (ho : A'.os = A.os) (ht : A'.tape = A.tape) (hu : A'.output = A.output) : BJ w ts t hs ha hcp s1 s2 B pre A' := by
  obtain ⟨q0, q1, q2, q3, q4, q5, q6, q7, q8, q9, hQ, hT⟩ := h.term
  have hsz := h.below.size
  exact ⟨⟨ho.trans h.below.os, ht.trans h.below.tape, hu.trans h.below.output, Nat.le_trans hsz hsz2, fun k hk2 => (hk k (by omega) (by omega)).trans (h.below.block k hk2)⟩,
    (hk _ (heap_lt h.form) (by omega)).trans h.form, (hk _ (heap_lt h.res) (by omega)).trans h.res, (hk _ (heap_lt h.bools) (by omega)).trans h.bools, (hk _ (heap_lt h.fn) (by omega)).trans h.fn,
    q0, q1, q2, q3, q4, q5, q6, q7, q8, q9, (hk _ (heap_lt hQ) (by omega)).trans hQ, hT.move hsz2 fun k h1 h2 => ⟨h2, hk k h1 (offB_no h2).2⟩⟩

theorem BJ.step {w : World} {ts : List Tm} {t : Tm} {hs : List Bool} {ha : Option Addr} {hcp : Nat} {s1 s2 B : Nat} {pre : List (Int × Value)} {W : World} (h : BJ w ts t hs ha hcp s1 s2 B pre W) (hl : w.heap.size + 1 + 1 < s1 ∧ s1 < s2 ∧ s2 + 1 < B) (hBW : B + 2 ≤ W.heap.size) {i : Nat} (hi : i < ts.length) (hlen : pre.length + i + 1 = ts.length) {x : Int × Value} {d0 d1 d2 d3 d4 d5 q0 q1 q2 q3 q4 q5 : Value} (hd : TV w (.agg #[d0, d1, d2, d3, d4, d5]) ts[i]) (hQ : W.heap[w.heap.size + 1]? = some (.cells #[q0, q1, q2, q3, q4, q5] 25 (0, 0))) (hT : TF W (offB (w.heap.size + 1) B) (.agg #[q0, q1, q2, q3, q4, q5]) (pisT hs (ts.length - pre.length) (ts.drop (ts.length - pre.length)) t)) :
    BJ w ts t hs ha hcp s1 s2 B (pre ++ [x]) (set6W (W.drew.alloc (.cells #[d0, d1, d2, d3, d4, d5, q0, q1, q2, q3, q4, q5] 25)) (w.heap.size + 1) (.int .i64 3) (.int .i64 0) (.bool (hs.getD i false)) (.string { data := #[] }) (.slice none 0 0) (.slice (some ⟨W.heap.size, 0, none⟩) 2 2)) := by
  obtain ⟨W6, hW6⟩ : ∃ W6, W.drew.alloc (.cells #[d0, d1, d2, d3, d4, d5, q0, q1, q2, q3, q4, q5] 25) = W6 := ⟨_, rfl⟩
  have hb6 : RowKit.Below W.heap.size W W6 := by rw [← hW6]; exact (Below.refl _ W).drew.alloc (Nat.le_refl _) _
  have hn6 : W6.heap[W.heap.size]? = some (.cells #[d0, d1, d2, d3, d4, d5, q0, q1, q2, q3, q4, q5] 25 (0, 0)) := by rw [← hW6]; exact alloc_new W.drew _
  have hbw : RowKit.Below w.heap.size w W6 := h.below.trans (hb6.mono h.below.size)
  rw [hW6]
  have hK : Kept (fun k => k = w.heap.size + 1) W6 (set6W W6 (w.heap.size + 1) (.int .i64 3) (.int .i64 0) (.bool (hs.getD i false)) (.string { data := #[] }) (.slice none 0 0) (.slice (some ⟨W.heap.size, 0, none⟩) 2 2)) := keep6 rfl
  have hq6 := (hb6.block _ (heap_lt hQ)).trans hQ
  have hget : ∀ {k : Nat} {o : Obj}, W.heap[k]? = some o → k ≠ w.heap.size + 1 → (set6W W6 (w.heap.size + 1) (.int .i64 3) (.int .i64 0) (.bool (hs.getD i false)) (.string { data := #[] }) (.slice none 0 0) (.slice (some ⟨W.heap.size, 0, none⟩) 2 2)).heap[k]? = some o := fun {k o} ho hne => (hK.block k (Nat.lt_of_lt_of_le (heap_lt ho) hb6.size) hne).trans ((hb6.block k (heap_lt ho)).trans ho)
  refine ⟨hbw.trans (hK.below hbw.size (fun k hk => by omega)), hget h.form (by omega), hget h.res (by omega), hget h.bools (by omega), hget h.fn (by omega), 3, 0, hs.getD i false, { data := #[] }, none, 0, 0, some ⟨W.heap.size, 0, none⟩, 2, 2, set6 hq6, ?_⟩
  have hlw := heap_lt hQ
  have hT6 : TF W6 (offB (w.heap.size + 1) B) (.agg #[.int .i64 3, .int .i64 0, .bool (hs.getD i false), .string { data := #[] }, .slice none 0 0, .slice (some ⟨W.heap.size, 0, none⟩) 2 2]) (pihT (hs.getD i false) ts[i] (pisT hs (ts.length - pre.length) (ts.drop (ts.length - pre.length)) t)) :=
    TF.twoH (TF.on (hd.tf (fun k hk => offB_lt (by omega) (by omega))) hbw) (hT.on hb6) hn6 (offB_ge hlw hBW)
  rw [List.length_append, List.length_singleton, show ts.length - (pre.length + 1) = i by omega, pisT_drop hs t hi, show i + 1 = ts.length - pre.length by omega]
  exact hT6.move hK.size fun k h1 h2 => ⟨h2, hK.block k h1 (offB_no h2).1⟩

attribute [local go_sem] Oper.semAt_some

set_option maxRecDepth 100000 in
set_option maxHeartbeats 8000000 in
theorem bound_walk2 (ts : List Tm) (hs : List Bool) (ha : Option Addr) (hcp : Nat) (kv : Nat → Value) (ad : Option Addr) (b o cap : Nat) (t : Tm) (v : Value) (w : World) (hL : TK w ad ts) (hbw : b < w.heap.size) (had : 0 < ts.length → ad = some ⟨b, o, none⟩) (hkvx : ∀ i (hi : i < ts.length), CellsAt w b (o + i * 6) (kv i) ∧ TV w (kv i) ts[i]) (hBK : BK w ha hs) (hv : TV w v t) (hn : ts.length ≤ 60) (hts : ∀ x ∈ ts, smT 1000000 x) (hsm : smT 1000000 t) (hf0 : faultR ts t = 0) (hsr : smT 1000000 (pisT hs 0 ts t)) : Calls Try.prog 31 #[.int .i64 3, .slice ad ts.length cap, .slice ha hs.length hcp, v] w fun e w' => (∃ v', e = .returned (.tuple #[v', .int .i64 (checkT (pisT hs 0 ts t))]) ∧ ShapeT v' ∧ (checkT (pisT hs 0 ts t) = 0 → TO w' w.heap.size w'.heap.size v' (cleanT (pisT hs 0 ts t)))) ∧ RowKit.Below w.heap.size w w' := by
  have HFA := fun (W : World) (h : RowKit.Below w.heap.size w W) => (callsIn_wide (n := 5)).2 (fault_any ts ad cap t v W (hL.on h) (hv.on h) hn hts hsm)
  rw [hf0] at HFA
  have HAN := fun (W : World) (u : Value) (h : TV W u (pisT hs 0 ts t)) => (callsIn_wide (n := 5)).2 (tanswered_any (pisT hs 0 ts t) u W h hsr)
  have HBK := Hid.mk hBK
  have HKX := Hid.mk hkvx
  have HAD := Hid.mk had
  have HV := Hid.mk hv
  obtain ⟨la, lc, ka, kc, rfl⟩ := hv.shape
  clear hv hts hsm hsr hL hBK hkvx had hf0
  generalize t.form = f at *
  generalize t.n = n at *
  generalize t.hid = hd at *
  generalize t.name = nm at *
  generalize t.levels.length = l1 at *
  generalize t.kids.length = k1 at *
  obtain ⟨W0, hW0⟩ : ∃ W0, ((w.alloc (.cells #[.int .i64 3] 3)).alloc (.cells #[.int .i64 f, .int .i64 n, .bool hd, .string nm, .slice la l1 lc, .slice ka k1 kc] 25)).alloc (.cells #[.int .i64 0, .int .i64 0, .bool false, .string { data := #[] }, .slice none 0 0, .slice none 0 0] 25) = W0 := ⟨_, rfl⟩
  have hb0 : RowKit.Below w.heap.size w W0 := by rw [← hW0]; exact (((Below.refl _ _).alloc (Nat.le_refl _) _).alloc (by simp) _).alloc (by simp; omega) _
  have HF0 : Hid (W0.heap[w.heap.size]? = some (.cells #[.int .i64 3] 3 (0, 0))) := by unfold Hid; rw [← hW0]; exact alloc_old box_at _
  have HX0 : Hid (W0.heap[w.heap.size + 1]? = some (.cells #[.int .i64 f, .int .i64 n, .bool hd, .string nm, .slice la l1 lc, .slice ka k1 kc] 25 (0, 0))) := by unfold Hid; rw [← hW0]; exact on1
  have HR0 : Hid (W0.heap[w.heap.size + 1 + 1]? = some (.cells #[.int .i64 0, .int .i64 0, .bool false, .string { data := #[] }, .slice none 0 0, .slice none 0 0] 25 (0, 0))) := by unfold Hid; rw [← hW0]; exact on2
  have HC0 := HFA W0 hb0
  have HB0 := Hid.mk hb0
  have HW0 := Hid.mk hW0
  obtain ⟨x0, x1, x2, x3, x4, x5, x6⟩ := cells6 HX0.out
  clear hW0 hb0 HFA
  refine (callsIn_wide (n := 6)).1 ?_
  refine callsIn_of_wp_marks Try.func31 rfl trivial ?_ rfl
  simp only [Try.ntmps31, List.size_toArray, List.length_cons, List.length_nil, Nat.reduceAdd, Nat.reduceSub, Array.replicate_succ, Array.replicate_zero, List.push_toArray, List.append_toArray, List.nil_append, List.cons_append]
  gi_wp2_with fail
  refine ⟨trivial, ?_⟩
  rw [HW0.out]
  refine HC0.mono ?_
  rintro e w1 ⟨rfl, hb1⟩
  have HF1 := Hid.mk ((hb1.block _ (heap_lt HF0.out)).trans HF0.out)
  have HX1 := Hid.mk ((hb1.block _ (heap_lt HX0.out)).trans HX0.out)
  have HR1 := Hid.mk ((hb1.block _ (heap_lt HR0.out)).trans HR0.out)
  have HB1 : Hid (RowKit.Below w.heap.size w w1) := HB0.out.trans (hb1.mono HB0.out.size)
  clear HC0 hb1 x0 x1 x2 x3 x4 x5 x6
  gi_wp2_with fail
  refine ⟨trivial, ?_⟩
  refine ((callsIn_wide (n := 5)).2 (told_any _ _ _ _)).mono ?_
  rintro e w2 ⟨rfl, hw2⟩
  have HW2 := Hid.mk hw2
  have HS2 : Hid (w2.heap.size = w1.heap.size + 1) := by unfold Hid; rw [hw2]; simp
  clear hw2
  gi_wp2_with fail
  refine ⟨trivial, ?_⟩
  refine ((callsIn_wide (n := 5)).2 (Backward_any _ _ _ _)).mono ?_
  rintro e w3 ⟨rfl, hw3⟩
  have HW3 := Hid.mk hw3
  clear hw3
  gi_wp2_with fail
  have hs3 : w3.heap.size = w2.heap.size + 2 := by rw [HW3.out]; simp
  have hs1 := HB1.out.size
  have hR := heap_lt HR1.out
  have hs2 := HS2.out
  have HLT : Hid (w.heap.size + 1 + 1 < w1.heap.size ∧ w1.heap.size < w2.heap.size ∧ w2.heap.size + 1 < w3.heap.size) := ⟨hR, by omega, by omega⟩
  have hb2 : RowKit.Below w1.heap.size w1 w3 := by rw [HW3.out, HW2.out]; exact (((Below.refl _ _).alloc (Nat.le_refl _) _).alloc (by simp) _).alloc (by simp; omega) _
  have hb3 : RowKit.Below w.heap.size w w3 := HB1.out.trans (hb2.mono HB1.out.size)
  have HI0 : Hid (BJ w ts t hs ha hcp w1.heap.size w2.heap.size w3.heap.size [] w3) := by
    refine ⟨hb3, (hb2.block _ (heap_lt HF1.out)).trans HF1.out, (hb2.block _ (heap_lt HR1.out)).trans HR1.out, ?_, ?_, _, _, _, _, _, _, _, _, _, _, (hb2.block _ (heap_lt HX1.out)).trans HX1.out, ?_⟩
    · rw [HW3.out]; refine alloc_old (alloc_old ?_ _) _; rw [HW2.out]; exact alloc_new _ _
    · rw [HW3.out]; exact box_at
    · rw [List.length_nil, Nat.sub_zero, List.drop_length]
      unfold pisT
      exact TF.on (HV.out.tf (fun k hk => offB_lt (by omega) (by omega))) hb3
  have HKV : Hid (∀ i, i < ts.length → CellsAt w b (o + i * 6) (kv i)) := fun i hi => (HKX.out i hi).1
  have HKT : Hid (∀ i (hi : i < ts.length), TV w (kv i) ts[i]) := fun i hi => (HKX.out i hi).2
  have HSEQ : Hid (SeqY 5 Try.prog 55 #[.pointer (some ⟨w2.heap.size + 1, 0, none⟩)] encB (fun k => k = b ∨ k = w2.heap.size + 1) (backL kv ts.length) w3) := backward3_seq 5 (w2.heap.size + 1) b o ts.length cap ad HAD.out kv w3 (by omega) (by omega) (by rw [HW3.out]; exact box_at1) (by omega) (fun i hi => (HKX.out i hi).1.same (hb3.block _ hbw))
  clear hs3 hs1 hR hs2 hb2 hb3 HW3 HW2 HF1 HX1 HR1 HF0 HX0 HR0 HB0 HB1 HW0 HV
  -- LOOP
  refine rangeY (gf := 55) (lb := #[.pointer (some ⟨w2.heap.size + 1, 0, none⟩)]) rfl (enters_of Try.func55 (by kernel_rfl) rfl) HSEQ.out (Below.refl _ _) (fun _ => rfl)
    (BJ w ts t hs ha hcp w1.heap.size w2.heap.size w3.heap.size) (fun s A A' h1 h2 h3 h4 h5 h6 => BJ.on h1 HLT.out h2 h3 h4 h5 h6) HI0.out
    (fun x a' W => ∃ (pb : Nat) (d0 d1 : Int) (d2 : Bool) (d3 : ByteArray) (d4 : Option Addr) (d5 d6 : Nat) (d7 : Option Addr) (d8 d9 : Nat), x.2 = .agg #[.int .i64 d0, .int .i64 d1, .bool d2, .string d3, .slice d4 d5 d6, .slice d7 d8 d9] ∧ a' = { tmps := #[.int .i64 3, .slice ad ts.length cap, .slice ha hs.length hcp, .agg #[.int .i64 f, .int .i64 n, .bool hd, .string nm, .slice la l1 lc, .slice ka k1 kc], .pointer (some ⟨w.heap.size, 0, none⟩), undef, undef, .pointer (some ⟨w.heap.size + 1, 0, none⟩), .pointer (some ⟨w.heap.size + 1 + 1, 0, none⟩), .int .i64 0, .int .i64 0, .pointer (some ⟨w2.heap.size, 0, none⟩), .int .i64 x.1, .pointer (some ⟨pb, 0, none⟩), .slice ad ts.length cap, .agg #[.int .i64 f, .int .i64 n, .bool hd, .string nm, .slice la l1 lc, .slice ka k1 kc], .int .i64 0, .int .i64 0, .bool false, undef, undef, .slice ha hs.length hcp, .func (.func 48) #[] #[.pointer (some ⟨w1.heap.size, 0, none⟩)], .slice ad ts.length cap, .func (.func 55) #[] #[.pointer (some ⟨w2.heap.size + 1, 0, none⟩)], .int .i64 x.1, .agg #[.int .i64 d0, .int .i64 d1, .bool d2, .string d3, .slice d4 d5 d6, .slice d7 d8 d9], undef, undef, undef, undef, undef, undef, undef, undef, undef, undef, undef, undef], defers := [] } ∧ w3.heap.size + 2 ≤ pb ∧ W.heap[pb]? = some (.cells #[.int .i64 d0, .int .i64 d1, .bool d2, .string d3, .slice d4 d5 d6, .slice d7 d8 d9] 25 (0, 0))) ?ax ?assign ?body ?done
  case ax =>
    rintro x a' A A' ⟨pb, d0, d1, d2, d3, d4, d5, d6, d7, d8, d9, h1, h2, h3, h4⟩ hs hk _ _ _
    exact ⟨pb, d0, d1, d2, d3, d4, d5, d6, d7, d8, d9, h1, h2, h3, (hk pb (heap_lt h4) (by omega)).trans h4⟩
  case assign =>
    intro l pre x rest W K hpre hszW hI hK
    have HK := Hid.mk hK
    have HI := Hid.mk hI
    obtain ⟨i, hi, rfl, hlen⟩ := backL_at kv _ _ _ _ hpre
    obtain ⟨d0, d1, d2, d3, d4, d5, d6, d7, d8, d9, hve, -⟩ := HKV.out i hi
    have HVE := Hid.mk hve
    dsimp only [encB]
    rw [hve]
    clear hK hI hve hpre
    gi_wp2
    refine HK.out _ _ ⟨by simp, fun k hk _ => Below.heap_alloc _ _ k hk⟩ (BJ.on HI.out HLT.out (by simp) (fun k hk _ => Below.heap_alloc _ _ k hk) rfl rfl rfl) ⟨W.heap.size, d0, d1, d2, d3, d4, d5, d6, d7, d8, d9, HVE.out, rfl, by omega, alloc_new _ _⟩
  case body =>
    intro l pre x rest a' W hpre hszW hI hAx
    obtain ⟨pb, d0, d1, d2, d3, d4, d5, d6, d7, d8, d9, hx2, rfl, hpb, hPB⟩ := hAx
    obtain ⟨i, hi, rfl, hlen⟩ := backL_at kv _ _ _ _ hpre
    obtain ⟨q0, q1, q2, q3, q4, q5, q6, q7, q8, q9, hQ, hTQ⟩ := hI.term
    dsimp only at hx2 ⊢
    obtain ⟨W6, hW6⟩ : ∃ W6, ((W.alloc (.cells #[.int .i64 d0, .int .i64 d1, .bool d2, .string d3, .slice d4 d5 d6, .slice d7 d8 d9, .int .i64 q0, .int .i64 q1, .bool q2, .string q3, .slice q4 q5 q6, .slice q7 q8 q9] 25)).drew) = W6 := ⟨_, rfl⟩
    have hW6' : (W.drew.alloc (.cells #[.int .i64 d0, .int .i64 d1, .bool d2, .string d3, .slice d4 d5 d6, .slice d7 d8 d9, .int .i64 q0, .int .i64 q1, .bool q2, .string q3, .slice q4 q5 q6, .slice q7 q8 q9] 25)) = W6 := hW6
    have HW6 := Hid.mk hW6
    have hb6 : RowKit.Below W.heap.size W W6 := by rw [← hW6']; exact (Below.refl _ W).drew.alloc (Nat.le_refl _) _
    have HB6 := Hid.mk hb6
    have HST : Hid (BJ w ts t hs ha hcp w1.heap.size w2.heap.size w3.heap.size (pre ++ [((i : Int), kv i)]) (set6W W6 (w.heap.size + 1) (.int .i64 3) (.int .i64 0) (.bool (hs.getD i false)) (.string { data := #[] }) (.slice none 0 0) (.slice (some ⟨W.heap.size, 0, none⟩) 2 2))) := by unfold Hid; rw [← hW6']; exact hI.step HLT.out hszW hi hlen (by rw [← hx2]; exact HKT.out i hi) hQ hTQ
    have HRK : Hid (RK2 (fun k => k = b ∨ k = w2.heap.size + 1) w3.heap.size W (set6W W6 (w.heap.size + 1) (.int .i64 3) (.int .i64 0) (.bool (hs.getD i false)) (.string { data := #[] }) (.slice none 0 0) (.slice (some ⟨W.heap.size, 0, none⟩) 2 2))) := ⟨Nat.le_trans hb6.size (keep6 (P := fun k => k = w.heap.size + 1) rfl).size, fun k hk hp => ((keep6 (P := fun k => k = w.heap.size + 1) rfl).block k (Nat.lt_of_lt_of_le hk hb6.size) (by have := HLT.out; omega)).trans (hb6.block k hk)⟩
    have HCEL : Hid (∀ Wx : World, (∀ j, j < W.heap.size → Wx.heap[j]? = W.heap[j]?) → (fun w' => w'.cell? ⟨w.heap.size, 0, none⟩ = some (.int .i64 3) ∧ w'.cell? ⟨w2.heap.size, 0, none⟩ = some (.func (.func 48) #[] #[.pointer (some ⟨w1.heap.size, 0, none⟩)]) ∧ w'.cell? ⟨pb, 0, none⟩ = some (.int .i64 d0) ∧ w'.cell? ⟨pb, 1, none⟩ = some (.int .i64 d1) ∧ w'.cell? ⟨pb, 2, none⟩ = some (.bool d2) ∧ w'.cell? ⟨pb, 3, none⟩ = some (.string d3) ∧ w'.cell? ⟨pb, 4, none⟩ = some (.slice d4 d5 d6) ∧ w'.cell? ⟨pb, 5, none⟩ = some (.slice d7 d8 d9) ∧ w'.cell? ⟨w.heap.size + 1, 0, none⟩ = some (.int .i64 q0) ∧ w'.cell? ⟨w.heap.size + 1, 1, none⟩ = some (.int .i64 q1) ∧ w'.cell? ⟨w.heap.size + 1, 2, none⟩ = some (.bool q2) ∧ w'.cell? ⟨w.heap.size + 1, 3, none⟩ = some (.string q3) ∧ w'.cell? ⟨w.heap.size + 1, 4, none⟩ = some (.slice q4 q5 q6) ∧ w'.cell? ⟨w.heap.size + 1, 5, none⟩ = some (.slice q7 q8 q9)) Wx) := fun Wx h => by
      obtain ⟨a0, -⟩ := cells1 ((h _ (heap_lt hI.form)).trans hI.form)
      obtain ⟨b0, -⟩ := cells1 ((h _ (heap_lt hI.fn)).trans hI.fn)
      obtain ⟨c0, c1, c2, c3, c4, c5, -⟩ := cells6 ((h _ (heap_lt hPB)).trans hPB)
      obtain ⟨e0, e1, e2, e3, e4, e5, -⟩ := cells6 ((h _ (heap_lt hQ)).trans hQ)
      exact ⟨a0, b0, c0, c1, c2, c3, c4, c5, e0, e1, e2, e3, e4, e5⟩
    have HBOOL : Hid (W.drew.heap[w1.heap.size]? = some (.cells #[.slice ha hs.length hcp] 28 (0, 0))) := hI.bools
    have HBOOL2 : Hid (W6.heap[w1.heap.size]? = some (.cells #[.slice ha hs.length hcp] 28 (0, 0))) := (hb6.block _ (heap_lt HBOOL.out)).trans HBOOL.out
    have HBKW : Hid (BK W.drew ha hs) := HBK.out.on hI.below.drew
    have HBK6 : Hid (BK W6 ha hs) := HBK.out.on (hI.below.trans (hb6.mono hI.below.size))
    obtain ⟨m0, m1, m2, m3, m4, m5, m6⟩ := cells6 ((hb6.block _ (heap_lt hQ)).trans hQ)
    have mf := frz ((hb6.block _ (heap_lt hQ)).trans hQ)
    have mx := mixed
    have HX2 := Hid.mk hx2
    rw [hx2]
    clear hTQ hI hQ hPB hpre hx2 hW6 hW6' hb6
    gi_wp2_with fail
    refine wpIn_mono (Q := (fun e a' W' => e = .normal ∧ RK2 (fun k => k = b ∨ k = w2.heap.size + 1) w3.heap.size W W' ∧ BJ w ts t hs ha hcp w1.heap.size w2.heap.size w3.heap.size (pre ++ [((i : Int), kv i)]) W')) ?_ ?_
    · refine wpIn_region_late (S := fun w' => w'.cell? ⟨w.heap.size, 0, none⟩ = some (.int .i64 3) ∧ w'.cell? ⟨w2.heap.size, 0, none⟩ = some (.func (.func 48) #[] #[.pointer (some ⟨w1.heap.size, 0, none⟩)]) ∧ w'.cell? ⟨pb, 0, none⟩ = some (.int .i64 d0) ∧ w'.cell? ⟨pb, 1, none⟩ = some (.int .i64 d1) ∧ w'.cell? ⟨pb, 2, none⟩ = some (.bool d2) ∧ w'.cell? ⟨pb, 3, none⟩ = some (.string d3) ∧ w'.cell? ⟨pb, 4, none⟩ = some (.slice d4 d5 d6) ∧ w'.cell? ⟨pb, 5, none⟩ = some (.slice d7 d8 d9) ∧ w'.cell? ⟨w.heap.size + 1, 0, none⟩ = some (.int .i64 q0) ∧ w'.cell? ⟨w.heap.size + 1, 1, none⟩ = some (.int .i64 q1) ∧ w'.cell? ⟨w.heap.size + 1, 2, none⟩ = some (.bool q2) ∧ w'.cell? ⟨w.heap.size + 1, 3, none⟩ = some (.string q3) ∧ w'.cell? ⟨w.heap.size + 1, 4, none⟩ = some (.slice q4 q5 q6) ∧ w'.cell? ⟨w.heap.size + 1, 5, none⟩ = some (.slice q7 q8 q9)) (fun i => decide (8 ≤ i)) mx (noDefer_spec (by kernel_rfl)) (fun h => by obtain ⟨_, _, h, -⟩ := h; cases h) ?_ (fun hHeld => ?_)
      · (try dsimp only)
        exact HCEL.out _ (fun j _ => rfl)
      refine wpAnyM_take (i := 0) (v := ?_) rfl (by kernel_rfl) (by kernel_rfl) (by kernel_rfl) (by kernel_rfl) (fun _ _ _ h => by cases h.1) (Or.inl ⟨by rfl, ?_⟩) (by assumption) ?_
      rotate_left
      · (intro w hSw; (try dsimp only at hSw); go_simp; (try with_reducible rfl))
      refine wpAnyM_take (i := 1) (v := ?_) rfl (by kernel_rfl) (by kernel_rfl) (by kernel_rfl) (by kernel_rfl) (fun _ _ _ h => by cases h.1) (Or.inl ⟨by rfl, ?_⟩) (by assumption) ?_
      rotate_left
      · (intro w hSw; (try dsimp only at hSw); go_simp; (try with_reducible rfl))
      refine wpAnyM_take (i := 2) (v := ?_) rfl (by kernel_rfl) (by kernel_rfl) (by kernel_rfl) (by kernel_rfl) (fun _ _ _ h => by cases h.1) (Or.inl ⟨by rfl, ?_⟩) (by assumption) ?_
      rotate_left
      · (intro w hSw; (try dsimp only at hSw); go_simp; (try with_reducible rfl))
      refine wpAnyM_take (i := 4) (v := ?_) rfl (by kernel_rfl) (by kernel_rfl) (by kernel_rfl) (by kernel_rfl) (fun _ _ _ h => by cases h.1) (Or.inl ⟨by rfl, ?_⟩) (by assumption) ?_
      rotate_left
      · (intro w hSw; (try dsimp only at hSw); go_simp; (try with_reducible rfl))
      refine wpAnyM_take (i := 5) (v := ?_) rfl (by kernel_rfl) (by kernel_rfl) (by kernel_rfl) (by kernel_rfl) (fun _ _ _ h => by cases h.1) (Or.inl ⟨by rfl, ?_⟩) (by assumption) ?_
      rotate_left
      · (intro w hSw; (try dsimp only at hSw); go_simp; (try with_reducible rfl))
      refine wpAnyM_two (i := 3) (k := 6) (by kernel_rfl) ?_ ?_
      · (skip)
        refine ⟨_, rfl, fun K hK => ?_⟩
        go_simp
        go_at_call 48
        refine (told1_any w1.heap.size ha hcp hs i W.drew HBOOL.out HBKW.out).mono ?_
        rintro e _ ⟨rfl, rfl⟩
        refine hK.out _ _ (fun _ => ?_) (fun hHeld => ?_)
        · (try dsimp only)
          exact HCEL.out _ (fun j _ => rfl)
        replace hHeld := hHeld rfl
        clear hK K
        refine wpAnyM_one (i := 6) (by kernel_rfl) ?_
        refine ⟨_, rfl, fun K hK => ?_⟩
        go_simp
        rw [HW6.out]
        refine hK.out _ _ (fun _ => ?_) (fun hHeld => ?_)
        · (try dsimp only)
          exact HCEL.out _ (fun j hj => HB6.out.block j hj)
        replace hHeld := hHeld rfl
        clear hK K
        refine wpAnyM_one (i := 7) (by kernel_rfl) ?_
        refine ⟨_, rfl, fun K hK => ?_⟩
        go_simp
        refine hK.out _ _ (fun _ => ?_) (fun hHeld => ?_)
        · (try dsimp only)
          exact hHeld
        replace hHeld := hHeld rfl
        clear hK K
        refine wpAnyM_one (i := 8) (by kernel_rfl) ?_
        refine ⟨_, rfl, fun K hK => ?_⟩
        go_simp
        refine hK.out _ _ (fun h => by cases h) (fun _ => ?_)
        clear hK K
        refine wpAnyM_done (by kernel_rfl) ?_ _
        exact ⟨rfl, HRK.out, HST.out⟩
      · (skip)
        refine ⟨_, rfl, fun K hK => ?_⟩
        go_simp
        rw [HW6.out]
        refine hK.out _ _ (fun _ => ?_) (fun hHeld => ?_)
        · (try dsimp only)
          exact HCEL.out _ (fun j hj => HB6.out.block j hj)
        replace hHeld := hHeld rfl
        clear hK K
        refine wpAnyM_one (i := 3) (by kernel_rfl) ?_
        refine ⟨_, rfl, fun K hK => ?_⟩
        go_simp
        go_at_call 48
        refine (told1_any w1.heap.size ha hcp hs i W6 HBOOL2.out HBK6.out).mono ?_
        rintro e _ ⟨rfl, rfl⟩
        refine hK.out _ _ (fun _ => ?_) (fun hHeld => ?_)
        · (try dsimp only)
          exact hHeld
        replace hHeld := hHeld rfl
        clear hK K
        refine wpAnyM_one (i := 7) (by kernel_rfl) ?_
        refine ⟨_, rfl, fun K hK => ?_⟩
        go_simp
        refine hK.out _ _ (fun _ => ?_) (fun hHeld => ?_)
        · (try dsimp only)
          exact hHeld
        replace hHeld := hHeld rfl
        clear hK K
        refine wpAnyM_one (i := 8) (by kernel_rfl) ?_
        refine ⟨_, rfl, fun K hK => ?_⟩
        go_simp
        refine hK.out _ _ (fun h => by cases h) (fun _ => ?_)
        clear hK K
        refine wpAnyM_done (by kernel_rfl) ?_ _
        exact ⟨rfl, HRK.out, HST.out⟩
    · rintro e a' W' ⟨rfl, h1, h2⟩
      refine ⟨rfl, h1, ?_⟩
      rw [← HX2.out]
      exact h2
  case done =>
    rintro D W rfl hI hK
    obtain ⟨q0, q1, q2, q3, q4, q5, q6, q7, q8, q9, hQ, hTQ⟩ := hI.term
    rw [backL_len, Nat.sub_self, List.drop_zero] at hTQ
    have HKD := Hid.mk hK
    have HTV := Hid.mk hTQ.tv
    have HRES := Hid.mk hI.res
    have HBX := Hid.mk hI.below
    have HAN' := HAN W _ hTQ.tv
    obtain ⟨o0, o1, o2, o3, o4, o5, o6⟩ := cells6 hQ
    clear hK hTQ hI HAN
    gi_wp2_with fail
    refine ⟨trivial, ?_⟩
    refine HAN'.mono ?_
    rintro e W2 ⟨⟨v2, rfl, ⟨u0, u1, u2, u3, u4, u5, u6, u7, u8, u9, rfl⟩, hto2⟩, hb2⟩
    obtain ⟨CR, hCR⟩ : ∃ CR, checkT (pisT hs 0 ts t) = CR := ⟨_, rfl⟩
    rw [hCR] at hto2 ⊢
    have HCR := Hid.mk hCR
    clear hCR
    have HTO2 := Hid.mk hto2
    have HB2 := Hid.mk hb2
    have HR2 := Hid.mk ((hb2.block _ (heap_lt HRES.out)).trans HRES.out)
    obtain ⟨y0, y1, y2, y3, y4, y5, y6⟩ := cells6 HR2.out
    have yf := frz HR2.out
    clear hto2 hb2 HAN' o0 o1 o2 o3 o4 o5 o6 hQ
    gi_wp2
    have hlr := heap_lt HRES.out
    have hlt := HLT.out
    have hK2 : W2.heap[w3.heap.size]? = some (.deferred (some [])) := (HB2.out.block _ (heap_lt HKD.out)).trans HKD.out
    have hKp : Kept (fun k => k = w.heap.size + 1 + 1) W2 (set6W W2 (w.heap.size + 1 + 1) (.int .i64 u0) (.int .i64 u1) (.bool u2) (.string u3) (.slice u4 u5 u6) (.slice u7 u8 u9)) := keep6 rfl
    have hK' : (set6W W2 (w.heap.size + 1 + 1) (.int .i64 u0) (.int .i64 u1) (.bool u2) (.string u3) (.slice u4 u5 u6) (.slice u7 u8 u9)).heap[w3.heap.size]? = some (.deferred (some [])) := (hKp.block _ (heap_lt hK2) (by omega)).trans hK2
    refine ⟨by simp, .inl ⟨_, _, rfl, run_takeDeferred hK', ?_⟩⟩
    have hb2' : RowKit.Below w.heap.size w W2 := HBX.out.trans (HB2.out.mono HBX.out.size)
    have hbp : RowKit.Below w.heap.size w ((set6W W2 (w.heap.size + 1 + 1) (.int .i64 u0) (.int .i64 u1) (.bool u2) (.string u3) (.slice u4 u5 u6) (.slice u7 u8 u9)).putObj w3.heap.size (.deferred none)) := (hb2'.trans (hKp.below hb2'.size (fun k hk => by omega))).trans (belowK_b (w := w) (Nat.le_refl _) _ _ _ _ (by omega) hK' rfl rfl)
    have hZ' := (World.putObj_heap_other (w := set6W W2 (w.heap.size + 1 + 1) (.int .i64 u0) (.int .i64 u1) (.bool u2) (.string u3) (.slice u4 u5 u6) (.slice u7 u8 u9)) (r := w3.heap.size) (k := w.heap.size + 1 + 1) (o := .deferred none) (by omega)).trans (set6 HR2.out)
    obtain ⟨m0, m1, m2, m3, m4, m5, m6⟩ := cells6 hZ'
    have hps : ((set6W W2 (w.heap.size + 1 + 1) (.int .i64 u0) (.int .i64 u1) (.bool u2) (.string u3) (.slice u4 u5 u6) (.slice u7 u8 u9)).putObj w3.heap.size (.deferred none)).heap.size = W2.heap.size := by rw [show ∀ (X : World) (o : Obj), (X.putObj w3.heap.size o).heap.size = X.heap.size from fun X o => by simp [World.putObj]]; exact size6
    have hto : CR = 0 → TO ((set6W W2 (w.heap.size + 1 + 1) (.int .i64 u0) (.int .i64 u1) (.bool u2) (.string u3) (.slice u4 u5 u6) (.slice u7 u8 u9)).putObj w3.heap.size (.deferred none)) w.heap.size ((set6W W2 (w.heap.size + 1 + 1) (.int .i64 u0) (.int .i64 u1) (.bool u2) (.string u3) (.slice u4 u5 u6) (.slice u7 u8 u9)).putObj w3.heap.size (.deferred none)).heap.size (.agg #[.int .i64 u0, .int .i64 u1, .bool u2, .string u3, .slice u4 u5 u6, .slice u7 u8 u9]) (cleanT (pisT hs 0 ts t)) := fun hc => ((HTO2.out hc).on (fun k h1 h2 => (World.putObj_heap_other (by have := heap_lt HKD.out; omega)).trans (hKp.block k h2 (by omega)))).mono HBX.out.size (by rw [hps]; exact Nat.le_refl _)
    unfold set6W at m0 m1 m2 m3 m4 m5
    exact ⟨.tuple #[.agg #[.int .i64 u0, .int .i64 u1, .bool u2, .string u3, .slice u4 u5 u6, .slice u7 u8 u9], .int .i64 CR], by simp [results, Try.f31, go_sem, m0, m1, m2, m3, m4, m5], ⟨_, by rw [HCR.out], ⟨_, _, _, _, _, _, _, _, _, _, rfl⟩, fun h => hto (by rw [← HCR.out]; exact h)⟩, hbp⟩
end Go.Proofs.Ythdcpodheimhaaa

/- Plain facts: what is put around a term is split off again; what a function is applied to is its row. -/
namespace Go.Proofs.Ythdcpodheimhaaa
open Go.RowKit Go.Sort

theorem clean_clean (t : Tm) : cleanT (cleanT t) = cleanT t := by
  induction t using Tm.ind with
  | h f n h nm ls ks ih =>
    rw [clean_mk, clean_mk]
    have e : (ks.map cleanT).map cleanT = ks.map cleanT := by
      rw [List.map_map]
      exact List.map_congr_left ih
    rw [e]
    congr 1
    · split <;> rfl
    · split <;> rfl
    · split <;> rfl
    · split <;> rfl

theorem clean_clean_map (ts : List Tm) : (ts.map cleanT).map cleanT = ts.map cleanT := by
  rw [List.map_map]
  exact List.map_congr_left fun t _ => clean_clean t

theorem sm_pisT (hs : List Bool) (t : Tm) (ht : smT 1000000 t) : ∀ (ts : List Tm) (i : Nat), (∀ x ∈ ts, smT 1000000 x) → smT 1000000 (pisT hs i ts t)
  | [], _, _ => ht
  | d :: l, i, h => sm_two 3 0 _ _ _ (h d (by simp)) (sm_pisT hs t ht l (i + 1) fun x hx => h x (by simp [hx]))

theorem clean_pihT (h : Bool) (d c : Tm) : cleanT (pihT h d c) = pihT h (cleanT d) (cleanT c) := by
  unfold pihT
  rw [clean_mk]
  simp
  rfl

/-- what was put around a term -/
theorem split_pis (hs : List Bool) (t : Tm) : ∀ (ts : List Tm) (i : Nat), ∃ l, splitT ts.length (cleanT (pisT hs i ts t)) = some (l, cleanT t) ∧ l.map (·.1) = ts.map cleanT
  | [], i => ⟨[], by rw [List.length_nil, splitT]; rfl, rfl⟩
  | d :: ts, i => by
    obtain ⟨l, h1, h2⟩ := split_pis hs t ts (i + 1)
    refine ⟨(cleanT d, hs.getD i false) :: l, ?_, by rw [List.map_cons, h2]; rfl⟩
    rw [pisT, clean_pihT, List.length_cons]
    unfold pihT
    rw [splitT_pi, h1]

/-- t applied to the first k of ts -/
def apN (hs : List Bool) (ts : List Tm) (t : Tm) : Nat → Tm
  | 0 => t
  | k + 1 => .mk 5 0 (hs.getD k false) { data := #[] } [] [apN hs ts t k, (ts[k]?).getD t]

theorem sm_apN (hs : List Bool) (ts : List Tm) (t : Tm) (ht : smT 1000000 t) (hts : ∀ x ∈ ts, smT 1000000 x) : ∀ k, smT 1000000 (apN hs ts t k)
  | 0 => ht
  | k + 1 => sm_two 5 0 _ _ _ (sm_apN hs ts t ht hts k) (by
    cases h : ts[k]? with
    | none => exact ht
    | some x => exact hts x (List.mem_of_getElem? h))

/-- the arguments of a row, as far as m TApps go -/
def spA : Nat → Tm → List Tm
  | m + 1, .mk 5 _ _ _ _ [f, a] => spA m f ++ [a]
  | _, _ => []

theorem spA_app (m : Nat) (n : Int) (h : Bool) (nm : ByteArray) (ls : List LvT) (f a : Tm) : spA (m + 1) (.mk 5 n h nm ls [f, a]) = spA m f ++ [a] := by rw [spA]

theorem spA_no (m : Nat) (t : Tm) (h : t.form ≠ 5) : spA m t = [] := by
  cases m with
  | zero => unfold spA; rfl
  | succ m =>
    cases t with
    | mk f n hd nm ls ks =>
      simp only [Tm.form] at h
      unfold spA
      split
      · rename_i e1 e2
        simp only [Tm.mk.injEq] at e2
        exact absurd e2.1 h
      · rfl

theorem spA_row {w : World} {xs : List (Value × Tm)} {v v' : Value} {t t' : Tm} (h : ApRow w xs v t v' t') : ∀ m, xs.length ≤ m → xs.reverse.map (fun x => argT x.2) = spA m t := by
  induction h with
  | nil _ hf => exact fun m _ => by rw [spA_no m _ hf]; rfl
  | cons _ _ _ _ _ ih =>
    intro m hm
    cases m with
    | zero => simp at hm
    | succ m =>
      rw [spA_app, ← ih m (by simpa using hm), List.reverse_cons, List.map_append]
      rfl

theorem clean_app (n : Int) (h : Bool) (nm : ByteArray) (ls : List LvT) (f a : Tm) : cleanT (.mk 5 n h nm ls [f, a]) = .mk 5 0 h ByteArray.empty [] [cleanT f, cleanT a] := by
  rw [clean_mk]
  simp

theorem spA_clean : ∀ (m : Nat) (t : Tm), formedB t = true → spA m (cleanT t) = (spA m t).map cleanT
  | 0, t, _ => by unfold spA; rfl
  | m + 1, t, hf => by
    by_cases h5 : t.form = 5
    · cases t with
      | mk f n h nm ls ks =>
        simp only [Tm.form] at h5
        subst h5
        have hf' := hf
        rw [formedB_mk, Bool.and_eq_true] at hf'
        match ks, hf, hf' with
        | [x, y], hf, hf' =>
          rw [clean_app, spA_app, spA_app, List.map_append, spA_clean m x (by
            have := hf'.2
            simp at this
            exact this.1)]
          rfl
        | [], hf, hf' => exact absurd hf'.1 (by simp [judB, kidsR, Tm.kids, Tm.form])
        | [_], hf, hf' => exact absurd hf'.1 (by simp [judB, kidsR, Tm.kids, Tm.form])
        | _ :: _ :: _ :: _, hf, hf' => exact absurd hf'.1 (by simp [judB, kidsR, Tm.kids, Tm.form]; omega)
    · rw [spA_no _ t h5, spA_no _ (cleanT t) (by rw [clean_form]; exact h5)]
      rfl

theorem spA_apN (hs : List Bool) (ts : List Tm) (t : Tm) (m : Nat) : ∀ k, k ≤ ts.length → spA (m + k) (cleanT (apN hs ts t k)) = spA m (cleanT t) ++ (ts.take k).map cleanT
  | 0, _ => by simp [apN]
  | k + 1, hk => by
    rw [apN, clean_app, ← Nat.add_assoc, spA_app, spA_apN hs ts t m k (by omega), List.append_assoc, List.take_add_one, List.map_append, List.getElem?_eq_getElem (by omega)]
    rfl
end Go.Proofs.Ythdcpodheimhaaa

/- tele.Pis, whatever is handed in. -/
namespace Go.Proofs.Ythdcpodheimhaaa
open Go.RowKit Go.Sort Go.Shelf Go.Lib

theorem TK.kv {w : World} {ad : Option Addr} {ts : List Tm} (h : TK w ad ts) (b0 : Nat) (hb0 : b0 < w.heap.size) : ∃ (kv : Nat → Value) (b o : Nat), b < w.heap.size ∧ (0 < ts.length → ad = some ⟨b, o, none⟩) ∧ ∀ i (hi : i < ts.length), CellsAt w b (o + i * 6) (kv i) ∧ TV w (kv i) ts[i] := by
  rcases h with rfl | ⟨b, o, ha, hlt, h⟩
  · exact ⟨fun _ => undef, b0, 0, hb0, fun h => by simp at h, fun i hi => by simp at hi⟩
  · have hex : ∀ i, ∃ v, ∀ hi : i < ts.length, CellsAt w b (o + i * 6) v ∧ TV w v ts[i] := fun i => by
      by_cases hi : i < ts.length
      · have hc := h i ts[i] (List.getElem?_eq_getElem hi)
        obtain ⟨v0, v1, v2, v3, l1, l2, l3, k1, k2, k3, c0, c1, c2, c3, c4, c5, hv⟩ := hc.valE
        exact ⟨_, fun _ => ⟨⟨v0, v1, v2, v3, l1, l2, l3, k1, k2, k3, rfl, c0, c1, c2, c3, c4, c5⟩, hv⟩⟩
      · exact ⟨undef, fun h => absurd h hi⟩
    obtain ⟨kv, hkv⟩ := Classical.skolem.1 hex
    exact ⟨kv, b, o, hlt, fun _ => ha, hkv⟩

attribute [local go_sem] Oper.semAt_some

set_option maxRecDepth 100000 in
set_option maxHeartbeats 4000000 in
theorem bound_no (ts : List Tm) (ha : Option Addr) (hn' hcp : Nat) (ad : Option Addr) (cap : Nat) (t : Tm) (v : Value) (w : World) (hL : TK w ad ts) (hv : TV w v t) (hn : ts.length ≤ 60) (hts : ∀ x ∈ ts, smT 1000000 x) (hsm : smT 1000000 t) (hf0 : faultR ts t ≠ 0) : Calls Try.prog 31 #[.int .i64 3, .slice ad ts.length cap, .slice ha hn' hcp, v] w fun e w' => e = .returned (.tuple #[zeroV, .int .i64 (faultR ts t)]) ∧ RowKit.Below w.heap.size w w' := by
  have HFA := fun (W : World) (h : RowKit.Below w.heap.size w W) => (callsIn_wide (n := 5)).2 (fault_any ts ad cap t v W (hL.on h) (hv.on h) hn hts hsm)
  have hf1 : (faultR ts t != 0) = true := by simpa using hf0
  obtain ⟨la, lc, ka, kc, rfl⟩ := hv.shape
  clear hv hts hsm hL hf0
  generalize faultR ts t = FR at *
  generalize t.form = f at *
  generalize t.n = n at *
  generalize t.hid = hd at *
  generalize t.name = nm at *
  generalize t.levels.length = l1 at *
  generalize t.kids.length = k1 at *
  obtain ⟨W0, hW0⟩ : ∃ W0, ((w.alloc (.cells #[.int .i64 3] 3)).alloc (.cells #[.int .i64 f, .int .i64 n, .bool hd, .string nm, .slice la l1 lc, .slice ka k1 kc] 25)).alloc (.cells #[.int .i64 0, .int .i64 0, .bool false, .string { data := #[] }, .slice none 0 0, .slice none 0 0] 25) = W0 := ⟨_, rfl⟩
  have hb0 : RowKit.Below w.heap.size w W0 := by rw [← hW0]; exact (((Below.refl _ _).alloc (Nat.le_refl _) _).alloc (by simp) _).alloc (by simp; omega) _
  have HX0 : Hid (W0.heap[w.heap.size + 1]? = some (.cells #[.int .i64 f, .int .i64 n, .bool hd, .string nm, .slice la l1 lc, .slice ka k1 kc] 25 (0, 0))) := by unfold Hid; rw [← hW0]; exact on1
  have HR0 : Hid (W0.heap[w.heap.size + 1 + 1]? = some (.cells #[.int .i64 0, .int .i64 0, .bool false, .string { data := #[] }, .slice none 0 0, .slice none 0 0] 25 (0, 0))) := by unfold Hid; rw [← hW0]; exact on2
  have HC0 := HFA W0 hb0
  have HB0 := Hid.mk hb0
  have HW0 := Hid.mk hW0
  obtain ⟨x0, x1, x2, x3, x4, x5, x6⟩ := cells6 HX0.out
  clear hW0 hb0 HFA
  refine (callsIn_wide (n := 6)).1 ?_
  refine callsIn_of_wp_marks Try.func31 rfl trivial ?_ rfl
  simp only [Try.ntmps31, List.size_toArray, List.length_cons, List.length_nil, Nat.reduceAdd, Nat.reduceSub, Array.replicate_succ, Array.replicate_zero, List.push_toArray, List.append_toArray, List.nil_append, List.cons_append]
  gi_wp2_with fail
  refine ⟨trivial, ?_⟩
  rw [HW0.out]
  refine HC0.mono ?_
  rintro e w1 ⟨rfl, hb1⟩
  have HR1 := Hid.mk ((hb1.block _ (heap_lt HR0.out)).trans HR0.out)
  have HB1 : Hid (RowKit.Below w.heap.size w w1) := HB0.out.trans (hb1.mono HB0.out.size)
  have hlr := heap_lt HR1.out
  clear HC0 hb1 x0 x1 x2 x3 x4 x5 x6
  obtain ⟨y0, y1, y2, y3, y4, y5, y6⟩ := cells6 HR1.out
  have yf := frz HR1.out
  gi_wp2
  have hzF := set6 (a0 := .int .i64 0) (a1 := .int .i64 0) (a2 := .bool false) (a3 := .string { data := #[] }) (a4 := .slice none 0 0) (a5 := .slice none 0 0) HR1.out
  obtain ⟨m0, m1, m2, m3, m4, m5, m6⟩ := cells6 hzF
  refine ⟨.tuple #[zeroV, .int .i64 FR], ?_, rfl, HB1.out.trans ((keep6 (P := fun k => k = w.heap.size + 1 + 1) rfl).below HB1.out.size (fun k hk => by omega))⟩
  simp [results, Try.f31, go_sem, zeroV, m0, m1, m2, m3, m4, m5]

/-- tele.bound, whatever is handed in -/
theorem bound_any (ts : List Tm) (hs : List Bool) (ha : Option Addr) (hcp : Nat) (ad : Option Addr) (cap : Nat) (t : Tm) (v : Value) (w : World) (b0 : Nat) (hb0 : b0 < w.heap.size) (hL : TK w ad ts) (hBK : BK w ha hs) (hv : TV w v t) (hn : ts.length ≤ 60) (hts : ∀ x ∈ ts, smT 1000000 x) (hsm : smT 1000000 t) : Calls Try.prog 31 #[.int .i64 3, .slice ad ts.length cap, .slice ha hs.length hcp, v] w fun e w' => (∃ v' c, e = .returned (.tuple #[v', .int .i64 c]) ∧ ShapeT v' ∧ (c = 0 → faultR ts t = 0 ∧ checkT (pisT hs 0 ts t) = 0 ∧ TO w' w.heap.size w'.heap.size v' (cleanT (pisT hs 0 ts t)))) ∧ RowKit.Below w.heap.size w w' := by
  by_cases hf0 : faultR ts t = 0
  · obtain ⟨kv, b, o, hb, had, hkv⟩ := hL.kv b0 hb0
    refine (bound_walk2 ts hs ha hcp kv ad b o cap t v w hL hb had hkv hBK hv hn hts hsm hf0 (sm_pisT hs t hsm ts 0 hts)).mono ?_
    rintro e w' ⟨⟨v', rfl, h1, h2⟩, h3⟩
    exact ⟨⟨v', _, rfl, h1, fun hc => ⟨hf0, hc, h2 hc⟩⟩, h3⟩
  · refine (bound_no ts ha hs.length hcp ad cap t v w hL hv hn hts hsm hf0).mono ?_
    rintro e w' ⟨rfl, h3⟩
    exact ⟨⟨zeroV, _, rfl, ⟨_, _, _, _, _, _, _, _, _, _, rfl⟩, fun h => absurd h hf0⟩, h3⟩

set_option maxRecDepth 100000 in
set_option maxHeartbeats 2000000 in
theorem Pis_any (ts : List Tm) (hs : List Bool) (ha : Option Addr) (hcp : Nat) (ad : Option Addr) (cap : Nat) (t : Tm) (v : Value) (w : World) (hL : TK w ad ts) (hBK : BK w ha hs) (hv : TV w v t) (hn : ts.length ≤ 60) (hts : ∀ x ∈ ts, smT 1000000 x) (hsm : smT 1000000 t) : Calls Try.prog 17 #[.slice ad ts.length cap, .slice ha hs.length hcp, v] w fun e w' => (∃ v' c, e = .returned (.tuple #[v', .int .i64 c]) ∧ ShapeT v' ∧ (c = 0 → faultR ts t = 0 ∧ checkT (pisT hs 0 ts t) = 0 ∧ TV w' v' (cleanT (pisT hs 0 ts t)))) ∧ RowKit.Below w.heap.size w w' := by
  have HBO := fun (W : World) (h : RowKit.Below w.heap.size w W) (hlt : w.heap.size < W.heap.size) => bound_any ts hs ha hcp ad cap t v W w.heap.size hlt (hL.on h) (hBK.on h) (hv.on h) hn hts hsm
  obtain ⟨la, lc, ka, kc, rfl⟩ := hv.shape
  clear hv hts hsm hL hBK
  generalize t.form = f at *
  generalize t.n = n at *
  generalize t.hid = hd at *
  generalize t.name = nm at *
  generalize t.levels.length = l1 at *
  generalize t.kids.length = k1 at *
  obtain ⟨W0, hW0⟩ : ∃ W0, (w.alloc (.cells #[.int .i64 f, .int .i64 n, .bool hd, .string nm, .slice la l1 lc, .slice ka k1 kc] 25)).alloc (.cells #[.int .i64 0, .int .i64 0, .bool false, .string { data := #[] }, .slice none 0 0, .slice none 0 0] 25) = W0 := ⟨_, rfl⟩
  have hb0 : RowKit.Below w.heap.size w W0 := by rw [← hW0]; exact ((Below.refl _ _).alloc (Nat.le_refl _) _).alloc (by simp) _
  have HR0 : Hid (W0.heap[w.heap.size + 1]? = some (.cells #[.int .i64 0, .int .i64 0, .bool false, .string { data := #[] }, .slice none 0 0, .slice none 0 0] 25 (0, 0))) := by unfold Hid; rw [← hW0]; exact box_at1
  have HC0 := HBO W0 hb0 (by have := heap_lt HR0.out; omega)
  have HB0 := Hid.mk hb0
  have HW0 := Hid.mk hW0
  clear hW0 hb0 HBO
  go_enter Try.func17, Try.ntmps17
  go_wp2_with fail
  rw [HW0.out]
  refine HC0.mono ?_
  rintro e w2 ⟨⟨v2, c, rfl, ⟨u0, u1, u2, u3, u4, u5, u6, u7, u8, u9, rfl⟩, hto2⟩, hb2⟩
  have HR2 := Hid.mk ((hb2.block _ (heap_lt HR0.out)).trans HR0.out)
  have HB2 : Hid (RowKit.Below w.heap.size w w2) := HB0.out.trans (hb2.mono HB0.out.size)
  have HTO2 := Hid.mk hto2
  have hs1 : w.heap.size + 1 < W0.heap.size := heap_lt HR0.out
  obtain ⟨y0, y1, y2, y3, y4, y5, y6⟩ := cells6 HR2.out
  have yf := frz HR2.out
  clear hto2 hb2 HC0
  go_wp2
  refine bodyPost_ret (v := .tuple #[.agg #[.int .i64 u0, .int .i64 u1, .bool u2, .string u3, .slice u4 u5 u6, .slice u7 u8 u9], .int .i64 c]) (by simp [results, Try.results17, go_sem, y0, y1, y2, y3, y4, y5]) rfl ⟨⟨_, c, rfl, ⟨_, _, _, _, _, _, _, _, _, _, rfl⟩, fun hc => ⟨(HTO2.out hc).1, (HTO2.out hc).2.1, ?_⟩⟩, ?_⟩
  · exact ((HTO2.out hc).2.2.on (fun k h1 h2 => (keep6 (P := fun k => k = w.heap.size + 1) rfl).block k h2 (by omega))).tv
  · exact HB2.out.trans ((keep6 (P := fun k => k = w.heap.size + 1) rfl).below HB2.out.size (fun k hk => by omega))
end Go.Proofs.Ythdcpodheimhaaa

/- tele.Apply, whatever is handed in. -/
namespace Go.Proofs.Ythdcpodheimhaaa
open Go.RowKit Go.Sort Go.Shelf Go.Lib

theorem wpAnyM_take2 {P : Program} {ops : Array Oper} {Q : Exit → Act → World → Prop} {md : Region.Mode} {S : World → Prop} {late : Nat → Bool} {i : Nat} {oi : Oper} {v : Value} {d : Option Tmp} {fuel : Nat} {listed : Array Bool} {a : Act} {w : World} (hi : ops[i]? = some oi) (hd : oi.dst = d)
    (hs : Region.noSelect ops = true) (hf : Region.free md ops listed i = true) (hr : (Region.ready md ops listed).contains i = true) (hw : waitsM md ops late i = true)
    (hQ : ∀ c a w, Q (.panic c) (a.put d v) w → Q (.panic c) a w) (hy : YieldsIf P ops S oi v a) (hS : S w)
    (h : wpAnyM P md ops Q S late fuel (listed.setIfInBounds i true) (a.put d v) w) : wpAnyM P md ops Q S late (fuel + 1) listed a w := by
  subst hd
  exact wpAnyM_take hi hs hf hr hw hQ hy hS h

attribute [local go_sem] Oper.semAt_some

set_option maxRecDepth 100000 in
set_option maxHeartbeats 8000000 in
theorem applied_walk (ts : List Tm) (hs : List Bool) (ha : Option Addr) (hcp : Nat) (ad : Option Addr) (cap s1 : Nat) (t : Tm) (v : Value) (w : World) (hL : TK w ad ts) (hBK : BK w ha hs) (hs1 : w.heap[s1]? = some (.cells #[.slice ha hs.length hcp] 28 (0, 0))) (hv : TV w v t) (hn : ts.length ≤ 60) : Calls Try.prog 34 #[v, .func (.func 48) #[] #[.pointer (some ⟨s1, 0, none⟩)], .slice ad ts.length cap] w fun e w' => (∃ v', e = .returned v' ∧ ShapeT v' ∧ TV w' v' (apN hs ts t ts.length)) ∧ RowKit.Below w.heap.size w w' := by
  have HV := Hid.mk hv
  have HL := Hid.mk hL
  have HBK := Hid.mk hBK
  have HSB := Hid.mk hs1
  have mx := mixed
  obtain ⟨la, lc, ka, kc, rfl⟩ := hv.shape
  have hls := heap_lt hs1
  clear hv hL hBK hs1
  generalize t.form = f at *
  generalize t.n = n at *
  generalize t.hid = hd at *
  generalize t.name = nm at *
  generalize t.levels.length = l1 at *
  generalize t.kids.length = k1 at *
  obtain ⟨W0, hW0⟩ : ∃ W0, (w.alloc (.cells #[.int .i64 f, .int .i64 n, .bool hd, .string nm, .slice la l1 lc, .slice ka k1 kc] 25)).alloc (.cells #[.int .i64 0, .int .i64 0, .bool false, .string { data := #[] }, .slice none 0 0, .slice none 0 0] 25) = W0 := ⟨_, rfl⟩
  have hb0 : RowKit.Below w.heap.size w W0 := by rw [← hW0]; exact ((Below.refl _ _).alloc (Nat.le_refl _) _).alloc (by simp) _
  have HX0 : Hid (W0.heap[w.heap.size]? = some (.cells #[.int .i64 f, .int .i64 n, .bool hd, .string nm, .slice la l1 lc, .slice ka k1 kc] 25 (0, 0))) := by unfold Hid; rw [← hW0]; exact box_at
  have HR0 : Hid (W0.heap[w.heap.size + 1]? = some (.cells #[.int .i64 0, .int .i64 0, .bool false, .string { data := #[] }, .slice none 0 0, .slice none 0 0] 25 (0, 0))) := by unfold Hid; rw [← hW0]; exact box_at1
  have hTF0 : TF W0 (fun k => decide (k = w.heap.size ∨ k = w.heap.size + 1)) (.agg #[.int .i64 f, .int .i64 n, .bool hd, .string nm, .slice la l1 lc, .slice ka k1 kc]) (apN hs ts t 0) := TF.on (HV.out.tf (fun k hk => by rw [decide_eq_false_iff_not]; omega)) hb0
  have HTF0 := Hid.mk hTF0
  have hl0 : w.heap.size + 1 < W0.heap.size := heap_lt HR0.out
  have HB0 := Hid.mk hb0
  have HW0 := Hid.mk hW0
  clear hW0 hb0 hTF0
  go_enter Try.func34, Try.ntmps34
  go_wp2
  rw [HW0.out]
  go_loopw [11] (fun (i : Value) (wr : World) => ∃ (k : Nat) (q0 q1 : Int) (q2 : Bool) (q3 : ByteArray) (q4 : Option Addr) (q5 q6 : Nat) (q7 : Option Addr) (q8 q9 : Nat), k ≤ ts.length ∧ i = .int .i64 k ∧ wr.heap[w.heap.size]? = some (.cells #[.int .i64 q0, .int .i64 q1, .bool q2, .string q3, .slice q4 q5 q6, .slice q7 q8 q9] 25 (0, 0)) ∧ TF wr (fun k => decide (k = w.heap.size ∨ k = w.heap.size + 1)) (.agg #[.int .i64 q0, .int .i64 q1, .bool q2, .string q3, .slice q4 q5 q6, .slice q7 q8 q9]) (apN hs ts t k) ∧ Kept (fun k => k = w.heap.size) W0 wr) (fun i _ => ts.length - (intOf i).toNat)
  case atStart => exact ⟨0, f, n, hd, nm, la, l1, lc, ka, k1, kc, Nat.zero_le _, rfl, HX0.out, HTF0.out, Kept.refl _ _⟩
  case round =>
    obtain ⟨k, q0, q1, q2, q3, q4, q5, q6, q7, q8, q9, hk, rfl, hX, hTF, hK⟩ := hrel
    have HX := Hid.mk hX
    have HTF := Hid.mk hTF
    have HK := Hid.mk hK
    have hszr := hK.size
    have hBw : RowKit.Below w.heap.size w wr := HB0.out.trans (hK.below (by omega) (fun k hk => by omega))
    have HBW := Hid.mk hBw
    have HZ := Hid.mk ((hK.block _ (heap_lt HR0.out) (by omega)).trans HR0.out)
    clear hX hTF hK hBw
    by_cases hlt : k < ts.length
    · have hbk : ts[k]? = some ts[k] := List.getElem?_eq_getElem hlt
      obtain ⟨ba, oo, rfl, hla, hta⟩ := HL.out.resolve_left (by intro e; subst e; simp at hlt)
      obtain ⟨a0, a1, a2, a3, a4, a5, a6, a7, a8, a9, i0, i1, i2, i3, i4, i5, hva⟩ := (hta k ts[k] hbk).valE
      have hbl := HBW.out.block ba hla
      have j0 := (World.cell?_of_block (a := ⟨ba, oo + k * 6, none⟩) hbl).trans i0
      have j1 := (World.cell?_of_block (a := ⟨ba, oo + k * 6 + 1, none⟩) hbl).trans i1
      have j2 := (World.cell?_of_block (a := ⟨ba, oo + k * 6 + 2, none⟩) hbl).trans i2
      have j3 := (World.cell?_of_block (a := ⟨ba, oo + k * 6 + 3, none⟩) hbl).trans i3
      have j4 := (World.cell?_of_block (a := ⟨ba, oo + k * 6 + 4, none⟩) hbl).trans i4
      have j5 := (World.cell?_of_block (a := ⟨ba, oo + k * 6 + 5, none⟩) hbl).trans i5
      have hbar : ba < wr.heap.size := by have := HBW.out.size; omega
      obtain ⟨W1, hW1⟩ : ∃ W1, wr.alloc (.cells #[.int .i64 a0, .int .i64 a1, .bool a2, .string a3, .slice a4 a5 a6, .slice a7 a8 a9] 25) = W1 := ⟨_, rfl⟩
      have hb1 : RowKit.Below wr.heap.size wr W1 := by rw [← hW1]; exact (Below.refl _ _).alloc (Nat.le_refl _) _
      have hs1 : W1.heap.size = wr.heap.size + 1 := by rw [← hW1]; simp
      have HXA : Hid (W1.heap[wr.heap.size]? = some (.cells #[.int .i64 a0, .int .i64 a1, .bool a2, .string a3, .slice a4 a5 a6, .slice a7 a8 a9] 25 (0, 0))) := by unfold Hid; rw [← hW1]; exact alloc_new _ _
      have HX1 := Hid.mk ((hb1.block _ (heap_lt HX.out)).trans HX.out)
      obtain ⟨W6, hW6⟩ : ∃ W6, (W1.alloc (.cells #[.int .i64 q0, .int .i64 q1, .bool q2, .string q3, .slice q4 q5 q6, .slice q7 q8 q9, .int .i64 a0, .int .i64 a1, .bool a2, .string a3, .slice a4 a5 a6, .slice a7 a8 a9] 25)).drew = W6 := ⟨_, rfl⟩
      have hW6' : W1.drew.alloc (.cells #[.int .i64 q0, .int .i64 q1, .bool q2, .string q3, .slice q4 q5 q6, .slice q7 q8 q9, .int .i64 a0, .int .i64 a1, .bool a2, .string a3, .slice a4 a5 a6, .slice a7 a8 a9] 25) = W6 := hW6
      have hb6 : RowKit.Below W1.heap.size W1 W6 := by rw [← hW6']; exact (Below.refl _ W1).drew.alloc (Nat.le_refl _) _
      have hn6 : W6.heap[wr.heap.size + 1]? = some (.cells #[.int .i64 q0, .int .i64 q1, .bool q2, .string q3, .slice q4 q5 q6, .slice q7 q8 q9, .int .i64 a0, .int .i64 a1, .bool a2, .string a3, .slice a4 a5 a6, .slice a7 a8 a9] 25 (0, 0)) := by rw [← hs1, ← hW6']; exact alloc_new W1.drew _
      have hbr6 : RowKit.Below wr.heap.size wr W6 := hb1.trans (hb6.mono hb1.size)
      have hbw6 : RowKit.Below w.heap.size w W6 := HBW.out.trans (hbr6.mono HBW.out.size)
      have hX6 := (hbr6.block _ (heap_lt HX.out)).trans HX.out
      have hKs : Kept (fun k => k = w.heap.size) W6 (set6W W6 w.heap.size (.int .i64 5) (.int .i64 0) (.bool (hs[k]?.getD false)) (.string { data := #[] }) (.slice none 0 0) (.slice (some ⟨wr.heap.size + 1, 0, none⟩) 2 2)) := keep6 rfl
      have hlw := heap_lt HX.out
      have hT6 : TF W6 (fun k => decide (k = w.heap.size ∨ k = w.heap.size + 1)) (.agg #[.int .i64 5, .int .i64 0, .bool (hs[k]?.getD false), .string { data := #[] }, .slice none 0 0, .slice (some ⟨wr.heap.size + 1, 0, none⟩) 2 2]) (apN hs ts t (k + 1)) := by
        have h := TF.twoH (f := 5) (h := hs[k]?.getD false) (TF.on HTF.out hbr6) (TF.on (hva.tf (P := (fun k => decide (k = w.heap.size ∨ k = w.heap.size + 1))) (fun k hk => by rw [decide_eq_false_iff_not]; omega)) hbw6) hn6 (by rw [decide_eq_false_iff_not]; omega)
        rw [apN, hbk]
        exact h
      have HEND : Hid ((fun (i : Value) (wr : World) => ∃ (k : Nat) (q0 q1 : Int) (q2 : Bool) (q3 : ByteArray) (q4 : Option Addr) (q5 q6 : Nat) (q7 : Option Addr) (q8 q9 : Nat), k ≤ ts.length ∧ i = .int .i64 k ∧ wr.heap[w.heap.size]? = some (.cells #[.int .i64 q0, .int .i64 q1, .bool q2, .string q3, .slice q4 q5 q6, .slice q7 q8 q9] 25 (0, 0)) ∧ TF wr (fun k => decide (k = w.heap.size ∨ k = w.heap.size + 1)) (.agg #[.int .i64 q0, .int .i64 q1, .bool q2, .string q3, .slice q4 q5 q6, .slice q7 q8 q9]) (apN hs ts t k) ∧ Kept (fun k => k = w.heap.size) W0 wr) (Value.int .i64 ((k : Int) + 1)) (set6W W6 w.heap.size (.int .i64 5) (.int .i64 0) (.bool (hs[k]?.getD false)) (.string { data := #[] }) (.slice none 0 0) (.slice (some ⟨wr.heap.size + 1, 0, none⟩) 2 2)) ∧ ts.length - (intOf (Value.int .i64 ((k : Int) + 1))).toNat < ts.length - (intOf (Value.int .i64 (k : Int))).toNat) := by
        refine ⟨⟨k + 1, 5, 0, hs[k]?.getD false, { data := #[] }, none, 0, 0, some ⟨wr.heap.size + 1, 0, none⟩, 2, 2, hlt, rfl, set6 hX6, hT6.move hKs.size (fun j h1 h2 => ⟨h2, hKs.block j h1 (by rw [decide_eq_false_iff_not] at h2; exact fun e => h2 (Or.inl e))⟩), ?_⟩, by simp only [intOf]; omega⟩
        have hs6 := hbr6.size
        exact ⟨hKs.os.trans (hbr6.os.trans HK.out.os), hKs.tape.trans (hbr6.tape.trans HK.out.tape), hKs.output.trans (hbr6.output.trans HK.out.output), Nat.le_trans (Nat.le_trans hszr hs6) hKs.size, fun j hj hne => (hKs.block j (by omega) hne).trans ((hbr6.block j (by omega)).trans (HK.out.block j hj hne))⟩
      have HCEL : Hid (∀ Wx : World, (∀ j, j < W1.heap.size → Wx.heap[j]? = W1.heap[j]?) → (fun w' => w'.cell? ⟨w.heap.size, 0, none⟩ = some (.int .i64 q0) ∧ w'.cell? ⟨w.heap.size, 1, none⟩ = some (.int .i64 q1) ∧ w'.cell? ⟨w.heap.size, 2, none⟩ = some (.bool q2) ∧ w'.cell? ⟨w.heap.size, 3, none⟩ = some (.string q3) ∧ w'.cell? ⟨w.heap.size, 4, none⟩ = some (.slice q4 q5 q6) ∧ w'.cell? ⟨w.heap.size, 5, none⟩ = some (.slice q7 q8 q9) ∧ w'.cell? ⟨wr.heap.size, 0, none⟩ = some (.int .i64 a0) ∧ w'.cell? ⟨wr.heap.size, 1, none⟩ = some (.int .i64 a1) ∧ w'.cell? ⟨wr.heap.size, 2, none⟩ = some (.bool a2) ∧ w'.cell? ⟨wr.heap.size, 3, none⟩ = some (.string a3) ∧ w'.cell? ⟨wr.heap.size, 4, none⟩ = some (.slice a4 a5 a6) ∧ w'.cell? ⟨wr.heap.size, 5, none⟩ = some (.slice a7 a8 a9)) Wx) := fun Wx h => by
        obtain ⟨c0, c1, c2, c3, c4, c5, -⟩ := cells6 ((h _ (heap_lt HX1.out)).trans HX1.out)
        obtain ⟨e0, e1, e2, e3, e4, e5, -⟩ := cells6 ((h _ (heap_lt HXA.out)).trans HXA.out)
        exact ⟨c0, c1, c2, c3, c4, c5, e0, e1, e2, e3, e4, e5⟩
      have hbw1 : RowKit.Below w.heap.size w W1 := HBW.out.trans (hb1.mono HBW.out.size)
      have HSB1 : Hid (W1.drew.heap[s1]? = some (.cells #[.slice ha hs.length hcp] 28 (0, 0))) := (hbw1.block _ hls).trans HSB.out
      have HSB6 : Hid (W6.heap[s1]? = some (.cells #[.slice ha hs.length hcp] 28 (0, 0))) := (hbw6.block _ hls).trans HSB.out
      have HBK1 : Hid (BK W1.drew ha hs) := HBK.out.on hbw1.drew
      have HBK6 : Hid (BK W6 ha hs) := HBK.out.on hbw6
      have HB6 := Hid.mk hb6
      have HW6 := Hid.mk hW6
      have HW1 := Hid.mk hW1
      obtain ⟨m0, m1, m2, m3, m4, m5, m6⟩ := cells6 hX6
      have mf := frz hX6
      have zk : (k : Int) < (ts.length : Int) := by omega
      have zk1 : (k : Int) + 1 ≤ 100 := by omega
      clear hva hta hbk hb1 hW1 hW6 hW6' hb6 hn6 hbr6 hbw6 hX6 hKs hT6 hbw1 i0 i1 i2 i3 i4 i5 hbl
      go_wp2_with (rw [HW1.out])
      refine wp_region_late (S := fun w' => w'.cell? ⟨w.heap.size, 0, none⟩ = some (.int .i64 q0) ∧ w'.cell? ⟨w.heap.size, 1, none⟩ = some (.int .i64 q1) ∧ w'.cell? ⟨w.heap.size, 2, none⟩ = some (.bool q2) ∧ w'.cell? ⟨w.heap.size, 3, none⟩ = some (.string q3) ∧ w'.cell? ⟨w.heap.size, 4, none⟩ = some (.slice q4 q5 q6) ∧ w'.cell? ⟨w.heap.size, 5, none⟩ = some (.slice q7 q8 q9) ∧ w'.cell? ⟨wr.heap.size, 0, none⟩ = some (.int .i64 a0) ∧ w'.cell? ⟨wr.heap.size, 1, none⟩ = some (.int .i64 a1) ∧ w'.cell? ⟨wr.heap.size, 2, none⟩ = some (.bool a2) ∧ w'.cell? ⟨wr.heap.size, 3, none⟩ = some (.string a3) ∧ w'.cell? ⟨wr.heap.size, 4, none⟩ = some (.slice a4 a5 a6) ∧ w'.cell? ⟨wr.heap.size, 5, none⟩ = some (.slice a7 a8 a9)) (fun i => decide (7 ≤ i)) mx ?_ (fun hHeld => ?_)
      · (try dsimp only)
        exact HCEL.out _ (fun j _ => rfl)
      refine wpAnyM_take2 (i := 0) (v := .func (.func 48) #[] #[.pointer (some ⟨s1, 0, none⟩)]) (d := some 16) rfl (by kernel_rfl) (by kernel_rfl) (by kernel_rfl) (by kernel_rfl) (by kernel_rfl) (fun _ _ _ h => h) (Or.inl ⟨by kernel_rfl, fun _ _ => by kernel_rfl⟩) (by assumption) ?_
      refine wpAnyM_take2 (i := 1) (v := .int .i64 k) (d := some 17) rfl (by kernel_rfl) (by kernel_rfl) (by kernel_rfl) (by kernel_rfl) (by kernel_rfl) (fun _ _ _ h => h) (Or.inl ⟨by kernel_rfl, fun _ _ => by kernel_rfl⟩) (by assumption) ?_
      refine wpAnyM_take2 (i := 3) (v := .agg #[.int .i64 q0, .int .i64 q1, .bool q2, .string q3, .slice q4 q5 q6, .slice q7 q8 q9]) (d := some 19) rfl (by kernel_rfl) (by kernel_rfl) (by kernel_rfl) (by kernel_rfl) (by kernel_rfl) (fun _ _ _ h => h) (yl_load (t := 25) (x := .tmp 3) (p := .pointer (some ⟨w.heap.size, 0, none⟩)) rfl (by kernel_rfl) (by kernel_rfl) (fun w hSw => by (try dsimp only at hSw); go_simp)) (by assumption) ?_
      refine wpAnyM_take2 (i := 4) (v := .agg #[.int .i64 a0, .int .i64 a1, .bool a2, .string a3, .slice a4 a5 a6, .slice a7 a8 a9]) (d := some 20) rfl (by kernel_rfl) (by kernel_rfl) (by kernel_rfl) (by kernel_rfl) (by kernel_rfl) (fun _ _ _ h => h) (yl_load (t := 25) (x := .tmp 8) (p := .pointer (some ⟨wr.heap.size, 0, none⟩)) rfl (by kernel_rfl) (by kernel_rfl) (fun w hSw => by (try dsimp only at hSw); go_simp)) (by assumption) ?_
      refine wpAnyM_two (i := 2) (k := 5) (by kernel_rfl) ?_ ?_
      · (skip)
        refine ⟨_, rfl, fun K hK => ?_⟩
        go_simp
        go_at_call 48
        refine (told1_any s1 ha hcp hs k W1.drew HSB1.out HBK1.out).mono ?_
        rintro e w7 ⟨rfl, hw7⟩
        rw [hw7]
        clear hw7
        refine hK.out _ _ (fun _ => ?_) (fun hHeld => ?_)
        · (try dsimp only)
          exact HCEL.out _ (fun j _ => rfl)
        replace hHeld := hHeld rfl
        clear hK K
        refine wpAnyM_one (i := 5) (by kernel_rfl) ?_
        refine ⟨_, rfl, fun K hK => ?_⟩
        go_simp
        rw [HW6.out]
        refine hK.out _ _ (fun _ => ?_) (fun hHeld => ?_)
        · (try dsimp only)
          exact HCEL.out _ (fun j hj => HB6.out.block j hj)
        replace hHeld := hHeld rfl
        clear hK K
        refine wpAnyM_one (i := 6) (by kernel_rfl) ?_
        refine ⟨_, rfl, fun K hK => ?_⟩
        go_simp
        refine hK.out _ _ (fun _ => ?_) (fun hHeld => ?_)
        · (try dsimp only)
          exact hHeld
        replace hHeld := hHeld rfl
        clear hK K
        refine wpAnyM_one (i := 7) (by kernel_rfl) ?_
        refine ⟨_, rfl, fun K hK => ?_⟩
        go_simp
        refine hK.out _ _ (fun h => by cases h) (fun _ => ?_)
        clear hK K
        refine wpAnyM_done (by kernel_rfl) ?_ _
        go_wp2
        exact HEND.out
      · (skip)
        refine ⟨_, rfl, fun K hK => ?_⟩
        go_simp
        rw [HW6.out]
        refine hK.out _ _ (fun _ => ?_) (fun hHeld => ?_)
        · (try dsimp only)
          exact HCEL.out _ (fun j hj => HB6.out.block j hj)
        replace hHeld := hHeld rfl
        clear hK K
        refine wpAnyM_one (i := 2) (by kernel_rfl) ?_
        refine ⟨_, rfl, fun K hK => ?_⟩
        go_simp
        go_at_call 48
        refine (told1_any s1 ha hcp hs k W6 HSB6.out HBK6.out).mono ?_
        rintro e w7 ⟨rfl, hw7⟩
        rw [hw7]
        clear hw7
        refine hK.out _ _ (fun _ => ?_) (fun hHeld => ?_)
        · (try dsimp only)
          exact hHeld
        replace hHeld := hHeld rfl
        clear hK K
        refine wpAnyM_one (i := 6) (by kernel_rfl) ?_
        refine ⟨_, rfl, fun K hK => ?_⟩
        go_simp
        refine hK.out _ _ (fun _ => ?_) (fun hHeld => ?_)
        · (try dsimp only)
          exact hHeld
        replace hHeld := hHeld rfl
        clear hK K
        refine wpAnyM_one (i := 7) (by kernel_rfl) ?_
        refine ⟨_, rfl, fun K hK => ?_⟩
        go_simp
        refine hK.out _ _ (fun h => by cases h) (fun _ => ?_)
        clear hK K
        refine wpAnyM_done (by kernel_rfl) ?_ _
        go_wp2
        exact HEND.out
    · have hkl : k = ts.length := by omega
      subst hkl
      obtain ⟨x0, x1, x2, x3, x4, x5, x6⟩ := cells6 HX.out
      obtain ⟨y0, y1, y2, y3, y4, y5, y6⟩ := cells6 HZ.out
      have yf := frz HZ.out
      go_wp2
      have hK9 : Kept (fun k => k = w.heap.size + 1) wr (set6W wr (w.heap.size + 1) (.int .i64 q0) (.int .i64 q1) (.bool q2) (.string q3) (.slice q4 q5 q6) (.slice q7 q8 q9)) := keep6 rfl
      refine bodyPost_ret (v := .agg #[.int .i64 q0, .int .i64 q1, .bool q2, .string q3, .slice q4 q5 q6, .slice q7 q8 q9]) (by simp [results, Try.results34, go_sem, y0, y1, y2, y3, y4, y5]) rfl ⟨⟨_, rfl, ⟨_, _, _, _, _, _, _, _, _, _, rfl⟩, ?_⟩, HBW.out.trans (hK9.below HBW.out.size (fun k hk => by omega))⟩
      exact (HTF.out.move (Q := fun _ => false) hK9.size (fun j h1 h2 => ⟨rfl, hK9.block j h1 (by rw [decide_eq_false_iff_not] at h2; exact fun e => h2 (Or.inr e))⟩)).tv
end Go.Proofs.Ythdcpodheimhaaa

/- tele.Apply, whatever is handed in. -/
namespace Go.Proofs.Ythdcpodheimhaaa
open Go.RowKit Go.Sort Go.Shelf Go.Lib

attribute [local go_sem] Oper.semAt_some

set_option maxRecDepth 100000 in
set_option maxHeartbeats 8000000 in
theorem Apply_any (ts : List Tm) (hs : List Bool) (ha : Option Addr) (hcp : Nat) (ad : Option Addr) (cap : Nat) (t : Tm) (v : Value) (w : World) (hL : TK w ad ts) (hBK : BK w ha hs) (hv : TV w v t) (hn : ts.length ≤ 60) (hts : ∀ x ∈ ts, smT 1000000 x) (hsm : smT 1000000 t) : Calls Try.prog 19 #[v, .slice ad ts.length cap, .slice ha hs.length hcp] w fun e w' => (∃ v' c, e = .returned (.tuple #[v', .int .i64 c]) ∧ ShapeT v' ∧ (c = 0 → faultR ts t = 0 ∧ checkT (apN hs ts t ts.length) = 0 ∧ TV w' v' (cleanT (apN hs ts t ts.length)))) ∧ RowKit.Below w.heap.size w w' := by
  have HFA := fun (W : World) (h : RowKit.Below w.heap.size w W) => fault_any ts ad cap t v W (hL.on h) (hv.on h) hn hts hsm
  have HAPX : Hid (∀ (W : World) (s1 : Nat), RowKit.Below w.heap.size w W → W.heap[s1]? = some (.cells #[.slice ha hs.length hcp] 28 (0, 0)) → Calls Try.prog 34 #[v, .func (.func 48) #[] #[.pointer (some ⟨s1, 0, none⟩)], .slice ad ts.length cap] W fun e w' => (∃ v', e = .returned v' ∧ ShapeT v' ∧ TV w' v' (apN hs ts t ts.length)) ∧ RowKit.Below W.heap.size W w') := fun W s1 h hb => applied_walk ts hs ha hcp ad cap s1 t v W (hL.on h) (hBK.on h) hb (hv.on h) hn
  have HSM := Hid.mk (sm_apN hs ts t hsm hts ts.length)
  have mx := mixed
  obtain ⟨la, lc, ka, kc, rfl⟩ := hv.shape
  clear hv hts hsm hL hBK
  obtain ⟨FR, hFR⟩ : ∃ FR, faultR ts t = FR := ⟨_, rfl⟩
  rw [hFR] at HFA ⊢
  have HFR := Hid.mk hFR
  clear hFR
  generalize t.form = f at *
  generalize t.n = n at *
  generalize t.hid = hd at *
  generalize t.name = nm at *
  generalize t.levels.length = l1 at *
  generalize t.kids.length = k1 at *
  obtain ⟨W0, hW0⟩ : ∃ W0, (w.alloc (.cells #[.int .i64 f, .int .i64 n, .bool hd, .string nm, .slice la l1 lc, .slice ka k1 kc] 25)).alloc (.cells #[.int .i64 0, .int .i64 0, .bool false, .string { data := #[] }, .slice none 0 0, .slice none 0 0] 25) = W0 := ⟨_, rfl⟩
  have hb0 : RowKit.Below w.heap.size w W0 := by rw [← hW0]; exact ((Below.refl _ _).alloc (Nat.le_refl _) _).alloc (by simp) _
  have HX0 : Hid (W0.heap[w.heap.size]? = some (.cells #[.int .i64 f, .int .i64 n, .bool hd, .string nm, .slice la l1 lc, .slice ka k1 kc] 25 (0, 0))) := by unfold Hid; rw [← hW0]; exact box_at
  have HR0 : Hid (W0.heap[w.heap.size + 1]? = some (.cells #[.int .i64 0, .int .i64 0, .bool false, .string { data := #[] }, .slice none 0 0, .slice none 0 0] 25 (0, 0))) := by unfold Hid; rw [← hW0]; exact box_at1
  have HC0 := HFA W0 hb0
  have HB0 := Hid.mk hb0
  have HW0 := Hid.mk hW0
  obtain ⟨x0, x1, x2, x3, x4, x5, x6⟩ := cells6 HX0.out
  clear hW0 hb0 HFA
  go_enter Try.func19, Try.ntmps19
  go_wp2_with fail
  rw [HW0.out]
  refine HC0.mono ?_
  rintro e w1 ⟨rfl, hb1⟩
  have HX1 := Hid.mk ((hb1.block _ (heap_lt HX0.out)).trans HX0.out)
  have HR1 := Hid.mk ((hb1.block _ (heap_lt HR0.out)).trans HR0.out)
  have HB1 : Hid (RowKit.Below w.heap.size w w1) := HB0.out.trans (hb1.mono HB0.out.size)
  have hlr : w.heap.size + 1 < w1.heap.size := heap_lt HR1.out
  clear HC0 hb1 x0 x1 x2 x3 x4 x5 x6
  by_cases hf0 : FR = 0
  · subst hf0
    have HAPP : Hid (∀ (W : World) (s1 : Nat), RowKit.Below w1.heap.size w1 W → W.heap[s1]? = some (.cells #[.slice ha hs.length hcp] 28 (0, 0)) → Calls Try.prog 34 #[.agg #[.int .i64 f, .int .i64 n, .bool hd, .string nm, .slice la l1 lc, .slice ka k1 kc], .func (.func 48) #[] #[.pointer (some ⟨s1, 0, none⟩)], .slice ad ts.length cap] W fun e w' => (∃ v', e = .returned v' ∧ ShapeT v' ∧ TV w' v' (apN hs ts t ts.length)) ∧ RowKit.Below W.heap.size W w') := fun W s1 h hb => HAPX.out W s1 (HB1.out.trans (h.mono HB1.out.size)) hb
    have HCEL : Hid (∀ Wx : World, (∀ j, j < w1.heap.size → j ≠ w.heap.size + 1 → Wx.heap[j]? = w1.heap[j]?) → (fun w' => w'.cell? ⟨w.heap.size, 0, none⟩ = some (.int .i64 f) ∧ w'.cell? ⟨w.heap.size, 1, none⟩ = some (.int .i64 n) ∧ w'.cell? ⟨w.heap.size, 2, none⟩ = some (.bool hd) ∧ w'.cell? ⟨w.heap.size, 3, none⟩ = some (.string nm) ∧ w'.cell? ⟨w.heap.size, 4, none⟩ = some (.slice la l1 lc) ∧ w'.cell? ⟨w.heap.size, 5, none⟩ = some (.slice ka k1 kc)) Wx) := fun Wx h => by
      obtain ⟨c0, c1, c2, c3, c4, c5, -⟩ := cells6 ((h _ (heap_lt HX1.out) (by omega)).trans HX1.out)
      exact ⟨c0, c1, c2, c3, c4, c5⟩
    clear HAPX
    go_wp2_with fail
    refine wp_region_late (S := fun w' => w'.cell? ⟨w.heap.size, 0, none⟩ = some (.int .i64 f) ∧ w'.cell? ⟨w.heap.size, 1, none⟩ = some (.int .i64 n) ∧ w'.cell? ⟨w.heap.size, 2, none⟩ = some (.bool hd) ∧ w'.cell? ⟨w.heap.size, 3, none⟩ = some (.string nm) ∧ w'.cell? ⟨w.heap.size, 4, none⟩ = some (.slice la l1 lc) ∧ w'.cell? ⟨w.heap.size, 5, none⟩ = some (.slice ka k1 kc)) (fun _ => false) mx ?_ (fun hHeld => ?_)
    · (try dsimp only)
      exact HCEL.out _ (fun j _ _ => rfl)
    refine wpAnyM_take2 (i := 0) (v := .agg #[.int .i64 f, .int .i64 n, .bool hd, .string nm, .slice la l1 lc, .slice ka k1 kc]) (d := some 16) rfl (by kernel_rfl) (by kernel_rfl) (by kernel_rfl) (by kernel_rfl) (by kernel_rfl) (fun _ _ _ h => h) (yl_load (t := 25) (x := .tmp 3) (p := .pointer (some ⟨w.heap.size, 0, none⟩)) rfl (by kernel_rfl) (by kernel_rfl) (fun w hSw => by (try dsimp only at hSw); go_simp)) (by assumption) ?_
    refine wpAnyM_take2 (i := 1) (v := .slice ha hs.length hcp) (d := some 17) rfl (by kernel_rfl) (by kernel_rfl) (by kernel_rfl) (by kernel_rfl) (by kernel_rfl) (fun _ _ _ h => h) (Or.inl ⟨by kernel_rfl, fun _ _ => by kernel_rfl⟩) (by assumption) ?_
    refine wpAnyM_take2 (i := 3) (v := .slice ad ts.length cap) (d := some 19) rfl (by kernel_rfl) (by kernel_rfl) (by kernel_rfl) (by kernel_rfl) (by kernel_rfl) (fun _ _ _ h => h) (Or.inl ⟨by kernel_rfl, fun _ _ => by kernel_rfl⟩) (by assumption) ?_
    refine wpAnyM_one (i := 2) (by kernel_rfl) ?_
    refine ⟨_, rfl, fun K hK => ?_⟩
    go_simp
    go_at_call 35
    refine (told_any _ _ _ _).mono ?_
    rintro e w3 ⟨rfl, hw3⟩
    have hb3 : RowKit.Below w1.heap.size w1 w3 := by rw [hw3]; exact (Below.refl _ w1).drew.alloc (Nat.le_refl _) _
    have hbox : w3.heap[w1.drew.heap.size]? = some (.cells #[.slice ha hs.length hcp] 28 (0, 0)) := by rw [hw3]; exact alloc_new _ _
    have HAP := HAPP.out w3 _ hb3 hbox
    have HB3 := Hid.mk hb3
    clear hw3 hb3 hbox
    refine hK.out _ _ (fun _ => ?_) (fun hHeld' => ?_)
    · (try dsimp only)
      exact HCEL.out _ (fun j hj _ => HB3.out.block j hj)
    replace hHeld' := hHeld' rfl
    clear hHeld hK K
    have hHeld := hHeld'
    clear hHeld'
    refine wpAnyM_one (i := 4) (by kernel_rfl) ?_
    refine ⟨_, rfl, fun K hK => ?_⟩
    go_simp
    go_at_call 34
    refine HAP.mono ?_
    rintro e w4 ⟨⟨v4, rfl, ⟨c0, c1, c2, c3, c4, c5, c6, c7, c8, c9, rfl⟩, htv4⟩, hb4⟩
    have HB4 : Hid (RowKit.Below w1.heap.size w1 w4) := HB3.out.trans (hb4.mono HB3.out.size)
    have HAN := tanswered_any _ _ w4 htv4 HSM.out
    clear htv4 hb4
    refine hK.out _ _ (fun _ => ?_) (fun hHeld' => ?_)
    · (try dsimp only)
      exact HCEL.out _ (fun j hj _ => HB4.out.block j hj)
    replace hHeld' := hHeld' rfl
    clear hHeld hK K
    have hHeld := hHeld'
    clear hHeld'
    refine wpAnyM_one (i := 5) (by kernel_rfl) ?_
    refine ⟨_, rfl, fun K hK => ?_⟩
    go_simp
    go_at_call 33
    refine HAN.mono ?_
    rintro e w5 ⟨⟨v5, rfl, ⟨u0, u1, u2, u3, u4, u5, u6, u7, u8, u9, rfl⟩, hto5⟩, hb5⟩
    have HB5 : Hid (RowKit.Below w1.heap.size w1 w5) := HB4.out.trans (hb5.mono HB4.out.size)
    have HTO5 := Hid.mk hto5
    have hb45 := HB4.out.size
    have HR5 := Hid.mk ((HB5.out.block _ (heap_lt HR1.out)).trans HR1.out)
    obtain ⟨y0, y1, y2, y3, y4, y5, y6⟩ := cells6 HR5.out
    have yf := frz HR5.out
    obtain ⟨CR, hCR⟩ : ∃ CR, checkT (apN hs ts t ts.length) = CR := ⟨_, rfl⟩
    rw [hCR]
    have HCR := Hid.mk hCR
    clear hto5 hb5 hCR
    refine hK.out _ _ (fun _ => ?_) (fun hHeld' => ?_)
    · (try dsimp only)
      exact HCEL.out _ (fun j hj _ => HB5.out.block j hj)
    replace hHeld' := hHeld' rfl
    clear hHeld hK K
    have hHeld := hHeld'
    clear hHeld'
    refine wpAnyM_take2 (i := 6) (v := .agg #[.int .i64 u0, .int .i64 u1, .bool u2, .string u3, .slice u4 u5 u6, .slice u7 u8 u9]) (d := some 22) rfl (by kernel_rfl) (by kernel_rfl) (by kernel_rfl) (by kernel_rfl) (by kernel_rfl) (fun _ _ _ h => h) (Or.inl ⟨by kernel_rfl, fun _ _ => by kernel_rfl⟩) (by assumption) ?_
    refine wpAnyM_take2 (i := 7) (v := .int .i64 CR) (d := some 23) rfl (by kernel_rfl) (by kernel_rfl) (by kernel_rfl) (by kernel_rfl) (by kernel_rfl) (fun _ _ _ h => h) (Or.inl ⟨by kernel_rfl, fun _ _ => by kernel_rfl⟩) (by assumption) ?_
    refine wpAnyM_one (i := 8) (by kernel_rfl) ?_
    refine ⟨_, rfl, fun K hK => ?_⟩
    go_simp
    have HKZ : Hid (Kept (fun k => k = w.heap.size + 1) w5 (set6W w5 (w.heap.size + 1) (.int .i64 u0) (.int .i64 u1) (.bool u2) (.string u3) (.slice u4 u5 u6) (.slice u7 u8 u9))) := keep6 rfl
    refine hK.out _ _ (fun _ => ?_) (fun hHeld' => ?_)
    · (try dsimp only)
      exact HCEL.out _ (fun j hj hne => (HKZ.out.block j (Nat.lt_of_lt_of_le hj HB5.out.size) hne).trans (HB5.out.block j hj))
    replace hHeld' := hHeld' rfl
    clear hHeld hK K
    have hHeld := hHeld'
    clear hHeld'
    refine wpAnyM_one (i := 9) (by kernel_rfl) ?_
    refine ⟨_, rfl, fun K hK => ?_⟩
    go_simp
    refine hK.out _ _ (fun _ => ?_) (fun hHeld' => ?_)
    · (try dsimp only)
      exact hHeld
    replace hHeld' := hHeld' rfl
    clear hHeld hK K
    have hHeld := hHeld'
    clear hHeld'
    refine wpAnyM_done (by kernel_rfl) ?_ _
    clear hHeld
    go_wp2
    have hs5 := HB5.out.size
    refine bodyPost_ret (v := .tuple #[.agg #[.int .i64 u0, .int .i64 u1, .bool u2, .string u3, .slice u4 u5 u6, .slice u7 u8 u9], .int .i64 CR]) (by simp [results, Try.results19, go_sem, y0, y1, y2, y3, y4, y5]) rfl ⟨⟨_, CR, rfl, ⟨_, _, _, _, _, _, _, _, _, _, rfl⟩, fun hc => ⟨HCR.out.trans hc, ?_⟩⟩, ?_⟩
    · exact ((HTO5.out (HCR.out.trans hc)).on (fun k h1 h2 => HKZ.out.block k h2 (by omega))).tv
    · have hb5 : RowKit.Below w.heap.size w w5 := HB1.out.trans (HB5.out.mono HB1.out.size)
      exact hb5.trans (HKZ.out.below hb5.size (fun k hk => by omega))
  · have hf1 : (FR != 0) = true := by simpa using hf0
    obtain ⟨y0, y1, y2, y3, y4, y5, y6⟩ := cells6 HR1.out
    have yf := frz HR1.out
    go_wp2
    refine bodyPost_ret (v := .tuple #[zeroV, .int .i64 FR]) (by simp [results, Try.results19, go_sem, zeroV, y0, y1, y2, y3, y4, y5]) rfl ⟨⟨zeroV, FR, rfl, ⟨_, _, _, _, _, _, _, _, _, _, rfl⟩, fun h => absurd h hf0⟩, ?_⟩
    exact HB1.out.trans ((keep6 (P := fun k => k = w.heap.size + 1) rfl).below HB1.out.size (fun k hk => by omega))
end Go.Proofs.Ythdcpodheimhaaa

/- telamonlaw4.TeleBack: the walk. -/
namespace Go.Proofs.Ythdcpodheimhaaa
open Go.RowKit Go.Sort Go.Shelf Go.Lib

theorem yl_bin {P : Program} {ops : Array Oper} {S : World → Prop} {o : Oper} {a : Act} {op : BinOp} {t t' : TypeId} {x y : Operand} {vx vy v : Value} (hop : o.op = .binOp op t x y t') (hx : a.eval x = vx) (hy : a.eval y = vy) (hw : Region.wanted o (yielded ops a.tmps) = true) (h : ∀ w, S w → (do eqGuard op t x y vx vy; binOp op t vx vy : Sem Value).run P w = .ok v w) : YieldsIf P ops S o v a :=
  Or.inl ⟨hw, fun w hS => by
    have := h w hS
    simp only [execOp, hop, hx, hy]
    simp only [Sem.run_bind, this, Result.andThen]
    rfl⟩

theorem drop_part (la bs : List Tm) : ((la.map cleanT ++ bs.map cleanT).map cleanT).drop la.length = bs.map cleanT := by
  rw [List.map_append, clean_clean_map, clean_clean_map, List.drop_left' (by simp)]

theorem wpAnyM_done2 {P : Program} {ops : Array Oper} {Q : Exit → Act → World → Prop} {md : Region.Mode} {S : World → Prop} {late : Nat → Bool} {listed : Array Bool} {a a' : Act} {w : World} (hr : Region.ready md ops listed = []) (ha : a = a') (h : Q .normal a' w) : ∀ fuel, wpAnyM P md ops Q S late fuel listed a w := by
  subst ha
  exact wpAnyM_done hr h

/-- a list that begins later -/
theorem TL.tkd {w : World} {b : Nat} {ts : List Tm} (h : TL w (some ⟨b, 0, none⟩) ts) (k : Nat) (rs : List Tm) (hr : ts.drop k = rs) : TK w (some ⟨b, k * 6, none⟩) rs := by
  subst hr
  rcases h with rfl | ⟨g, ha, hb, h⟩
  · left; simp
  · simp only [Option.some.injEq, Addr.mk.injEq, and_true] at ha
    subst ha
    refine Or.inr ⟨b, k * 6, rfl, hb, fun i t hi => ?_⟩
    rw [List.getElem?_drop] at hi
    have := h (k + i) t hi
    rw [Nat.add_mul] at this
    exact this

attribute [local go_sem] Oper.semAt_some

set_option maxRecDepth 100000 in
set_option maxHeartbeats 20000000 in
theorem back_law (ts : List Tm) (hs : List Bool) (t : Tm) (al ah : Option Addr) (cl ch : Nat) (v : Value) (w : World) (hL : TK w al ts) (hln : ts.length ≤ 8796093022208) (hol : ∀ x ∈ ts, okT x) (hBK : BK w ah hs) (hok : okT t) (hv : TV w v t) : Calls Try.prog 5 #[.slice al ts.length cl, .slice ah hs.length ch, v] w fun e w' => e = .returned (.bool true) ∧ RowKit.Below w.heap.size w w' := by
  have HBL := fun (W : World) (g : RowKit.Below w.heap.size w W) => big4_any ts al cl W (hL.on g) hol hln
  have HBT := fun (W : World) (g : RowKit.Below w.heap.size w W) => Big_any t v W hok (hv.on g)
  have HVT := Hid.mk hv
  have HL := Hid.mk hL
  have HBK := Hid.mk hBK
  have mx := mixed
  obtain ⟨a0, a1, a2, a3, a4, a5, a6, a7, a8, a9, rfl⟩ := hv.shapeT
  clear hv hok hL hBK hol
  obtain ⟨W0, hW0⟩ : ∃ W0, w.alloc (.cells #[.int .i64 a0, .int .i64 a1, .bool a2, .string a3, .slice a4 a5 a6, .slice a7 a8 a9] 25) = W0 := ⟨_, rfl⟩
  have HB0 : Hid (RowKit.Below w.heap.size w W0) := by unfold Hid; rw [← hW0]; exact (Below.refl _ _).alloc (Nat.le_refl _) _
  have HT0 : Hid (W0.heap[w.heap.size]? = some (.cells #[.int .i64 a0, .int .i64 a1, .bool a2, .string a3, .slice a4 a5 a6, .slice a7 a8 a9] 25 (0, 0))) := by unfold Hid; rw [← hW0]; exact alloc_new _ _
  have HW0 := Hid.mk hW0
  clear hW0
  have HAL := alive4_any W0
  go_enter Try.func5, Try.ntmps5
  go_wp2_with fail
  rw [HW0.out]
  refine HAL.mono ?_
  rintro e w1 ⟨rfl, hb1⟩
  have HB1 : Hid (RowKit.Below w.heap.size w w1) := HB0.out.trans (hb1.mono HB0.out.size)
  have HT1 := Hid.mk ((hb1.block _ (heap_lt HT0.out)).trans HT0.out)
  clear hb1 HAL
  go_wp2_with fail
  refine (HBL _ HB1.out).mono ?_
  rintro e w2 ⟨⟨ql, rfl, hsl⟩, hb2⟩
  have HB2 : Hid (RowKit.Below w.heap.size w w2) := HB1.out.trans (hb2.mono HB1.out.size)
  have HT2 := Hid.mk ((hb2.block _ (heap_lt HT1.out)).trans HT1.out)
  clear hb2 HBL
  cases ql
  rotate_left
  · go_wp2
    go_ret
    exact ⟨rfl, HB2.out⟩
  obtain ⟨hl100, hsml⟩ := hsl rfl
  have HSML := Hid.mk hsml
  clear hsl hsml
  obtain ⟨x0, x1, x2, x3, x4, x5, x6⟩ := cells6 HT2.out
  go_wp2_with fail
  refine (HBT _ HB2.out).mono ?_
  rintro e w3 ⟨⟨q3, rfl, hs3⟩, hg3⟩
  have HB3 : Hid (RowKit.Below w.heap.size w w3) := HB2.out.trans (hg3.below.mono HB2.out.size)
  have HT3 := Hid.mk ((hg3.below.block _ (heap_lt HT2.out)).trans HT2.out)
  clear hg3 HBT x0 x1 x2 x3 x4 x5 x6
  cases q3
  rotate_left
  · go_wp2
    go_ret
    exact ⟨rfl, HB3.out⟩
  have hPt := hs3 rfl
  clear hs3
  by_cases h20 : (20 : Int) < (ts.length : Int)
  · go_wp2
    go_ret
    exact ⟨rfl, HB3.out⟩
  have hl20 : ts.length ≤ 20 := by omega
  have HPI := Pis_any ts hs ah ch al cl t _ w3 (HL.out.on HB3.out) (HBK.out.on HB3.out) (HVT.out.on HB3.out) (by omega) HSML.out hPt
  obtain ⟨x0, x1, x2, x3, x4, x5, x6⟩ := cells6 HT3.out
  go_wp2_with fail
  refine HPI.mono ?_
  rintro e w4 ⟨⟨v4, c4, rfl, ⟨p0, p1, p2, p3, p4, p5, p6, p7, p8, p9, rfl⟩, hpi⟩, hb4⟩
  have HPV := Hid.mk hpi
  have HB4 : Hid (RowKit.Below w.heap.size w w4) := HB3.out.trans (hb4.mono HB3.out.size)
  obtain ⟨W4, hW4⟩ : ∃ W4, w4.alloc (.cells #[.int .i64 p0, .int .i64 p1, .bool p2, .string p3, .slice p4 p5 p6, .slice p7 p8 p9] 25) = W4 := ⟨_, rfl⟩
  have hb5 : RowKit.Below w4.heap.size w4 W4 := by rw [← hW4]; exact (Below.refl _ _).alloc (Nat.le_refl _) _
  have HB44 := Hid.mk hb5
  have HB4W : Hid (RowKit.Below w.heap.size w W4) := HB4.out.trans (hb5.mono HB4.out.size)
  have HA4 : Hid (W4.heap[w4.heap.size]? = some (.cells #[.int .i64 p0, .int .i64 p1, .bool p2, .string p3, .slice p4 p5 p6, .slice p7 p8 p9] 25 (0, 0))) := by unfold Hid; rw [← hW4]; exact alloc_new _ _
  have HT4 := Hid.mk ((hb5.block _ (heap_lt ((hb4.block _ (heap_lt HT3.out)).trans HT3.out))).trans ((hb4.block _ (heap_lt HT3.out)).trans HT3.out))
  have HW4 := Hid.mk hW4
  clear hb4 hb5 hW4 hpi HPI x0 x1 x2 x3 x4 x5 x6
  by_cases hc4 : c4 = 0
  rotate_left
  · have hc4' : (c4 != 0) = true := by simpa using hc4
    go_wp2_with (first | (go_at_call 18; refine (num4_any _ _).mono ?_; rintro e w' ⟨rfl, rfl⟩) | rw [HW4.out])
    go_ret
    exact ⟨rfl, HB4W.out⟩
  obtain ⟨hf0, hcp, htp⟩ := HPV.out hc4
  subst hc4
  obtain ⟨hcts, hct⟩ := faultR_ok ts t hf0
  obtain ⟨ll, hsp, hll⟩ := split_pis hs t ts 0
  have HSPL := Split_any ts.length (cleanT (pisT hs 0 ts t)) _ W4 (htp.on HB44.out) (smT_clean 1000000 _ (sm_pisT hs t hPt ts 0 HSML.out)) (by omega)
  rw [if_neg (by rw [clean_check, hcp]; omega), show ((ts.length : Int)).toNat = ts.length from rfl, hsp] at HSPL
  simp only [SpRes] at HSPL
  have hlll : ll.length = ts.length := by have := congrArg List.length hll; simpa using this
  rw [hlll, show (ll.map fun x => cleanT x.1) = ts.map cleanT by rw [← clean_clean_map ts, ← hll, List.map_map]; rfl, clean_clean] at HSPL
  have HCTS := Hid.mk hcts
  have HGT : Hid (∀ x ∈ ts, GT x) := fun x hx => ⟨HSML.out x hx, (check_ok (HCTS.out x hx)).2.2⟩
  have HGTT : Hid (GT t) := ⟨hPt, (check_ok hct).2.2⟩
  obtain ⟨x0, x1, x2, x3, x4, x5, x6⟩ := cells6 HA4.out
  have hlhid : (ll.map fun x => x.2).length = ts.length := by rw [List.length_map, hlll]
  clear htp hsp hll hcts hf0
  go_wp2_with (first | (go_at_call 18; refine (num4_any _ _).mono ?_; rintro e w' ⟨rfl, rfl⟩) | rw [HW4.out])
  refine HSPL.mono ?_
  rintro e w5 ⟨hb5, Bx, Px, ax, cx, hvx, rvx, rfl, hrowx, hobx, ⟨r0, r1, r2, r3, r4, r5, r6, r7, r8, r9, rfl⟩, htrx⟩
  obtain ⟨hx, hcx, rfl⟩ := hobx.shape
  rw [hlhid]
  have HTLX := Hid.mk hrowx.tl
  have HTRX := Hid.mk htrx
  have HB5 : Hid (RowKit.Below w.heap.size w w5) := HB4W.out.trans (hb5.mono HB4W.out.size)
  have HT5 := Hid.mk ((hb5.block _ (heap_lt HT4.out)).trans HT4.out)
  obtain ⟨W6, hW6⟩ : ∃ W6, w5.alloc (.cells #[.int .i64 r0, .int .i64 r1, .bool r2, .string r3, .slice r4 r5 r6, .slice r7 r8 r9] 25) = W6 := ⟨_, rfl⟩
  have hb6 : RowKit.Below w5.heap.size w5 W6 := by rw [← hW6]; exact (Below.refl _ _).alloc (Nat.le_refl _) _
  have HB56 := Hid.mk hb6
  have HB6 : Hid (RowKit.Below w.heap.size w W6) := HB5.out.trans (hb6.mono HB5.out.size)
  have HR6 : Hid (W6.heap[w5.heap.size]? = some (.cells #[.int .i64 r0, .int .i64 r1, .bool r2, .string r3, .slice r4 r5 r6, .slice r7 r8 r9] 25 (0, 0))) := by unfold Hid; rw [← hW6]; exact alloc_new _ _
  have HT6 := Hid.mk ((hb6.block _ (heap_lt HT5.out)).trans HT5.out)
  have HW6 := Hid.mk hW6
  have HSM : ∀ (W : World), RowKit.Below W6.heap.size W6 W → Calls Try.prog 11 #[.slice ax ts.length cx, .slice al ts.length cl] W fun e w' => e = .returned (.bool true) ∧ RowKit.Below W.heap.size W w' := fun W h => same4K_yes ts ax al cx cl W ((HTLX.out.on (HB56.out.trans (h.mono HB56.out.size))).tk) (HL.out.on (HB6.out.trans (h.mono HB6.out.size))) HGT.out (by omega)
  have HCL : ∀ (W : World), RowKit.Below W6.heap.size W6 W → Calls Try.prog 13 #[.agg #[.int .i64 a0, .int .i64 a1, .bool a2, .string a3, .slice a4 a5 a6, .slice a7 a8 a9]] W fun e w' => ∃ v', e = .returned v' ∧ ShapeT v' ∧ TF w' (fun k => decide (k < W.heap.size)) v' (cleanT t) ∧ RowKit.Below W.heap.size W w' := fun W h => Clean_any t _ W HGTT.out.1 HGTT.out.2 (HVT.out.on (HB6.out.trans (h.mono HB6.out.size)))
  have HEX : ∀ (W : World) (vb : Value), RowKit.Below W6.heap.size W6 W → TV W vb (cleanT t) → Calls Try.prog 12 #[.agg #[.int .i64 r0, .int .i64 r1, .bool r2, .string r3, .slice r4 r5 r6, .slice r7 r8 r9], vb] W fun e w' => e = .returned (.bool true) ∧ RowKit.Below W.heap.size W w' := fun W vb h hb => Exactly_exa _ vb (cleanT t) W (smT_clean 1000000 _ HGTT.out.1) (HTRX.out.on (HB56.out.trans (h.mono HB56.out.size))) hb
  obtain ⟨z0, z1, z2, z3, z4, z5, z6⟩ := cells6 HR6.out
  obtain ⟨y0, y1, y2, y3, y4, y5, y6⟩ := cells6 HT6.out
  have HCEL : Hid (∀ W : World, RowKit.Below W6.heap.size W6 W → W.cell? ⟨w5.heap.size, 0, none⟩ = some (.int .i64 r0) ∧ W.cell? ⟨w5.heap.size, 1, none⟩ = some (.int .i64 r1) ∧ W.cell? ⟨w5.heap.size, 2, none⟩ = some (.bool r2) ∧ W.cell? ⟨w5.heap.size, 3, none⟩ = some (.string r3) ∧ W.cell? ⟨w5.heap.size, 4, none⟩ = some (.slice r4 r5 r6) ∧ W.cell? ⟨w5.heap.size, 5, none⟩ = some (.slice r7 r8 r9) ∧ W.cell? ⟨w.heap.size, 0, none⟩ = some (.int .i64 a0) ∧ W.cell? ⟨w.heap.size, 1, none⟩ = some (.int .i64 a1) ∧ W.cell? ⟨w.heap.size, 2, none⟩ = some (.bool a2) ∧ W.cell? ⟨w.heap.size, 3, none⟩ = some (.string a3) ∧ W.cell? ⟨w.heap.size, 4, none⟩ = some (.slice a4 a5 a6) ∧ W.cell? ⟨w.heap.size, 5, none⟩ = some (.slice a7 a8 a9)) := fun W h => ⟨(h.cell (p := ⟨w5.heap.size, 0, none⟩) z6).trans z0, (h.cell (p := ⟨w5.heap.size, 1, none⟩) z6).trans z1, (h.cell (p := ⟨w5.heap.size, 2, none⟩) z6).trans z2, (h.cell (p := ⟨w5.heap.size, 3, none⟩) z6).trans z3, (h.cell (p := ⟨w5.heap.size, 4, none⟩) z6).trans z4, (h.cell (p := ⟨w5.heap.size, 5, none⟩) z6).trans z5, (h.cell (p := ⟨w.heap.size, 0, none⟩) y6).trans y0, (h.cell (p := ⟨w.heap.size, 1, none⟩) y6).trans y1, (h.cell (p := ⟨w.heap.size, 2, none⟩) y6).trans y2, (h.cell (p := ⟨w.heap.size, 3, none⟩) y6).trans y3, (h.cell (p := ⟨w.heap.size, 4, none⟩) y6).trans y4, (h.cell (p := ⟨w.heap.size, 5, none⟩) y6).trans y5⟩
  clear hb5 hb6 hW6 HSPL hrowx hobx htrx z0 z1 z2 z3 z4 z5 y0 y1 y2 y3 y4 y5 x0 x1 x2 x3 x4 x5 x6
  go_wp2_with (rw [HW6.out])
  refine wp_region_late (S := fun w' => w'.cell? ⟨w5.heap.size, 0, none⟩ = some (.int .i64 r0) ∧ w'.cell? ⟨w5.heap.size, 1, none⟩ = some (.int .i64 r1) ∧ w'.cell? ⟨w5.heap.size, 2, none⟩ = some (.bool r2) ∧ w'.cell? ⟨w5.heap.size, 3, none⟩ = some (.string r3) ∧ w'.cell? ⟨w5.heap.size, 4, none⟩ = some (.slice r4 r5 r6) ∧ w'.cell? ⟨w5.heap.size, 5, none⟩ = some (.slice r7 r8 r9) ∧ w'.cell? ⟨w.heap.size, 0, none⟩ = some (.int .i64 a0) ∧ w'.cell? ⟨w.heap.size, 1, none⟩ = some (.int .i64 a1) ∧ w'.cell? ⟨w.heap.size, 2, none⟩ = some (.bool a2) ∧ w'.cell? ⟨w.heap.size, 3, none⟩ = some (.string a3) ∧ w'.cell? ⟨w.heap.size, 4, none⟩ = some (.slice a4 a5 a6) ∧ w'.cell? ⟨w.heap.size, 5, none⟩ = some (.slice a7 a8 a9)) (fun _ => false) mx ?_ (fun hHeld => ?_)
  · (try dsimp only)
    exact HCEL.out _ (Below.refl _ _).drew
  refine wpAnyM_take2 (i := 0) (v := .bool true) (d := some 60) rfl (by kernel_rfl) (by kernel_rfl) (by kernel_rfl) (by kernel_rfl) (by kernel_rfl) (fun _ _ _ h => h) (Or.inl ⟨by kernel_rfl, fun _ _ => by kernel_rfl⟩) (by assumption) ?_
  refine wpAnyM_take2 (i := 1) (v := .bool false) (d := some 61) rfl (by kernel_rfl) (by kernel_rfl) (by kernel_rfl) (by kernel_rfl) (by kernel_rfl) (fun _ _ _ h => h) (Or.inl ⟨by kernel_rfl, fun _ _ => by kernel_rfl⟩) (by assumption) ?_
  refine wpAnyM_take2 (i := 2) (v := .bool false) (d := some 62) rfl (by kernel_rfl) (by kernel_rfl) (by kernel_rfl) (by kernel_rfl) (by kernel_rfl) (fun _ _ _ h => h) (Or.inl ⟨by kernel_rfl, fun _ _ => by kernel_rfl⟩) (by assumption) ?_
  refine wpAnyM_take2 (i := 3) (v := .slice ax ts.length cx) (d := some 63) rfl (by kernel_rfl) (by kernel_rfl) (by kernel_rfl) (by kernel_rfl) (by kernel_rfl) (fun _ _ _ h => h) (Or.inl ⟨by kernel_rfl, fun _ _ => by kernel_rfl⟩) (by assumption) ?_
  refine wpAnyM_take2 (i := 4) (v := .slice al ts.length cl) (d := some 64) rfl (by kernel_rfl) (by kernel_rfl) (by kernel_rfl) (by kernel_rfl) (by kernel_rfl) (fun _ _ _ h => h) (Or.inl ⟨by kernel_rfl, fun _ _ => by kernel_rfl⟩) (by assumption) ?_
  refine wpAnyM_one (i := 5) (by kernel_rfl) ?_
  refine ⟨_, rfl, fun K hK => ?_⟩
  go_simp
  go_at_call 11
  refine (HSM _ (Below.refl _ _).drew).mono ?_
  rintro e wX ⟨rfl, bX⟩
  have hbwX : RowKit.Below W6.heap.size W6 wX := (Below.refl _ _).drew.trans bX
  clear bX
  refine hK.out _ _ (fun _ => ?_) (fun hHeld' => ?_)
  · (try dsimp only)
    exact HCEL.out _ hbwX
  replace hHeld' := hHeld' rfl
  clear hHeld hK K
  have hHeld := hHeld'
  clear hHeld'
  refine wpAnyM_take2 (i := 6) (v := .bool false) (d := some 66) rfl (by kernel_rfl) (by kernel_rfl) (by kernel_rfl) (by kernel_rfl) (by kernel_rfl) (fun _ _ _ h => h) (Or.inl ⟨by kernel_rfl, fun _ _ => by kernel_rfl⟩) (by assumption) ?_
  refine wpAnyM_take2 (i := 7) (v := .bool false) (d := some 67) rfl (by kernel_rfl) (by kernel_rfl) (by kernel_rfl) (by kernel_rfl) (by kernel_rfl) (fun _ _ _ h => h) (Or.inl ⟨by kernel_rfl, fun _ _ => by kernel_rfl⟩) (by assumption) ?_
  refine wpAnyM_take2 (i := 8) (v := .bool false) (d := some 68) rfl (by kernel_rfl) (by kernel_rfl) (by kernel_rfl) (by kernel_rfl) (by kernel_rfl) (fun _ _ _ h => h) (Or.inl ⟨by kernel_rfl, fun _ _ => by kernel_rfl⟩) (by assumption) ?_
  refine wpAnyM_take2 (i := 9) (v := .agg #[.int .i64 r0, .int .i64 r1, .bool r2, .string r3, .slice r4 r5 r6, .slice r7 r8 r9]) (d := some 69) rfl (by kernel_rfl) (by kernel_rfl) (by kernel_rfl) (by kernel_rfl) (by kernel_rfl) (fun _ _ _ h => h) (yl_load (t := 25) (x := .tmp 13) (p := .pointer (some ⟨w5.heap.size, 0, none⟩)) rfl (by kernel_rfl) (by kernel_rfl) (fun w hSw => by (try dsimp only at hSw); go_simp)) (by assumption) ?_
  refine wpAnyM_take2 (i := 10) (v := .agg #[.int .i64 a0, .int .i64 a1, .bool a2, .string a3, .slice a4 a5 a6, .slice a7 a8 a9]) (d := some 70) rfl (by kernel_rfl) (by kernel_rfl) (by kernel_rfl) (by kernel_rfl) (by kernel_rfl) (fun _ _ _ h => h) (yl_load (t := 25) (x := .tmp 5) (p := .pointer (some ⟨w.heap.size, 0, none⟩)) rfl (by kernel_rfl) (by kernel_rfl) (fun w hSw => by (try dsimp only at hSw); go_simp)) (by assumption) ?_
  refine wpAnyM_one (i := 11) (by kernel_rfl) ?_
  refine ⟨_, rfl, fun K hK => ?_⟩
  go_simp
  go_at_call 13
  refine (HCL _ hbwX).mono ?_
  rintro e wC ⟨vC, rfl, ⟨u0, u1, u2, u3, u4, u5, u6, u7, u8, u9, rfl⟩, htC, bC⟩
  have hbwC : RowKit.Below W6.heap.size W6 wC := hbwX.trans (bC.mono hbwX.size)
  have HEC := HEX wC _ hbwC htC.tv
  clear bC htC
  refine hK.out _ _ (fun _ => ?_) (fun hHeld' => ?_)
  · (try dsimp only)
    exact HCEL.out _ hbwC
  replace hHeld' := hHeld' rfl
  clear hHeld hK K
  have hHeld := hHeld'
  clear hHeld'
  refine wpAnyM_one (i := 12) (by kernel_rfl) ?_
  refine ⟨_, rfl, fun K hK => ?_⟩
  go_simp
  go_at_call 12
  refine (HEC).mono ?_
  rintro e wE ⟨rfl, bE⟩
  have hbwE : RowKit.Below W6.heap.size W6 wE := hbwC.trans (bE.mono hbwC.size)
  clear bE
  refine hK.out _ _ (fun _ => ?_) (fun hHeld' => ?_)
  · (try dsimp only)
    exact HCEL.out _ hbwE
  replace hHeld' := hHeld' rfl
  clear hHeld hK K
  have hHeld := hHeld'
  clear hHeld'
  refine wpAnyM_take2 (i := 13) (v := .bool false) (d := some 73) rfl (by kernel_rfl) (by kernel_rfl) (by kernel_rfl) (by kernel_rfl) (by kernel_rfl) (fun _ _ _ h => h) (Or.inl ⟨by kernel_rfl, fun _ _ => by kernel_rfl⟩) (by assumption) ?_
  refine wpAnyM_take2 (i := 14) (v := .bool false) (d := some 74) rfl (by kernel_rfl) (by kernel_rfl) (by kernel_rfl) (by kernel_rfl) (by kernel_rfl) (fun _ _ _ h => h) (Or.inl ⟨by kernel_rfl, fun _ _ => by kernel_rfl⟩) (by assumption) ?_
  refine wpAnyM_take2 (i := 15) (v := .bool false) (d := some 75) rfl (by kernel_rfl) (by kernel_rfl) (by kernel_rfl) (by kernel_rfl) (by kernel_rfl) (fun _ _ _ h => h) (Or.inl ⟨by kernel_rfl, fun _ _ => by kernel_rfl⟩) (by assumption) ?_
  refine wpAnyM_take2 (i := 16) (v := .slice hx ts.length hcx) (d := some 76) rfl (by kernel_rfl) (by kernel_rfl) (by kernel_rfl) (by kernel_rfl) (by kernel_rfl) (fun _ _ _ h => h) (Or.inl ⟨by kernel_rfl, fun _ _ => by kernel_rfl⟩) (by assumption) ?_
  refine wpAnyM_take2 (i := 17) (v := .int .i64 ts.length) (d := some 77) rfl (by kernel_rfl) (by kernel_rfl) (by kernel_rfl) (by kernel_rfl) (by kernel_rfl) (fun _ _ _ h => h) (Or.inl ⟨by kernel_rfl, fun _ _ => by kernel_rfl⟩) (by assumption) ?_
  refine wpAnyM_take2 (i := 18) (v := .slice al ts.length cl) (d := some 78) rfl (by kernel_rfl) (by kernel_rfl) (by kernel_rfl) (by kernel_rfl) (by kernel_rfl) (fun _ _ _ h => h) (Or.inl ⟨by kernel_rfl, fun _ _ => by kernel_rfl⟩) (by assumption) ?_
  refine wpAnyM_take2 (i := 19) (v := .int .i64 ts.length) (d := some 79) rfl (by kernel_rfl) (by kernel_rfl) (by kernel_rfl) (by kernel_rfl) (by kernel_rfl) (fun _ _ _ h => h) (Or.inl ⟨by kernel_rfl, fun _ _ => by kernel_rfl⟩) (by assumption) ?_
  refine wpAnyM_take2 (i := 20) (v := .bool false) (d := some 80) rfl (by kernel_rfl) (by kernel_rfl) (by kernel_rfl) (by kernel_rfl) (by kernel_rfl) (fun _ _ _ h => h) (yl_bin (op := .neq) (t := 3) (t' := 3) (x := .tmp 77) (y := .tmp 79) (vx := .int .i64 ts.length) (vy := .int .i64 ts.length) rfl (by kernel_rfl) (by kernel_rfl) (by kernel_rfl) (fun w _ => by go_simp)) (by assumption) ?_
  refine wpAnyM_take2 (i := 21) (v := .bool false) (d := some 81) rfl (by kernel_rfl) (by kernel_rfl) (by kernel_rfl) (by kernel_rfl) (by kernel_rfl) (fun _ _ _ h => h) (Or.inl ⟨by kernel_rfl, fun _ _ => by kernel_rfl⟩) (by assumption) ?_
  refine wpAnyM_done2 (a' := { tmps := #[Value.slice al ts.length cl, Value.slice ah hs.length ch, Value.agg #[Value.int IntKind.i64 a0, Value.int IntKind.i64 a1, Value.bool a2, Value.string a3, Value.slice a4 a5 a6, Value.slice a7 a8 a9], undef, undef, Value.pointer (some { block := w.heap.size, off := 0 }), Value.bool false, Value.bool true, Value.bool false, Value.pointer (some { block := w4.heap.size, off := 0 }), Value.int IntKind.i64 0, Value.slice ax ts.length cx, Value.slice hx ts.length hcx, Value.pointer (some { block := w5.heap.size, off := 0 }), Value.bool true, undef, undef, undef, undef, undef, undef, undef, undef, Value.bool true, Value.slice al ts.length cl, Value.bool false, Value.bool false, Value.agg #[Value.int IntKind.i64 a0, Value.int IntKind.i64 a1, Value.bool a2, Value.string a3, Value.slice a4 a5 a6, Value.slice a7 a8 a9], Value.bool false, Value.bool false, Value.bool true, Value.bool false, Value.bool false, Value.bool false, Value.bool false, Value.bool false, Value.slice al ts.length cl, Value.int IntKind.i64 ↑ts.length, Value.bool (decide ((20 : Int) < (ts.length : Int))), Value.bool (decide ((20 : Int) < (ts.length : Int))), undef, Value.tuple #[Value.agg #[Value.int IntKind.i64 p0, Value.int IntKind.i64 p1, Value.bool p2, Value.string p3, Value.slice p4 p5 p6, Value.slice p7 p8 p9], Value.int IntKind.i64 0], Value.slice al ts.length cl, Value.slice ah hs.length ch, Value.agg #[Value.int IntKind.i64 a0, Value.int IntKind.i64 a1, Value.bool a2, Value.string a3, Value.slice a4 a5 a6, Value.slice a7 a8 a9], Value.tuple #[Value.agg #[Value.int IntKind.i64 p0, Value.int IntKind.i64 p1, Value.bool p2, Value.string p3, Value.slice p4 p5 p6, Value.slice p7 p8 p9], Value.int IntKind.i64 0], Value.agg #[Value.int IntKind.i64 p0, Value.int IntKind.i64 p1, Value.bool p2, Value.string p3, Value.slice p4 p5 p6, Value.slice p7 p8 p9], Value.int IntKind.i64 0, Value.int IntKind.i64 0, Value.int IntKind.i64 0, Value.bool false, Value.tuple #[Value.slice ax ts.length cx, Value.slice hx ts.length hcx, Value.agg #[Value.int IntKind.i64 r0, Value.int IntKind.i64 r1, Value.bool r2, Value.string r3, Value.slice r4 r5 r6, Value.slice r7 r8 r9], Value.bool true], Value.agg #[Value.int IntKind.i64 p0, Value.int IntKind.i64 p1, Value.bool p2, Value.string p3, Value.slice p4 p5 p6, Value.slice p7 p8 p9], Value.slice al ts.length cl, Value.int IntKind.i64 ↑ts.length, Value.tuple #[Value.slice ax ts.length cx, Value.slice hx ts.length hcx, Value.agg #[Value.int IntKind.i64 r0, Value.int IntKind.i64 r1, Value.bool r2, Value.string r3, Value.slice r4 r5 r6, Value.slice r7 r8 r9], Value.bool true], Value.slice ax ts.length cx, Value.slice hx ts.length hcx, Value.agg #[Value.int IntKind.i64 r0, Value.int IntKind.i64 r1, Value.bool r2, Value.string r3, Value.slice r4 r5 r6, Value.slice r7 r8 r9], Value.bool true, .bool true, .bool false, .bool false, .slice ax ts.length cx, .slice al ts.length cl, .bool true, .bool false, .bool false, .bool false, .agg #[.int .i64 r0, .int .i64 r1, .bool r2, .string r3, .slice r4 r5 r6, .slice r7 r8 r9], .agg #[.int .i64 a0, .int .i64 a1, .bool a2, .string a3, .slice a4 a5 a6, .slice a7 a8 a9], .agg #[.int .i64 u0, .int .i64 u1, .bool u2, .string u3, .slice u4 u5 u6, .slice u7 u8 u9], .bool true, .bool false, .bool false, .bool false, .slice hx ts.length hcx, .int .i64 ts.length, .slice al ts.length cl, .int .i64 ts.length, .bool false, .bool false, undef, undef, undef, undef, undef, undef, undef, undef, undef, undef, undef, undef, undef, undef, undef, undef, undef, undef, undef, undef, undef, undef, undef, undef, undef, undef, undef, undef, undef, undef, undef, undef, undef, undef, undef, undef, undef, undef], defers := [] }) (by kernel_rfl) (by kernel_rfl) ?_ _
  clear hHeld
  have HBE : Hid (RowKit.Below w.heap.size w wE) := HB6.out.trans (hbwE.mono HB6.out.size)
  have HTE : Hid (wE.heap[w.heap.size]? = some (.cells #[.int .i64 a0, .int .i64 a1, .bool a2, .string a3, .slice a4 a5 a6, .slice a7 a8 a9] 25 (0, 0))) := (hbwE.block _ (heap_lt HT6.out)).trans HT6.out
  have HAPL := Apply_any ts hs ah ch al cl t _ wE (HL.out.on HBE.out) (HBK.out.on HBE.out) (HVT.out.on HBE.out) (by omega) HSML.out hPt
  obtain ⟨x0, x1, x2, x3, x4, x5, x6⟩ := cells6 HTE.out
  clear HSM HCL HEX HCEL HEC hbwX hbwC hbwE HTLX HTRX
  go_wp2_with fail
  refine HAPL.mono ?_
  rintro e w7 ⟨⟨v7, c7, rfl, ⟨c0, c1, c2, c3, c4, c5, c6, c7', c8, c9, rfl⟩, hap⟩, hb7⟩
  have HAV := Hid.mk hap
  have HB7 : Hid (RowKit.Below w.heap.size w w7) := HBE.out.trans (hb7.mono HBE.out.size)
  have HT7 := Hid.mk ((hb7.block _ (heap_lt HTE.out)).trans HTE.out)
  obtain ⟨W8, hW8⟩ : ∃ W8, w7.alloc (.cells #[.int .i64 c0, .int .i64 c1, .bool c2, .string c3, .slice c4 c5 c6, .slice c7' c8 c9] 25) = W8 := ⟨_, rfl⟩
  have hb8 : RowKit.Below w7.heap.size w7 W8 := by rw [← hW8]; exact (Below.refl _ _).alloc (Nat.le_refl _) _
  have HB78 := Hid.mk hb8
  have HB8 : Hid (RowKit.Below w.heap.size w W8) := HB7.out.trans (hb8.mono HB7.out.size)
  have HC8 : Hid (W8.heap[w7.heap.size]? = some (.cells #[.int .i64 c0, .int .i64 c1, .bool c2, .string c3, .slice c4 c5 c6, .slice c7' c8 c9] 25 (0, 0))) := by unfold Hid; rw [← hW8]; exact alloc_new _ _
  have HT8 := Hid.mk ((hb8.block _ (heap_lt HT7.out)).trans HT7.out)
  have HW8 := Hid.mk hW8
  clear hb7 hb8 hW8 hap HAPL x0 x1 x2 x3 x4 x5 x6
  by_cases hc7 : c7 = 0
  rotate_left
  · have hc7' : (c7 != 0) = true := by simpa using hc7
    go_wp2_with (first | (go_at_call 18; refine (num4_any _ _).mono ?_; rintro e w' ⟨rfl, rfl⟩) | rw [HW8.out])
    go_ret
    exact ⟨rfl, HB8.out⟩
  obtain ⟨-, hcap, htap⟩ := HAV.out hc7
  subst hc7
  have hcapc : checkT (cleanT (apN hs ts t ts.length)) = 0 := by rw [clean_check]; exact hcap
  have hsmc : smT 1000000 (cleanT (apN hs ts t ts.length)) := smT_clean 1000000 _ (sm_apN hs ts t hPt HSML.out ts.length)
  obtain ⟨xc, vc', tc', hrowc⟩ := ap_row (heightT (cleanT (apN hs ts t ts.length))) _ _ (Nat.le_refl _) (htap.on HB78.out) ⟨hsmc, (check_ok hcapc).2.2⟩
  obtain ⟨xt, vt', tt', hrowt⟩ := ap_row (heightT t) t _ (Nat.le_refl _) (HVT.out.on HB8.out) ⟨hPt, (check_ok hct).2.2⟩
  have hlc : xc.length ≤ 500 := Nat.le_trans (hrowc.facts ⟨hsmc, (check_ok hcapc).2.2⟩).2.2.2.2 (check_ok hcapc).2.1
  have hlt : xt.length ≤ 500 := Nat.le_trans (hrowt.facts ⟨hPt, (check_ok hct).2.2⟩).2.2.2.2 (check_ok hct).2.1
  have hspc := spA_row hrowc (1000 + ts.length) (by omega)
  have hspt := spA_row hrowt 1000 (by omega)
  rw [spA_apN hs ts t 1000 ts.length (Nat.le_refl _), List.take_length, spA_clean 1000 t (check_ok hct).2.2, ← hspt] at hspc
  have hlen : xc.length = xt.length + ts.length := by
    have := congrArg List.length hspc
    simpa using this
  have hdrop : (xc.reverse.map fun x => cleanT (argT x.2)).drop xt.length = ts.map cleanT := by
    rw [show (xc.reverse.map fun x => cleanT (argT x.2)) = (xc.reverse.map fun x => argT x.2).map cleanT by rw [List.map_map]; rfl, hspc]
    have h := drop_part (xt.reverse.map fun x => argT x.2) ts
    rw [List.length_map, List.length_reverse] at h
    exact h
  have HDROP := Hid.mk hdrop
  have HSPI := Spine_walk (cleanT (apN hs ts t ts.length)) tc' _ vc' xc W8 (htap.on HB78.out) hsmc hcapc hrowc
  have HRSP := fun (W : World) (h : RowKit.Below W8.heap.size W8 W) => rSpine_walk t tt' _ vt' xt W (HVT.out.on (HB8.out.trans (h.mono HB8.out.size))) (hrowt.on h) hlt
  obtain ⟨x0, x1, x2, x3, x4, x5, x6⟩ := cells6 HC8.out
  clear htap hrowc hspc hspt hdrop hsmc hcapc hcap
  go_wp2_with (first | (go_at_call 18; refine (num4_any _ _).mono ?_; rintro e w' ⟨rfl, rfl⟩) | rw [HW8.out])
  refine HSPI.mono ?_
  rintro e w9 ⟨hb9, B9, P9, ac, cc, hvc, rvc, rfl, hrow9, hob9, ⟨s0, s1, s2, s3, s4, s5, s6, s7, s8, s9, rfl⟩, -⟩
  have HTL9 := Hid.mk hrow9.tl
  have HLE9 : Hid (∃ (ys : List Value) (kvs : Nat → Value), w9.ownsRow B9 25 6 (.slice ac xc.length cc) xc.length ys) := by
    obtain ⟨ys, kvs, ho, -⟩ := hrow9.go
    rw [List.length_map, List.length_reverse] at ho
    exact ⟨ys, kvs, ho⟩
  have HB89 := Hid.mk hb9
  have HB9 : Hid (RowKit.Below w.heap.size w w9) := HB8.out.trans (hb9.mono HB8.out.size)
  obtain ⟨W10, hW10⟩ : ∃ W10, w9.alloc (.cells #[.int .i64 s0, .int .i64 s1, .bool s2, .string s3, .slice s4 s5 s6, .slice s7 s8 s9] 25) = W10 := ⟨_, rfl⟩
  have hb10 : RowKit.Below w9.heap.size w9 W10 := by rw [← hW10]; exact (Below.refl _ _).alloc (Nat.le_refl _) _
  have HB910 := Hid.mk hb10
  have HB10 : Hid (RowKit.Below w.heap.size w W10) := HB9.out.trans (hb10.mono HB9.out.size)
  have HT9 := Hid.mk ((hb9.block _ (heap_lt HT8.out)).trans HT8.out)
  have HC10 := HRSP W10 (HB89.out.trans (hb10.mono HB89.out.size))
  have HW10 := Hid.mk hW10
  obtain ⟨hc, hcc, rfl⟩ := hob9.shape
  clear hb9 hb10 hW10 hrow9 hob9 HSPI HRSP x0 x1 x2 x3 x4 x5 x6
  obtain ⟨x0, x1, x2, x3, x4, x5, x6⟩ := cells6 HT9.out
  go_wp2_with fail
  rw [HW10.out]
  refine HC10.mono ?_
  rintro e w11 ⟨hb11, A1, A2, ys, zs, rv11, rfl, -, ⟨y0, y1, y2, y3, y4, y5, y6, y7, y8, y9, rfl⟩, -⟩
  have HB11 : Hid (RowKit.Below w.heap.size w w11) := HB10.out.trans (hb11.mono HB10.out.size)
  have HB911 : Hid (RowKit.Below w9.heap.size w9 w11) := HB910.out.trans (hb11.mono HB910.out.size)
  clear hb11 HC10 x0 x1 x2 x3 x4 x5 x6
  have hsum : ((xt.length + ts.length : Nat) : Int) = (xt.length : Int) + (ts.length : Int) := by omega
  obtain ⟨W12, hW12⟩ : ∃ W12, w11.alloc (.cells #[.int .i64 y0, .int .i64 y1, .bool y2, .string y3, .slice y4 y5 y6, .slice y7 y8 y9] 25) = W12 := ⟨_, rfl⟩
  have hb12 : RowKit.Below w11.heap.size w11 W12 := by rw [← hW12]; exact (Below.refl _ _).alloc (Nat.le_refl _) _
  have HB12 : Hid (RowKit.Below w.heap.size w W12) := HB11.out.trans (hb12.mono HB11.out.size)
  have HB912 : Hid (RowKit.Below w9.heap.size w9 W12) := HB911.out.trans (hb12.mono HB911.out.size)
  have HW12 := Hid.mk hW12
  have hown : (ac = none ∧ cc = 0 ∧ xc.length = 0) ∨ ∃ g, ac = some ⟨g, 0, none⟩ ∧ xc.length ≤ cc := by
    obtain ⟨ys, kvs, ho⟩ := HLE9.out
    rcases ho.2 with ⟨hv, hn⟩ | ⟨g, cap', cur, hv, hg, hh, hcc, -⟩
    · simp only [Value.slice.injEq] at hv
      exact Or.inl ⟨hv.1, hv.2.2, hn⟩
    · simp only [Value.slice.injEq] at hv
      obtain ⟨h1, -, h3⟩ := hv
      exact Or.inr ⟨g, h1, by omega⟩
  clear hb12 hW12
  by_cases hce : cc = xt.length
  · have hts0 : ts = [] := List.length_eq_zero_iff.1 (by omega)
    have HSQ := same4K_yes ts ac al 0 cl W12 (Or.inl (by rw [hts0]; rfl)) (HL.out.on HB12.out) HGT.out (by omega)
    have HTS0 := Hid.mk hts0
    clear hown hts0
    go_wp2_with (rw [HW12.out])
    refine HSQ.mono ?_
    rintro e w13 ⟨rfl, hb13⟩
    have HB13 : Hid (RowKit.Below w.heap.size w w13) := HB12.out.trans (hb13.mono HB12.out.size)
    clear hb13 HSQ
    go_wp2
    go_ret
    exact ⟨rfl, HB13.out⟩
  · obtain ⟨g, rfl, hlcc⟩ : ∃ g, ac = some ⟨g, 0, none⟩ ∧ xc.length ≤ cc := hown.resolve_left (fun h => hce (by omega))
    have HSQ := same4K_yes ts (some ⟨g, xt.length * 6, none⟩) al (cc - xt.length) cl W12 ((HTL9.out.on HB912.out).tkd xt.length _ HDROP.out) (HL.out.on HB12.out) HGT.out (by omega)
    clear hown
    go_wp2_with (rw [HW12.out])
    refine HSQ.mono ?_
    rintro e w13 ⟨rfl, hb13⟩
    have HB13 : Hid (RowKit.Below w.heap.size w w13) := HB12.out.trans (hb13.mono HB12.out.size)
    clear hb13 HSQ
    go_wp2
    go_ret
    exact ⟨rfl, HB13.out⟩
end Go.Proofs.Ythdcpodheimhaaa
