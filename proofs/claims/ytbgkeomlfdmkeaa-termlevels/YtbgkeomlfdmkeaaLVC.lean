/- Levels replaced, as plain data; levels in memory of their own, of which one is written. -/
import Derived.Test.YtbgkeomlfdmkeaaLVA
import Derived.Test.YtbgkeomlfdmkeaaOH
namespace Go.Proofs.Ytbgkeomlfdmkeaa
open Go.RowKit Go.Sort

/-- all levels replaced, or one cannot be -/
def levL (args : List LvT) : List LvT → Option (List LvT)
  | [] => some []
  | l :: ls => if (substR l.1 l.2 args).2.2 = 0 then (levL args ls).map (fun r => ((substR l.1 l.2 args).1, (substR l.1 l.2 args).2.1) :: r) else none

theorem levL_len {args : List LvT} : ∀ {ls r : List LvT}, levL args ls = some r → r.length = ls.length
  | [], r, h => by simp [levL] at h; rw [← h]
  | l :: ls, r, h => by
    rw [levL] at h
    split at h
    · cases hq : levL args ls with
      | none => rw [hq] at h; simp at h
      | some q =>
        rw [hq] at h
        simp at h
        rw [← h]; simp [levL_len hq]
    · simp at h

theorem levL_append {args : List LvT} : ∀ (xs ys : List LvT), levL args (xs ++ ys) = (levL args xs).bind fun r => (levL args ys).map (r ++ ·)
  | [], ys => by simp [levL]
  | x :: xs, ys => by
    rw [List.cons_append, levL, levL, levL_append xs ys]
    split
    · cases levL args xs with
      | none => rfl
      | some r => cases levL args ys <;> rfl
    · rfl

theorem levL_take {args ls : List LvT} {j : Nat} {l : LvT} {d : List LvT} (h : ls[j]? = some l) (hd : levL args (ls.take j) = some d) (hc : (substR l.1 l.2 args).2.2 = 0) : levL args (ls.take (j + 1)) = some (d ++ [((substR l.1 l.2 args).1, (substR l.1 l.2 args).2.1)]) := by
  obtain ⟨hj, rfl⟩ := List.getElem?_eq_some_iff.1 h
  rw [List.take_succ_eq_append_getElem hj, levL_append, hd]
  simp [levL, hc]

theorem levL_bad {args ls : List LvT} {j : Nat} {l : LvT} {d : List LvT} (h : ls[j]? = some l) (hd : levL args (ls.take j) = some d) (hc : (substR l.1 l.2 args).2.2 ≠ 0) : levL args ls = none := by
  obtain ⟨hj, rfl⟩ := List.getElem?_eq_some_iff.1 h
  conv => lhs; rw [← List.take_append_drop j ls]
  rw [levL_append, hd, List.drop_eq_getElem_cons hj]
  simp [levL, hc]

def Tm.setL : Tm → List LvT → Tm
  | .mk f n h nm _ ks, ls => .mk f n h nm ls ks

theorem Tm.setL_self (t : Tm) : t.setL t.levels = t := by cases t; rfl

/-- a part with its levels replaced -/
def levV (args : List LvT) (s : Bool) (t : Tm) (_ _ : Int) : Except Int (Bool × Tm) := match levL args (bareT t).levels with
  | some ls => .ok (s || !ls.isEmpty, (bareT t).setL ls)
  | none => .error 13

/-- what is known between two parts: whether all arguments are right -/
def levI (L : Nat) (args : List LvT) (aa : Option Addr) (acap : Nat) (s : Bool) (w : World) : Prop :=
  w.heap[L]? = some (.cells #[.slice aa args.length acap, .bool s] 75 (0, 0)) ∧ (s = true → args.any wrongL = false)

theorem SO.keep {w w' : World} {B E : Nat} {a : Option Addr} {xs : List (Int × Int)} (h : SO w B E a xs) (hk : ∀ b, a = some ⟨b, 0, none⟩ → xs ≠ [] → B ≤ b → b < E → b < w.heap.size → w'.heap[b]? = w.heap[b]?) : SO w' B E a xs := by
  rcases h with h | ⟨b, ha, h1, h2, hlt, hc⟩
  · exact Or.inl h
  · by_cases hx : xs = []
    · exact Or.inl hx
    · have e := hk b ha hx h1 h2 hlt
      exact Or.inr ⟨b, ha, h1, h2, lt_of_agree e hlt, fun i hi => ⟨(World.cell?_of_block (a := ⟨b, i * 2, none⟩) e).trans (hc i hi).1, (World.cell?_of_block (a := ⟨b, i * 2 + 1, none⟩) e).trans (hc i hi).2⟩⟩

theorem OR.so {B B' E : Nat} {w : World} {a : Option Addr} {n c : Nat} {xs : List (Int × Int)} (h : OR B' w (.slice a n c) xs) (hB : B ≤ B') (hE : w.heap.size ≤ E) : SO w B E a xs ∧ (a = none → c = 0) := by
  rcases h.2 with ⟨hv, hn⟩ | ⟨g, cap, cur, hv, hg, hh, hc, hm, hs, ht⟩
  · simp at hv
    obtain ⟨rfl, -, rfl⟩ := hv
    exact ⟨Or.inl (List.length_eq_zero_iff.1 hn), fun _ => rfl⟩
  · have hv' := hv
    simp at hv'
    obtain ⟨rfl, rfl, rfl⟩ := hv'
    obtain ⟨a', cap', e, hS, -⟩ := h.shape
    simp only [Value.slice.injEq, true_and] at e
    obtain ⟨rfl, rfl⟩ := e
    refine ⟨?_, fun e => by cases e⟩
    rcases hS with hS | ⟨b, off, ha, hlt, hS⟩
    · exact Or.inl hS
    · simp only [Option.some.injEq, Addr.mk.injEq, and_true] at ha
      obtain ⟨rfl, rfl⟩ := ha
      exact Or.inr ⟨g, rfl, by omega, by omega, hlt, fun i hi => by simpa using hS i hi⟩

/-- the pairs of a level do not lie in the row of the levels -/
theorem LO.apart {w : World} {B E g cap : Nat} {ls : List LvT} (h : LO w B E (.slice (some ⟨g, 0, none⟩) ls.length cap) ls) (hl : ls ≠ []) {b : Nat} {xs : List (Int × Int)} {B' E' : Nat} (hS : SO w B' E' (some ⟨b, 0, none⟩) xs) (hx : xs ≠ []) : b ≠ g := by
  rintro rfl
  rcases h with ⟨h, -⟩ | ⟨g', cap', cur, hv, h1, h2, hh, hc, hm, hs, hr⟩
  · exact hl h
  · simp at hv
    obtain ⟨rfl, rfl⟩ := hv
    obtain ⟨l, hl0⟩ : ∃ l, ls[0]? = some l := by cases ls with | nil => exact absurd rfl hl | cons l _ => exact ⟨l, rfl⟩
    obtain ⟨-, a', cap', c1, -⟩ := hr 0 l.1 l.2 hl0
    rcases hS with hS | ⟨b', ha, -, -, -, hc'⟩
    · exact hx hS
    · simp at ha
      subst ha
      have := (hc' 0 (List.length_pos_iff.2 hx)).2
      simp only [Nat.zero_mul, Nat.zero_add] at this c1
      rw [c1] at this
      simp at this

/-- one level written -/
theorem LO.put {w : World} {B E g cap j : Nat} {ls : List LvT} {n : Int} {xs : List (Int × Int)} {a : Option Addr} {c : Nat} (h : LO w B E (.slice (some ⟨g, 0, none⟩) ls.length cap) ls) (hj : j < ls.length) (hS : SO w B E a xs) (hn : a = none → c = 0) :
    LO ((w.setCell ⟨g, j * 2, none⟩ (.int .i64 n)).setCell ⟨g, j * 2 + 1, none⟩ (.slice a xs.length c)) B E (.slice (some ⟨g, 0, none⟩) (ls.set j (n, xs)).length cap) (ls.set j (n, xs)) := by
  have hne : ls ≠ [] := by intro e; rw [e] at hj; simp at hj
  have hap := fun {b : Nat} {xs : List (Int × Int)} (hS : SO w B E (some ⟨b, 0, none⟩) xs) (hx : xs ≠ []) => h.apart hne hS hx
  have hfar : ∀ b, b ≠ g → ((w.setCell ⟨g, j * 2, none⟩ (.int .i64 n)).setCell ⟨g, j * 2 + 1, none⟩ (.slice a xs.length c)).heap[b]? = w.heap[b]? := fun b hb => (Below.heap_setCell _ _ _ _ hb).trans (Below.heap_setCell _ _ _ _ hb)
  have hkeep : ∀ {a' : Option Addr} {ys : List (Int × Int)}, SO w B E a' ys → SO ((w.setCell ⟨g, j * 2, none⟩ (.int .i64 n)).setCell ⟨g, j * 2 + 1, none⟩ (.slice a xs.length c)) B E a' ys := fun {a' ys} hS' => hS'.keep fun b hb hy _ _ _ => hfar b (by subst hb; exact hap hS' hy)
  rcases h with ⟨h, -⟩ | ⟨g', cap', cur, hv, h1, h2, hh, hc, hm, hs, hr⟩
  · exact absurd h hne
  · simp at hv
    obtain ⟨rfl, rfl⟩ := hv
    have hrow : ((w.setCell ⟨g, j * 2, none⟩ (.int .i64 n)).setCell ⟨g, j * 2 + 1, none⟩ (.slice a xs.length c)).heap[g]? = some (.cells ((cur.setIfInBounds (j * 2) (.int .i64 n)).setIfInBounds (j * 2 + 1) (.slice a xs.length c)) 43 (0, 0)) := by
      rw [setCell_eq, setCell_eq]; show ((w.heap.modify g _).modify g _)[g]? = _
      rw [Array.getElem?_modify, if_pos rfl, Array.getElem?_modify, if_pos rfl, hh]; rfl
    refine Or.inr ⟨g, cap, _, rfl, h1, h2, hrow, by rw [List.length_set]; exact hc, hm, by simp [hs], fun i m ys hi => ?_⟩
    have hil : i < ls.length := by have := (List.getElem?_eq_some_iff.1 hi).1; simpa using this
    by_cases hij : i = j
    · subst hij
      rw [List.getElem?_set_self hj] at hi
      simp only [Option.some.injEq, Prod.mk.injEq] at hi
      obtain ⟨rfl, rfl⟩ := hi
      refine ⟨?_, a, c, ?_, hn, hkeep hS⟩
      · rw [cell_of_row _ g (i * 2) _ _ _ hrow, Array.getElem?_setIfInBounds_ne (by omega), Array.getElem?_setIfInBounds_self_of_lt (by omega)]
      · rw [cell_of_row _ g (i * 2 + 1) _ _ _ hrow, Array.getElem?_setIfInBounds_self_of_lt (by simp; omega)]
    · rw [List.getElem?_set_ne (by omega)] at hi
      obtain ⟨c0, a', cap', c1, hn', hS'⟩ := hr i m ys hi
      rw [cell_of_row _ g (i * 2) _ _ _ hh] at c0
      rw [cell_of_row _ g (i * 2 + 1) _ _ _ hh] at c1
      refine ⟨?_, a', cap', ?_, hn', hkeep hS'⟩
      · rw [cell_of_row _ g (i * 2) _ _ _ hrow, Array.getElem?_setIfInBounds_ne (by omega), Array.getElem?_setIfInBounds_ne (by omega)]; exact c0
      · rw [cell_of_row _ g (i * 2 + 1) _ _ _ hrow, Array.getElem?_setIfInBounds_ne (by omega), Array.getElem?_setIfInBounds_ne (by omega)]; exact c1

theorem LO.size {w : World} {B E : Nat} {v : Value} {ls : List LvT} (h : LO w B E v ls) {E' : Nat} (hE : E ≤ E') : LO w B E' v ls := h.mono (Nat.le_refl _) hE

theorem TO.shapeL {w : World} {B E : Nat} {v : Value} {t : Tm} (h : TO w B E v t) : ∃ (l1 : Option Addr) (l3 : Nat) (k1 : Option Addr) (k3 : Nat), v = .agg #[.int .i64 t.form, .int .i64 t.n, .bool t.hid, .string t.name, .slice l1 t.levels.length l3, .slice k1 t.kids.length k3] := by
  cases h with
  | leaf hl => obtain ⟨la, lc, rfl, -⟩ := hl.ln; exact ⟨_, _, _, _, rfl⟩
  | row hl => obtain ⟨la, lc, rfl, -⟩ := hl.ln; exact ⟨_, _, _, _, rfl⟩

theorem Fresh.shapeL {w : World} {B k : Nat} {v : Value} {t : Tm} (h : Fresh w B k v t) : ∃ (l1 : Option Addr) (l3 : Nat) (k1 : Option Addr) (k2 k3 : Nat), v = .agg #[.int .i64 t.form, .int .i64 t.n, .bool t.hid, .string t.name, .slice l1 t.levels.length l3, .slice k1 k2 k3] := by
  rcases h with ⟨-, h⟩ | ⟨-, g, -, -, h⟩
  · obtain ⟨l1, l3, k1, k3, e⟩ := h.shapeL; exact ⟨l1, l3, k1, _, k3, e⟩
  · obtain ⟨l1, l3, k1, k3, e⟩ := (h (g + 1) (g + 2) (by omega) (by omega)).to.shapeL; exact ⟨l1, l3, k1, _, k3, e⟩

/-- a leaf of its own, by its levels -/
theorem TO.leafL {w : World} {B E : Nat} {f n : Int} {h : Bool} {nm : ByteArray} {lv kv : Value} {t : Tm} (hT : TO w B E (.agg #[.int .i64 f, .int .i64 n, .bool h, .string nm, lv, kv]) t) (hk : t.kids = []) (hkv : kv = .slice none 0 0) : LO w B E lv t.levels := by
  cases hT with
  | leaf hl hBm hmE => exact hl.mono (Nat.le_refl _) hmE
  | row => simp at hkv
end Go.Proofs.Ytbgkeomlfdmkeaa

/- term.bare at forms with levels, the levels in hand. -/
namespace Go.Proofs.Ytbgkeomlfdmkeaa
open Go.RowKit Go.Sort

set_option maxRecDepth 100000 in
set_option maxHeartbeats 4000000 in
theorem bareL2 (n : Int) (h : Bool) (nm : ByteArray) (la ka : Option Addr) (lc k1 kc : Nat) (ls : List LvT) (w : World) (hk0 : k1 = 0) (hL : LN w la ls) (hn : ls.length ≤ 1000000) (hx : ∀ l ∈ ls, l.2.length ≤ 1000000) :
    Calls Try.prog 67 #[.agg #[.int .i64 2, .int .i64 n, .bool h, .string nm, .slice la ls.length lc, .slice ka k1 kc]] w fun e w' => ∃ la' lc', e = .returned (.agg #[.int .i64 2, .int .i64 0, .bool false, .string ByteArray.empty, .slice la' ls.length lc', .slice none 0 0]) ∧ LO w' w.heap.size w'.heap.size (.slice la' ls.length lc') ls ∧ RowKit.Below w.heap.size w w' := by
  have HC := fun (W : World) (hb : RowKit.Below w.heap.size w W) => copied_any ls la lc W (hL.below hb) hn hx
  clear hL hx
  subst hk0
  · go_enter Try.func67, Try.ntmps67
    go_wp2_with fail
    refine (HC _ ((((Below.refl w.heap.size w).alloc (Nat.le_refl _) _).alloc (by simp) _).alloc (by simp; omega) _)).mono ?_
    rintro e w1 ⟨v, rfl, hlo, hb1⟩
    rw [sz3] at hlo hb1
    have hz1' := hb1.size
    rw [sz3] at hz1'
    have ht := (hb1.block w.heap.size (by omega)).trans (alloc_old box_at _)
    have ho := (hb1.block (w.heap.size + 1 + 1) (by omega)).trans on2
    have hr := (hb1.block (w.heap.size + 1) (by omega)).trans on1
    have HB1 : Hid (RowKit.Below w.heap.size w w1) := ((((Below.refl w.heap.size w).alloc (Nat.le_refl _) _).alloc (by simp) _).alloc (by simp; omega) _).trans (hb1.mono (by omega))
    have HLO := Hid.mk hlo
    obtain ⟨la', lc', rfl, -⟩ := hlo.ln
    clear hlo hb1
    obtain ⟨t0, t1, t2, t3, t4, t5, t6⟩ := cells6 ht
    obtain ⟨x0, x1, x2, x3, x4, x5, x6⟩ := cells6 ho
    obtain ⟨y0, y1, y2, y3, y4, y5, y6⟩ := cells6 hr
    have fo := frz ho
    have fr := frz hr
    have ft := frz ht
    clear ho hr ht
    go_wp2
    refine bodyPost_ret (v := .agg #[.int .i64 2, .int .i64 0, .bool false, .string ByteArray.empty, .slice la' ls.length lc', .slice none 0 0]) (by simp [results, Try.results67, go_sem, y0, y1, y2, y3, y4, y5]; try rfl) rfl ⟨_, _, rfl, (HLO.out.on (fun k h1 _ => ?_)).mono (by omega) (by simp), ?_⟩
    · simp only [heap_far (show k ≠ w.heap.size + 1 + 1 by omega), heap_far (show k ≠ w.heap.size + 1 by omega)]
    · exact ((((((HB1.out.setCell (p := ⟨w.heap.size + 1 + 1, 4, none⟩) (by simp; omega) _).setCell (p := ⟨w.heap.size + 1, 0, none⟩) (by simp) _).setCell (p := ⟨w.heap.size + 1, 1, none⟩) (by simp) _).setCell (p := ⟨w.heap.size + 1, 2, none⟩) (by simp) _).setCell (p := ⟨w.heap.size + 1, 3, none⟩) (by simp) _).setCell (p := ⟨w.heap.size + 1, 4, none⟩) (by simp) _).setCell (p := ⟨w.heap.size + 1, 5, none⟩) (by simp) _

set_option maxRecDepth 100000 in
set_option maxHeartbeats 4000000 in
theorem bareL10 (n : Int) (h : Bool) (nm : ByteArray) (la ka : Option Addr) (lc k1 kc : Nat) (ls : List LvT) (w : World) (hk0 : k1 = 0) (hL : LN w la ls) (hn : ls.length ≤ 1000000) (hx : ∀ l ∈ ls, l.2.length ≤ 1000000) :
    Calls Try.prog 67 #[.agg #[.int .i64 10, .int .i64 n, .bool h, .string nm, .slice la ls.length lc, .slice ka k1 kc]] w fun e w' => ∃ la' lc', e = .returned (.agg #[.int .i64 10, .int .i64 0, .bool false, .string nm, .slice la' ls.length lc', .slice none 0 0]) ∧ LO w' w.heap.size w'.heap.size (.slice la' ls.length lc') ls ∧ RowKit.Below w.heap.size w w' := by
  have HC := fun (W : World) (hb : RowKit.Below w.heap.size w W) => copied_any ls la lc W (hL.below hb) hn hx
  clear hL hx
  subst hk0
  · go_enter Try.func67, Try.ntmps67
    go_wp2_with fail
    refine (HC _ ((((Below.refl w.heap.size w).alloc (Nat.le_refl _) _).alloc (by simp) _).alloc (by simp; omega) _)).mono ?_
    rintro e w1 ⟨v, rfl, hlo, hb1⟩
    rw [sz3] at hlo hb1
    have hz1' := hb1.size
    rw [sz3] at hz1'
    have ht := (hb1.block w.heap.size (by omega)).trans (alloc_old box_at _)
    have ho := (hb1.block (w.heap.size + 1 + 1) (by omega)).trans on2
    have hr := (hb1.block (w.heap.size + 1) (by omega)).trans on1
    have HB1 : Hid (RowKit.Below w.heap.size w w1) := ((((Below.refl w.heap.size w).alloc (Nat.le_refl _) _).alloc (by simp) _).alloc (by simp; omega) _).trans (hb1.mono (by omega))
    have HLO := Hid.mk hlo
    obtain ⟨la', lc', rfl, -⟩ := hlo.ln
    clear hlo hb1
    obtain ⟨t0, t1, t2, t3, t4, t5, t6⟩ := cells6 ht
    obtain ⟨x0, x1, x2, x3, x4, x5, x6⟩ := cells6 ho
    obtain ⟨y0, y1, y2, y3, y4, y5, y6⟩ := cells6 hr
    have fo := frz ho
    have fr := frz hr
    have ft := frz ht
    clear ho hr ht
    go_wp2
    refine bodyPost_ret (v := .agg #[.int .i64 10, .int .i64 0, .bool false, .string nm, .slice la' ls.length lc', .slice none 0 0]) (by simp [results, Try.results67, go_sem, y0, y1, y2, y3, y4, y5]; try rfl) rfl ⟨_, _, rfl, (HLO.out.on (fun k h1 _ => ?_)).mono (by omega) (by simp), ?_⟩
    · simp only [heap_far (show k ≠ w.heap.size + 1 + 1 by omega), heap_far (show k ≠ w.heap.size + 1 by omega)]
    · exact ((((((HB1.out.setCell (p := ⟨w.heap.size + 1 + 1, 4, none⟩) (by simp; omega) _).setCell (p := ⟨w.heap.size + 1, 0, none⟩) (by simp) _).setCell (p := ⟨w.heap.size + 1, 1, none⟩) (by simp) _).setCell (p := ⟨w.heap.size + 1, 2, none⟩) (by simp) _).setCell (p := ⟨w.heap.size + 1, 3, none⟩) (by simp) _).setCell (p := ⟨w.heap.size + 1, 4, none⟩) (by simp) _).setCell (p := ⟨w.heap.size + 1, 5, none⟩) (by simp) _
end Go.Proofs.Ytbgkeomlfdmkeaa
