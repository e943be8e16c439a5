/- tele.Split. -/
import Derived.Test.YthdcpodheimhaaaHA
import Derived.Test.YthdcpodheimhaaaHC
import Derived.Test.YthdcpodheimhaaaHD
import Derived.Test.YthdcpodheimhaaaWH
import Derived.Laws.EntriesVeiled
namespace Go.Proofs.Ythdcpodheimhaaa
open Go.RowKit Go.Sort Go.Shelf Go.Lib

theorem noting_any (hb : Nat) (w : World) : Calls Try.prog 24 #[.pointer (some ⟨hb, 0, none⟩)] w fun e w' => e = .returned (.func (.func 40) #[] #[.pointer (some ⟨w.heap.size, 0, none⟩)]) ∧ w' = w.alloc (.cells #[.pointer (some ⟨hb, 0, none⟩)] 50) := by
  go_enter Try.func24, Try.ntmps24
  go_wp2
  go_ret
  exact ⟨rfl, rfl⟩

theorem outermost_any (N : Int) (f n : Int) (hd : Bool) (nm : ByteArray) (la ka : Option Addr) (l1 lc k1 kc : Nat) (w : World) : Calls Try.prog 25 #[.agg #[.int .i64 f, .int .i64 n, .bool hd, .string nm, .slice la l1 lc, .slice ka k1 kc], .int .i64 N] w fun e w' => e = .returned (.func (.func 41) #[] #[.pointer (some ⟨w.heap.size, 0, none⟩), .pointer (some ⟨w.heap.size + 1, 0, none⟩)]) ∧ w' = (w.alloc (.cells #[.int .i64 f, .int .i64 n, .bool hd, .string nm, .slice la l1 lc, .slice ka k1 kc] 25)).alloc (.cells #[.int .i64 N] 3) := by
  go_enter Try.func25, Try.ntmps25
  go_wp2
  go_ret
  exact ⟨rfl, rfl⟩

theorem box7 {w : World} {a b c d e f g : Obj} : (((((((w.alloc a).alloc b).alloc c).alloc d).alloc e).alloc f).alloc g).heap[w.heap.size]? = some a ∧ (((((((w.alloc a).alloc b).alloc c).alloc d).alloc e).alloc f).alloc g).heap[w.heap.size + 1]? = some b ∧ (((((((w.alloc a).alloc b).alloc c).alloc d).alloc e).alloc f).alloc g).heap[w.heap.size + 1 + 1]? = some c ∧ (((((((w.alloc a).alloc b).alloc c).alloc d).alloc e).alloc f).alloc g).heap[w.heap.size + 1 + 1 + 1]? = some d ∧ (((((((w.alloc a).alloc b).alloc c).alloc d).alloc e).alloc f).alloc g).heap[w.heap.size + 1 + 1 + 1 + 1]? = some e ∧ (((((((w.alloc a).alloc b).alloc c).alloc d).alloc e).alloc f).alloc g).heap[w.heap.size + 1 + 1 + 1 + 1 + 1]? = some f ∧ (((((((w.alloc a).alloc b).alloc c).alloc d).alloc e).alloc f).alloc g).heap[w.heap.size + 1 + 1 + 1 + 1 + 1 + 1]? = some g := by
  have h3 : ∀ (w : World) (o : Obj), (w.alloc o).heap.size = w.heap.size + 1 := fun w o => by simp
  have old : ∀ {w : World} {k : Nat} {x : Obj} (o : Obj), w.heap[k]? = some x → (w.alloc o).heap[k]? = some x := fun o h => alloc_old h o
  have new : ∀ (w : World) (o : Obj) (k : Nat), k = w.heap.size → (w.alloc o).heap[k]? = some o := fun w o k h => h ▸ alloc_new w o
  refine ⟨old _ (old _ (old _ (old _ (old _ (old _ (new _ _ _ rfl)))))), old _ (old _ (old _ (old _ (old _ (new _ _ _ (by simp only [h3])))))), old _ (old _ (old _ (old _ (new _ _ _ (by simp only [h3]))))), old _ (old _ (old _ (new _ _ _ (by simp only [h3])))), old _ (old _ (new _ _ _ (by simp only [h3]))), old _ (new _ _ _ (by simp only [h3])), new _ _ _ (by simp only [h3])⟩

def domT : Tm → Tm
  | .mk _ _ _ _ _ (d :: _) => d
  | t => t

/-- is k the block of a slice's own row? -/
def ownV (v : Value) (k : Nat) : Bool := decide (v.ownBlock = some k)

theorem RowF.go2 {w w' : World} {B cap : Nat} {P Q : Nat → Bool} {a : Option Addr} {ts : List Tm} (h : RowF w B P a cap ts) (hs : w.heap.size ≤ w'.heap.size) (hown : ∀ k, ownB a k = true → w'.heap[k]? = w.heap[k]?) (hk : ∀ k, k < w.heap.size → P k = false → ownB a k = false → Q k = false ∧ w'.heap[k]? = w.heap[k]?) : RowF w' B Q a cap ts := by
  obtain ⟨xs, kvs, ho, hkv⟩ := h.go
  refine ⟨xs, kvs, owns_block ho fun g hg => hown g (by subst hg; simp [ownB]), fun j t hj => ⟨(hkv j t hj).1, (hkv j t hj).2.move hs fun k h1 h2 => ?_⟩⟩
  rw [Bool.or_eq_false_iff] at h2
  obtain ⟨h3, h4⟩ := hk k h1 h2.1 h2.2
  exact ⟨by rw [h3, h2.2]; rfl, h4⟩

/-- what holds ahead of each round of Split's loop: pre has come, the rest is still to come -/
def SpI (w0 : World) (xs : List (Value × Tm)) (v' : Value) (t' : Tm) (Z R D H Pp Nb BR : Nat) (pre : List (Value × Tm)) (W : World) : Prop :=
  (∃ (rest : List (Value × Tm)) (rt : Tm) (q0 q1 : Int) (q2 : Bool) (q3 : ByteArray) (e1 : Option Addr) (e2 e3 : Nat) (g1 : Option Addr) (g2 g3 : Nat), pre ++ rest = xs ∧ PiRow w0 rest (.agg #[.int .i64 q0, .int .i64 q1, .bool q2, .string q3, .slice e1 e2 e3, .slice g1 g2 g3]) rt v' t' ∧ W.heap[R]? = some (.cells #[.int .i64 q0, .int .i64 q1, .bool q2, .string q3, .slice e1 e2 e3, .slice g1 g2 g3] 25 (0, 0))) ∧
  (∃ (a : Option Addr) (cap : Nat) (hv : Value), W.heap[D]? = some (.cells #[.slice a pre.length cap] 23 (0, 0)) ∧ W.heap[H]? = some (.cells #[hv] 28 (0, 0)) ∧ OB1 BR W hv (pre.map fun x => x.2.hid) ∧ RowF W BR (fun k => decide (k < BR) || ownV hv k) a cap (pre.map fun x => cleanT (domT x.2))) ∧
  W.heap[Pp]? = some (.cells #[.pointer (some ⟨H, 0, none⟩)] 50 (0, 0)) ∧ W.heap[Nb]? = some (.cells #[.func (.func 40) #[] #[.pointer (some ⟨Pp, 0, none⟩)]] 48 (0, 0)) ∧
  W.heap[Z]? = some (.cells #[.int .i64 0, .int .i64 0, .bool false, .string { data := #[] }, .slice none 0 0, .slice none 0 0] 25 (0, 0)) ∧ RowKit.Below w0.heap.size w0 W

/-- it stays where nothing turns that it speaks of -/
theorem SpI.on {w0 : World} {xs : List (Value × Tm)} {v' : Value} {t' : Tm} {Z R D H Pp Nb L : Nat} {pre : List (Value × Tm)} {W W' : World} (h : SpI w0 xs v' t' Z R D H Pp Nb (L + 3) pre W) (hl : Z < L ∧ R < L ∧ D < L ∧ H < L ∧ Pp < L ∧ Nb < L ∧ w0.heap.size ≤ L) (hs : W.heap.size ≤ W'.heap.size) (hk : ∀ k, k < W.heap.size → ¬ (L ≤ k ∧ k < L + 3) → W'.heap[k]? = W.heap[k]?) (ho : W'.os = W.os) (ht : W'.tape = W.tape) (hu : W'.output = W.output) : SpI w0 xs v' t' Z R D H Pp Nb (L + 3) pre W' := by
  obtain ⟨h1, h2, h3, h4, h5, h6, h7⟩ := hl
  obtain ⟨⟨rest, rt, q0, q1, q2, q3, e1, e2, e3, g1, g2, g3, a1, a2, a3⟩, ⟨a, cap, hv, b1, b2, b3, b4⟩, c1, c2, c3, c4⟩ := h
  have st : ∀ {k : Nat} {o : Obj}, W.heap[k]? = some o → k < L → W'.heap[k]? = some o := fun hh hlt => (hk _ (heap_lt hh) (by omega)).trans hh
  refine ⟨⟨rest, rt, q0, q1, q2, q3, e1, e2, e3, g1, g2, g3, a1, a2, st a3 h2⟩, ⟨a, cap, hv, st b1 h3, st b2 h4, b3.move fun k hk2 => ?_, b4.go2 hs (fun k hk2 => ?_) (fun k h1 h2 h3 => ⟨h2, ?_⟩)⟩, st c1 h5, st c2 h6, st c3 h1, ⟨ho.trans c4.os, ht.trans c4.tape, hu.trans c4.output, Nat.le_trans c4.size hs, fun k hk2 => (hk k (Nat.lt_of_lt_of_le hk2 c4.size) (by omega)).trans (c4.block k hk2)⟩⟩
  · have := b3.lt hk2
    exact hk k this.2 (by omega)
  · obtain ⟨ys, kvs, ho, -⟩ := b4.go
    have := row_block ho hk2
    exact hk k this.2 (by omega)
  · rw [Bool.or_eq_false_iff, decide_eq_false_iff_not] at h2
    exact hk k h1 (by omega)

def cellsV : Value → Array Value
  | .agg cs => cs
  | v => #[v]

/-- the domain of a TPi in memory -/
theorem pi_dom {w0 : World} {n : Int} {h : Bool} {nm : ByteArray} {ls : List LvT} {d t1 : Tm} {la : Option Addr} {l lc kb ko kc : Nat} (hv : TV w0 (.agg #[.int .i64 3, .int .i64 n, .bool h, .string nm, .slice la l lc, .slice (some ⟨kb, ko, none⟩) 2 kc]) (.mk 3 n h nm ls [d, t1])) :
    ∃ (d0 d1 : Int) (d2 : Bool) (d3 : ByteArray) (d4 : Option Addr) (d5 d6 : Nat) (d7 : Option Addr) (d8 d9 : Nat), CellsAt w0 kb ko (.agg #[.int .i64 d0, .int .i64 d1, .bool d2, .string d3, .slice d4 d5 d6, .slice d7 d8 d9]) ∧ TV w0 (.agg #[.int .i64 d0, .int .i64 d1, .bool d2, .string d3, .slice d4 d5 d6, .slice d7 d8 d9]) d := by
  generalize e1 : (Value.agg #[.int .i64 3, .int .i64 n, .bool h, .string nm, .slice la l lc, .slice (some ⟨kb, ko, none⟩) 2 kc]) = vv at hv
  generalize e2 : (Tm.mk 3 n h nm ls [d, t1]) = tt at hv
  cases hv with
  | mk hl hln hlc hlm hkn hkc hkm hk kids =>
    simp only [Tm.mk.injEq] at e2
    obtain ⟨-, -, -, -, -, rfl⟩ := e2
    simp only [Value.agg.injEq, Array.mk.injEq, List.cons.injEq, Value.slice.injEq, and_true] at e1
    have h0 := (hk (by simp)).1
    rw [← e1.2.2.2.2.2.1] at h0
    simp only [Option.some.injEq, Addr.mk.injEq, and_true] at h0
    obtain ⟨rfl, rfl⟩ := h0
    obtain ⟨d0, d1, d2, d3, d4, d5, d6, d7, d8, d9, c0, c1, c2, c3, c4, c5, ht⟩ := (kids 0 d rfl).valE
    exact ⟨d0, d1, d2, d3, d4, d5, d6, d7, d8, d9, ⟨d0, d1, d2, d3, d4, d5, d6, d7, d8, d9, rfl, c0, c1, c2, c3, c4, c5⟩, ht⟩

/-- the one that comes next -/
theorem SpI.elem {w0 : World} {xs : List (Value × Tm)} {v' : Value} {t' : Tm} {Z R D H Pp Nb BR : Nat} {pre rest : List (Value × Tm)} {x : Value × Tm} {W : World} (h : SpI w0 xs v' t' Z R D H Pp Nb BR pre W) (hpre : pre ++ x :: rest = xs) :
    ∃ (rt : Tm) (xn : Int) (xh : Bool) (xm : ByteArray) (xa : Option Addr) (xl xc kb ko xk : Nat) (ls : List LvT) (d t1 : Tm) (v1 : Value), x.1 = .agg #[.int .i64 3, .int .i64 xn, .bool xh, .string xm, .slice xa xl xc, .slice (some ⟨kb, ko, none⟩) 2 xk] ∧ x.2 = .mk 3 xn xh xm ls [d, t1] ∧ TV w0 x.1 x.2 ∧ kb < w0.heap.size ∧ 2 ≤ xk ∧ CellsAt w0 kb (ko + 6) v1 ∧ PiRow w0 rest v1 t1 v' t' ∧ rt = t1 := by
  obtain ⟨⟨rest', rt, q0, q1, q2, q3, e1, e2, e3, g1, g2, g3, a1, a2, a3⟩, -⟩ := h
  have hr : rest' = x :: rest := by
    rw [← hpre] at a1
    exact List.append_cancel_left a1
  subst hr
  generalize (Value.agg #[.int .i64 q0, .int .i64 q1, .bool q2, .string q3, .slice e1 e2 e3, .slice g1 g2 g3]) = vv at a2
  cases a2 with
  | cons hv hkb hkc hc hr => exact ⟨_, _, _, _, _, _, _, _, _, _, _, _, _, _, rfl, rfl, hv, hkb, hkc, hc, hr, rfl⟩

/-- six cells of a box written -/
def set6W (w : World) (b : Nat) (a0 a1 a2 a3 a4 a5 : Value) : World := (((((w.setCell ⟨b, 0, none⟩ a0).setCell ⟨b, 1, none⟩ a1).setCell ⟨b, 2, none⟩ a2).setCell ⟨b, 3, none⟩ a3).setCell ⟨b, 4, none⟩ a4).setCell ⟨b, 5, none⟩ a5

/-- a row of terms and a row of Hids do not lie in one block -/
theorem own_apart {w : World} {B n cap : Nat} {a : Option Addr} {xs : List Value} {hv : Value} {hs : List Bool} (h : w.ownsRow B 25 6 (.slice a n cap) n xs) (h' : OB1 B w hv hs) {k : Nat} (hk : hv.ownBlock = some k) : ownB a k = false := by
  cases e : ownB a k with
  | false => rfl
  | true =>
    exfalso
    rcases h.2 with ⟨hv2, -⟩ | ⟨g, cap', cur, hv2, -, hh, -⟩
    · simp only [Value.slice.injEq] at hv2
      rw [hv2.1] at e
      cases e
    · simp only [Value.slice.injEq] at hv2
      rw [hv2.1] at e
      simp only [ownB, beq_iff_eq] at e
      subst e
      rcases h'.2 with ⟨hv3, -⟩ | ⟨g', cap2, cur2, hv3, -, hh2, -⟩
      · rw [hv3] at hk; cases hk
      · rw [hv3] at hk
        simp only [Value.ownBlock, Option.some.injEq] at hk
        subst hk
        rw [hh] at hh2
        simp only [Option.some.injEq, Obj.cells.injEq] at hh2
        exact absurd hh2.2.1 (by decide)

/-- nor is a row of Hids a term's box -/
theorem box_apart {w : World} {B k : Nat} {cs : Array Value} {hv : Value} {hs : List Bool} (h : w.heap[k]? = some (.cells cs 25 (0, 0))) (h' : OB1 B w hv hs) : hv.ownBlock ≠ some k := by
  intro hk
  rcases h'.2 with ⟨hv3, -⟩ | ⟨g', cap2, cur2, hv3, -, hh2, -⟩
  · rw [hv3] at hk; cases hk
  · rw [hv3] at hk
    simp only [Value.ownBlock, Option.some.injEq] at hk
    subst hk
    rw [h] at hh2
    simp only [Option.some.injEq, Obj.cells.injEq] at hh2
    exact absurd hh2.2.1 (by decide)

theorem setx6_end (ys : List Value) (a0 a1 a2 a3 a4 a5 u0 u1 u2 u3 u4 u5 : Value) : setx6 (ys ++ [a0, a1, a2, a3, a4, a5]) ys.length u0 u1 u2 u3 u4 u5 = ys ++ [u0, u1, u2, u3, u4, u5] := by
  have st : ∀ (l : List Value) (k : Nat) (u : Value), (ys ++ l).set (ys.length + k) u = ys ++ l.set k u := fun l k u => by
    rw [List.set_append_right _ _ (by omega), Nat.add_sub_cancel_left]
  unfold setx6
  have h0 := st [a0, a1, a2, a3, a4, a5] 0 u0
  rw [Nat.add_zero] at h0
  rw [h0, st, st, st, st, st]
  rfl

theorem setCell_swap (w : World) {b b' o o' : Nat} (h : b ≠ b') (u u' : Value) : (w.setCell ⟨b, o, none⟩ u).setCell ⟨b', o', none⟩ u' = (w.setCell ⟨b', o', none⟩ u').setCell ⟨b, o, none⟩ u := by
  rw [setCell_eq, setCell_eq, setCell_eq, setCell_eq]
  show ({ w with heap := (w.heap.modify b _).modify b' _ } : World) = { w with heap := (w.heap.modify b' _).modify b _ }
  congr 1
  apply Array.ext_getElem?
  intro i
  simp only [Array.getElem?_modify]
  by_cases h1 : b = i
  · have h2 : ¬ b' = i := by omega
    simp only [if_pos h1, if_neg h2]
  · simp only [if_neg h1]

/-- the term that was put into a row's new place, and the row's new slice in its box -/
theorem fin9 {W6 W7 : World} {BR D g n c cap : Nat} {P : Nat → Bool} {a : Option Addr} {ts : List Tm} {ys : List Value} {kvs : Nat → Value} {t : Tm} {a0 a1 a2 a3 a4 a5 x s : Value} {ty : TypeId} {u0 u1 : Int} {u2 : Bool} {u3 : ByteArray} {r1 : Option Addr} {r2 r3 : Nat} {q1 : Option Addr} {q2 q3 : Nat} (hown : W7.ownsRow BR 25 6 (.slice (some ⟨g, 0, none⟩) (n + 1) c) (n + 1) (ys ++ [a0, a1, a2, a3, a4, a5])) (hl : ts.length = n) (hys : ys.length = n * 6)
    (hkv : ∀ j t, ts[j]? = some t → SixAt ys (j * 6) (kvs j) ∧ TF W6 (fun k => P k || ownB a k) (kvs j) t) (hgr : W6.grownBy W7 (Value.slice a n cap).ownBlock) (hat : (Value.slice a n cap).ownBlock = some g ∨ g = W6.heap.size)
    (hnew : TF W6 (fun k => P k || ownB a k) (.agg #[.int .i64 u0, .int .i64 u1, .bool u2, .string u3, .slice r1 r2 r3, .slice q1 q2 q3]) t) (hD : D ≠ g) (hPD : P D = true) (hDh : W7.heap[D]? = some (.cells #[x] ty (0, 0))) :
    RowF ((((((((W7.setCell ⟨g, n * 6, none⟩ (.int .i64 u0)).setCell ⟨g, n * 6 + 1, none⟩ (.int .i64 u1)).setCell ⟨g, n * 6 + 2, none⟩ (.bool u2)).setCell ⟨g, n * 6 + 3, none⟩ (.string u3)).setCell ⟨g, n * 6 + 4, none⟩ (.slice r1 r2 r3)).setCell ⟨g, n * 6 + 5, none⟩ (.slice q1 q2 q3)).setCell ⟨D, 0, none⟩ s)) BR P (some ⟨g, 0, none⟩) c (ts ++ [t]) ∧
    ((((((((W7.setCell ⟨g, n * 6, none⟩ (.int .i64 u0)).setCell ⟨g, n * 6 + 1, none⟩ (.int .i64 u1)).setCell ⟨g, n * 6 + 2, none⟩ (.bool u2)).setCell ⟨g, n * 6 + 3, none⟩ (.string u3)).setCell ⟨g, n * 6 + 4, none⟩ (.slice r1 r2 r3)).setCell ⟨g, n * 6 + 5, none⟩ (.slice q1 q2 q3)).setCell ⟨D, 0, none⟩ s)).heap[D]? = some (.cells #[s] ty (0, 0)) ∧
    Kept (fun k => k = D ∨ k = g) W7 ((((((((W7.setCell ⟨g, n * 6, none⟩ (.int .i64 u0)).setCell ⟨g, n * 6 + 1, none⟩ (.int .i64 u1)).setCell ⟨g, n * 6 + 2, none⟩ (.bool u2)).setCell ⟨g, n * 6 + 3, none⟩ (.string u3)).setCell ⟨g, n * 6 + 4, none⟩ (.slice r1 r2 r3)).setCell ⟨g, n * 6 + 5, none⟩ (.slice q1 q2 q3)).setCell ⟨D, 0, none⟩ s)) := by
  have ho8 := owns_setx6 hown (n * 6) (.int .i64 u0) (.int .i64 u1) (.bool u2) (.string u3) (.slice r1 r2 r3) (.slice q1 q2 q3)
  have hk8 := kept_setx6 (g := g) W7 (n * 6) (.int .i64 u0) (.int .i64 u1) (.bool u2) (.string u3) (.slice r1 r2 r3) (.slice q1 q2 q3)
  rw [show setx6 (ys ++ [a0, a1, a2, a3, a4, a5]) (n * 6) (.int .i64 u0) (.int .i64 u1) (.bool u2) (.string u3) (.slice r1 r2 r3) (.slice q1 q2 q3) = ys ++ [.int .i64 u0, .int .i64 u1, .bool u2, .string u3, .slice r1 r2 r3, .slice q1 q2 q3] by rw [← hys]; exact setx6_end _ _ _ _ _ _ _ _ _ _ _ _ _] at ho8
  generalize ((((((W7.setCell ⟨g, n * 6, none⟩ (.int .i64 u0)).setCell ⟨g, n * 6 + 1, none⟩ (.int .i64 u1)).setCell ⟨g, n * 6 + 2, none⟩ (.bool u2)).setCell ⟨g, n * 6 + 3, none⟩ (.string u3)).setCell ⟨g, n * 6 + 4, none⟩ (.slice r1 r2 r3)).setCell ⟨g, n * 6 + 5, none⟩ (.slice q1 q2 q3)) = W8 at ho8 hk8 ⊢
  have hgr8 : W6.grownBy W8 (Value.slice a n cap).ownBlock := ⟨hk8.os.trans hgr.os, hk8.tape.trans hgr.tape, hk8.output.trans hgr.output, Nat.le_trans hgr.size hk8.size, fun k hk hne => (hk8.block k (Nat.lt_of_lt_of_le hk hgr.size) (fun e => by
    rcases hat with h | h
    · exact hne (by rw [e, h])
    · omega)).trans (hgr.block k hk hne)⟩
  have hrow : RowF W8 BR P (some ⟨g, 0, none⟩) c (ts ++ [t]) := RowF.snoc (cap := cap) hkv (by rw [hl]; exact hys) (by rw [hl]; exact ho8) (by rw [hl]; exact hgr8) (by rw [hl]; exact hat) hnew
  have hk9 : Kept (fun k => k = D) W8 (W8.setCell ⟨D, 0, none⟩ s) := (Kept.refl (fun k => k = D) W8).setCell (p := ⟨D, 0, none⟩) rfl _
  refine ⟨hrow.go2 hk9.size (fun k hk => ?_) (fun k h1 h2 _ => ⟨h2, hk9.block k h1 (fun e => by rw [e, hPD] at h2; cases h2)⟩), heap_set1 ((hk8.block D (heap_lt hDh) hD).trans hDh), ⟨hk9.os.trans hk8.os, hk9.tape.trans hk8.tape, hk9.output.trans hk8.output, Nat.le_trans hk8.size hk9.size, fun k hk hp => (hk9.block k (Nat.lt_of_lt_of_le hk hk8.size) (fun e => hp (Or.inl e))).trans (hk8.block k hk (fun e => hp (Or.inr e)))⟩⟩
  simp only [ownB, beq_iff_eq] at hk
  exact Below.heap_setCell _ _ _ _ (by simp only; omega)

/-- what Split answers -/
def SpOut (w : World) (xs : List (Value × Tm)) (N : Int) (t' : Tm) (e : Ending) (w' : World) : Prop :=
  RowKit.Below w.heap.size w w' ∧ (((xs.length : Int) = N ∧ ∃ (B : Nat) (P : Nat → Bool) (a : Option Addr) (cap : Nat) (hv rv : Value), e = .returned (.tuple #[.slice a xs.length cap, hv, rv, .bool true]) ∧ RowF w' B P a cap (xs.map fun x => cleanT (domT x.2)) ∧ OB1 B w' hv (xs.map fun x => x.2.hid) ∧ ShapeT rv ∧ TV w' rv (cleanT t')) ∨ ((xs.length : Int) < N ∧ e = .returned (.tuple #[.slice none 0 0, .slice none 0 0, zeroV, .bool false])))

attribute [local go_sem] Oper.semAt_some

set_option maxRecDepth 100000 in
set_option maxHeartbeats 8000000 in
theorem Split_walk (N : Int) (t t' : Tm) (v v' : Value) (xs : List (Value × Tm)) (w : World) (hv : TV w v t) (hsm : smT 1000000 t) (hN0 : 0 ≤ N) (hN : N ≤ 9223372036854775807) (hc : checkT t = 0) (hrow : PiRow w xs v t v' t') (hend : (xs.length : Int) = N ∨ ((xs.length : Int) < N ∧ t'.form ≠ 3)) (hxl : xs.length ≤ 500) (hG : ∀ x ∈ xs, GT (domT x.2) ∧ (sizeT (domT x.2) : Int) ≤ 16777216 ∧ (heightT (domT x.2) : Int) ≤ 65536) (hG' : GT t' ∧ (sizeT t' : Int) ≤ 16777216 ∧ (heightT t' : Int) ≤ 65536) : Calls Try.prog 8 #[v, .int .i64 N] w fun e w' => SpOut w xs N t' e w' := by
  have HCH := fun (W : World) (h : RowKit.Below w.heap.size w W) => (callsIn_wide (n := 5)).2 (Check_any t v W (hv.on h) hsm)
  rw [hc] at HCH
  have HV := Hid.mk hv
  have HROW := Hid.mk hrow
  have HEND := Hid.mk hend
  have HG := Hid.mk hG
  have HXL := Hid.mk hxl
  have HGT := Hid.mk hG'
  obtain ⟨la, lc, ka, kc, rfl⟩ := hv.shape
  clear hv hrow hend hG hxl hG'
  generalize t.form = f at *
  generalize t.n = n at *
  generalize t.hid = hd at *
  generalize t.name = nm at *
  generalize t.levels.length = l1 at *
  generalize t.kids.length = k1 at *
  obtain ⟨W0, hW0⟩ : ∃ W0, (w.alloc (.cells #[.int .i64 f, .int .i64 n, .bool hd, .string nm, .slice la l1 lc, .slice ka k1 kc] 25)).alloc (.cells #[.int .i64 0, .int .i64 0, .bool false, .string { data := #[] }, .slice none 0 0, .slice none 0 0] 25) = W0 := ⟨_, rfl⟩
  have hb0 : RowKit.Below w.heap.size w W0 := by rw [← hW0]; exact ((Below.refl _ _).alloc (Nat.le_refl _) _).alloc (by simp) _
  have HX0 : Hid (W0.heap[w.heap.size]? = some (.cells #[.int .i64 f, .int .i64 n, .bool hd, .string nm, .slice la l1 lc, .slice ka k1 kc] 25 (0, 0))) := by unfold Hid; rw [← hW0]; exact box_at
  have HR0 : Hid (W0.heap[w.heap.size + 1]? = some (.cells #[.int .i64 0, .int .i64 0, .bool false, .string { data := #[] }, .slice none 0 0, .slice none 0 0] 25 (0, 0))) := by unfold Hid; rw [← hW0]; exact box_at1
  have HC0 := HCH W0 hb0
  have HB0 := Hid.mk hb0
  have HW0 := Hid.mk hW0
  obtain ⟨x0, x1, x2, x3, x4, x5, x6⟩ := cells6 HX0.out
  have hN1 : ¬ N < 0 := by omega
  clear hW0 hb0 HCH
  refine (callsIn_wide (n := 6)).1 ?_
  refine callsIn_of_wp_marks Try.func8 rfl trivial ?_ rfl
  simp only [Try.ntmps8, List.size_toArray, List.length_cons, List.length_nil, Nat.reduceAdd, Nat.reduceSub, Array.replicate_succ, Array.replicate_zero, List.push_toArray, List.append_toArray, List.nil_append, List.cons_append]
  gi_wp2_with fail
  refine ⟨trivial, ?_⟩
  rw [HW0.out]
  refine HC0.mono ?_
  rintro e w1 ⟨rfl, hb1⟩
  have HX1 := Hid.mk ((hb1.block _ (heap_lt HX0.out)).trans HX0.out)
  have HR1 := Hid.mk ((hb1.block _ (heap_lt HR0.out)).trans HR0.out)
  have HB1 : Hid (RowKit.Below w.heap.size w w1) := HB0.out.trans (hb1.mono HB0.out.size)
  clear HC0 hb1 x0 x1 x2 x3 x4 x5 x6
  obtain ⟨x0, x1, x2, x3, x4, x5, x6⟩ := cells6 HX1.out
  gi_wp2_with fail
  refine ⟨trivial, ?_⟩
  refine ((callsIn_wide (n := 5)).2 (noting_any _ _)).mono ?_
  rintro e w2 ⟨rfl, hw2⟩
  have hb2 : RowKit.Below w1.heap.size w1 w2 := by rw [hw2]; exact ((((Below.refl _ _).alloc (Nat.le_refl _) _).alloc (by simp) _).alloc (by simp; omega) _).alloc (by simp; omega) _
  have hs2 : w2.heap.size = w1.heap.size + 1 + 1 + 1 + 1 := by rw [hw2]; simp
  have HX2 := Hid.mk ((hb2.block _ (heap_lt HX1.out)).trans HX1.out)
  have HW2 := Hid.mk hw2
  have HS2 := Hid.mk hs2
  clear hb2 hs2 hw2 x0 x1 x2 x3 x4 x5 x6
  obtain ⟨x0, x1, x2, x3, x4, x5, x6⟩ := cells6 HX2.out
  gi_wp2_with fail
  refine ⟨trivial, ?_⟩
  refine ((callsIn_wide (n := 5)).2 (outermost_any N f n hd nm la ka l1 lc k1 kc _)).mono ?_
  rintro e w3 ⟨rfl, hw3⟩
  have hw3' : w3 = ((((((w1.alloc (.cells #[.int .i64 f, .int .i64 n, .bool hd, .string nm, .slice la l1 lc, .slice ka k1 kc] 25)).alloc (.cells #[.slice none 0 0] 23)).alloc (.cells #[.slice none 0 0] 28)).alloc (.cells #[.pointer (some ⟨w1.heap.size + 1 + 1, 0, none⟩)] 50)).alloc (.cells #[.func (.func 40) #[] #[.pointer (some ⟨w1.heap.size + 1 + 1 + 1, 0, none⟩)]] 48)).alloc (.cells #[.int .i64 f, .int .i64 n, .bool hd, .string nm, .slice la l1 lc, .slice ka k1 kc] 25)).alloc (.cells #[.int .i64 N] 3) := by rw [hw3, HW2.out]
  obtain ⟨k0, k1', k2, k3, k4, k5, k6⟩ := box7 (w := w1) (a := .cells #[.int .i64 f, .int .i64 n, .bool hd, .string nm, .slice la l1 lc, .slice ka k1 kc] 25) (b := .cells #[.slice none 0 0] 23) (c := .cells #[.slice none 0 0] 28) (d := .cells #[.pointer (some ⟨w1.heap.size + 1 + 1, 0, none⟩)] 50) (e := .cells #[.func (.func 40) #[] #[.pointer (some ⟨w1.heap.size + 1 + 1 + 1, 0, none⟩)]] 48) (f := .cells #[.int .i64 f, .int .i64 n, .bool hd, .string nm, .slice la l1 lc, .slice ka k1 kc] 25) (g := .cells #[.int .i64 N] 3)
  rw [← hw3'] at k0 k1' k2 k3 k4 k5 k6
  have hb3 : RowKit.Below w1.heap.size w1 w3 := by rw [hw3']; exact (((((((Below.refl _ _).alloc (Nat.le_refl _) _).alloc (by simp) _).alloc (by simp; omega) _).alloc (by simp; omega) _).alloc (by simp; omega) _).alloc (by simp; omega) _).alloc (by simp; omega) _
  have hs3 : w3.heap.size = w1.heap.size + 1 + 1 + 1 + 1 + 1 + 1 + 1 := by rw [hw3']; simp
  have HB3 : Hid (RowKit.Below w.heap.size w w3) := HB1.out.trans (hb3.mono HB1.out.size)
  have HZ3 := Hid.mk ((hb3.block _ (heap_lt HR1.out)).trans HR1.out)
  have hsz1 : w.heap.size + 1 < w1.heap.size := heap_lt HR1.out
  have hs2 := HS2.out
  have h0 : SpI w xs v' t' (w.heap.size + 1) w1.heap.size (w1.heap.size + 1) (w1.heap.size + 1 + 1) (w1.heap.size + 1 + 1 + 1) (w1.heap.size + 1 + 1 + 1 + 1) (w3.heap.size + 3) [] w3 := ⟨⟨xs, t, f, n, hd, nm, la, l1, lc, ka, k1, kc, rfl, HROW.out, k0⟩, ⟨none, 0, .slice none 0 0, k1', k2, OB1.nil _ _, RowF.nil _ _ _⟩, k3, k4, HZ3.out, HB3.out⟩
  have HSEQ := outermost1_seq 5 w.heap.size (w1.heap.size + 1 + 1 + 1 + 1 + 1) (w1.heap.size + 1 + 1 + 1 + 1 + 1 + 1) N xs t t' v' f n hd nm la ka l1 lc k1 kc w w3 rfl HB3.out HROW.out HEND.out hN k5 k6
  have HS3 := Hid.mk hs3
  have HI0 := Hid.mk h0
  clear hw3 hw3' k0 k1' k2 k3 k4 k5 k6 hb3 h0
  gi_wp2_with fail
  refine rangeX (gf := 41) (lb := #[.pointer (some ⟨w1.heap.size + 1 + 1 + 1 + 1 + 1, 0, none⟩), .pointer (some ⟨w1.heap.size + 1 + 1 + 1 + 1 + 1 + 1, 0, none⟩)]) rfl (enters_of Try.func41 (by kernel_rfl) rfl) HSEQ (Below.refl _ _) (fun _ => rfl)
    (SpI w xs v' t' (w.heap.size + 1) w1.heap.size (w1.heap.size + 1) (w1.heap.size + 1 + 1) (w1.heap.size + 1 + 1 + 1) (w1.heap.size + 1 + 1 + 1 + 1) (w3.heap.size + 3)) (fun s A A' h1 h2 h3 h4 h5 h6 => SpI.on h1 (by have := HS3.out; omega) h2 h3 h4 h5 h6) HI0.out
    (fun x a' W => ∃ pb, a' = { tmps := #[.agg #[.int .i64 f, .int .i64 n, .bool hd, .string nm, .slice la l1 lc, .slice ka k1 kc], .int .i64 N, .pointer (some ⟨w.heap.size, 0, none⟩), undef, .slice none 0 0, .slice none 0 0, .pointer (some ⟨w.heap.size + 1, 0, none⟩), .bool false, .pointer (some ⟨w1.heap.size, 0, none⟩), .pointer (some ⟨w1.heap.size + 1, 0, none⟩), .pointer (some ⟨w1.heap.size + 1 + 1, 0, none⟩), .pointer (some ⟨w1.heap.size + 1 + 1 + 1 + 1, 0, none⟩), .pointer (some ⟨pb, 0, none⟩), .int .i64 N, .bool false, .bool false, .agg #[.int .i64 f, .int .i64 n, .bool hd, .string nm, .slice la l1 lc, .slice ka k1 kc], .int .i64 0, .bool false, .bool false, undef, .agg #[.int .i64 f, .int .i64 n, .bool hd, .string nm, .slice la l1 lc, .slice ka k1 kc], .func (.func 40) #[] #[.pointer (some ⟨w1.heap.size + 1 + 1 + 1, 0, none⟩)], .agg #[.int .i64 f, .int .i64 n, .bool hd, .string nm, .slice la l1 lc, .slice ka k1 kc], .int .i64 N, .func (.func 41) #[] #[.pointer (some ⟨w1.heap.size + 1 + 1 + 1 + 1 + 1, 0, none⟩), .pointer (some ⟨w1.heap.size + 1 + 1 + 1 + 1 + 1 + 1, 0, none⟩)], x.1, undef, undef, undef, undef, undef, undef, undef, undef, undef, undef, undef, undef, undef, undef, undef, undef, undef, undef, undef, undef, undef, undef, undef, undef, undef, undef], defers := [] } ∧ w3.heap.size + 3 ≤ pb ∧ w1.heap.size + 1 < W.heap.size ∧ W.heap[pb]? = some (.cells (cellsV x.1) 25 (0, 0)) ∧ ∀ a n cap, W.heap[w1.heap.size + 1]? = some (.cells #[.slice a n cap] 23 (0, 0)) → ownB a pb = false) ?ax ?assign ?body ?done
  case ax =>
    rintro x a' A A' ⟨pb, e, h1, h2, h3, h4⟩ hs hk _ _ _
    have hlt := heap_lt h3
    have := HS3.out
    refine ⟨pb, e, h1, by omega, (hk pb hlt (by omega)).trans h3, fun a n cap h => h4 a n cap ?_⟩
    rw [← h]
    exact (hk _ h2 (by omega)).symm
  case assign =>
    intro l pre x rest W K hpre hszW hI hK
    obtain ⟨rt, xn, xh, xm, xa, xl, xc, kb, ko, xk, ls, d, t1, v1, hx1, hx2, htx, hkb, hxk, hc1, hr1, -⟩ := hI.elem hpre
    have HK := Hid.mk hK
    have HI := Hid.mk hI
    have HX1 := Hid.mk hx1
    dsimp only [encX]
    rw [hx1]
    clear hK hI htx hr1 hc1
    gi_wp2
    refine HK.out _ _ ⟨by simp, fun k hk _ => Below.heap_alloc _ _ k hk⟩ (SpI.on HI.out (by have := HS3.out; omega) (by simp) (fun k hk _ => Below.heap_alloc _ _ k hk) rfl rfl rfl) ⟨W.heap.size, ?_, by omega, ?_, ?_, ?_⟩
    · rw [HX1.out]
    · have := HS3.out; simp; omega
    · rw [HX1.out]; exact alloc_new _ _
    · intro a n cap h
      obtain ⟨-, ⟨a2, cap2, hv, b1, -, -, b4⟩, -⟩ := HI.out
      rw [Below.heap_alloc W _ _ (heap_lt b1), b1] at h
      simp only [Option.some.injEq, Obj.cells.injEq, Array.mk.injEq, List.cons.injEq, Value.slice.injEq, and_true] at h
      obtain ⟨ys, kvs, ho, -⟩ := b4.go
      cases e : ownB a W.heap.size with
      | false => rfl
      | true =>
        rw [← h.1] at e
        have := (row_block ho e).2
        omega
  case body =>
    intro l pre x rest a' W hpre hszW hI hAx
    obtain ⟨rt, xn, xh, xm, xa, xl, xc, kb, ko, xk, ls, d, t1, v1, hx1, hx2, htx, hkb, hxk, hc1, hr1, -⟩ := hI.elem hpre
    obtain ⟨⟨_, _, o0, o1, o2, o3, o4, o5, o6, o7, o8, o9, -, -, hRx⟩, ⟨a, cap, hv, b1, b2, b3, b4⟩, b5, b6, b7, b8⟩ := hI
    obtain ⟨pb, rfl, hpb, -, hPB, hnot⟩ := hAx
    have hpo := hnot _ _ _ b1
    rw [hx1] at hPB ⊢
    rw [hx1, hx2] at htx
    obtain ⟨d0, d1, d2, d3, d4, d5, d6, d7, d8, d9, hdc, hdt⟩ := pi_dom htx
    have hmem : x ∈ xs := by rw [← hpre]; simp
    obtain ⟨hgd, hgs, hgh⟩ := HG.out x hmem
    have hdd : domT x.2 = d := by rw [hx2]; rfl
    rw [hdd] at hgd hgs hgh
    have HCOPY : Hid (∀ W', RowKit.Below w.heap.size w W' → Calls Try.prog 26 #[.agg #[.int .i64 d0, .int .i64 d1, .bool d2, .string d3, .slice d4 d5 d6, .slice d7 d8 d9]] W' fun e w' => ∃ v', e = .returned v' ∧ TO w' W'.heap.size w'.heap.size v' (cleanT d) ∧ RowKit.Below W'.heap.size W' w') := fun W' h => Copy_any d _ W' (hdt.on h) hgd hgs hgh
    have hlpre : (pre.map fun x => cleanT (domT x.2)).length = pre.length := by rw [List.length_map]
    generalize hTS : (pre.map fun x => cleanT (domT x.2)) = TS at *
    obtain ⟨ys, kvs, hown, hkv⟩ := b4.go
    rw [hlpre] at hown
    have hysl : ys.length = pre.length * 6 := hown.1
    have hplen : pre.length ≤ 1000000 := by
      have : pre.length ≤ xs.length := by rw [← hpre]; simp
      have := HXL.out
      omega
    have HCEL : Hid (∀ Wx : World, (∀ j, j = w1.heap.size + 1 ∨ j = pb ∨ j = kb → Wx.heap[j]? = W.heap[j]?) → (fun w' => w'.cell? ⟨w1.heap.size + 1, 0, none⟩ = some (.slice a pre.length cap) ∧ w'.cell? ⟨pb, 5, none⟩ = some (.slice (some ⟨kb, ko, none⟩) 2 xk) ∧ w'.cell? ⟨kb, ko, none⟩ = some (.int .i64 d0) ∧ w'.cell? ⟨kb, ko + 1, none⟩ = some (.int .i64 d1) ∧ w'.cell? ⟨kb, ko + 2, none⟩ = some (.bool d2) ∧ w'.cell? ⟨kb, ko + 3, none⟩ = some (.string d3) ∧ w'.cell? ⟨kb, ko + 4, none⟩ = some (.slice d4 d5 d6) ∧ w'.cell? ⟨kb, ko + 5, none⟩ = some (.slice d7 d8 d9)) Wx) := fun Wx h => by
      have hD := (h _ (Or.inl rfl)).trans b1
      have hP := (h _ (Or.inr (Or.inl rfl))).trans hPB
      have hK := ((h _ (Or.inr (Or.inr rfl))).trans (b8.block kb hkb))
      have hc2 := hdc.same hK
      obtain ⟨p0, p1, p2, p3, p4, p5, p6, p7, p8, p9, hpe, c0, c1, c2, c3, c4, c5⟩ := hc2
      simp only [Value.agg.injEq, Array.mk.injEq, List.cons.injEq, Value.int.injEq, Value.bool.injEq, Value.string.injEq, Value.slice.injEq, true_and, and_true] at hpe
      obtain ⟨rfl, rfl, rfl, rfl, ⟨rfl, rfl, rfl⟩, rfl, rfl, rfl⟩ := hpe
      exact ⟨(cells1 hD).1, (cells6 hP).2.2.2.2.2.1, c0, c1, c2, c3, c4, c5⟩
    have hrb : ∀ k, ownB a k = true → w3.heap.size + 3 ≤ k ∧ k < W.heap.size := fun k hk => row_block hown hk
    have hvb : ∀ k, hv.ownBlock = some k → w3.heap.size + 3 ≤ k ∧ k < W.heap.size := fun k hk => b3.lt hk
    have hs3 := HS3.out
    have hsw := b8.size
    have hlpb := heap_lt hPB
    have HBW := Hid.mk b8
    have HTS := Hid.mk hTS
    have HOWN := Hid.mk hown
    have HKV := Hid.mk hkv
    have HRB := Hid.mk hrb
    have HVB := Hid.mk hvb
    have HB1D := Hid.mk b1
    have HB2H := Hid.mk b2
    have HB3O := Hid.mk b3
    have HB5 := Hid.mk b5
    have HB6 := Hid.mk b6
    have HB7 := Hid.mk b7
    have HNEW : Hid (∀ k, W.heap.size ≤ k → ((decide (k < w3.heap.size + 3) || ownV hv k) || ownB a k) = false) := fun k hk => by
      rw [Bool.or_eq_false_iff, Bool.or_eq_false_iff, decide_eq_false_iff_not]
      refine ⟨⟨by omega, ?_⟩, ?_⟩
      · unfold ownV; rw [decide_eq_false_iff_not]; intro e; have := hvb k e; omega
      · cases e : ownB a k with
        | false => rfl
        | true => have := hrb k e; omega
    have HPB := Hid.mk hPB
    have HDC := Hid.mk hdc
    have HC1 := Hid.mk hc1
    have HRBOX := Hid.mk hRx
    have HR1 := Hid.mk hr1
    have mx := mixed
    obtain ⟨i0, hi, iz0, iz1, iz2⟩ := info_parts infoTerm
    clear b1 b2 b3 b4 b5 b6 b7 b8 hPB hdc hdt hc1 hr1 hown hkv hrb hvb hTS htx hnot hgd hgs hgh hmem hRx
    gi_wp2_with fail
    refine wpIn_mono (Q := (fun e a' W' => e = .normal ∧ ∃ (g c : Nat) (z27 z28 z29 z30 z31 z32 z33 z34 z35 z36 : Value), a' = { tmps := #[.agg #[.int .i64 f, .int .i64 n, .bool hd, .string nm, .slice la l1 lc, .slice ka k1 kc], .int .i64 N, .pointer (some ⟨w.heap.size, 0, none⟩), undef, .slice none 0 0, .slice none 0 0, .pointer (some ⟨w.heap.size + 1, 0, none⟩), .bool false, .pointer (some ⟨w1.heap.size, 0, none⟩), .pointer (some ⟨w1.heap.size + 1, 0, none⟩), .pointer (some ⟨w1.heap.size + 1 + 1, 0, none⟩), .pointer (some ⟨w1.heap.size + 1 + 1 + 1 + 1, 0, none⟩), .pointer (some ⟨pb, 0, none⟩), .int .i64 N, .bool false, .bool false, .agg #[.int .i64 f, .int .i64 n, .bool hd, .string nm, .slice la l1 lc, .slice ka k1 kc], .int .i64 0, .bool false, .bool false, undef, .agg #[.int .i64 f, .int .i64 n, .bool hd, .string nm, .slice la l1 lc, .slice ka k1 kc], .func (.func 40) #[] #[.pointer (some ⟨w1.heap.size + 1 + 1 + 1, 0, none⟩)], .agg #[.int .i64 f, .int .i64 n, .bool hd, .string nm, .slice la l1 lc, .slice ka k1 kc], .int .i64 N, .func (.func 41) #[] #[.pointer (some ⟨w1.heap.size + 1 + 1 + 1 + 1 + 1, 0, none⟩), .pointer (some ⟨w1.heap.size + 1 + 1 + 1 + 1 + 1 + 1, 0, none⟩)], .agg #[.int .i64 3, .int .i64 xn, .bool xh, .string xm, .slice xa xl xc, .slice (some ⟨kb, ko, none⟩) 2 xk], z27, z28, z29, z30, z31, z32, z33, z34, z35, z36, undef, undef, undef, undef, undef, undef, undef, undef, undef, undef, undef, undef, undef, undef, undef, undef], defers := [] } ∧ W'.heap[w1.heap.size + 1]? = some (.cells #[.slice (some ⟨g, 0, none⟩) (pre.length + 1) c] 23 (0, 0)) ∧ RowF W' (w3.heap.size + 3) (fun k => decide (k < w3.heap.size + 3) || ownV hv k) (some ⟨g, 0, none⟩) c (TS ++ [cleanT d]) ∧ (ownB a g = true ∨ W.heap.size ≤ g) ∧ Kept (fun k => k = w1.heap.size + 1 ∨ ownB a k = true) W W')) ?_ ?_
    · refine wpIn_region_late (S := fun w' => w'.cell? ⟨w1.heap.size + 1, 0, none⟩ = some (.slice a pre.length cap) ∧ w'.cell? ⟨pb, 5, none⟩ = some (.slice (some ⟨kb, ko, none⟩) 2 xk) ∧ w'.cell? ⟨kb, ko, none⟩ = some (.int .i64 d0) ∧ w'.cell? ⟨kb, ko + 1, none⟩ = some (.int .i64 d1) ∧ w'.cell? ⟨kb, ko + 2, none⟩ = some (.bool d2) ∧ w'.cell? ⟨kb, ko + 3, none⟩ = some (.string d3) ∧ w'.cell? ⟨kb, ko + 4, none⟩ = some (.slice d4 d5 d6) ∧ w'.cell? ⟨kb, ko + 5, none⟩ = some (.slice d7 d8 d9)) (fun i => decide (9 ≤ i)) mx (noDefer_spec (by kernel_rfl)) (fun h => by obtain ⟨_, _, h, -⟩ := h; cases h) ?_ (fun hHeld => ?_)
      · (try dsimp only)
        exact HCEL.out _ (fun j _ => rfl)
      refine wpAnyM_take (i := 0) (v := ?_) rfl (by kernel_rfl) (by kernel_rfl) (by kernel_rfl) (by kernel_rfl) (fun _ _ _ h => by cases h.1) (Or.inl ⟨by rfl, ?_⟩) (by assumption) ?_
      rotate_left
      · (intro w hSw; (try dsimp only at hSw); go_simp; (try with_reducible rfl))
      refine wpAnyM_take (i := 1) (v := ?_) rfl (by kernel_rfl) (by kernel_rfl) (by kernel_rfl) (by kernel_rfl) (fun _ _ _ h => by cases h.1) (Or.inl ⟨by rfl, ?_⟩) (by assumption) ?_
      rotate_left
      · (intro w hSw; (try dsimp only at hSw); go_simp; (try with_reducible rfl))
      refine wpAnyM_take (i := 2) (v := ?_) rfl (by kernel_rfl) (by kernel_rfl) (by kernel_rfl) (by kernel_rfl) (fun _ _ _ h => by cases h.1) (Or.inl ⟨by rfl, ?_⟩) (by assumption) ?_
      rotate_left
      · (intro w hSw; (try dsimp only at hSw); go_simp; (try with_reducible rfl))
      refine wpAnyM_take (i := 3) (v := ?_) rfl (by kernel_rfl) (by kernel_rfl) (by kernel_rfl) (by kernel_rfl) (fun _ _ _ h => by cases h.1) (Or.inl ⟨by rfl, ?_⟩) (by assumption) ?_
      rotate_left
      · (intro w hSw; (try dsimp only at hSw); go_simp; (try with_reducible rfl))
      refine wpAnyM_take (i := 4) (v := ?_) rfl (by kernel_rfl) (by kernel_rfl) (by kernel_rfl) (by kernel_rfl) (fun _ _ _ h => by cases h.1) (Or.inl ⟨by rfl, ?_⟩) (by assumption) ?_
      rotate_left
      · (intro w hSw; (try dsimp only at hSw); go_simp; (try with_reducible rfl))
      refine wpAnyM_take (i := 6) (v := ?_) rfl (by kernel_rfl) (by kernel_rfl) (by kernel_rfl) (by kernel_rfl) (fun _ _ _ h => by cases h.1) (Or.inl ⟨by rfl, ?_⟩) (by assumption) ?_
      rotate_left
      · (intro w hSw; (try dsimp only at hSw); go_simp; (try with_reducible rfl))
      refine wpAnyM_two (i := 5) (k := 7) (by kernel_rfl) ?_ ?_
      · (skip)
        refine ⟨_, rfl, fun K hK => ?_⟩
        go_simp
        go_at_call 26
        refine (HCOPY.out W.drew (HBW.out.drew)).mono ?_
        rintro e w6 ⟨v6, rfl, hto6, hb6⟩
        obtain ⟨u0, u1, u2, u3, r1, r2, r3, s1', s2', s3', rfl⟩ := hto6.shapeE
        refine hK.out _ _ (fun _ => ?_) (fun hHeld => ?_)
        · (try dsimp only)
          exact HCEL.out _ (fun j hj => hb6.block j (by show j < W.heap.size; rcases hj with rfl | rfl | rfl; exact heap_lt HB1D.out; exact hlpb; omega))
        replace hHeld := hHeld rfl
        clear hK K
        refine wpAnyM_one (i := 7) (by kernel_rfl) ?_
        refine ⟨_, rfl, fun K hK => ?_⟩
        go_simp
        refine hK.out _ _ (fun _ => ?_) (fun hHeld => ?_)
        · (try dsimp only)
          exact HCEL.out _ (fun j hj => (Below.heap_alloc _ _ j (by have := hb6.size; have : W.drew.heap.size = W.heap.size := rfl; rcases hj with rfl | rfl | rfl; (have := heap_lt HB1D.out; omega); omega; omega)).trans (hb6.block j (by show j < W.heap.size; rcases hj with rfl | rfl | rfl; exact heap_lt HB1D.out; exact hlpb; omega)))
        replace hHeld := hHeld rfl
        clear hK K
        have hbx : RowKit.Below W.heap.size W (w6.alloc (.cells #[.int .i64 0, .int .i64 0, .bool false, .string { data := #[] }, .slice none 0 0, .slice none 0 0] 25)) := ((Below.refl _ W).drew.trans hb6).trans (((Below.refl _ w6).alloc (Nat.le_refl _) _).mono hb6.size)
        have HBX := Hid.mk hbx
        have HTX : Hid (TF (w6.alloc (.cells #[.int .i64 0, .int .i64 0, .bool false, .string { data := #[] }, .slice none 0 0, .slice none 0 0] 25)) (fun k => (decide (k < w3.heap.size + 3) || ownV hv k) || ownB a k) (.agg #[.int .i64 u0, .int .i64 u1, .bool u2, .string u3, .slice r1 r2 r3, .slice s1' s2' s3']) (cleanT d)) := TF.on (hto6.tf _ (fun k h1 h2 => HNEW.out k h1)) ((Below.refl _ w6).alloc (Nat.le_refl _) _)
        have HNX : Hid ((w6.alloc (.cells #[.int .i64 0, .int .i64 0, .bool false, .string { data := #[] }, .slice none 0 0, .slice none 0 0] 25)).heap[w6.heap.size]? = some (.cells #[.int .i64 0, .int .i64 0, .bool false, .string { data := #[] }, .slice none 0 0, .slice none 0 0] 25 (0, 0))) := alloc_new _ _
        obtain ⟨W6, hW6⟩ : ∃ W6, w6.alloc (.cells #[.int .i64 0, .int .i64 0, .bool false, .string { data := #[] }, .slice none 0 0, .slice none 0 0] 25) = W6 := ⟨_, rfl⟩
        have HBW6 : Hid (RowKit.Below W.heap.size W W6) := (by unfold Hid; rw [← hW6]; exact HBX.out)
        have HTF6 : Hid (TF W6 (fun k => (decide (k < w3.heap.size + 3) || ownV hv k) || ownB a k) (.agg #[.int .i64 u0, .int .i64 u1, .bool u2, .string u3, .slice r1 r2 r3, .slice s1' s2' s3']) (cleanT d)) := (by unfold Hid; rw [← hW6]; exact HTX.out)
        have HNB : Hid (W6.heap[w6.heap.size]? = some (.cells #[.int .i64 0, .int .i64 0, .bool false, .string { data := #[] }, .slice none 0 0, .slice none 0 0] 25 (0, 0))) := (by unfold Hid; rw [← hW6]; exact HNX.out)
        have hs6 := HBW6.out.size
        have HOWN6 : Hid (W6.ownsRow (w3.heap.size + 3) 25 6 (.slice a pre.length cap) pre.length ys) := owns_block HOWN.out (fun g hg => HBW6.out.block g (by subst hg; exact (World.ownsRow.lt HOWN.out g rfl).2))
        have HKV6 : Hid (∀ j t, TS[j]? = some t → SixAt ys (j * 6) (kvs j) ∧ TF W6 (fun k => (decide (k < w3.heap.size + 3) || ownV hv k) || ownB a k) (kvs j) t) := fun j t hj => ⟨(HKV.out j t hj).1, (HKV.out j t hj).2.on HBW6.out⟩
        have HNEWS := Hid.mk (World.news_of_block (cs := #[.int .i64 0, .int .i64 0, .bool false, .string { data := #[] }, .slice none 0 0, .slice none 0 0]) (t := 25) (fr := (0, 0)) HNB.out)
        rw [hW6] at hHeld ⊢
        have hs66 := hb6.size
        clear hb6 hto6 hbx hW6 HBX HTX HNX
        refine wpAnyM_one (i := 8) (by kernel_rfl) ?_
        refine ⟨_, rfl, fun K hK => ?_⟩
        refine step_append_lies _ (by rfl) _ _ _ (by rfl) (w3.heap.size + 3) 25 i0 _ 6 88 Try.underlying23 hi iz0 iz1 iz2 rfl (by decide) (.slice a pre.length cap) pre.length ys (by rfl) HOWN6.out ⟨w6.heap.size, 0, none⟩ 1 1 [.int .i64 0, .int .i64 0, .bool false, .string { data := #[] }, .slice none 0 0, .slice none 0 0] (by rfl) (by rfl) HNEWS.out (by simp [Value.oneCell']) (by omega) (by simp [maxLen]; omega) (by omega) (by omega) _ rfl ?_
        intro g7 c7 W7 hown7 hgr7 hat7 hlt7
        have hg7B := (World.ownsRow.lt hown7 g7 rfl).1
        have zj : (pre.length : Int) < (pre.length : Int) + 1 := by omega
        have hgD : g7 ≠ w1.heap.size + 1 := by omega
        have hgD' : w1.heap.size + 1 ≠ g7 := by omega
        have h67 : ∀ k, k < W.heap.size → ownB a k = false → W7.heap[k]? = W.heap[k]? := fun k hk ho => (hgr7.block k (by omega) (ownB_none ho)).trans (HBW6.out.block k hk)
        have hoD : ownB a (w1.heap.size + 1) = false := by cases e : ownB a (w1.heap.size + 1) with | false => rfl | true => exact absurd (HRB.out _ e).1 (by omega)
        have hokb : ownB a kb = false := by cases e : ownB a kb with | false => rfl | true => exact absurd (HRB.out _ e).1 (by omega)
        have hD7 := (h67 _ (heap_lt HB1D.out) hoD).trans HB1D.out
        obtain ⟨hf1, hf2, hf3⟩ := fin9 (W6 := W6) (W7 := W7) (D := w1.heap.size + 1) (a := a) (cap := cap) (P := fun k => decide (k < w3.heap.size + 3) || ownV hv k) (s := .slice (some ⟨g7, 0, none⟩) (pre.length + 1) c7) hown7 hlpre hysl HKV6.out hgr7 hat7 HTF6.out hgD' (by simp; omega) hD7
        have HF1 := Hid.mk hf1
        have HF2 := Hid.mk hf2
        have HAT : Hid (ownB a g7 = true ∨ W.heap.size ≤ g7) := by
          rcases hat7 with h | h
          · left
            cases a with
            | none => cases h
            | some ad => simp [Value.ownBlock] at h; simp [ownB]; exact h
          · right; omega
        have HF3 : Hid (Kept (fun k => k = w1.heap.size + 1 ∨ ownB a k = true) W (((((((W7.setCell ⟨g7, pre.length * 6, none⟩ (.int .i64 u0)).setCell ⟨g7, pre.length * 6 + 1, none⟩ (.int .i64 u1)).setCell ⟨g7, pre.length * 6 + 2, none⟩ (.bool u2)).setCell ⟨g7, pre.length * 6 + 3, none⟩ (.string u3)).setCell ⟨g7, pre.length * 6 + 4, none⟩ (.slice r1 r2 r3)).setCell ⟨g7, pre.length * 6 + 5, none⟩ (.slice s1' s2' s3')).setCell ⟨w1.heap.size + 1, 0, none⟩ (.slice (some ⟨g7, 0, none⟩) (pre.length + 1) c7))) := ⟨hf3.os.trans (hgr7.os.trans HBW6.out.os), hf3.tape.trans (hgr7.tape.trans HBW6.out.tape), hf3.output.trans (hgr7.output.trans HBW6.out.output), Nat.le_trans (Nat.le_trans HBW6.out.size hgr7.size) hf3.size, fun k hk hp => by
          have ho : ownB a k = false := by cases e : ownB a k with | false => rfl | true => exact absurd (Or.inr e) hp
          refine (hf3.block k (by have := hgr7.size; omega) ?_).trans (h67 k hk ho)
          rintro (e | e)
          · exact hp (Or.inl e)
          · subst e
            rcases HAT.out with h | h
            · rw [ho] at h; cases h
            · omega⟩
        have HCE7 := Hid.mk (HCEL.out W7 (fun j hj => by
          rcases hj with rfl | rfl | rfl
          · exact h67 _ (heap_lt HB1D.out) hoD
          · exact h67 _ hlpb hpo
          · exact h67 _ (by omega) hokb))
        have hm : ∀ j u, j < 6 → ([.int .i64 0, .int .i64 0, .bool false, .string { data := #[] }, .slice none 0 0, .slice none 0 0] : List Value)[j]? = some u → W7.cell? ⟨g7, pre.length * 6 + j, none⟩ = some u := fun j u hj hu => by
          rw [World.ownsRow.cellAt hown7 _ (by omega), List.getElem?_append_right (by omega), hysl, Nat.add_sub_cancel_left]
          exact hu
        have m0 := hm 0 _ (by omega) rfl
        have m1 := hm 1 _ (by omega) rfl
        have m2 := hm 2 _ (by omega) rfl
        have m3 := hm 3 _ (by omega) rfl
        have m4 := hm 4 _ (by omega) rfl
        have m5 := hm 5 _ (by omega) rfl
        rw [Nat.add_zero] at m0
        have mf := World.ownsRow.frozenAt hown7
        obtain ⟨n0, nf, nl⟩ := cells1 hD7
        clear hown7 hgr7 hat7 hf1 hf2 hf3 h67 hm hD7
        refine hK.out _ _ (fun _ => ?_) (fun hHeld => ?_)
        · (try dsimp only)
          exact HCE7.out
        replace hHeld := hHeld rfl
        clear hK K
        clear hHeld
        refine wpAnyM_two (i := 9) (k := 11) (by kernel_rfl) ?_ ?_
        · (skip)
          refine ⟨_, rfl, fun K hK => ?_⟩
          go_simp
          refine hK.out _ _ (fun h => by cases h) (fun _ => ?_)
          clear hK K
          refine wpAnyM_two (i := 10) (k := 11) (by kernel_rfl) ?_ ?_
          · (skip)
            refine ⟨_, rfl, fun K hK => ?_⟩
            go_simp
            refine hK.out _ _ (fun h => by cases h) (fun _ => ?_)
            clear hK K
            refine wpAnyM_one (i := 11) (by kernel_rfl) ?_
            refine ⟨_, rfl, fun K hK => ?_⟩
            go_simp
            refine hK.out _ _ (fun h => by cases h) (fun _ => ?_)
            clear hK K
            refine wpAnyM_done (by kernel_rfl) ?_ _
            exact ⟨rfl, g7, c7, _, _, _, _, _, _, _, _, _, _, rfl, HF2.out, HF1.out, HAT.out, HF3.out⟩
          · (skip)
            refine ⟨_, rfl, fun K hK => ?_⟩
            go_simp
            refine hK.out _ _ (fun h => by cases h) (fun _ => ?_)
            clear hK K
            refine wpAnyM_one (i := 10) (by kernel_rfl) ?_
            refine ⟨_, rfl, fun K hK => ?_⟩
            go_simp
            refine hK.out _ _ (fun h => by cases h) (fun _ => ?_)
            clear hK K
            refine wpAnyM_done (by kernel_rfl) ?_ _
            rw [setCell_swap _ hgD' , setCell_swap _ hgD', setCell_swap _ hgD', setCell_swap _ hgD', setCell_swap _ hgD', setCell_swap _ hgD']
            exact ⟨rfl, g7, c7, _, _, _, _, _, _, _, _, _, _, rfl, HF2.out, HF1.out, HAT.out, HF3.out⟩
        · (skip)
          refine ⟨_, rfl, fun K hK => ?_⟩
          go_simp
          refine hK.out _ _ (fun h => by cases h) (fun _ => ?_)
          clear hK K
          refine wpAnyM_one (i := 9) (by kernel_rfl) ?_
          refine ⟨_, rfl, fun K hK => ?_⟩
          go_simp
          refine hK.out _ _ (fun h => by cases h) (fun _ => ?_)
          clear hK K
          refine wpAnyM_one (i := 10) (by kernel_rfl) ?_
          refine ⟨_, rfl, fun K hK => ?_⟩
          go_simp
          refine hK.out _ _ (fun h => by cases h) (fun _ => ?_)
          clear hK K
          refine wpAnyM_done (by kernel_rfl) ?_ _
          rw [setCell_swap _ hgD' , setCell_swap _ hgD', setCell_swap _ hgD', setCell_swap _ hgD', setCell_swap _ hgD', setCell_swap _ hgD']
          exact ⟨rfl, g7, c7, _, _, _, _, _, _, _, _, _, _, rfl, HF2.out, HF1.out, HAT.out, HF3.out⟩
      · (skip)
        refine ⟨_, rfl, fun K hK => ?_⟩
        go_simp
        refine hK.out _ _ (fun _ => ?_) (fun hHeld => ?_)
        · (try dsimp only)
          exact HCEL.out _ (fun j hj => Below.heap_alloc _ _ j (by show j < W.heap.size; rcases hj with rfl | rfl | rfl; exact heap_lt HB1D.out; exact hlpb; omega))
        replace hHeld := hHeld rfl
        clear hK K
        have hb5 : RowKit.Below W.heap.size W (W.drew.alloc (.cells #[.int .i64 0, .int .i64 0, .bool false, .string { data := #[] }, .slice none 0 0, .slice none 0 0] 25)) := (Below.refl _ W).drew.alloc (Nat.le_refl _) _
        refine wpAnyM_one (i := 5) (by kernel_rfl) ?_
        refine ⟨_, rfl, fun K hK => ?_⟩
        go_simp
        go_at_call 26
        refine (HCOPY.out (W.drew.alloc (.cells #[.int .i64 0, .int .i64 0, .bool false, .string { data := #[] }, .slice none 0 0, .slice none 0 0] 25)) (HBW.out.trans (hb5.mono HBW.out.size))).mono ?_
        rintro e w6 ⟨v6, rfl, hto6, hb6⟩
        obtain ⟨u0, u1, u2, u3, r1, r2, r3, s1', s2', s3', rfl⟩ := hto6.shapeE
        refine hK.out _ _ (fun _ => ?_) (fun hHeld => ?_)
        · (try dsimp only)
          exact HCEL.out _ (fun j hj => (hb6.block j (Nat.lt_of_lt_of_le (by rcases hj with rfl | rfl | rfl; exact heap_lt HB1D.out; exact hlpb; omega) hb5.size)).trans (hb5.block j (by rcases hj with rfl | rfl | rfl; exact heap_lt HB1D.out; exact hlpb; omega)))
        replace hHeld := hHeld rfl
        clear hK K
        have hbx : RowKit.Below W.heap.size W w6 := hb5.trans (hb6.mono hb5.size)
        have HBX := Hid.mk hbx
        have HTX : Hid (TF w6 (fun k => (decide (k < w3.heap.size + 3) || ownV hv k) || ownB a k) (.agg #[.int .i64 u0, .int .i64 u1, .bool u2, .string u3, .slice r1 r2 r3, .slice s1' s2' s3']) (cleanT d)) := hto6.tf _ (fun k h1 h2 => HNEW.out k (Nat.le_trans hb5.size h1))
        have HNX : Hid (w6.heap[W.heap.size]? = some (.cells #[.int .i64 0, .int .i64 0, .bool false, .string { data := #[] }, .slice none 0 0, .slice none 0 0] 25 (0, 0))) := (hb6.block _ (by simp)).trans (alloc_new W.drew _)
        obtain ⟨W6, hW6⟩ : ∃ W6, w6 = W6 := ⟨_, rfl⟩
        have HBW6 : Hid (RowKit.Below W.heap.size W W6) := (by unfold Hid; rw [← hW6]; exact HBX.out)
        have HTF6 : Hid (TF W6 (fun k => (decide (k < w3.heap.size + 3) || ownV hv k) || ownB a k) (.agg #[.int .i64 u0, .int .i64 u1, .bool u2, .string u3, .slice r1 r2 r3, .slice s1' s2' s3']) (cleanT d)) := (by unfold Hid; rw [← hW6]; exact HTX.out)
        have HNB : Hid (W6.heap[W.heap.size]? = some (.cells #[.int .i64 0, .int .i64 0, .bool false, .string { data := #[] }, .slice none 0 0, .slice none 0 0] 25 (0, 0))) := (by unfold Hid; rw [← hW6]; exact HNX.out)
        have hs6 := HBW6.out.size
        have HOWN6 : Hid (W6.ownsRow (w3.heap.size + 3) 25 6 (.slice a pre.length cap) pre.length ys) := owns_block HOWN.out (fun g hg => HBW6.out.block g (by subst hg; exact (World.ownsRow.lt HOWN.out g rfl).2))
        have HKV6 : Hid (∀ j t, TS[j]? = some t → SixAt ys (j * 6) (kvs j) ∧ TF W6 (fun k => (decide (k < w3.heap.size + 3) || ownV hv k) || ownB a k) (kvs j) t) := fun j t hj => ⟨(HKV.out j t hj).1, (HKV.out j t hj).2.on HBW6.out⟩
        have HNEWS := Hid.mk (World.news_of_block (cs := #[.int .i64 0, .int .i64 0, .bool false, .string { data := #[] }, .slice none 0 0, .slice none 0 0]) (t := 25) (fr := (0, 0)) HNB.out)
        rw [hW6] at hHeld ⊢
        clear hb6 hto6 hbx hW6 HBX HTX HNX hb5
        refine wpAnyM_one (i := 8) (by kernel_rfl) ?_
        refine ⟨_, rfl, fun K hK => ?_⟩
        refine step_append_lies _ (by rfl) _ _ _ (by rfl) (w3.heap.size + 3) 25 i0 _ 6 88 Try.underlying23 hi iz0 iz1 iz2 rfl (by decide) (.slice a pre.length cap) pre.length ys (by rfl) HOWN6.out ⟨W.heap.size, 0, none⟩ 1 1 [.int .i64 0, .int .i64 0, .bool false, .string { data := #[] }, .slice none 0 0, .slice none 0 0] (by rfl) (by rfl) HNEWS.out (by simp [Value.oneCell']) (by omega) (by simp [maxLen]; omega) (by omega) (by omega) _ rfl ?_
        intro g7 c7 W7 hown7 hgr7 hat7 hlt7
        have hg7B := (World.ownsRow.lt hown7 g7 rfl).1
        have zj : (pre.length : Int) < (pre.length : Int) + 1 := by omega
        have hgD : g7 ≠ w1.heap.size + 1 := by omega
        have hgD' : w1.heap.size + 1 ≠ g7 := by omega
        have h67 : ∀ k, k < W.heap.size → ownB a k = false → W7.heap[k]? = W.heap[k]? := fun k hk ho => (hgr7.block k (by omega) (ownB_none ho)).trans (HBW6.out.block k hk)
        have hoD : ownB a (w1.heap.size + 1) = false := by cases e : ownB a (w1.heap.size + 1) with | false => rfl | true => exact absurd (HRB.out _ e).1 (by omega)
        have hokb : ownB a kb = false := by cases e : ownB a kb with | false => rfl | true => exact absurd (HRB.out _ e).1 (by omega)
        have hD7 := (h67 _ (heap_lt HB1D.out) hoD).trans HB1D.out
        obtain ⟨hf1, hf2, hf3⟩ := fin9 (W6 := W6) (W7 := W7) (D := w1.heap.size + 1) (a := a) (cap := cap) (P := fun k => decide (k < w3.heap.size + 3) || ownV hv k) (s := .slice (some ⟨g7, 0, none⟩) (pre.length + 1) c7) hown7 hlpre hysl HKV6.out hgr7 hat7 HTF6.out hgD' (by simp; omega) hD7
        have HF1 := Hid.mk hf1
        have HF2 := Hid.mk hf2
        have HAT : Hid (ownB a g7 = true ∨ W.heap.size ≤ g7) := by
          rcases hat7 with h | h
          · left
            cases a with
            | none => cases h
            | some ad => simp [Value.ownBlock] at h; simp [ownB]; exact h
          · right; omega
        have HF3 : Hid (Kept (fun k => k = w1.heap.size + 1 ∨ ownB a k = true) W (((((((W7.setCell ⟨g7, pre.length * 6, none⟩ (.int .i64 u0)).setCell ⟨g7, pre.length * 6 + 1, none⟩ (.int .i64 u1)).setCell ⟨g7, pre.length * 6 + 2, none⟩ (.bool u2)).setCell ⟨g7, pre.length * 6 + 3, none⟩ (.string u3)).setCell ⟨g7, pre.length * 6 + 4, none⟩ (.slice r1 r2 r3)).setCell ⟨g7, pre.length * 6 + 5, none⟩ (.slice s1' s2' s3')).setCell ⟨w1.heap.size + 1, 0, none⟩ (.slice (some ⟨g7, 0, none⟩) (pre.length + 1) c7))) := ⟨hf3.os.trans (hgr7.os.trans HBW6.out.os), hf3.tape.trans (hgr7.tape.trans HBW6.out.tape), hf3.output.trans (hgr7.output.trans HBW6.out.output), Nat.le_trans (Nat.le_trans HBW6.out.size hgr7.size) hf3.size, fun k hk hp => by
          have ho : ownB a k = false := by cases e : ownB a k with | false => rfl | true => exact absurd (Or.inr e) hp
          refine (hf3.block k (by have := hgr7.size; omega) ?_).trans (h67 k hk ho)
          rintro (e | e)
          · exact hp (Or.inl e)
          · subst e
            rcases HAT.out with h | h
            · rw [ho] at h; cases h
            · omega⟩
        have HCE7 := Hid.mk (HCEL.out W7 (fun j hj => by
          rcases hj with rfl | rfl | rfl
          · exact h67 _ (heap_lt HB1D.out) hoD
          · exact h67 _ hlpb hpo
          · exact h67 _ (by omega) hokb))
        have hm : ∀ j u, j < 6 → ([.int .i64 0, .int .i64 0, .bool false, .string { data := #[] }, .slice none 0 0, .slice none 0 0] : List Value)[j]? = some u → W7.cell? ⟨g7, pre.length * 6 + j, none⟩ = some u := fun j u hj hu => by
          rw [World.ownsRow.cellAt hown7 _ (by omega), List.getElem?_append_right (by omega), hysl, Nat.add_sub_cancel_left]
          exact hu
        have m0 := hm 0 _ (by omega) rfl
        have m1 := hm 1 _ (by omega) rfl
        have m2 := hm 2 _ (by omega) rfl
        have m3 := hm 3 _ (by omega) rfl
        have m4 := hm 4 _ (by omega) rfl
        have m5 := hm 5 _ (by omega) rfl
        rw [Nat.add_zero] at m0
        have mf := World.ownsRow.frozenAt hown7
        obtain ⟨n0, nf, nl⟩ := cells1 hD7
        clear hown7 hgr7 hat7 hf1 hf2 hf3 h67 hm hD7
        refine hK.out _ _ (fun _ => ?_) (fun hHeld => ?_)
        · (try dsimp only)
          exact HCE7.out
        replace hHeld := hHeld rfl
        clear hK K
        clear hHeld
        refine wpAnyM_two (i := 9) (k := 11) (by kernel_rfl) ?_ ?_
        · (skip)
          refine ⟨_, rfl, fun K hK => ?_⟩
          go_simp
          refine hK.out _ _ (fun h => by cases h) (fun _ => ?_)
          clear hK K
          refine wpAnyM_two (i := 10) (k := 11) (by kernel_rfl) ?_ ?_
          · (skip)
            refine ⟨_, rfl, fun K hK => ?_⟩
            go_simp
            refine hK.out _ _ (fun h => by cases h) (fun _ => ?_)
            clear hK K
            refine wpAnyM_one (i := 11) (by kernel_rfl) ?_
            refine ⟨_, rfl, fun K hK => ?_⟩
            go_simp
            refine hK.out _ _ (fun h => by cases h) (fun _ => ?_)
            clear hK K
            refine wpAnyM_done (by kernel_rfl) ?_ _
            exact ⟨rfl, g7, c7, _, _, _, _, _, _, _, _, _, _, rfl, HF2.out, HF1.out, HAT.out, HF3.out⟩
          · (skip)
            refine ⟨_, rfl, fun K hK => ?_⟩
            go_simp
            refine hK.out _ _ (fun h => by cases h) (fun _ => ?_)
            clear hK K
            refine wpAnyM_one (i := 10) (by kernel_rfl) ?_
            refine ⟨_, rfl, fun K hK => ?_⟩
            go_simp
            refine hK.out _ _ (fun h => by cases h) (fun _ => ?_)
            clear hK K
            refine wpAnyM_done (by kernel_rfl) ?_ _
            rw [setCell_swap _ hgD' , setCell_swap _ hgD', setCell_swap _ hgD', setCell_swap _ hgD', setCell_swap _ hgD', setCell_swap _ hgD']
            exact ⟨rfl, g7, c7, _, _, _, _, _, _, _, _, _, _, rfl, HF2.out, HF1.out, HAT.out, HF3.out⟩
        · (skip)
          refine ⟨_, rfl, fun K hK => ?_⟩
          go_simp
          refine hK.out _ _ (fun h => by cases h) (fun _ => ?_)
          clear hK K
          refine wpAnyM_one (i := 9) (by kernel_rfl) ?_
          refine ⟨_, rfl, fun K hK => ?_⟩
          go_simp
          refine hK.out _ _ (fun h => by cases h) (fun _ => ?_)
          clear hK K
          refine wpAnyM_one (i := 10) (by kernel_rfl) ?_
          refine ⟨_, rfl, fun K hK => ?_⟩
          go_simp
          refine hK.out _ _ (fun h => by cases h) (fun _ => ?_)
          clear hK K
          refine wpAnyM_done (by kernel_rfl) ?_ _
          rw [setCell_swap _ hgD' , setCell_swap _ hgD', setCell_swap _ hgD', setCell_swap _ hgD', setCell_swap _ hgD', setCell_swap _ hgD']
          exact ⟨rfl, g7, c7, _, _, _, _, _, _, _, _, _, _, rfl, HF2.out, HF1.out, HAT.out, HF3.out⟩
    · rintro e a' W' ⟨rfl, g, c, z27, z28, z29, z30, z31, z32, z33, z34, z35, z36, rfl, hD, hRow, hat, hK⟩
      have HD := Hid.mk hD
      have HROW' := Hid.mk hRow
      have HAT := Hid.mk hat
      have HK := Hid.mk hK
      have hs' := hK.size
      have st : ∀ {k : Nat} {o : Obj}, W.heap[k]? = some o → k ≠ w1.heap.size + 1 → k < w3.heap.size + 3 → W'.heap[k]? = some o := fun {k o} hh h1 h2 => (HK.out.block k (heap_lt hh) (by
        rintro (h | h)
        · exact h1 h
        · have := HRB.out k h; omega)).trans hh
      have HPB' : Hid (W'.heap[pb]? = some (.cells #[.int .i64 3, .int .i64 xn, .bool xh, .string xm, .slice xa xl xc, .slice (some ⟨kb, ko, none⟩) 2 xk] 25 (0, 0))) := (HK.out.block pb hlpb (by
        rintro (h | h)
        · omega
        · rw [hpo] at h; cases h)).trans HPB.out
      have HNb := Hid.mk (st HB6.out (by omega) (by omega))
      have HPp := Hid.mk (st HB5.out (by omega) (by omega))
      have HHb := Hid.mk (st HB2H.out (by omega) (by omega))
      have HZb := Hid.mk (st HB7.out (by omega) (by omega))
      have HRb := Hid.mk (st HRBOX.out (by omega) (by omega))
      have HOB' : Hid (OB1 (w3.heap.size + 3) W' hv (pre.map fun x => x.2.hid)) := HB3O.out.move fun k hk => HK.out.block k (HVB.out k hk).2 (by
        rintro (h | h)
        · have := HVB.out k hk; omega
        · rw [own_apart HOWN.out HB3O.out hk] at h; cases h)
      have HBW' : Hid (RowKit.Below w.heap.size w W') := HBW.out.trans (HK.out.below HBW.out.size (fun k hk => by
        rcases hk with h | h
        · omega
        · have := HRB.out k h; omega))
      have HNOT := noting1_any (w3.heap.size + 3) (w1.heap.size + 1 + 1) (w1.heap.size + 1 + 1 + 1) (pre.map fun x => x.2.hid) hv 3 xn xh xm xa (some ⟨kb, ko, none⟩) xl xc 2 xk W' HPp.out HHb.out HOB'.out (by omega) (by omega) (by rw [List.length_map]; omega) (by omega)
      obtain ⟨n0, nf, nl⟩ := cells1 HNb.out
      obtain ⟨p0, p1, p2, p3, p4, p5, p6⟩ := cells6 HPB'.out
      clear hD hRow hat hK st
      gi_wp2_with fail
      refine ⟨trivial, ?_⟩
      refine (CallsIn.inRound l ((callsIn_wide (n := 3)).2 HNOT)).mono ?_
      rintro e w5 ⟨rfl, ⟨hv', hH5, hO5, hown5⟩, hK5⟩
      have hs5 := hK5.size
      have st5 : ∀ {k : Nat} {o : Obj}, W'.heap[k]? = some o → k ≠ w1.heap.size + 1 + 1 → hv.ownBlock ≠ some k → w5.heap[k]? = some o := fun {k o} hh h1 h2 => (hK5.block k (heap_lt hh) (by
        rintro (h | h)
        · exact h1 h
        · exact h2 h)).trans hh
      have hvlt : ∀ k, k < w3.heap.size + 3 → hv.ownBlock ≠ some k := fun k hk e => by have := HVB.out k e; omega
      have HPB5 := Hid.mk (st5 HPB'.out (by omega) (box_apart HPB'.out HOB'.out))
      have HRb5 := Hid.mk (st5 HRb.out (by omega) (hvlt _ (by omega)))
      have HD5 := Hid.mk (st5 HD.out (by omega) (hvlt _ (by omega)))
      have HNb5 := Hid.mk (st5 HNb.out (by omega) (hvlt _ (by omega)))
      have HPp5 := Hid.mk (st5 HPp.out (by omega) (hvlt _ (by omega)))
      have HZb5 := Hid.mk (st5 HZb.out (by omega) (hvlt _ (by omega)))
      have HB5' : Hid (RowKit.Below w.heap.size w w5) := HBW'.out.trans (hK5.below HBW'.out.size (fun k hk => by
        rcases hk with h | h
        · omega
        · have := HVB.out k h; omega))
      have hc5 := HC1.out.same (HB5'.out.block kb hkb)
      obtain ⟨q0, q1, q2, q3, e1, e2, e3, g1, g2, g3, hve, c0, c1, c2, c3, c4, c5⟩ := hc5
      obtain ⟨y0, y1, y2, y3, y4, y5, y6⟩ := cells6 HRb5.out
      have yf := frz HRb5.out
      clear p0 p1 p2 p3 p4 p5 p6 n0 nf nl
      obtain ⟨p0, p1, p2, p3, p4, p5, p6⟩ := cells6 HPB5.out
      have HH5 := Hid.mk hH5
      have HO5 := Hid.mk hO5
      have HOWN5 := Hid.mk hown5
      have HK5 := Hid.mk hK5
      have HVE := Hid.mk hve
      clear hH5 hO5 hown5 hK5 st5 hve HNOT
      gi_wp2
      have HK9 : Hid (Kept (fun k => k = w1.heap.size) w5 (set6W w5 w1.heap.size (.int .i64 q0) (.int .i64 q1) (.bool q2) (.string q3) (.slice e1 e2 e3) (.slice g1 g2 g3))) := keep6 rfl
      have hs9 := HK9.out.size
      have hR9 : (set6W w5 w1.heap.size (.int .i64 q0) (.int .i64 q1) (.bool q2) (.string q3) (.slice e1 e2 e3) (.slice g1 g2 g3)).heap[w1.heap.size]? = some (.cells #[.int .i64 q0, .int .i64 q1, .bool q2, .string q3, .slice e1 e2 e3, .slice g1 g2 g3] 25 (0, 0)) := set6 HRb5.out
      rw [← HS3.out]
      show RK w.heap.size w3.heap.size W (set6W w5 w1.heap.size (.int .i64 q0) (.int .i64 q1) (.bool q2) (.string q3) (.slice e1 e2 e3) (.slice g1 g2 g3)) ∧ SpI w xs v' t' (w.heap.size + 1) w1.heap.size (w1.heap.size + 1) (w1.heap.size + 1 + 1) (w1.heap.size + 1 + 1 + 1) (w1.heap.size + 1 + 1 + 1 + 1) (w3.heap.size + 3) (pre ++ [x]) (set6W w5 w1.heap.size (.int .i64 q0) (.int .i64 q1) (.bool q2) (.string q3) (.slice e1 e2 e3) (.slice g1 g2 g3))
      generalize set6W w5 w1.heap.size (.int .i64 q0) (.int .i64 q1) (.bool q2) (.string q3) (.slice e1 e2 e3) (.slice g1 g2 g3) = W9 at *
      have st9 : ∀ {k : Nat} {o : Obj}, w5.heap[k]? = some o → k ≠ w1.heap.size → W9.heap[k]? = some o := fun {k o} hh h1 => (HK9.out.block k (heap_lt hh) h1).trans hh
      obtain ⟨ys', kvs', ho', -⟩ := HROW'.out.go
      have hgB : ∀ k, ownB (some ⟨g, 0, none⟩) k = true → w3.heap.size + 3 ≤ k ∧ k < W'.heap.size := fun k hk => row_block ho' hk
      refine ⟨⟨by omega, fun k h1 h2 => ?_⟩, ⟨rest, t1, q0, q1, q2, q3, e1, e2, e3, g1, g2, g3, by rw [List.append_assoc]; exact hpre, by rw [← HVE.out]; exact HR1.out, hR9⟩, ⟨some ⟨g, 0, none⟩, c, hv', ?_, st9 HH5.out (by omega), ?_, ?_⟩, st9 HPp5.out (by omega), st9 HNb5.out (by omega), st9 HZb5.out (by omega), ?_⟩
      · refine (HK9.out.block k (by omega) (by omega)).trans ((HK5.out.block k (by omega) ?_).trans (HK.out.block k h1 ?_))
        · rintro (h | h)
          · omega
          · have := HVB.out k h; omega
        · rintro (h | h)
          · omega
          · have := HRB.out k h; omega
      · rw [List.length_append]
        exact st9 HD5.out (by omega)
      · rw [List.map_append]
        have hx : [x].map (fun x => x.2.hid) = [xh] := by simp [hx2, Tm.hid]
        rw [hx]
        exact HO5.out.move fun k hk => HK9.out.block k (HO5.out.lt hk).2 (by have := (HO5.out.lt hk).1; omega)
      · rw [List.map_append]
        have hx : [x].map (fun x => cleanT (domT x.2)) = [cleanT d] := by simp [hdd]
        rw [hx, HTS.out]
        refine HROW'.out.go2 (by omega) (fun k hk => ?_) (fun k h1 h2 h3 => ?_)
        · have hkB := hgB k hk
          refine (HK9.out.block k (by omega) (by omega)).trans (HK5.out.block k hkB.2 ?_)
          rintro (h | h)
          · omega
          · rw [own_apart ho' HOB'.out h] at hk; cases hk
        · rw [Bool.or_eq_false_iff, decide_eq_false_iff_not] at h2
          have hnv : hv.ownBlock ≠ some k := by have := h2.2; unfold ownV at this; simpa using this
          refine ⟨?_, (HK9.out.block k (by omega) (by omega)).trans (HK5.out.block k h1 ?_)⟩
          · rw [Bool.or_eq_false_iff, decide_eq_false_iff_not]
            refine ⟨h2.1, ?_⟩
            unfold ownV
            rw [decide_eq_false_iff_not]
            intro e
            rcases HOWN5.out with h | h
            · exact hnv (by rw [← h]; exact e)
            · have := h k e; omega
          · rintro (h | h)
            · omega
            · exact hnv h
      · exact HB5'.out.trans (HK9.out.below HB5'.out.size (fun k hk => by omega))
  case done =>
    rintro D W rfl hI hK
    have hlxs : xs ++ [] = xs := List.append_nil xs
    obtain ⟨⟨rest, rt, q0, q1, q2, q3, e1, e2, e3, g1, g2, g3, a1, a2, a3⟩, ⟨a, cap, hv, b1, b2, b3, b4⟩, b5, b6, b7, b8⟩ := hI
    have hrest : rest = [] := List.append_cancel_left (a1.trans hlxs.symm)
    subst hrest
    have hvt : TV w v' t' := by cases a2 with | nil hv => exact hv
    have hve : (.agg #[.int .i64 q0, .int .i64 q1, .bool q2, .string q3, .slice e1 e2 e3, .slice g1 g2 g3]) = v' := by
      generalize (Value.agg #[.int .i64 q0, .int .i64 q1, .bool q2, .string q3, .slice e1 e2 e3, .slice g1 g2 g3]) = vv at a2
      cases a2 with | nil _ => rfl
    have HKD := Hid.mk hK
    have HRX := Hid.mk a3
    have HDX := Hid.mk b1
    have HHX := Hid.mk b2
    have HO := Hid.mk b3
    have HROWX := Hid.mk b4
    have HZX := Hid.mk b7
    have HBX := Hid.mk b8
    obtain ⟨j0, j1, j2⟩ := cells1 b1
    clear hK a1 a2 a3 b1 b2 b3 b4 b5 b6 b7 b8 hlxs
    obtain ⟨o0, o1, o2, o3, o4, o5, o6⟩ := cells6 HZX.out
    have of := frz HZX.out
    have hsZ : w.heap.size + 1 < W.heap.size := o6
    by_cases hlt : (xs.length : Int) < N
    · gi_wp2
      have hK' : (set6W W (w.heap.size + 1) (.int .i64 0) (.int .i64 0) (.bool false) (.string { data := #[] }) (.slice none 0 0) (.slice none 0 0)).heap[w3.heap.size]? = some (.deferred (some [])) := ((keep6 (P := fun k => k = w.heap.size + 1) rfl).block _ (heap_lt HKD.out) (by have := HS3.out; omega)).trans HKD.out
      refine ⟨by simp, .inl ⟨_, _, rfl, run_takeDeferred hK', ?_⟩⟩
      have hKp : Kept (fun k => k = w.heap.size + 1) W (set6W W (w.heap.size + 1) (.int .i64 0) (.int .i64 0) (.bool false) (.string { data := #[] }) (.slice none 0 0) (.slice none 0 0)) := keep6 rfl
      have hbp : RowKit.Below w.heap.size w ((set6W W (w.heap.size + 1) (.int .i64 0) (.int .i64 0) (.bool false) (.string { data := #[] }) (.slice none 0 0) (.slice none 0 0)).putObj w3.heap.size (.deferred none)) := (HBX.out.trans (hKp.below HBX.out.size (fun k hk => by omega))).trans (belowK_b (w := w) (Nat.le_refl _) _ _ _ _ (by have := HS3.out; omega) hK' rfl rfl)
      have hZ' := (World.putObj_heap_other (w := set6W W (w.heap.size + 1) (.int .i64 0) (.int .i64 0) (.bool false) (.string { data := #[] }) (.slice none 0 0) (.slice none 0 0)) (r := w3.heap.size) (k := w.heap.size + 1) (o := .deferred none) (by have := HS3.out; omega)).trans (set6 HZX.out)
      obtain ⟨m0, m1, m2, m3, m4, m5, m6⟩ := cells6 hZ'
      unfold set6W at m0 m1 m2 m3 m4 m5
      exact ⟨.tuple #[.slice none 0 0, .slice none 0 0, zeroV, .bool false], by simp [results, Try.f8, go_sem, zeroV, m0, m1, m2, m3, m4, m5], hbp, Or.inr ⟨hlt, rfl⟩⟩
    · have HCP : Hid (∀ W', RowKit.Below w.heap.size w W' → Calls Try.prog 26 #[.agg #[.int .i64 q0, .int .i64 q1, .bool q2, .string q3, .slice e1 e2 e3, .slice g1 g2 g3]] W' fun e w' => ∃ v', e = .returned v' ∧ TO w' W'.heap.size w'.heap.size v' (cleanT t') ∧ RowKit.Below W'.heap.size W' w') := fun W' h => Copy_any t' _ W' (by rw [hve]; exact hvt.on h) HGT.out.1 HGT.out.2.1 HGT.out.2.2
      have HCEL : Hid (∀ Wx : World, (∀ k, k < W.heap.size → k ≠ w.heap.size + 1 → Wx.heap[k]? = W.heap[k]?) → (fun w' => w'.cell? ⟨w1.heap.size + 1, 0, none⟩ = some (.slice a xs.length cap) ∧ w'.cell? ⟨w1.heap.size + 1 + 1, 0, none⟩ = some hv ∧ w'.cell? ⟨w1.heap.size, 0, none⟩ = some (.int .i64 q0) ∧ w'.cell? ⟨w1.heap.size, 1, none⟩ = some (.int .i64 q1) ∧ w'.cell? ⟨w1.heap.size, 2, none⟩ = some (.bool q2) ∧ w'.cell? ⟨w1.heap.size, 3, none⟩ = some (.string q3) ∧ w'.cell? ⟨w1.heap.size, 4, none⟩ = some (.slice e1 e2 e3) ∧ w'.cell? ⟨w1.heap.size, 5, none⟩ = some (.slice g1 g2 g3)) Wx) := fun Wx h => by
        have hs3 := HS3.out
        have hD := (h _ (heap_lt HDX.out) (by omega)).trans HDX.out
        have hH := (h _ (heap_lt HHX.out) (by omega)).trans HHX.out
        obtain ⟨c0, c1, c2, c3, c4, c5, -⟩ := cells6 ((h _ (heap_lt HRX.out) (by omega)).trans HRX.out)
        exact ⟨(cells1 hD).1, (cells1 hH).1, c0, c1, c2, c3, c4, c5⟩
      have HNE : Hid ((xs.length : Int) = N) := by unfold Hid; rcases HEND.out with h | h <;> omega
      clear hve hvt
      have mx := mixed
      clear o0 o1 o2 o3 o4 o5 of j0 j1 j2
      obtain ⟨j0, j1, j2⟩ := cells1 HDX.out
      gi_wp2_with fail
      clear j0 j1 j2
      refine wpIn_mono (Q := (fun e a' W' => e = .normal ∧ ∃ (DD : Nat) (z49 z50 z51 z52 : Value) (u0 u1 : Int) (u2 : Bool) (u3 : ByteArray) (r1 : Option Addr) (r2 r3 : Nat) (s1' : Option Addr) (s2' s3' : Nat), a' = { tmps := #[.agg #[.int .i64 f, .int .i64 n, .bool hd, .string nm, .slice la l1 lc, .slice ka k1 kc], .int .i64 N, .pointer (some ⟨w.heap.size, 0, none⟩), undef, .slice a xs.length cap, hv, .pointer (some ⟨w.heap.size + 1, 0, none⟩), .bool true, .pointer (some ⟨w1.heap.size, 0, none⟩), .pointer (some ⟨w1.heap.size + 1, 0, none⟩), .pointer (some ⟨w1.heap.size + 1 + 1, 0, none⟩), .pointer (some ⟨w1.heap.size + 1 + 1 + 1 + 1, 0, none⟩), undef, .int .i64 N, .bool false, .bool false, .agg #[.int .i64 f, .int .i64 n, .bool hd, .string nm, .slice la l1 lc, .slice ka k1 kc], .int .i64 0, .bool false, .bool false, undef, .agg #[.int .i64 f, .int .i64 n, .bool hd, .string nm, .slice la l1 lc, .slice ka k1 kc], .func (.func 40) #[] #[.pointer (some ⟨w1.heap.size + 1 + 1 + 1, 0, none⟩)], .agg #[.int .i64 f, .int .i64 n, .bool hd, .string nm, .slice la l1 lc, .slice ka k1 kc], .int .i64 N, .func (.func 41) #[] #[.pointer (some ⟨w1.heap.size + 1 + 1 + 1 + 1 + 1, 0, none⟩), .pointer (some ⟨w1.heap.size + 1 + 1 + 1 + 1 + 1 + 1, 0, none⟩)], undef, undef, undef, undef, undef, undef, undef, undef, undef, undef, undef, undef, undef, undef, undef, undef, undef, undef, .slice a xs.length cap, .int .i64 xs.length, .int .i64 N, .bool false, undef, z49, z50, z51, z52], defers := [{ target := .collected DD, args := #[] }] } ∧ DD = w3.heap.size ∧ W'.heap[w.heap.size + 1]? = some (.cells #[.int .i64 u0, .int .i64 u1, .bool u2, .string u3, .slice r1 r2 r3, .slice s1' s2' s3'] 25 (0, 0)) ∧ TO W' W.heap.size W'.heap.size (.agg #[.int .i64 u0, .int .i64 u1, .bool u2, .string u3, .slice r1 r2 r3, .slice s1' s2' s3']) (cleanT t') ∧ Kept (fun k => k = w.heap.size + 1) W W')) ?_ ?_
      · refine wpIn_wide.2 ?_
        refine wp_region_late (S := fun w' => w'.cell? ⟨w1.heap.size + 1, 0, none⟩ = some (.slice a xs.length cap) ∧ w'.cell? ⟨w1.heap.size + 1 + 1, 0, none⟩ = some hv ∧ w'.cell? ⟨w1.heap.size, 0, none⟩ = some (.int .i64 q0) ∧ w'.cell? ⟨w1.heap.size, 1, none⟩ = some (.int .i64 q1) ∧ w'.cell? ⟨w1.heap.size, 2, none⟩ = some (.bool q2) ∧ w'.cell? ⟨w1.heap.size, 3, none⟩ = some (.string q3) ∧ w'.cell? ⟨w1.heap.size, 4, none⟩ = some (.slice e1 e2 e3) ∧ w'.cell? ⟨w1.heap.size, 5, none⟩ = some (.slice g1 g2 g3)) (fun _ => false) mx ?_ (fun hHeld => ?_)
        · (try dsimp only)
          exact HCEL.out _ (fun j _ _ => rfl)
        refine wpAnyM_take (i := 0) (v := ?_) rfl (by kernel_rfl) (by kernel_rfl) (by kernel_rfl) (by kernel_rfl) (fun _ _ _ h => by cases h.1) (Or.inl ⟨by rfl, ?_⟩) (by assumption) ?_
        rotate_left
        · (intro w hSw; (try dsimp only at hSw); go_simp; (try with_reducible rfl))
        refine wpAnyM_take (i := 1) (v := ?_) rfl (by kernel_rfl) (by kernel_rfl) (by kernel_rfl) (by kernel_rfl) (fun _ _ _ h => by cases h.1) (Or.inl ⟨by rfl, ?_⟩) (by assumption) ?_
        rotate_left
        · (intro w hSw; (try dsimp only at hSw); go_simp; (try with_reducible rfl))
        refine wpAnyM_take (i := 2) (v := ?_) rfl (by kernel_rfl) (by kernel_rfl) (by kernel_rfl) (by kernel_rfl) (fun _ _ _ h => by cases h.1) (Or.inl ⟨by rfl, ?_⟩) (by assumption) ?_
        rotate_left
        · (intro w hSw; (try dsimp only at hSw); go_simp; (try with_reducible rfl))
        refine wpAnyM_one (i := 3) (by kernel_rfl) ?_
        refine ⟨_, rfl, fun K hK => ?_⟩
        go_simp
        go_at_call 26
        refine (HCP.out W.drew HBX.out.drew).mono ?_
        rintro e w6 ⟨v6, rfl, hto6, hb6⟩
        obtain ⟨u0, u1, u2, u3, r1, r2, r3, s1', s2', s3', rfl⟩ := hto6.shapeE
        have hZ6 := (hb6.block _ (heap_lt HZX.out)).trans HZX.out
        obtain ⟨o0, o1, o2, o3, o4, o5, o6⟩ := cells6 hZ6
        have of := frz hZ6
        have HK6 : Hid (Kept (fun k => k = w.heap.size + 1) W w6) := Kept.of_below ((Below.refl _ W).drew.trans hb6)
        have HTO6 := Hid.mk hto6
        have HZ6 := Hid.mk hZ6
        have hs6 := hb6.size
        clear hto6 hZ6
        refine hK.out _ _ (fun _ => ?_) (fun hHeld => ?_)
        · (try dsimp only)
          exact HCEL.out _ (fun k hk _ => hb6.block k hk)
        replace hHeld := hHeld rfl
        clear hK K
        refine wpAnyM_one (i := 4) (by kernel_rfl) ?_
        refine ⟨_, rfl, fun K hK => ?_⟩
        go_simp
        refine hK.out _ _ (fun _ => ?_) (fun hHeld => ?_)
        · (try dsimp only)
          exact hHeld
        replace hHeld := hHeld rfl
        clear hK K
        refine wpAnyM_one (i := 5) (by kernel_rfl) ?_
        refine ⟨_, rfl, fun K hK => ?_⟩
        go_simp
        refine hK.out _ _ (fun _ => ?_) (fun hHeld => ?_)
        · (try dsimp only)
          exact hHeld
        replace hHeld := hHeld rfl
        clear hK K
        refine wpAnyM_one (i := 6) (by kernel_rfl) ?_
        refine ⟨_, rfl, fun K hK => ?_⟩
        go_simp
        have HK9 : Hid (Kept (fun k => k = w.heap.size + 1) W (set6W w6 (w.heap.size + 1) (.int .i64 u0) (.int .i64 u1) (.bool u2) (.string u3) (.slice r1 r2 r3) (.slice s1' s2' s3'))) := HK6.out.trans (keep6 rfl)
        refine hK.out _ _ (fun _ => ?_) (fun hHeld => ?_)
        · (try dsimp only)
          exact HCEL.out _ (fun k hk hne => HK9.out.block k hk hne)
        replace hHeld := hHeld rfl
        clear hK K
        refine wpAnyM_one (i := 7) (by kernel_rfl) ?_
        refine ⟨_, rfl, fun K hK => ?_⟩
        go_simp
        refine hK.out _ _ (fun _ => ?_) (fun hHeld => ?_)
        · (try dsimp only)
          exact hHeld
        replace hHeld := hHeld rfl
        clear hK K
        refine wpAnyM_done (by kernel_rfl) ?_ _
        exact ⟨rfl, _, _, _, _, _, u0, u1, u2, u3, r1, r2, r3, s1', s2', s3', rfl, HS3.out.symm, set6 HZ6.out, (HTO6.out.on (fun k h1 h2 => (keep6 (P := fun k => k = w.heap.size + 1) rfl).block k h2 (by have : W.drew.heap.size = W.heap.size := rfl; omega))).mono (Nat.le_refl _) (by rw [size6]; exact Nat.le_refl _), HK9.out⟩
      · rintro e a' W' ⟨rfl, DD, z49, z50, z51, z52, u0, u1, u2, u3, r1, r2, r3, s1', s2', s3', rfl, hDD, hZ9, hto9, hK9⟩
        have HDD := Hid.mk hDD
        have HZ9 := Hid.mk hZ9
        have HTO9 := Hid.mk hto9
        have HK9 := Hid.mk hK9
        clear hDD hZ9 hto9 hK9
        gi_wp2
        have hs3 := HS3.out
        have hK' : W'.heap[DD]? = some (.deferred (some [])) := by
          rw [HDD.out]
          exact (HK9.out.block _ (heap_lt HKD.out) (by omega)).trans HKD.out
        refine ⟨by simp, .inl ⟨_, _, rfl, run_takeDeferred hK', ?_⟩⟩
        have hDl := heap_lt hK'
        have hsz9 := HK9.out.size
        have hbp : RowKit.Below w.heap.size w (W'.putObj DD (.deferred none)) := (HBX.out.trans (HK9.out.below HBX.out.size (fun k hk => by omega))).trans (belowK_b (w := w) (Nat.le_refl _) _ _ _ _ (by have := HDD.out; omega) hK' rfl rfl)
        have hZ' := (World.putObj_heap_other (w := W') (r := DD) (k := w.heap.size + 1) (o := .deferred none) (by have := HDD.out; omega)).trans HZ9.out
        obtain ⟨m0, m1, m2, m3, m4, m5, m6⟩ := cells6 hZ'
        have hpk : ∀ k, k ≠ w3.heap.size → (W'.putObj DD (.deferred none)).heap[k]? = W'.heap[k]? := fun k hk => World.putObj_heap_other (by have := HDD.out; omega)
        have hps : (W'.putObj DD (.deferred none)).heap.size = W'.heap.size := by simp [World.putObj]
        refine ⟨.tuple #[.slice a xs.length cap, hv, .agg #[.int .i64 u0, .int .i64 u1, .bool u2, .string u3, .slice r1 r2 r3, .slice s1' s2' s3'], .bool true], by simp [results, Try.f8, go_sem, m0, m1, m2, m3, m4, m5], hbp, Or.inl ⟨HNE.out, w3.heap.size + 3, (fun k => decide (k < w3.heap.size + 3) || ownV hv k), a, cap, hv, _, rfl, ?_, ?_, ⟨_, _, _, _, _, _, _, _, _, _, rfl⟩, ?_⟩⟩
        · refine HROWX.out.go2 (by rw [hps]; exact hsz9) (fun k hk => ?_) (fun k h1 h2 h3 => ⟨h2, ?_⟩)
          · obtain ⟨ys, kvs, ho, -⟩ := HROWX.out.go
            have := row_block ho hk
            exact (hpk k (by omega)).trans (HK9.out.block k this.2 (by omega))
          · rw [Bool.or_eq_false_iff, decide_eq_false_iff_not] at h2
            exact (hpk k (by omega)).trans (HK9.out.block k h1 (by omega))
        · exact HO.out.move fun k hk => by
            have := HO.out.lt hk
            exact (hpk k (by omega)).trans (HK9.out.block k this.2 (by omega))
        · refine (HTO9.out.on (fun k h1 h2 => hpk k ?_)).tv
          have := heap_lt HKD.out
          omega
end Go.Proofs.Ythdcpodheimhaaa
