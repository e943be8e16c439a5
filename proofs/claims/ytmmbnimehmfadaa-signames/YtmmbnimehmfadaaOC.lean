/- The contract of term.withKid. -/
import Derived.Test.YtmmbnimehmfadaaOA
import Derived.Deep.AppendLies
import Derived.Test.YtmmbnimehmfadaaWF
import Derived.Deep.RegionHeld3
import Derived.Laws.AppendOwnNone
namespace Go.Proofs.Ytmmbnimehmfadaa
open Go.RowKit Go.Sort

theorem infoTerm : (Try.prog.info? 26).map (fun i => (i.zero, i.size, i.bytes)) = some (some (.agg #[.int .i64 0, .int .i64 0, .bool false, .string ByteArray.empty, .slice none 0 0, .slice none 0 0]), 6, 88) := by kernel_rfl

/-- append of one term onto a row of its own that has room -/
theorem wpList_app1 {w : World} {ops : Array Oper} {rest : List Oper} {o : Oper} {a : Act} {Q : Exit → Act → World → Prop} (hgd : o.guard = none) (s x : Operand) (ho : o.op = .call { callee := .builtin .append, args := #[s, x], argTypes := #[24, 24] })
    (g n cap b c : Nat) (cur : Array Value) (hg : w.heap[g]? = some (.cells cur 26 (0, 0))) (hs : a.eval s = .slice (some ⟨g, 0, none⟩) n cap) (hx : a.eval x = .slice (some ⟨b, 0, none⟩) 1 c) (news : List Value) (hl : news.length = 6) (hnews : ∀ j u, news[j]? = some u → w.cell? ((⟨b, 0, none⟩ : Addr).add j) = some u) (h1 : ∀ u ∈ news, u.oneCell' = true) (hroom : n < cap) (hcs : cur.size = cap * 6)
    (h : ∀ W : World, W.heap[g]? = some (.cells (cur.toList.take (n * 6) ++ news ++ cur.toList.drop (n * 6 + 6)).toArray 26 (0, 0)) → (∀ k, k ≠ g → W.heap[k]? = w.heap[k]?) → Kept (· = g) w W → wpList Try.prog ops Q rest (a.put o.dst (.slice (some ⟨g, 0, none⟩) (n + 1) cap)) W) : wpList Try.prog ops Q (o :: rest) a w := by
  obtain ⟨i, hi, hz0, hz1, hz2⟩ := info_parts infoTerm
  have hr := run_append_room (P := Try.prog) w 24 o.type 26 i Try.underlying24 hi g n cap cur hg ⟨b, 0, none⟩ 1 c news (by rw [hz1, hl]) hnews h1 hroom (by rw [hz1, hl, hcs]; omega)
  rw [hz1, hl] at hr
  refine wpList_plain hgd fun K hK => ?_
  unfold Oper.wp execOp
  simp only [ho, resolve, invoke, builtin, Sem.run_bind, Sem.run_pure, Result.andThen_ok, List.map_toArray, List.map_cons, List.map_nil, hs, hx, hr]
  exact hK _ _ (h _ (setRow_heap w g cur _ 26 (0, 0) hg) (fun k hk => setRow_other _ _ _ _ hk) ⟨rfl, rfl, rfl, by simp, fun k _ hk => setRow_other _ _ _ _ hk⟩)

theorem TO.shapeE {w : World} {B E : Nat} {v : Value} {t : Tm} (h : TO w B E v t) : ∃ (v0 v1 : Int) (v2 : Bool) (v3 : ByteArray) (l1 : Option Addr) (l2 l3 : Nat) (k1 : Option Addr) (k2 k3 : Nat), v = .agg #[.int .i64 v0, .int .i64 v1, .bool v2, .string v3, .slice l1 l2 l3, .slice k1 k2 k3] := by
  cases h with
  | leaf hl => obtain ⟨la, lc, rfl, -⟩ := hl.ln; exact ⟨_, _, _, _, _, _, _, _, _, _, rfl⟩
  | row hl => obtain ⟨la, lc, rfl, -⟩ := hl.ln; exact ⟨_, _, _, _, _, _, _, _, _, _, rfl⟩

/-- the row with one more: the old cells -/
theorem row_old {w W : World} {g n : Nat} {cur : Array Value} {news : List Value} {t : TypeId} (hg : w.heap[g]? = some (.cells cur t (0, 0))) (hW : W.heap[g]? = some (.cells (cur.toList.take (n * 6) ++ news ++ cur.toList.drop (n * 6 + 6)).toArray t (0, 0))) (hn : n * 6 ≤ cur.size) {o : Nat} (ho : o < n * 6) : W.cell? ⟨g, o, none⟩ = w.cell? ⟨g, o, none⟩ := by
  rw [cell_of_row _ g o _ _ _ hW, cell_of_row _ g o _ _ _ hg]
  have hl : o < (cur.toList.take (n * 6)).length := by simp; omega
  simp only [List.getElem?_toArray]
  rw [List.append_assoc, List.getElem?_append_left hl, List.getElem?_take_of_lt ho]
  simp

/-- the row with one more: the new cells -/
theorem row_new {W : World} {g n : Nat} {cur : Array Value} {news : List Value} {t : TypeId} (hW : W.heap[g]? = some (.cells (cur.toList.take (n * 6) ++ news ++ cur.toList.drop (n * 6 + 6)).toArray t (0, 0))) (hn : n * 6 ≤ cur.size) {j : Nat} (hj : j < news.length) : W.cell? ⟨g, n * 6 + j, none⟩ = news[j]? := by
  rw [cell_of_row _ g (n * 6 + j) _ _ _ hW]
  have hl : (cur.toList.take (n * 6)).length = n * 6 := by simp; omega
  simp only [List.getElem?_toArray]
  rw [List.append_assoc, List.getElem?_append_right (by omega), hl, Nat.add_sub_cancel_left, List.getElem?_append_left hj]

theorem cellsAt_old {w W : World} {g n i : Nat} {cur : Array Value} {news : List Value} {t : TypeId} {v : Value} (hg : w.heap[g]? = some (.cells cur t (0, 0))) (hW : W.heap[g]? = some (.cells (cur.toList.take (n * 6) ++ news ++ cur.toList.drop (n * 6 + 6)).toArray t (0, 0))) (hn : n * 6 ≤ cur.size) (hi : i < n) (h : CellsAt w g (i * 6) v) : CellsAt W g (i * 6) v := by
  obtain ⟨v0, v1, v2, v3, l1, l2, l3, k1, k2, k3, hv, c0, c1, c2, c3, c4, c5⟩ := h
  exact ⟨v0, v1, v2, v3, l1, l2, l3, k1, k2, k3, hv, (row_old hg hW hn (by omega)).trans c0, (row_old hg hW hn (by omega)).trans c1, (row_old hg hW hn (by omega)).trans c2, (row_old hg hW hn (by omega)).trans c3, (row_old hg hW hn (by omega)).trans c4, (row_old hg hW hn (by omega)).trans c5⟩

/-- one kid more, in the world behind -/
theorem RO.more {w W : World} {B N E g kc E' E'' : Nat} {f n : Int} {h : Bool} {nm : ByteArray} {lv : Value} {k1 : Nat} {r k : Tm} {v0 v1 : Int} {v2 : Bool} {v3 : ByteArray} {q1 : Option Addr} {q2 q3 : Nat} {p1 : Option Addr} {p2 p3 : Nat} {cur : Array Value}
    (hR : RO w B N E g kc (.agg #[.int .i64 f, .int .i64 n, .bool h, .string nm, lv, .slice (some ⟨g, 0, none⟩) k1 kc]) r) (hT : TO w E' E'' (.agg #[.int .i64 v0, .int .i64 v1, .bool v2, .string v3, .slice q1 q2 q3, .slice p1 p2 p3]) k) (hEE : E ≤ E') (hroom : k1 < kc) (hcur : w.heap[g]? = some (.cells cur 26 (0, 0)))
    (hW : W.heap[g]? = some (.cells (cur.toList.take (k1 * 6) ++ ([.int .i64 v0, .int .i64 v1, .bool v2, .string v3, .slice q1 q2 q3, .slice p1 p2 p3] : List Value) ++ cur.toList.drop (k1 * 6 + 6)).toArray 26 (0, 0))) (hk : ∀ i, i < E'' → i ≠ g → W.heap[i]? = w.heap[i]?) :
    RO W B N E'' g kc (.agg #[.int .i64 f, .int .i64 n, .bool h, .string nm, lv, .slice (some ⟨g, 0, none⟩) (k1 + 1) kc]) (r.add k) := by
  obtain ⟨f', n', h', nm', ls, ks, lv', m, bd, kvs, hv, rfl, hl, hBm, hmg, hgN, hNb, hbd, hE, hrow, hkc, hkm, cells, kids⟩ := hR
  simp only [Value.agg.injEq, Array.mk.injEq, List.cons.injEq, Value.int.injEq, true_and, Value.bool.injEq, Value.string.injEq, Value.slice.injEq, and_true] at hv
  obtain ⟨rfl, rfl, rfl, rfl, rfl, rfl⟩ := hv
  have hT' := hT.le
  have h0 := bd_mono hbd (Nat.zero_le ks.length)
  obtain ⟨cur', hc', hs'⟩ := hrow
  obtain rfl : cur' = cur := by rw [hc'] at hcur; simpa using hcur
  have hn6 : ks.length * 6 ≤ cur'.size := by rw [hs']; omega
  refine ⟨f, n, h, nm, ls, ks ++ [k], lv, m, fun i => if i ≤ ks.length then bd i else E'', fun i => if i < ks.length then kvs i else (.agg #[.int .i64 v0, .int .i64 v1, .bool v2, .string v3, .slice q1 q2 q3, .slice p1 p2 p3]), by simp, rfl, hl.on (fun i h1 h2 => hk i (by omega) (by omega)), hBm, hmg, hgN, by simpa using hNb, ?_, by simp only [List.length_append, List.length_cons, List.length_nil]; rw [if_neg (by omega)]; exact Nat.le_refl _, ⟨_, hW, ?_⟩, by simp; omega, hkm, ?_, ?_⟩
  · intro i
    by_cases h1 : i + 1 ≤ ks.length
    · simp only [h1, if_true, show i ≤ ks.length by omega]; exact hbd i
    · by_cases h2 : i ≤ ks.length
      · obtain rfl : i = ks.length := by omega
        dsimp only
        rw [if_pos (Nat.le_refl _), if_neg (by omega)]; omega
      · dsimp only
        rw [if_neg (by omega), if_neg (by omega)]; exact Nat.le_refl _
  · simp only [List.size_toArray, List.length_append, List.length_take, List.length_drop, Array.length_toList, List.length_cons, List.length_nil]
    omega
  · intro i hi
    rw [List.length_append] at hi
    by_cases h1 : i < ks.length
    · simp only [h1, if_true]
      exact cellsAt_old hc' hW hn6 h1 (cells i h1)
    · obtain rfl : i = ks.length := by simp at hi; omega
      simp only [Nat.lt_irrefl, if_false]
      exact ⟨v0, v1, v2, v3, q1, q2, q3, p1, p2, p3, rfl, by simpa using row_new (j := 0) hW hn6 (by simp), by simpa using row_new (j := 1) hW hn6 (by simp), by simpa using row_new (j := 2) hW hn6 (by simp), by simpa using row_new (j := 3) hW hn6 (by simp), by simpa using row_new (j := 4) hW hn6 (by simp), by simpa using row_new (j := 5) hW hn6 (by simp)⟩
  · intro i t hi
    by_cases h1 : i < ks.length
    · rw [List.getElem?_append_left h1] at hi
      simp only [h1, if_true, show i ≤ ks.length by omega, show i + 1 ≤ ks.length by omega]
      have hb1 := bd_mono hbd (Nat.zero_le i)
      have hb2 := bd_mono hbd (show i + 1 ≤ ks.length from h1)
      exact (kids i t hi).on (fun j h1 h2 => hk j (by omega) (by omega))
    · obtain rfl : i = ks.length := by
        have := (List.getElem?_eq_some_iff.1 hi).1; simp at this; omega
      simp only [List.getElem?_concat_length, Option.some.injEq] at hi
      subst hi
      simp only [Nat.le_refl, if_true, Nat.lt_irrefl, if_false, show ¬ ks.length + 1 ≤ ks.length by omega]
      exact (hT.on (fun j h1 h2 => hk j (by omega) (by omega))).mono (by omega) (Nat.le_refl _)
end Go.Proofs.Ytmmbnimehmfadaa

/- Rows of terms in memory of the call's own, by their cells; append onto such a row. -/
namespace Go.Proofs.Ytmmbnimehmfadaa
open Go.RowKit Go.Sort

/-- the six cells from o on in the list xs are the value v -/
def SixAt (xs : List Value) (o : Nat) (v : Value) : Prop :=
  ∃ (v0 v1 : Int) (v2 : Bool) (v3 : ByteArray) (l1 : Option Addr) (l2 l3 : Nat) (k1 : Option Addr) (k2 k3 : Nat), v = .agg #[.int .i64 v0, .int .i64 v1, .bool v2, .string v3, .slice l1 l2 l3, .slice k1 k2 k3] ∧ xs[o]? = some (.int .i64 v0) ∧ xs[o + 1]? = some (.int .i64 v1) ∧ xs[o + 2]? = some (.bool v2) ∧ xs[o + 3]? = some (.string v3) ∧ xs[o + 4]? = some (.slice l1 l2 l3) ∧ xs[o + 5]? = some (.slice k1 k2 k3)

theorem SixAt.cells {base g cap n o : Nat} {w : World} {xs : List Value} {v : Value} (h : w.ownsRow base 26 6 (.slice (some ⟨g, 0, none⟩) n cap) n xs) (hs : SixAt xs o v) (ho : o + 5 < n * 6) : CellsAt w g o v := by
  obtain ⟨v0, v1, v2, v3, l1, l2, l3, k1, k2, k3, hv, c0, c1, c2, c3, c4, c5⟩ := hs
  exact ⟨v0, v1, v2, v3, l1, l2, l3, k1, k2, k3, hv, (World.ownsRow.cellAt h o (by omega)).trans c0, (World.ownsRow.cellAt h (o + 1) (by omega)).trans c1, (World.ownsRow.cellAt h (o + 2) (by omega)).trans c2, (World.ownsRow.cellAt h (o + 3) (by omega)).trans c3, (World.ownsRow.cellAt h (o + 4) (by omega)).trans c4, (World.ownsRow.cellAt h (o + 5) (by omega)).trans c5⟩

theorem SixAt.left {xs ys : List Value} {o : Nat} {v : Value} (h : SixAt xs o v) (ho : o + 5 < xs.length) : SixAt (xs ++ ys) o v := by
  obtain ⟨v0, v1, v2, v3, l1, l2, l3, k1, k2, k3, hv, c0, c1, c2, c3, c4, c5⟩ := h
  exact ⟨v0, v1, v2, v3, l1, l2, l3, k1, k2, k3, hv, by rw [List.getElem?_append_left (by omega)]; exact c0, by rw [List.getElem?_append_left (by omega)]; exact c1, by rw [List.getElem?_append_left (by omega)]; exact c2, by rw [List.getElem?_append_left (by omega)]; exact c3, by rw [List.getElem?_append_left (by omega)]; exact c4, by rw [List.getElem?_append_left (by omega)]; exact c5⟩

theorem owns_block {w W : World} {B n cap : Nat} {a : Option Addr} {xs : List Value} (h : w.ownsRow B 26 6 (.slice a n cap) n xs) (hk : ∀ g, a = some ⟨g, 0, none⟩ → W.heap[g]? = w.heap[g]?) : W.ownsRow B 26 6 (.slice a n cap) n xs := by
  rcases h with ⟨h1, h2⟩
  refine ⟨h1, ?_⟩
  rcases h2 with h2 | ⟨g, cap', cur, hv, hg, hh, r⟩
  · exact Or.inl h2
  · refine Or.inr ⟨g, cap', cur, hv, hg, (hk g ?_).trans hh, r⟩
    simp at hv
    exact hv.1

end Go.Proofs.Ytmmbnimehmfadaa

/- The contract of term.withKid. -/
namespace Go.Proofs.Ytmmbnimehmfadaa
open Go.RowKit Go.Sort

theorem RO.shapeE {w : World} {B N E g kc : Nat} {v : Value} {t : Tm} (h : RO w B N E g kc v t) : ∃ (v0 v1 : Int) (v2 : Bool) (v3 : ByteArray) (l1 : Option Addr) (l2 l3 : Nat), v = .agg #[.int .i64 v0, .int .i64 v1, .bool v2, .string v3, .slice l1 l2 l3, .slice (some ⟨g, 0, none⟩) t.kids.length kc] := by
  obtain ⟨f, n, h, nm, ls, ks, lv, m, bd, kvs, rfl, rfl, hl, -⟩ := h
  obtain ⟨la, lc, rfl, -⟩ := hl.ln
  exact ⟨_, _, _, _, _, _, _, rfl⟩

theorem frz {w : World} {b : Nat} {cs : Array Value} {t : TypeId} (h : w.heap[b]? = some (.cells cs t (0, 0))) : ∀ o, w.frozen? ⟨b, o, none⟩ = false := fun o => by simp [World.frozen?, h]

theorem new3 {w : World} {a b c d : Obj} : ((((w.alloc a).alloc b).alloc c).alloc d).heap[w.heap.size + 1 + 1 + 1]? = some d := by
  have := alloc_new (((w.alloc a).alloc b).alloc c) d
  have e : (((w.alloc a).alloc b).alloc c).heap.size = w.heap.size + 1 + 1 + 1 := by simp
  rwa [e] at this

theorem at2 {w : World} {a b c d : Obj} : ((((w.alloc a).alloc b).alloc c).alloc d).heap[w.heap.size + 1 + 1]? = some c := by
  have := alloc_new ((w.alloc a).alloc b) c
  have e : ((w.alloc a).alloc b).heap.size = w.heap.size + 1 + 1 := by simp
  rw [e] at this
  exact alloc_old this _

/-- what is written into new blocks alone -/
theorem Kept.join {P : Nat → Prop} {N : Nat} {w a b : World} (h1 : Kept P w a) (h2 : Kept (fun k => N ≤ k) a b) (hN : w.heap.size ≤ N) : Kept P w b :=
  ⟨h2.os.trans h1.os, h2.tape.trans h1.tape, h2.output.trans h1.output, Nat.le_trans h1.size h2.size, fun k hk hp => (h2.block k (Nat.lt_of_lt_of_le hk h1.size) (by omega)).trans (h1.block k hk hp)⟩

set_option maxRecDepth 100000 in
set_option maxHeartbeats 2000000 in
theorem withKid_any {B N E g kc E' E'' : Nat} {v vk : Value} {r k : Tm} (w : World) (hR : RO w B N E g kc v r) (hT : TO w E' E'' vk k) (hEE : E ≤ E') (hE : E'' ≤ w.heap.size) (hroom : r.kids.length < kc) :
    Calls Try.prog 43 #[v, vk] w fun e w' => ∃ v', e = .returned v' ∧ RO w' B N E'' g kc v' (r.add k) ∧ Kept (· = g) w w' := by
  obtain ⟨f, n, h, nm, l1, l2, l3, rfl⟩ := hR.shapeE
  obtain ⟨v0, v1, v2, v3, q1, q2, q3, p1, p2, p3, rfl⟩ := hT.shapeE
  obtain ⟨cur, hcur, hcs⟩ : RowAt w g kc := by obtain ⟨_, _, _, _, _, _, _, _, _, _, _, _, _, _, _, _, _, _, _, h, _⟩ := hR; exact h
  have hgl := heap_lt hcur
  have HM := fun (W : World) hW hk => RO.more (W := W) hR hT hEE hroom hcur hW hk
  generalize r.kids.length = k1 at *
  generalize r.add k = RK at *
  have HCUR := Hid.mk hcur
  have HHM := Hid.mk HM
  clear hR hT HM hcur
  have HG := fun (a b c d : Obj) => ((((Kept.refl (· = g) w).alloc a).alloc b).alloc c).alloc d
  go_enter Try.func43, Try.ntmps43
  go_wp2_with (at_builtin; refine wpList_app1 rfl _ _ rfl g k1 kc _ 1 cur (alloc_old (alloc_old (alloc_old (alloc_old HCUR.out _) _) _) _) rfl rfl [.int .i64 v0, .int .i64 v1, .bool v2, .string v3, .slice q1 q2 q3, .slice p1 p2 p3] rfl (World.news_of_block (cs := #[.int .i64 v0, .int .i64 v1, .bool v2, .string v3, .slice q1 q2 q3, .slice p1 p2 p3]) (t := 26) (fr := (0, 0)) new3) (by simp [Value.oneCell']) hroom hcs ?_; intro W2 h2 ho hk2; have H2 := Hid.mk h2; have hb := (ho w.heap.size (by omega)).trans (alloc_old (alloc_old (alloc_old (alloc_new w _) _) _) _); have hc := (ho (w.heap.size + 1 + 1) (by omega)).trans at2; have HK2 := Hid.mk ((HG _ _ _ _).trans hk2); clear h2 ho hk2; obtain ⟨x0, x1, x2, x3, x4, x5, x6⟩ := cells6 hb; obtain ⟨y0, y1, y2, y3, y4, y5, y6⟩ := cells6 hc; have fb := frz hb; have fc := frz hc; have HB := Hid.mk hb; have HC := Hid.mk hc; clear hb hc)
  refine bodyPost_ret (v := .agg #[.int .i64 f, .int .i64 n, .bool h, .string nm, .slice l1 l2 l3, .slice (some ⟨g, 0, none⟩) (k1 + 1) kc]) (by simp [results, Try.results43, go_sem, y0, y1, y2, y3, y4, y5]) rfl ⟨_, rfl, ?_, ?_⟩
  all_goals have KF := (((((((Kept.refl (fun k => w.heap.size ≤ k) W2).setCell (p := ⟨w.heap.size, 5, none⟩) (Nat.le_refl _) (.slice (some ⟨g, 0, none⟩) (k1 + 1) kc)).setCell (p := ⟨w.heap.size + 1 + 1, 0, none⟩) (by simp; omega) (.int .i64 f)).setCell (p := ⟨w.heap.size + 1 + 1, 1, none⟩) (by simp; omega) (.int .i64 n)).setCell (p := ⟨w.heap.size + 1 + 1, 2, none⟩) (by simp; omega) (.bool h)).setCell (p := ⟨w.heap.size + 1 + 1, 3, none⟩) (by simp; omega) (.string nm)).setCell (p := ⟨w.heap.size + 1 + 1, 4, none⟩) (by simp; omega) (.slice l1 l2 l3)).setCell (p := ⟨w.heap.size + 1 + 1, 5, none⟩) (by simp; omega) (.slice (some ⟨g, 0, none⟩) (k1 + 1) kc)
  · refine HHM.out _ ((KF.block g (Nat.lt_of_lt_of_le hgl HK2.out.size) (by omega)).trans H2.out) (fun i hi hg => (KF.block i (Nat.lt_of_lt_of_le (by omega) HK2.out.size) (by omega)).trans (HK2.out.block i (by omega) hg))
  · exact HK2.out.join KF (Nat.le_refl _)
end Go.Proofs.Ytmmbnimehmfadaa
