/- The contract of term's replacing.kept. -/
import Derived.Test.YtbgkeomlfdmkeaaOI
namespace Go.Proofs.Ytbgkeomlfdmkeaa
open Go.RowKit Go.Sort

theorem cells4 {w : World} {b : Nat} {v0 v1 v2 v3 : Value} {t : TypeId} (h : w.heap[b]? = some (.cells #[v0, v1, v2, v3] t (0, 0))) :
    w.cell? ⟨b, 0, none⟩ = some v0 ∧ w.cell? ⟨b, 1, none⟩ = some v1 ∧ w.cell? ⟨b, 2, none⟩ = some v2 ∧ w.cell? ⟨b, 3, none⟩ = some v3 ∧ b < w.heap.size :=
  ⟨by rw [cell_of_row _ b 0 _ _ _ h]; rfl, by rw [cell_of_row _ b 1 _ _ _ h]; rfl, by rw [cell_of_row _ b 2 _ _ _ h]; rfl, by rw [cell_of_row _ b 3 _ _ _ h]; rfl, (Array.getElem?_eq_some_iff.1 h).1⟩

theorem set43 {w : World} {b : Nat} {v0 v1 v2 v3 x : Value} {t : TypeId} (h : w.heap[b]? = some (.cells #[v0, v1, v2, v3] t (0, 0))) : (w.setCell ⟨b, 3, none⟩ x).heap[b]? = some (.cells #[v0, v1, v2, x] t (0, 0)) := by
  rw [setCell_eq]; show (w.heap.modify b _)[b]? = _
  rw [Array.getElem?_modify, if_pos rfl, h]; rfl

theorem Fresh.setN {w : World} {B k : Nat} {f n : Int} {h : Bool} {nm : ByteArray} {lv kv : Value} {r : Tm} (hF : Fresh w B k (.agg #[.int .i64 f, .int .i64 n, .bool h, .string nm, lv, kv]) r) (n' : Int) : Fresh w B k (.agg #[.int .i64 f, .int .i64 n', .bool h, .string nm, lv, kv]) (r.setN n') := by
  rcases hF with ⟨hk, h⟩ | ⟨hk, g, h1, h2, h3⟩
  · exact Or.inl ⟨hk, h.setN n'⟩
  · refine Or.inr ⟨hk, g, h1, h2, fun N E hN hE => ?_⟩
    obtain ⟨f', n2, h', nm', ls, ks, lv', m, bd, kvs, hv, rfl, rest⟩ := h3 N E hN hE
    injection hv with hv
    have e0 := congrArg (fun a : Array Value => a[0]?) hv
    have e2 := congrArg (fun a : Array Value => a[2]?) hv
    have e3 := congrArg (fun a : Array Value => a[3]?) hv
    have e4 := congrArg (fun a : Array Value => a[4]?) hv
    have e5 := congrArg (fun a : Array Value => a[5]?) hv
    simp at e0 e2 e3 e4 e5
    subst e0 e2 e3 e4 e5
    exact ⟨f, n', h, nm, ls, ks, lv, m, bd, kvs, rfl, rfl, rest⟩

theorem setN_kids (t : Tm) (n : Int) : (t.setN n).kids = t.kids := by cases t; rfl

theorem cf_kept (xs : Array Value) (w : World) : Sem.run Try.prog (callFunc 88 xs) w = .ok (.enter 88 xs) w := by simp [callFunc, go_sem, Try.func88]; rfl

set_option maxRecDepth 100000 in
set_option maxHeartbeats 2000000 in
theorem kept_bad (X : Nat) (at_ s less : Int) (ba sa : Option Addr) (bl bc sl sc : Nat) (t : Tm) (v : Value) (w : World) (hv : TV w v t) (hXc : w.heap[X]? = some (.cells #[.int .i64 at_, .slice ba bl bc, .slice sa sl sc, .int .i64 s] 98 (0, 0))) (hs : s - 1 < 0) (hs0 : 0 ≤ s) :
    Calls Try.prog 88 #[.pointer (some ⟨X, 0, none⟩), v, .int .i64 less] w fun e w' => Kept (· = X) w w' ∧ (∃ v', ShapeT v' ∧ e = .returned (.tuple #[v', .int .i64 2])) ∧ w'.heap[X]? = some (.cells #[.int .i64 at_, .slice ba bl bc, .slice sa sl sc, .int .i64 (s - 1)] 98 (0, 0)) := by
  obtain ⟨c0, c1, c2, c3, cX⟩ := cells4 hXc
  have fX := frz hXc
  have HXC := Hid.mk hXc
  clear hXc
  obtain ⟨la, lc, ka, kc, rfl⟩ := hv.shape
  clear hv
  generalize t.form = f at *
  generalize t.n = n at *
  generalize t.hid = hd at *
  generalize t.name = nm at *
  generalize t.levels.length = l1 at *
  generalize t.kids.length = k1 at *
  go_enter Try.func88, Try.ntmps88
  go_wp2
  refine bodyPost_ret (v := .tuple #[zeroV, .int .i64 2]) (by simp [results, Try.results88, go_sem, zeroV]) rfl ⟨?_, ?_, ?_⟩
  · exact (((Kept.refl (· = X) w).setCell (p := ⟨X, 3, none⟩) rfl _).alloc _).alloc _
  · exact ⟨_, ⟨_, _, _, _, _, _, _, _, _, _, rfl⟩, rfl⟩
  · exact alloc_old (alloc_old (set43 HXC.out) _) _

set_option maxRecDepth 100000 in
set_option maxHeartbeats 2000000 in
theorem kept_ok (X : Nat) (at_ s less : Int) (ba sa : Option Addr) (bl bc sl sc : Nat) (t : Tm) (v : Value) (w : World) (hTV : ∀ W : World, Kept (· = X) w W → TV W v t) (hXc : w.heap[X]? = some (.cells #[.int .i64 at_, .slice ba bl bc, .slice sa sl sc, .int .i64 s] 98 (0, 0))) (hs : ¬ s - 1 < 0) (hs1 : s ≤ 20000) (hsm : smT 1000000 t) (h0 : t.form = 2 ∨ t.form = 10 → t.kids = []) (hl0 : -9223372036854775808 ≤ (bareT t).n - less) (hl1 : (bareT t).n - less ≤ 9223372036854775807) :
    Calls Try.prog 88 #[.pointer (some ⟨X, 0, none⟩), v, .int .i64 less] w fun e w' => Kept (· = X) w w' ∧ (∃ v', e = .returned (.tuple #[v', .int .i64 0]) ∧ Fresh w' w.heap.size t.kids.length v' ((bareT t).setN ((bareT t).n - less))) ∧ w'.heap[X]? = some (.cells #[.int .i64 at_, .slice ba bl bc, .slice sa sl sc, .int .i64 (s - 1)] 98 (0, 0)) := by
  obtain ⟨c0, c1, c2, c3, cX⟩ := cells4 hXc
  have fX := frz hXc
  have HXC := Hid.mk hXc
  clear hXc
  have HBA := fun (W : World) (hb : TV W v t) => bare_any t v W hb hsm h0
  have hv := hTV w (Kept.refl _ _)
  have HTVW := Hid.mk hTV
  clear hTV
  have HBF := Hid.mk (bareT_form t)
  have HBK := Hid.mk (bareT_kids t)
  obtain ⟨la, lc, ka, kc, rfl⟩ := hv.shape
  generalize bareT t = r at *
  clear hv hsm h0
  generalize t.form = f at *
  generalize t.n = n at *
  generalize t.hid = hd at *
  generalize t.name = nm at *
  generalize t.levels.length = l1 at *
  generalize hkk : t.kids.length = k1 at *
  clear hkk
  go_enter Try.func88, Try.ntmps88
  go_wp2_with fail
  obtain ⟨W1, hW1⟩ : ∃ W1, ((w.setCell ⟨X, 3, none⟩ (.int .i64 (s - 1))).alloc (.cells #[.int .i64 f, .int .i64 n, .bool hd, .string nm, .slice la l1 lc, .slice ka k1 kc] 25)).alloc (.cells #[.int .i64 0, .int .i64 0, .bool false, .string { data := #[] }, .slice none 0 0, .slice none 0 0] 25) = W1 := ⟨_, rfl⟩
  have hsz : (w.setCell ⟨X, 3, none⟩ (.int .i64 (s - 1))).heap.size = w.heap.size := by simp [World.setCell]
  have HX1 : Hid (W1.heap[X]? = some (.cells #[.int .i64 at_, .slice ba bl bc, .slice sa sl sc, .int .i64 (s - 1)] 98 (0, 0))) := by unfold Hid; rw [← hW1]; exact alloc_old (alloc_old (set43 HXC.out) _) _
  have HK1 : Hid (Kept (· = X) w W1) := by unfold Hid; rw [← hW1]; exact (((Kept.refl (· = X) w).setCell (p := ⟨X, 3, none⟩) rfl _).alloc _).alloc _
  have HSZ1 : Hid (W1.heap.size = w.heap.size + 1 + 1) := by unfold Hid; rw [← hW1]; simp [World.setCell]
  have HT1 : Hid (W1.heap[w.heap.size]? = some (.cells #[.int .i64 f, .int .i64 n, .bool hd, .string nm, .slice la l1 lc, .slice ka k1 kc] 25 (0, 0))) := by unfold Hid; rw [← hW1, ← hsz]; exact box_at
  have HZ1 : Hid (W1.heap[w.heap.size + 1]? = some (.cells #[.int .i64 0, .int .i64 0, .bool false, .string { data := #[] }, .slice none 0 0, .slice none 0 0] 25 (0, 0))) := by unfold Hid; rw [← hW1, ← hsz]; exact box_at1
  rw [hW1]
  clear hW1 hsz
  refine (HBA W1 (HTVW.out W1 HK1.out)).mono ?_
  rintro e w5 ⟨v5, rfl, hfr, hb5⟩
  have hz5 := hb5.size
  have hsz1 := HSZ1.out
  have hzr : w.heap.size + 1 < w5.heap.size := by omega
  have hzt : w.heap.size < w5.heap.size := by omega
  have hzX : X < w5.heap.size := by omega
  obtain ⟨q1, q2, q3, p1, p2, p3, rfl⟩ := hfr.shapeF
  have HFR := Hid.mk hfr
  generalize r.form = rf at *
  generalize r.hid = rh at *
  generalize r.name = rn at *
  obtain ⟨rN, hrN⟩ : ∃ rN, r.n = rN := ⟨_, rfl⟩
  rw [hrN] at HFR hl0 hl1 ⊢
  have HRN := Hid.mk hrN
  clear hrN
  obtain ⟨c0, c1, c2, c3, -⟩ := cells4 ((hb5.block X (by omega)).trans HX1.out)
  obtain ⟨x0, x1, x2, x3, x4, x5, x6⟩ := cells6 ((hb5.block w.heap.size (by omega)).trans HT1.out)
  have hr := (hb5.block (w.heap.size + 1) (by omega)).trans HZ1.out
  obtain ⟨y0, y1, y2, y3, y4, y5, y6⟩ := cells6 hr
  have fr := frz hr
  have HB5 := Hid.mk hb5
  clear hr hb5 hfr hsz1 HBA
  go_wp2
  refine bodyPost_ret (v := .tuple #[.agg #[.int .i64 rf, .int .i64 (rN - less), .bool rh, .string rn, .slice q1 q2 q3, .slice p1 p2 p3], .int .i64 0]) (by simp [results, Try.results88, go_sem, y0, y1, y2, y3, y4, y5, hzr]) rfl ⟨?_, ?_, ?_⟩
  · exact ((HK1.out.trans (Kept.of_below HB5.out)).old (Q := fun k => k = w.heap.size + 1) (keep6 rfl) (fun i h1 h2 => by omega)).alloc _
  · rw [HRN.out]
    exact ⟨_, rfl, (HFR.out.setN _).fin (fun _ => by rw [setN_kids]; exact HBK.out) (by have := HSZ1.out; omega) (by have := HSZ1.out; omega)⟩
  · exact alloc_old (((keep6 (P := fun k => k = w.heap.size + 1) rfl).block X hzX (by omega)).trans ((HB5.out.block X (by have := HSZ1.out; omega)).trans HX1.out)) _
end Go.Proofs.Ytbgkeomlfdmkeaa
