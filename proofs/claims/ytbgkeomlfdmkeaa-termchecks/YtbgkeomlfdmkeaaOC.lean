/- The contract of term.withKid. -/
import Derived.Test.YtbgkeomlfdmkeaaOB
namespace Go.Proofs.Ytbgkeomlfdmkeaa
open Go.RowKit Go.Sort

theorem RO.shapeE {w : World} {B N E g kc : Nat} {v : Value} {t : Tm} (h : RO w B N E g kc v t) : ∃ (v0 v1 : Int) (v2 : Bool) (v3 : ByteArray) (l1 : Option Addr) (l2 l3 : Nat), v = .agg #[.int .i64 v0, .int .i64 v1, .bool v2, .string v3, .slice l1 l2 l3, .slice (some ⟨g, 0, none⟩) t.kids.length kc] := by
  obtain ⟨f, n, h, nm, ls, ks, lv, m, bd, kvs, rfl, rfl, hl, -⟩ := h
  obtain ⟨la, lc, rfl, -⟩ := hl.ln
  exact ⟨_, _, _, _, _, _, _, rfl⟩

theorem frz {w : World} {b : Nat} {cs : Array Value} {t : TypeId} (h : w.heap[b]? = some (.cells cs t (0, 0))) : ∀ o, w.frozen? ⟨b, o, none⟩ = false := fun o => by simp [World.frozen?, h]

theorem new3 {w : World} {a b c d : Obj} : ((((w.alloc a).alloc b).alloc c).alloc d).heap[w.heap.size + 1 + 1 + 1]? = some d := by
  have := alloc_new (((w.alloc a).alloc b).alloc c) d
  have e : (((w.alloc a).alloc b).alloc c).heap.size = w.heap.size + 1 + 1 + 1 := by simp
  rwa [e] at this

theorem at2 {w : World} {a b c d : Obj} : ((((w.alloc a).alloc b).alloc c).alloc d).heap[w.heap.size + 1 + 1]? = some c := by
  have := alloc_new ((w.alloc a).alloc b) c
  have e : ((w.alloc a).alloc b).heap.size = w.heap.size + 1 + 1 := by simp
  rw [e] at this
  exact alloc_old this _

/-- what is written into new blocks alone -/
theorem Kept.join {P : Nat → Prop} {N : Nat} {w a b : World} (h1 : Kept P w a) (h2 : Kept (fun k => N ≤ k) a b) (hN : w.heap.size ≤ N) : Kept P w b :=
  ⟨h2.os.trans h1.os, h2.tape.trans h1.tape, h2.output.trans h1.output, Nat.le_trans h1.size h2.size, fun k hk hp => (h2.block k (Nat.lt_of_lt_of_le hk h1.size) (by omega)).trans (h1.block k hk hp)⟩

set_option maxRecDepth 100000 in
set_option maxHeartbeats 2000000 in
theorem withKid_any {B N E g kc E' E'' : Nat} {v vk : Value} {r k : Tm} (w : World) (hR : RO w B N E g kc v r) (hT : TO w E' E'' vk k) (hEE : E ≤ E') (hE : E'' ≤ w.heap.size) (hroom : r.kids.length < kc) :
    Calls Try.prog 51 #[v, vk] w fun e w' => ∃ v', e = .returned v' ∧ RO w' B N E'' g kc v' (r.add k) ∧ Kept (· = g) w w' := by
  obtain ⟨f, n, h, nm, l1, l2, l3, rfl⟩ := hR.shapeE
  obtain ⟨v0, v1, v2, v3, q1, q2, q3, p1, p2, p3, rfl⟩ := hT.shapeE
  obtain ⟨cur, hcur, hcs⟩ : RowAt w g kc := by obtain ⟨_, _, _, _, _, _, _, _, _, _, _, _, _, _, _, _, _, _, _, h, _⟩ := hR; exact h
  have hgl := heap_lt hcur
  have HM := fun (W : World) hW hk => RO.more (W := W) hR hT hEE hroom hcur hW hk
  generalize r.kids.length = k1 at *
  generalize r.add k = RK at *
  have HCUR := Hid.mk hcur
  have HHM := Hid.mk HM
  clear hR hT HM hcur
  have HG := fun (a b c d : Obj) => ((((Kept.refl (· = g) w).alloc a).alloc b).alloc c).alloc d
  go_enter Try.func51, Try.ntmps51
  go_wp2_with (at_builtin; refine wpList_app1 rfl _ _ rfl g k1 kc _ 1 cur (alloc_old (alloc_old (alloc_old (alloc_old HCUR.out _) _) _) _) rfl rfl [.int .i64 v0, .int .i64 v1, .bool v2, .string v3, .slice q1 q2 q3, .slice p1 p2 p3] rfl (World.news_of_block (cs := #[.int .i64 v0, .int .i64 v1, .bool v2, .string v3, .slice q1 q2 q3, .slice p1 p2 p3]) (t := 25) (fr := (0, 0)) new3) (by simp [Value.oneCell']) hroom hcs ?_; intro W2 h2 ho hk2; have H2 := Hid.mk h2; have hb := (ho w.heap.size (by omega)).trans (alloc_old (alloc_old (alloc_old (alloc_new w _) _) _) _); have hc := (ho (w.heap.size + 1 + 1) (by omega)).trans at2; have HK2 := Hid.mk ((HG _ _ _ _).trans hk2); clear h2 ho hk2; obtain ⟨x0, x1, x2, x3, x4, x5, x6⟩ := cells6 hb; obtain ⟨y0, y1, y2, y3, y4, y5, y6⟩ := cells6 hc; have fb := frz hb; have fc := frz hc; have HB := Hid.mk hb; have HC := Hid.mk hc; clear hb hc)
  refine bodyPost_ret (v := .agg #[.int .i64 f, .int .i64 n, .bool h, .string nm, .slice l1 l2 l3, .slice (some ⟨g, 0, none⟩) (k1 + 1) kc]) (by simp [results, Try.results51, go_sem, y0, y1, y2, y3, y4, y5]) rfl ⟨_, rfl, ?_, ?_⟩
  all_goals have KF := (((((((Kept.refl (fun k => w.heap.size ≤ k) W2).setCell (p := ⟨w.heap.size, 5, none⟩) (Nat.le_refl _) (.slice (some ⟨g, 0, none⟩) (k1 + 1) kc)).setCell (p := ⟨w.heap.size + 1 + 1, 0, none⟩) (by simp; omega) (.int .i64 f)).setCell (p := ⟨w.heap.size + 1 + 1, 1, none⟩) (by simp; omega) (.int .i64 n)).setCell (p := ⟨w.heap.size + 1 + 1, 2, none⟩) (by simp; omega) (.bool h)).setCell (p := ⟨w.heap.size + 1 + 1, 3, none⟩) (by simp; omega) (.string nm)).setCell (p := ⟨w.heap.size + 1 + 1, 4, none⟩) (by simp; omega) (.slice l1 l2 l3)).setCell (p := ⟨w.heap.size + 1 + 1, 5, none⟩) (by simp; omega) (.slice (some ⟨g, 0, none⟩) (k1 + 1) kc)
  · refine HHM.out _ ((KF.block g (Nat.lt_of_lt_of_le hgl HK2.out.size) (by omega)).trans H2.out) (fun i hi hg => (KF.block i (Nat.lt_of_lt_of_le (by omega) HK2.out.size) (by omega)).trans (HK2.out.block i (by omega) hg))
  · exact HK2.out.join KF (Nat.le_refl _)
end Go.Proofs.Ytbgkeomlfdmkeaa
