/- The contracts of term's judged, Check, Size, Free, Has. -/
import Derived.Test.YtmmbnimehmfadaaWE
namespace Go.Proofs.Ytmmbnimehmfadaa
open Go.RowKit Go.Sort

mutual
/-- nothing in a term is longer than m -/
def smT (m : Nat) : Tm → Prop
  | .mk _ _ _ nm ls ks => nm.size ≤ m ∧ ls.length ≤ m ∧ (∀ l ∈ ls, l.2.length ≤ m) ∧ ks.length ≤ m ∧ smTs m ks
def smTs (m : Nat) : List Tm → Prop
  | [] => True
  | k :: ks => smT m k ∧ smTs m ks
end
theorem smTs_iff (m : Nat) : ∀ ks : List Tm, smTs m ks ↔ ∀ k ∈ ks, smT m k
  | [] => by simp [smTs]
  | k :: ks => by simp [smTs, smTs_iff m ks]

theorem smT_mk (m : Nat) (f n : Int) (hd : Bool) (nm : ByteArray) (ls : List LvT) (ks : List Tm) : smT m (.mk f n hd nm ls ks) ↔ nm.size ≤ m ∧ ls.length ≤ m ∧ (∀ l ∈ ls, l.2.length ≤ m) ∧ ks.length ≤ m ∧ ∀ k ∈ ks, smT m k := by
  rw [smT, smTs_iff]

theorem smT_kid (m : Nat) (f n : Int) (hd : Bool) (nm : ByteArray) (ls : List LvT) (ks : List Tm) (h : smT m (.mk f n hd nm ls ks)) : ∀ k ∈ ks, smT m k := ((smT_mk m f n hd nm ls ks).1 h).2.2.2.2

/-- is a part right by itself and its kids' forms? -/
def judB (t : Tm) : Bool := decide ((t.kids.length : Int) = kidsR t.form) && fieldsB t

def judV (_ : Unit) (t : Tm) (_ _ : Int) : Except Int (Unit × Int) := if judB t then .ok ((), 1) else .error 10

set_option maxRecDepth 100000 in
set_option maxHeartbeats 2000000 in
theorem judged_visits (w0 : World) : VisitsI (smT 1000000) (fun _ => False) (fun _ _ => True) w0 47 #[] judV := by
  intro s t v b p w hsm _ hv _ hb0 hbp hp
  have hlv : ∀ l ∈ t.levels, l.2.length ≤ 1000000 := by cases t; exact ((smT_mk _ _ _ _ _ _ _).1 hsm).2.2.1
  have hll : t.levels.length ≤ 1000000 := by cases t; exact ((smT_mk _ _ _ _ _ _ _).1 hsm).2.1
  have hkl : t.kids.length ≤ 1000000 := by cases t; exact ((smT_mk _ _ _ _ _ _ _).1 hsm).2.2.2.1
  clear hsm
  have HFR := fun (W : World) (h : RowKit.Below w.heap.size w W) (h7 : t.form = 7 → t.kids ≠ []) => fieldsRight_any t v W (hv.on h) h7 hlv (by omega)
  obtain ⟨la, lc, ka, kc, rfl⟩ := hv.shape
  clear hv hlv
  have HE : Hid (judV s t b p = if judB t then .ok ((), 1) else .error 10) := rfl
  have HJ : Hid (judB t = (decide ((t.kids.length : Int) = kidsR t.form) && fieldsB t)) := rfl
  have H7 : Hid ((t.kids.length : Int) = kidsR t.form → t.form = 7 → t.kids ≠ []) := fun h h7 e => by rw [h7, e] at h; simp [kidsR] at h
  generalize judV s t b p = R at HE ⊢
  generalize judB t = J at HE HJ
  generalize fieldsB t = F at *
  generalize t.form = f at *
  generalize t.n = n at *
  generalize t.hid = hd at *
  generalize t.name = nm at *
  generalize t.levels.length = l1 at *
  generalize hks : t.kids = ks at *
  clear hks
  show Calls Try.prog 47 #[.agg #[.int .i64 f, .int .i64 n, .bool hd, .string nm, .slice la l1 lc, .slice ka ks.length kc], .agg #[.int .i64 b, .int .i64 p]] w _
  obtain ⟨W0, hW0⟩ : ∃ W0, (w.alloc (.cells #[.int .i64 f, .int .i64 n, .bool hd, .string nm, .slice la l1 lc, .slice ka ks.length kc] 26)).alloc (.cells #[.int .i64 b, .int .i64 p] 95) = W0 := ⟨_, rfl⟩
  have HG0 : Hid (Grew w W0) := by unfold Hid; rw [← hW0]; exact ((Grew.refl w).alloc _).alloc _
  have HX0 : Hid (W0.heap[w.heap.size]? = some (.cells #[.int .i64 f, .int .i64 n, .bool hd, .string nm, .slice la l1 lc, .slice ka ks.length kc] 26 (0, 0))) := by unfold Hid; rw [← hW0]; exact box_at
  obtain ⟨x0, x1, x2, x3, x4, x5, x6⟩ := cells6 HX0.out
  have HW0 := Hid.mk hW0
  clear hW0
  have mx := mixed
  by_cases hq : (ks.length : Int) = kidsR f
  · have hqb : ((ks.length : Int) != kidsR f) = false := by simpa using hq
    have HJ2 : Hid (J = F) := by unfold Hid; rw [HJ.out]; simp [hq]
    clear HJ
    have HF := HFR W0.drew (HG0.out.below.drew) (H7.out hq)
    clear hq HFR
    have HCEL : Hid (∀ W : World, RowKit.Below W0.heap.size W0 W → W.cell? ⟨w.heap.size, 0, none⟩ = some (.int .i64 f) ∧ W.cell? ⟨w.heap.size, 1, none⟩ = some (.int .i64 n) ∧ W.cell? ⟨w.heap.size, 2, none⟩ = some (.bool hd) ∧ W.cell? ⟨w.heap.size, 3, none⟩ = some (.string nm) ∧ W.cell? ⟨w.heap.size, 4, none⟩ = some (.slice la l1 lc) ∧ W.cell? ⟨w.heap.size, 5, none⟩ = some (.slice ka ks.length kc)) := fun W h => ⟨(h.cell (p := ⟨w.heap.size, 0, none⟩) x6).trans x0, (h.cell (p := ⟨w.heap.size, 1, none⟩) x6).trans x1, (h.cell (p := ⟨w.heap.size, 2, none⟩) x6).trans x2, (h.cell (p := ⟨w.heap.size, 3, none⟩) x6).trans x3, (h.cell (p := ⟨w.heap.size, 4, none⟩) x6).trans x4, (h.cell (p := ⟨w.heap.size, 5, none⟩) x6).trans x5⟩
    have HA := arity_any f
    generalize kidsR f = K at *
    cases F
    · go_enter Try.func47, Try.ntmps47
      go_wp2_with fail
      rw [HW0.out]
      go_region_held3 (fun w' => w'.cell? ⟨w.heap.size, 0, none⟩ = some (.int .i64 f) ∧ w'.cell? ⟨w.heap.size, 1, none⟩ = some (.int .i64 n) ∧ w'.cell? ⟨w.heap.size, 2, none⟩ = some (.bool hd) ∧ w'.cell? ⟨w.heap.size, 3, none⟩ = some (.string nm) ∧ w'.cell? ⟨w.heap.size, 4, none⟩ = some (.slice la l1 lc) ∧ w'.cell? ⟨w.heap.size, 5, none⟩ = some (.slice ka ks.length kc)) (first | exact HCEL.out _ (Below.refl _ _).drew | exact HCEL.out _ hb5)
        (first | (go_at_call 57; refine (HA _).mono ?_; rintro e w' ⟨rfl, rfl⟩) | (go_at_call 58; refine HF.mono ?_; rintro e w5 ⟨rfl, hg5⟩; have hb5 : RowKit.Below W0.heap.size W0 w5 := (Below.refl _ _).drew.trans hg5; have HG5 := Hid.mk hb5; clear hg5))
      go_wp2
      go_ret2
      have hR : R = .error 10 := by rw [HE.out, HJ2.out]; rfl
      rw [hR]
      exact ⟨Kept.of_below (HG0.out.below.trans (HG5.out.mono HG0.out.below.size)), by decide, _, rfl⟩
    · go_enter Try.func47, Try.ntmps47
      go_wp2_with fail
      rw [HW0.out]
      go_region_held3 (fun w' => w'.cell? ⟨w.heap.size, 0, none⟩ = some (.int .i64 f) ∧ w'.cell? ⟨w.heap.size, 1, none⟩ = some (.int .i64 n) ∧ w'.cell? ⟨w.heap.size, 2, none⟩ = some (.bool hd) ∧ w'.cell? ⟨w.heap.size, 3, none⟩ = some (.string nm) ∧ w'.cell? ⟨w.heap.size, 4, none⟩ = some (.slice la l1 lc) ∧ w'.cell? ⟨w.heap.size, 5, none⟩ = some (.slice ka ks.length kc)) (first | exact HCEL.out _ (Below.refl _ _).drew | exact HCEL.out _ hb5)
        (first | (go_at_call 57; refine (HA _).mono ?_; rintro e w' ⟨rfl, rfl⟩) | (go_at_call 58; refine HF.mono ?_; rintro e w5 ⟨rfl, hg5⟩; have hb5 : RowKit.Below W0.heap.size W0 w5 := (Below.refl _ _).drew.trans hg5; have HG5 := Hid.mk hb5; clear hg5))
      go_wp2
      go_ret2
      have hR : R = .ok ((), 1) := by rw [HE.out, HJ2.out]; rfl
      rw [hR]
      exact ⟨Kept.of_below (HG0.out.below.trans (HG5.out.mono HG0.out.below.size)), rfl, trivial⟩
  · have hqb : ((ks.length : Int) != kidsR f) = true := by simpa using hq
    have HJ2 : Hid (J = false) := by unfold Hid; rw [HJ.out]; simp [hq]
    clear hq HFR H7
    have HA := arity_any f
    generalize kidsR f = K at *
    go_enter Try.func47, Try.ntmps47
    go_wp2_with fail
    rw [HW0.out]
    go_quiet ((go_at_call 57; exact Calls.quiet_of_same (HA _)))
    go_wp2
    go_ret2
    have hR : R = .error 10 := by rw [HE.out, HJ2.out]; rfl
    rw [hR]
    exact ⟨Kept.of_grew (HG0.out.drewN _), by decide, _, rfl⟩
end Go.Proofs.Ytmmbnimehmfadaa
