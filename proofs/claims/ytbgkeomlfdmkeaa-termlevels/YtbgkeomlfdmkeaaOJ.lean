/- The contract of term's replacing.part. -/
import Derived.Test.YtbgkeomlfdmkeaaOJA
namespace Go.Proofs.Ytbgkeomlfdmkeaa
open Go.RowKit Go.Sort

/-- a part with variables replaced, as long as there is room: L, the last one first, from the index at_ on -/
def repL (at_ : Int) (L : List Tm) (room : Int) (t : Tm) (b _ : Int) : Except Int (Int × Tm) :=
  if t.form = 1 ∧ at_ ≤ t.n - b then
    (if t.n - b - at_ < L.length then
      (match L[L.length - 1 - (t.n - b - at_).toNat]? with
      | some s => if room - sizeT s < 0 then .error 2 else .ok (room - sizeT s, liftT 0 b s 0)
      | none => .error 2)
    else if room - 1 < 0 then .error 2 else .ok (room - 1, (bareT t).setN ((bareT t).n - L.length)))
  else if room - 1 < 0 then .error 2 else .ok (room - 1, (bareT t).setN ((bareT t).n - 0))

/-- replacing lies in block X, the sizes in block sb, with that much room -/
def repI (X sb so : Nat) (at_ : Int) (L : List Tm) (ba sa : Option Addr) (bc sc : Nat) (room : Int) (w : World) : Prop :=
  w.heap[X]? = some (.cells #[.int .i64 at_, .slice ba L.length bc, .slice sa L.length sc, .int .i64 room] 98 (0, 0)) ∧ (∀ i s, L[i]? = some s → w.cell? ⟨sb, so + i, none⟩ = some (.int .i64 (sizeT s))) ∧ sb < w.heap.size ∧ sb ≠ X ∧ 0 ≤ room ∧ room ≤ 20000

theorem repI_grow {X sb so : Nat} {at_ : Int} {L : List Tm} {ba sa : Option Addr} {bc sc : Nat} {w0 : World} (s : Int) (a b : World) (M : Nat) (h : repI X sb so at_ L ba sa bc sc s a) (_ : w0.heap.size ≤ M) (hM : ∀ k, k = X ∨ k = sb → k < M) (hk : Kept (fun k => M ≤ k) a b) : repI X sb so at_ L ba sa bc sc s b := by
  obtain ⟨h1, h2, h3, h4, h5⟩ := h
  have m1 := hM X (Or.inl rfl)
  have m2 := hM sb (Or.inr rfl)
  exact ⟨(hk.block X (heap_lt h1) (by omega)).trans h1, fun i s hi => (hk.cell (p := ⟨sb, so + i, none⟩) h3 (by simp; omega)).trans (h2 i s hi), Nat.lt_of_lt_of_le h3 hk.size, h4, h5⟩

theorem Fresh.fin0 {w1 : World} {B1 B k rb : Nat} {v : Value} {r : Tm} (h : Fresh w1 B1 k v r) (hr : 0 < k → r.kids = []) (hrb : rb < B1) (hB : B ≤ B1) {a0 a1 a2 a3 a4 a5 : Value} : Fresh ((((((w1.setCell ⟨rb, 0, none⟩ a0).setCell ⟨rb, 1, none⟩ a1).setCell ⟨rb, 2, none⟩ a2).setCell ⟨rb, 3, none⟩ a3).setCell ⟨rb, 4, none⟩ a4).setCell ⟨rb, 5, none⟩ a5) B k v r :=
  h.on hr (by rw [size6]; omega) (fun i h1 h2 => (keep6 (P := fun k => k = rb) rfl).block i h2 (by omega)) hB

theorem trivial_one : (1 : Int) = 1 := rfl

theorem bareT_n (t : Tm) (h : GT t) : -9223372036854775808 ≤ (bareT t).n ∧ (bareT t).n ≤ 9223372036854775807 := by
  have h2 := (GT_jud h).2
  cases t with
  | mk f n hd nm ls ks =>
    by_cases h1 : f = 1
    · have := GT_var h h1
      simp only [Tm.n] at this
      simp [bareT, Tm.n, h1]; omega
    · by_cases h11 : f = 11
      · subst h11
        simp [fieldsB] at h2
        simp [bareT, Tm.n]; omega
      · simp [bareT, Tm.n, h1, h11]

theorem cf_replacing (xs : Array Value) (w : World) : Sem.run Try.prog (callFunc 74 xs) w = .ok (.enter 74 xs) w := by simp [callFunc, go_sem, Try.func74]; rfl

set_option maxRecDepth 100000 in
set_option maxHeartbeats 2000000 in
theorem replacing_visits (X sb so yb yo : Nat) (at_ : Int) (L : List Tm) (ba sa : Option Addr) (bc sc : Nat) (w0 : World) (hat : 0 ≤ at_) (hat2 : at_ ≤ 9223372036854775807) (hX : w0.heap.size ≤ X) (_ : w0.heap.size ≤ sb) (hba : L ≠ [] → ba = some ⟨yb, yo, none⟩) (hsa : L ≠ [] → sa = some ⟨sb, so, none⟩) (hL : L.length ≤ 1000000) (hS : ∀ i s, L[i]? = some s → TC w0 yb (yo + i * 6) s) (hG : ∀ s ∈ L, GT s) (hH : ∀ s ∈ L, heightT s ≤ 500 ∧ sizeT s ≤ 20000) :
    VisitsT GT (fun k => k = X ∨ k = sb) (repI X sb so at_ L ba sa bc sc) w0 74 #[.pointer (some ⟨X, 0, none⟩)] (repL at_ L) := by
  intro s t v b p w hGt hI hv0 hBw hb0 hbp hp
  have hv := hv0.on hBw
  obtain ⟨hXc, hsz, hsbl, hsbX, hr0, hr1⟩ := hI
  obtain ⟨c0, c1, c2, c3, cX⟩ := cells4 hXc
  have fX := frz hXc
  have HXC := Hid.mk hXc
  have HSIZ := Hid.mk hsz
  clear hXc hsz
  have HTVK : Hid (∀ W : World, Kept (· = X) w W → TV W v t) := fun W hK => hv0.on (hBw.trans (hK.below hBw.size (fun k hk => by rw [hk]; exact hX)))
  have HGT := Hid.mk hGt
  have HKB := fun (less : Int) (W : World) (hK : Kept (fun _ => False) w W) (hs : s - 1 < 0) => kept_bad X at_ s less ba sa L.length bc L.length sc t v W (HTVK.out W (hK.imp (fun _ _ h => h.elim))) ((hK.block X cX (fun h => h)).trans HXC.out) hs hr0
  have HKO := fun (less : Int) (h0 : -9223372036854775808 ≤ (bareT t).n - less) (h1 : (bareT t).n - less ≤ 9223372036854775807) (W : World) (hK : Kept (fun _ => False) w W) (hs : ¬ s - 1 < 0) => kept_ok X at_ s less ba sa L.length bc L.length sc t v W (fun W' h => HTVK.out W' ((hK.imp (fun _ _ h => h.elim)).trans h)) ((hK.block X cX (fun h => h)).trans HXC.out) hs hr1 hGt.1 (fun h => GT_leaf hGt (by omega)) h0 h1
  have HVAR := fun (h : t.form = 1) => GT_var hGt h
  have HLF : Hid (t.form = 1 → t.kids.length = 0) := fun h => by rw [GT_leaf hGt (Or.inl h)]; rfl
  obtain ⟨la, lc, ka, kc, rfl⟩ := hv.shape
  have HE : Hid (repL at_ L s t b p = if t.form = 1 ∧ at_ ≤ t.n - b then
    (if t.n - b - at_ < L.length then
      (match L[L.length - 1 - (t.n - b - at_).toNat]? with
      | some s1 => if s - sizeT s1 < 0 then .error 2 else .ok (s - sizeT s1, liftT 0 b s1 0)
      | none => .error 2)
    else if s - 1 < 0 then .error 2 else .ok (s - 1, (bareT t).setN ((bareT t).n - L.length)))
  else if s - 1 < 0 then .error 2 else .ok (s - 1, (bareT t).setN ((bareT t).n - 0))) := rfl
  have HBK := Hid.mk (bareT_kids t)
  have HBN : Hid (t.form = 1 → (bareT t).n = t.n) := fun h => by cases t; simp only [Tm.form] at h; simp [bareT, Tm.n, h]
  have HBB : Hid (-9223372036854775808 ≤ (bareT t).n ∧ (bareT t).n ≤ 9223372036854775807) := bareT_n t hGt
  generalize repL at_ L s t b p = R at HE ⊢
  generalize bareT t = r at *
  clear hv hGt
  generalize t.form = f at *
  generalize t.n = n at *
  generalize t.hid = hd at *
  generalize t.name = nm at *
  generalize t.levels.length = l1 at *
  generalize hkk : t.kids.length = k1 at *
  clear hkk
  have HBW := Hid.mk hBw
  clear hBw
  show Calls Try.prog 74 #[.pointer (some ⟨X, 0, none⟩), .agg #[.int .i64 f, .int .i64 n, .bool hd, .string nm, .slice la l1 lc, .slice ka k1 kc], .agg #[.int .i64 b, .int .i64 p]] w _
  by_cases hf : f = 1
  · subst hf
    obtain ⟨hn0, hn1⟩ := HVAR rfl
    obtain rfl : k1 = 0 := HLF.out rfl
    have HRN := Hid.mk (HBN.out rfl)
    have hfn : ((1 : Int) != 1) = false := by decide
    have hXw : X < w.heap.size := cX
    have hXw1 : X < w.heap.size + 1 := by omega
    have hXw2 : X < w.heap.size + 1 + 1 := by omega
    have j0 := cell3 (p := ⟨X, 0, none⟩) hXw c0
    have j1 := cell3 (p := ⟨X, 1, none⟩) hXw c1
    have j2 := cell3 (p := ⟨X, 2, none⟩) hXw c2
    have j3 := cell3 (p := ⟨X, 3, none⟩) hXw c3
    clear HVAR HLF HBN
    obtain ⟨W0, hW0⟩ : ∃ W0, ((w.alloc (.cells #[.int .i64 1, .int .i64 n, .bool hd, .string nm, .slice la l1 lc, .slice ka 0 kc] 25)).alloc (.cells #[.int .i64 b, .int .i64 p] 58)).alloc (.cells #[.int .i64 0, .int .i64 0, .bool false, .string { data := #[] }, .slice none 0 0, .slice none 0 0] 25) = W0 := ⟨_, rfl⟩
    have HG0 : Hid (Grew w W0) := by unfold Hid; rw [← hW0]; exact (((Grew.refl w).alloc _).alloc _).alloc _
    have HT0 : Hid (W0.heap[w.heap.size]? = some (.cells #[.int .i64 1, .int .i64 n, .bool hd, .string nm, .slice la l1 lc, .slice ka 0 kc] 25 (0, 0))) := by unfold Hid; rw [← hW0]; exact alloc_old box_at _
    have HP0 : Hid (W0.heap[w.heap.size + 1]? = some (.cells #[.int .i64 b, .int .i64 p] 58 (0, 0))) := by unfold Hid; rw [← hW0]; exact on1
    have HZ0 : Hid (W0.heap[w.heap.size + 1 + 1]? = some (.cells #[.int .i64 0, .int .i64 0, .bool false, .string { data := #[] }, .slice none 0 0, .slice none 0 0] 25 (0, 0))) := by unfold Hid; rw [← hW0]; exact on2
    have HSZ : Hid (W0.heap.size = w.heap.size + 1 + 1 + 1) := by unfold Hid; rw [← hW0]; exact sz3
    have HX0 : Hid (W0.heap[X]? = some (.cells #[.int .i64 at_, .slice ba L.length bc, .slice sa L.length sc, .int .i64 s] 98 (0, 0))) := (HG0.out.below.block X cX).trans HXC.out
    have HW0 := Hid.mk hW0
    clear hW0
    by_cases hlow : n - b < at_
    · have HLOW := Hid.mk hlow
      by_cases hroom : s - 1 < 0
      · have hR : Hid (R = .error 2) := by unfold Hid; rw [HE.out, if_neg (fun h => absurd h.2 (by have := HLOW.out; omega)), if_pos hroom]
        have HC := HKB 0 W0 (Kept.of_grew HG0.out) hroom
        clear HE HKB HKO
        go_enter Try.func74, Try.ntmps74
        go_wp2_with fail
        rw [HW0.out]
        refine HC.mono ?_
        rintro e w5 ⟨hk5, ⟨v', ⟨a0, a1, a2, a3, b1, b2, b3, d1, d2, d3, rfl⟩, rfl⟩, -⟩
        have hr5 := (hk5.block (w.heap.size + 1 + 1) (heap_lt HZ0.out) (by omega)).trans HZ0.out
        obtain ⟨y0, y1, y2, y3, y4, y5, y6⟩ := cells6 hr5
        have fr := frz hr5
        have HK5 : Hid (Kept (· = X) w w5) := (Kept.of_grew HG0.out).trans hk5
        clear hr5 hk5 HC
        go_wp2
        refine bodyPost_ret (v := .tuple #[.agg #[.int .i64 a0, .int .i64 a1, .bool a2, .string a3, .slice b1 b2 b3, .slice d1 d2 d3], .int .i64 2]) (by simp [results, Try.results74, go_sem, y0, y1, y2, y3, y4, y5]) rfl ⟨?_, ?_⟩
        · exact (HK5.out.imp (fun k _ h => Or.inl h)).old (Q := fun k => k = w.heap.size + 1 + 1) (keep6 rfl) (fun i h1 h2 => by omega)
        · rw [hR.out]
          exact ⟨by decide, _, ⟨_, _, _, _, _, _, _, _, _, _, rfl⟩, rfl⟩
      · have hR : Hid (R = .ok (s - 1, r.setN (r.n - 0))) := by unfold Hid; rw [HE.out, if_neg (fun h => absurd h.2 (by have := HLOW.out; omega)), if_neg hroom]
        have HC := HKO 0 (by have := HBB.out; omega) (by have := HBB.out; omega) W0 (Kept.of_grew HG0.out) hroom
        clear HE HKB HKO
        go_enter Try.func74, Try.ntmps74
        go_wp2_with fail
        rw [HW0.out]
        refine HC.mono ?_
        rintro e w5 ⟨hk5, ⟨v', rfl, hfr⟩, hX5⟩
        have hr5 := (hk5.block (w.heap.size + 1 + 1) (heap_lt HZ0.out) (by omega)).trans HZ0.out
        obtain ⟨y0, y1, y2, y3, y4, y5, y6⟩ := cells6 hr5
        have fr := frz hr5
        have HK5 : Hid (Kept (· = X) w w5) := (Kept.of_grew HG0.out).trans hk5
        have HX5 := Hid.mk hX5
        have HFR := Hid.mk hfr
        obtain ⟨q1, q2, q3, p1, p2, p3, rfl⟩ := hfr.shapeF
        have HZK : Hid ((r.setN (r.n - 0)).kids = []) := by unfold Hid; rw [setN_kids]; exact HBK.out
        generalize r.setN (r.n - 0) = r1 at *
        generalize r1.form = rf at *
        generalize r1.n = rN at *
        generalize r1.hid = rh at *
        generalize r1.name = rn at *
        clear hr5 hk5 HC hfr hX5
        go_wp2
        refine bodyPost_ret (v := .tuple #[.agg #[.int .i64 rf, .int .i64 rN, .bool rh, .string rn, .slice q1 q2 q3, .slice p1 p2 p3], .int .i64 0]) (by simp [results, Try.results74, go_sem, y0, y1, y2, y3, y4, y5]) rfl ⟨?_, ?_⟩
        · exact (HK5.out.imp (fun k _ h => Or.inl h)).old (Q := fun k => k = w.heap.size + 1 + 1) (keep6 rfl) (fun i h1 h2 => by omega)
        · rw [hR.out]
          have HKF := HK5.out.old (Q := fun k => k = w.heap.size + 1 + 1) (keep6 (a0 := .int .i64 rf) (a1 := .int .i64 rN) (a2 := .bool rh) (a3 := .string rn) (a4 := .slice q1 q2 q3) (a5 := .slice p1 p2 p3) rfl) (fun i h1 h2 => by omega)
          refine ⟨⟨_, rfl, HFR.out.fin0 (fun _ => HZK.out) (by have := HSZ.out; omega) (by have := HSZ.out; omega), fun _ => HZK.out⟩, ?_, ?_, Nat.lt_of_lt_of_le hsbl HKF.size, hsbX, by omega, by omega⟩
          · exact ((keep6 (P := fun k => k = w.heap.size + 1 + 1) rfl).block X (heap_lt HX5.out) (by omega)).trans HX5.out
          · exact fun i x hx => (HKF.cell (p := ⟨sb, so + i, none⟩) hsbl hsbX).trans (HSIZ.out i x hx)
    · have hlow2 : at_ ≤ n - b := by omega
      by_cases hwh : (L.length : Int) - 1 - (n - b - at_) < 0
      · have HHI : Hid (¬ n - b - at_ < L.length) := by unfold Hid; omega
        by_cases hroom : s - 1 < 0
        · have hR : Hid (R = .error 2) := by unfold Hid; rw [HE.out, if_pos ⟨trivial_one, by omega⟩, if_neg HHI.out, if_pos hroom]
          have HCG := fun (W : World) (h : Grew w W) => HKB (L.length : Int) W (Kept.of_grew h) hroom
          clear HE HKB HKO
          go_enter Try.func74, Try.ntmps74
          go_wp2_with fail
          rw [HW0.out]
          clear j0 j1 j2 j3 c0 c1 c2 c3
          obtain ⟨c0, c1, c2, c3, cX0⟩ := cells4 HX0.out
          go_quiet (fail)
          go_wp2_with fail
          obtain ⟨W1, hW1⟩ : ∃ W1, World.drewN W0 nq = W1 := ⟨_, rfl⟩
          have HG1 : Hid (Grew w W1) := by unfold Hid; rw [← hW1]; exact HG0.out.drewN _
          have HT1 : Hid (W1.heap[w.heap.size]? = some (.cells #[.int .i64 1, .int .i64 n, .bool hd, .string nm, .slice la l1 lc, .slice ka 0 kc] 25 (0, 0))) := by unfold Hid; rw [← hW1]; exact HT0.out
          have HP1 : Hid (W1.heap[w.heap.size + 1]? = some (.cells #[.int .i64 b, .int .i64 p] 58 (0, 0))) := by unfold Hid; rw [← hW1]; exact HP0.out
          have HX1 : Hid (W1.heap[X]? = some (.cells #[.int .i64 at_, .slice ba L.length bc, .slice sa L.length sc, .int .i64 s] 98 (0, 0))) := by unfold Hid; rw [← hW1]; exact HX0.out
          have HZ1 : Hid (W1.heap[w.heap.size + 1 + 1]? = some (.cells #[.int .i64 0, .int .i64 0, .bool false, .string { data := #[] }, .slice none 0 0, .slice none 0 0] 25 (0, 0))) := by unfold Hid; rw [← hW1]; exact HZ0.out
          have HSZ1 : Hid (W1.heap.size = w.heap.size + 1 + 1 + 1) := by unfold Hid; rw [← hW1]; exact HSZ.out
          rw [hW1]
          clear hW1 c0 c1 c2 c3 cX0
          have HC := HCG W1.drew HG1.out.drew
          clear HCG
          have HCEL : Hid (∀ (W : World) (room : Int), W.heap[w.heap.size]? = some (.cells #[.int .i64 1, .int .i64 n, .bool hd, .string nm, .slice la l1 lc, .slice ka 0 kc] 25 (0, 0)) → W.heap[X]? = some (.cells #[.int .i64 at_, .slice ba L.length bc, .slice sa L.length sc, .int .i64 room] 98 (0, 0)) → W.cell? ⟨w.heap.size, 0, none⟩ = some (.int .i64 1) ∧ W.cell? ⟨w.heap.size, 1, none⟩ = some (.int .i64 n) ∧ W.cell? ⟨w.heap.size, 2, none⟩ = some (.bool hd) ∧ W.cell? ⟨w.heap.size, 3, none⟩ = some (.string nm) ∧ W.cell? ⟨w.heap.size, 4, none⟩ = some (.slice la l1 lc) ∧ W.cell? ⟨w.heap.size, 5, none⟩ = some (.slice ka 0 kc) ∧ W.cell? ⟨X, 1, none⟩ = some (.slice ba L.length bc)) := fun W room h1 h2 => by
            obtain ⟨x0, x1, x2, x3, x4, x5, -⟩ := cells6 h1
            obtain ⟨-, c1, -, -, -⟩ := cells4 h2
            exact ⟨x0, x1, x2, x3, x4, x5, c1⟩
          have HCE6 : Hid (∀ (W : World) (room : Int) (a0 a1 a2 a3 a4 a5 : Value), W.heap[w.heap.size]? = some (.cells #[.int .i64 1, .int .i64 n, .bool hd, .string nm, .slice la l1 lc, .slice ka 0 kc] 25 (0, 0)) → W.heap[X]? = some (.cells #[.int .i64 at_, .slice ba L.length bc, .slice sa L.length sc, .int .i64 room] 98 (0, 0)) → ((((((W.setCell ⟨w.heap.size + 1 + 1, 0, none⟩ a0).setCell ⟨w.heap.size + 1 + 1, 1, none⟩ a1).setCell ⟨w.heap.size + 1 + 1, 2, none⟩ a2).setCell ⟨w.heap.size + 1 + 1, 3, none⟩ a3).setCell ⟨w.heap.size + 1 + 1, 4, none⟩ a4).setCell ⟨w.heap.size + 1 + 1, 5, none⟩ a5).cell? ⟨w.heap.size, 0, none⟩ = some (.int .i64 1) ∧ ((((((W.setCell ⟨w.heap.size + 1 + 1, 0, none⟩ a0).setCell ⟨w.heap.size + 1 + 1, 1, none⟩ a1).setCell ⟨w.heap.size + 1 + 1, 2, none⟩ a2).setCell ⟨w.heap.size + 1 + 1, 3, none⟩ a3).setCell ⟨w.heap.size + 1 + 1, 4, none⟩ a4).setCell ⟨w.heap.size + 1 + 1, 5, none⟩ a5).cell? ⟨w.heap.size, 1, none⟩ = some (.int .i64 n) ∧ ((((((W.setCell ⟨w.heap.size + 1 + 1, 0, none⟩ a0).setCell ⟨w.heap.size + 1 + 1, 1, none⟩ a1).setCell ⟨w.heap.size + 1 + 1, 2, none⟩ a2).setCell ⟨w.heap.size + 1 + 1, 3, none⟩ a3).setCell ⟨w.heap.size + 1 + 1, 4, none⟩ a4).setCell ⟨w.heap.size + 1 + 1, 5, none⟩ a5).cell? ⟨w.heap.size, 2, none⟩ = some (.bool hd) ∧ ((((((W.setCell ⟨w.heap.size + 1 + 1, 0, none⟩ a0).setCell ⟨w.heap.size + 1 + 1, 1, none⟩ a1).setCell ⟨w.heap.size + 1 + 1, 2, none⟩ a2).setCell ⟨w.heap.size + 1 + 1, 3, none⟩ a3).setCell ⟨w.heap.size + 1 + 1, 4, none⟩ a4).setCell ⟨w.heap.size + 1 + 1, 5, none⟩ a5).cell? ⟨w.heap.size, 3, none⟩ = some (.string nm) ∧ ((((((W.setCell ⟨w.heap.size + 1 + 1, 0, none⟩ a0).setCell ⟨w.heap.size + 1 + 1, 1, none⟩ a1).setCell ⟨w.heap.size + 1 + 1, 2, none⟩ a2).setCell ⟨w.heap.size + 1 + 1, 3, none⟩ a3).setCell ⟨w.heap.size + 1 + 1, 4, none⟩ a4).setCell ⟨w.heap.size + 1 + 1, 5, none⟩ a5).cell? ⟨w.heap.size, 4, none⟩ = some (.slice la l1 lc) ∧ ((((((W.setCell ⟨w.heap.size + 1 + 1, 0, none⟩ a0).setCell ⟨w.heap.size + 1 + 1, 1, none⟩ a1).setCell ⟨w.heap.size + 1 + 1, 2, none⟩ a2).setCell ⟨w.heap.size + 1 + 1, 3, none⟩ a3).setCell ⟨w.heap.size + 1 + 1, 4, none⟩ a4).setCell ⟨w.heap.size + 1 + 1, 5, none⟩ a5).cell? ⟨w.heap.size, 5, none⟩ = some (.slice ka 0 kc) ∧ ((((((W.setCell ⟨w.heap.size + 1 + 1, 0, none⟩ a0).setCell ⟨w.heap.size + 1 + 1, 1, none⟩ a1).setCell ⟨w.heap.size + 1 + 1, 2, none⟩ a2).setCell ⟨w.heap.size + 1 + 1, 3, none⟩ a3).setCell ⟨w.heap.size + 1 + 1, 4, none⟩ a4).setCell ⟨w.heap.size + 1 + 1, 5, none⟩ a5).cell? ⟨X, 1, none⟩ = some (.slice ba L.length bc)) := fun W room a0 a1 a2 a3 a4 a5 h1 h2 =>
            HCEL.out ((((((W.setCell ⟨w.heap.size + 1 + 1, 0, none⟩ a0).setCell ⟨w.heap.size + 1 + 1, 1, none⟩ a1).setCell ⟨w.heap.size + 1 + 1, 2, none⟩ a2).setCell ⟨w.heap.size + 1 + 1, 3, none⟩ a3).setCell ⟨w.heap.size + 1 + 1, 4, none⟩ a4).setCell ⟨w.heap.size + 1 + 1, 5, none⟩ a5) room (((keep6 (P := fun k => k = w.heap.size + 1 + 1) rfl).block w.heap.size (heap_lt h1) (by omega)).trans h1) (((keep6 (P := fun k => k = w.heap.size + 1 + 1) rfl).block X (heap_lt h2) (by omega)).trans h2)
          have mx := mixed
          go_region_held3 (fun w' => w'.cell? ⟨w.heap.size, 0, none⟩ = some (.int .i64 1) ∧ w'.cell? ⟨w.heap.size, 1, none⟩ = some (.int .i64 n) ∧ w'.cell? ⟨w.heap.size, 2, none⟩ = some (.bool hd) ∧ w'.cell? ⟨w.heap.size, 3, none⟩ = some (.string nm) ∧ w'.cell? ⟨w.heap.size, 4, none⟩ = some (.slice la l1 lc) ∧ w'.cell? ⟨w.heap.size, 5, none⟩ = some (.slice ka 0 kc) ∧ w'.cell? ⟨X, 1, none⟩ = some (.slice ba L.length bc)) (first | with_reducible exact HCEL.out _ _ ht5 hx5 | with_reducible exact HCE6.out _ _ _ _ _ _ _ _ ht5 hx5 | exact HCEL.out _ _ HT1.out HX1.out)
            (first | (go_at_call 88; refine HC.mono ?_; rintro e w5 ⟨hk5, ⟨v', ⟨a0, a1, a2, a3, b1, b2, b3, d1, d2, d3, rfl⟩, rfl⟩, hx5⟩; have ht5 := (hk5.block w.heap.size (heap_lt HT1.out) (by omega)).trans HT1.out; have hr5 := (hk5.block (w.heap.size + 1 + 1) (heap_lt HZ1.out) (by omega)).trans HZ1.out; obtain ⟨y0, y1, y2, y3, y4, y5, y6⟩ := cells6 hr5; have fr := frz hr5; have HK5 : Hid (Kept (· = X) w w5) := (Kept.of_grew HG1.out.drew).trans hk5; clear hr5 hk5))
          go_wp2
          refine bodyPost_ret (v := .tuple #[.agg #[.int .i64 a0, .int .i64 a1, .bool a2, .string a3, .slice b1 b2 b3, .slice d1 d2 d3], .int .i64 2]) (by simp [results, Try.results74, go_sem, y0, y1, y2, y3, y4, y5]) rfl ⟨?_, ?_⟩
          · exact (HK5.out.imp (fun k _ h => Or.inl h)).old (Q := fun k => k = w.heap.size + 1 + 1) (keep6 rfl) (fun i h1 h2 => by omega)
          · rw [hR.out]
            exact ⟨by decide, _, ⟨_, _, _, _, _, _, _, _, _, _, rfl⟩, rfl⟩
        · have hR : Hid (R = .ok (s - 1, r.setN (r.n - (L.length : Int)))) := by unfold Hid; rw [HE.out, if_pos ⟨trivial_one, by omega⟩, if_neg HHI.out, if_neg hroom]
          have HCG := fun (W : World) (h : Grew w W) => HKO (L.length : Int) (by have := HBB.out; have := HRN.out; omega) (by have := HBB.out; omega) W (Kept.of_grew h) hroom
          have HZK : Hid ((r.setN (r.n - (L.length : Int))).kids = []) := by unfold Hid; rw [setN_kids]; exact HBK.out
          clear HE HKB HKO
          generalize r.setN (r.n - (L.length : Int)) = r1 at *
          go_enter Try.func74, Try.ntmps74
          go_wp2_with fail
          rw [HW0.out]
          clear j0 j1 j2 j3 c0 c1 c2 c3
          obtain ⟨c0, c1, c2, c3, cX0⟩ := cells4 HX0.out
          go_quiet (fail)
          go_wp2_with fail
          obtain ⟨W1, hW1⟩ : ∃ W1, World.drewN W0 nq = W1 := ⟨_, rfl⟩
          have HG1 : Hid (Grew w W1) := by unfold Hid; rw [← hW1]; exact HG0.out.drewN _
          have HT1 : Hid (W1.heap[w.heap.size]? = some (.cells #[.int .i64 1, .int .i64 n, .bool hd, .string nm, .slice la l1 lc, .slice ka 0 kc] 25 (0, 0))) := by unfold Hid; rw [← hW1]; exact HT0.out
          have HP1 : Hid (W1.heap[w.heap.size + 1]? = some (.cells #[.int .i64 b, .int .i64 p] 58 (0, 0))) := by unfold Hid; rw [← hW1]; exact HP0.out
          have HX1 : Hid (W1.heap[X]? = some (.cells #[.int .i64 at_, .slice ba L.length bc, .slice sa L.length sc, .int .i64 s] 98 (0, 0))) := by unfold Hid; rw [← hW1]; exact HX0.out
          have HZ1 : Hid (W1.heap[w.heap.size + 1 + 1]? = some (.cells #[.int .i64 0, .int .i64 0, .bool false, .string { data := #[] }, .slice none 0 0, .slice none 0 0] 25 (0, 0))) := by unfold Hid; rw [← hW1]; exact HZ0.out
          have HSZ1 : Hid (W1.heap.size = w.heap.size + 1 + 1 + 1) := by unfold Hid; rw [← hW1]; exact HSZ.out
          rw [hW1]
          clear hW1 c0 c1 c2 c3 cX0
          have HC := HCG W1.drew HG1.out.drew
          clear HCG
          have HCEL : Hid (∀ (W : World) (room : Int), W.heap[w.heap.size]? = some (.cells #[.int .i64 1, .int .i64 n, .bool hd, .string nm, .slice la l1 lc, .slice ka 0 kc] 25 (0, 0)) → W.heap[X]? = some (.cells #[.int .i64 at_, .slice ba L.length bc, .slice sa L.length sc, .int .i64 room] 98 (0, 0)) → W.cell? ⟨w.heap.size, 0, none⟩ = some (.int .i64 1) ∧ W.cell? ⟨w.heap.size, 1, none⟩ = some (.int .i64 n) ∧ W.cell? ⟨w.heap.size, 2, none⟩ = some (.bool hd) ∧ W.cell? ⟨w.heap.size, 3, none⟩ = some (.string nm) ∧ W.cell? ⟨w.heap.size, 4, none⟩ = some (.slice la l1 lc) ∧ W.cell? ⟨w.heap.size, 5, none⟩ = some (.slice ka 0 kc) ∧ W.cell? ⟨X, 1, none⟩ = some (.slice ba L.length bc)) := fun W room h1 h2 => by
            obtain ⟨x0, x1, x2, x3, x4, x5, -⟩ := cells6 h1
            obtain ⟨-, c1, -, -, -⟩ := cells4 h2
            exact ⟨x0, x1, x2, x3, x4, x5, c1⟩
          have HCE6 : Hid (∀ (W : World) (room : Int) (a0 a1 a2 a3 a4 a5 : Value), W.heap[w.heap.size]? = some (.cells #[.int .i64 1, .int .i64 n, .bool hd, .string nm, .slice la l1 lc, .slice ka 0 kc] 25 (0, 0)) → W.heap[X]? = some (.cells #[.int .i64 at_, .slice ba L.length bc, .slice sa L.length sc, .int .i64 room] 98 (0, 0)) → ((((((W.setCell ⟨w.heap.size + 1 + 1, 0, none⟩ a0).setCell ⟨w.heap.size + 1 + 1, 1, none⟩ a1).setCell ⟨w.heap.size + 1 + 1, 2, none⟩ a2).setCell ⟨w.heap.size + 1 + 1, 3, none⟩ a3).setCell ⟨w.heap.size + 1 + 1, 4, none⟩ a4).setCell ⟨w.heap.size + 1 + 1, 5, none⟩ a5).cell? ⟨w.heap.size, 0, none⟩ = some (.int .i64 1) ∧ ((((((W.setCell ⟨w.heap.size + 1 + 1, 0, none⟩ a0).setCell ⟨w.heap.size + 1 + 1, 1, none⟩ a1).setCell ⟨w.heap.size + 1 + 1, 2, none⟩ a2).setCell ⟨w.heap.size + 1 + 1, 3, none⟩ a3).setCell ⟨w.heap.size + 1 + 1, 4, none⟩ a4).setCell ⟨w.heap.size + 1 + 1, 5, none⟩ a5).cell? ⟨w.heap.size, 1, none⟩ = some (.int .i64 n) ∧ ((((((W.setCell ⟨w.heap.size + 1 + 1, 0, none⟩ a0).setCell ⟨w.heap.size + 1 + 1, 1, none⟩ a1).setCell ⟨w.heap.size + 1 + 1, 2, none⟩ a2).setCell ⟨w.heap.size + 1 + 1, 3, none⟩ a3).setCell ⟨w.heap.size + 1 + 1, 4, none⟩ a4).setCell ⟨w.heap.size + 1 + 1, 5, none⟩ a5).cell? ⟨w.heap.size, 2, none⟩ = some (.bool hd) ∧ ((((((W.setCell ⟨w.heap.size + 1 + 1, 0, none⟩ a0).setCell ⟨w.heap.size + 1 + 1, 1, none⟩ a1).setCell ⟨w.heap.size + 1 + 1, 2, none⟩ a2).setCell ⟨w.heap.size + 1 + 1, 3, none⟩ a3).setCell ⟨w.heap.size + 1 + 1, 4, none⟩ a4).setCell ⟨w.heap.size + 1 + 1, 5, none⟩ a5).cell? ⟨w.heap.size, 3, none⟩ = some (.string nm) ∧ ((((((W.setCell ⟨w.heap.size + 1 + 1, 0, none⟩ a0).setCell ⟨w.heap.size + 1 + 1, 1, none⟩ a1).setCell ⟨w.heap.size + 1 + 1, 2, none⟩ a2).setCell ⟨w.heap.size + 1 + 1, 3, none⟩ a3).setCell ⟨w.heap.size + 1 + 1, 4, none⟩ a4).setCell ⟨w.heap.size + 1 + 1, 5, none⟩ a5).cell? ⟨w.heap.size, 4, none⟩ = some (.slice la l1 lc) ∧ ((((((W.setCell ⟨w.heap.size + 1 + 1, 0, none⟩ a0).setCell ⟨w.heap.size + 1 + 1, 1, none⟩ a1).setCell ⟨w.heap.size + 1 + 1, 2, none⟩ a2).setCell ⟨w.heap.size + 1 + 1, 3, none⟩ a3).setCell ⟨w.heap.size + 1 + 1, 4, none⟩ a4).setCell ⟨w.heap.size + 1 + 1, 5, none⟩ a5).cell? ⟨w.heap.size, 5, none⟩ = some (.slice ka 0 kc) ∧ ((((((W.setCell ⟨w.heap.size + 1 + 1, 0, none⟩ a0).setCell ⟨w.heap.size + 1 + 1, 1, none⟩ a1).setCell ⟨w.heap.size + 1 + 1, 2, none⟩ a2).setCell ⟨w.heap.size + 1 + 1, 3, none⟩ a3).setCell ⟨w.heap.size + 1 + 1, 4, none⟩ a4).setCell ⟨w.heap.size + 1 + 1, 5, none⟩ a5).cell? ⟨X, 1, none⟩ = some (.slice ba L.length bc)) := fun W room a0 a1 a2 a3 a4 a5 h1 h2 =>
            HCEL.out ((((((W.setCell ⟨w.heap.size + 1 + 1, 0, none⟩ a0).setCell ⟨w.heap.size + 1 + 1, 1, none⟩ a1).setCell ⟨w.heap.size + 1 + 1, 2, none⟩ a2).setCell ⟨w.heap.size + 1 + 1, 3, none⟩ a3).setCell ⟨w.heap.size + 1 + 1, 4, none⟩ a4).setCell ⟨w.heap.size + 1 + 1, 5, none⟩ a5) room (((keep6 (P := fun k => k = w.heap.size + 1 + 1) rfl).block w.heap.size (heap_lt h1) (by omega)).trans h1) (((keep6 (P := fun k => k = w.heap.size + 1 + 1) rfl).block X (heap_lt h2) (by omega)).trans h2)
          have mx := mixed
          go_region_held3 (fun w' => w'.cell? ⟨w.heap.size, 0, none⟩ = some (.int .i64 1) ∧ w'.cell? ⟨w.heap.size, 1, none⟩ = some (.int .i64 n) ∧ w'.cell? ⟨w.heap.size, 2, none⟩ = some (.bool hd) ∧ w'.cell? ⟨w.heap.size, 3, none⟩ = some (.string nm) ∧ w'.cell? ⟨w.heap.size, 4, none⟩ = some (.slice la l1 lc) ∧ w'.cell? ⟨w.heap.size, 5, none⟩ = some (.slice ka 0 kc) ∧ w'.cell? ⟨X, 1, none⟩ = some (.slice ba L.length bc)) (first | with_reducible exact HCEL.out _ _ ht5 hx5 | with_reducible exact HCE6.out _ _ _ _ _ _ _ _ ht5 hx5 | exact HCEL.out _ _ HT1.out HX1.out)
            (first | (go_at_call 88; refine HC.mono ?_; rintro e w5 ⟨hk5, ⟨v', rfl, hfr⟩, hx5⟩; have ht5 := (hk5.block w.heap.size (heap_lt HT1.out) (by omega)).trans HT1.out; have hr5 := (hk5.block (w.heap.size + 1 + 1) (heap_lt HZ1.out) (by omega)).trans HZ1.out; obtain ⟨y0, y1, y2, y3, y4, y5, y6⟩ := cells6 hr5; have fr := frz hr5; have HK5 : Hid (Kept (· = X) w w5) := (Kept.of_grew HG1.out.drew).trans hk5; have HX5 := Hid.mk hx5; have HFR := Hid.mk hfr; obtain ⟨q1, q2, q3, p1, p2, p3, rfl⟩ := hfr.shapeF; generalize r1.form = rf at *; generalize r1.n = rN at *; generalize r1.hid = rh at *; generalize r1.name = rn at *; clear hr5 hk5 hfr))
          go_wp2
          refine bodyPost_ret (v := .tuple #[.agg #[.int .i64 rf, .int .i64 rN, .bool rh, .string rn, .slice q1 q2 q3, .slice p1 p2 p3], .int .i64 0]) (by simp [results, Try.results74, go_sem, y0, y1, y2, y3, y4, y5]) rfl ⟨?_, ?_⟩
          · exact (HK5.out.imp (fun k _ h => Or.inl h)).old (Q := fun k => k = w.heap.size + 1 + 1) (keep6 rfl) (fun i h1 h2 => by omega)
          · rw [hR.out]
            have HKF := HK5.out.old (Q := fun k => k = w.heap.size + 1 + 1) (keep6 (a0 := .int .i64 rf) (a1 := .int .i64 rN) (a2 := .bool rh) (a3 := .string rn) (a4 := .slice q1 q2 q3) (a5 := .slice p1 p2 p3) rfl) (fun i h1 h2 => by omega)
            have hdz : W1.drew.heap.size = w.heap.size + 1 + 1 + 1 := HSZ1.out
            refine ⟨⟨_, rfl, HFR.out.fin0 (fun _ => HZK.out) (by omega) (by omega), fun _ => HZK.out⟩, ?_, ?_, Nat.lt_of_lt_of_le hsbl HKF.size, hsbX, by omega, by omega⟩
            · exact ((keep6 (P := fun k => k = w.heap.size + 1 + 1) rfl).block X (heap_lt HX5.out) (by omega)).trans HX5.out
            · exact fun i x hx => (HKF.cell (p := ⟨sb, so + i, none⟩) hsbl hsbX).trans (HSIZ.out i x hx)
      · obtain ⟨i, hi⟩ : ∃ i : Nat, (L.length : Int) - 1 - (n - b - at_) = i := ⟨((L.length : Int) - 1 - (n - b - at_)).toNat, by omega⟩
        have hil : i < L.length := by omega
        have hii : L.length - 1 - (n - b - at_).toNat = i := by omega
        obtain ⟨s1, hs1⟩ : ∃ s1, L[i]? = some s1 := ⟨L[i], List.getElem?_eq_getElem hil⟩
        have hne : L ≠ [] := by intro e; rw [e] at hil; simp at hil
        have hsa' := hsa hne
        have hba' := hba hne
        subst hsa' hba'
        have e1 := HSIZ.out i s1 hs1
        have hmem : s1 ∈ L := List.mem_of_getElem? hs1
        have HTC := Hid.mk (hS i s1 hs1)
        have hGs := hG s1 hmem
        obtain ⟨hHs, hSs⟩ := hH s1 hmem
        have hER : Hid (R = if s - sizeT s1 < 0 then .error 2 else .ok (s - sizeT s1, liftT 0 b s1 0)) := by unfold Hid; rw [HE.out, if_pos ⟨trivial_one, by omega⟩, if_pos (by omega), hii, hs1]
        have HWK := fun (v : Value) (hv : TV w0 v s1) (W : World) (hB : RowKit.Below w0.heap.size w0 W) => walkT_any (w0 := w0) (bs := #[.agg #[.int .i64 0, .int .i64 b]]) GT_kid (fun k hk => hk.elim) (fun s w' k hI hk => hk.elim) (fun s a b M _ _ _ _ => trivial) cf_lifting (lifting_visits 0 b (by omega) (by omega) hb0 (by omega) w0) s1 () v 0 0 W hGs trivial hv hB (by omega) (by omega) (by omega) (Or.inr (by omega))
        rw [lif_walk 0 b s1 0 0] at HWK
        generalize liftT 0 b s1 0 = LS at *
        obtain ⟨z, hz⟩ : ∃ z, (sizeT s1 : Int) = z := ⟨_, rfl⟩
        rw [hz] at e1 hER
        have hz0 : 0 ≤ z := by omega
        have hz1 : z ≤ 20000 := by omega
        have zi : (i : Int) < (L.length : Int) := by omega
        have hwh' : ¬ (i : Int) < 0 := by omega
        clear hHs hSs hz hG hH hS hGs hmem HE hwh hii hba hsa HKB HKO
        by_cases hroom : s - z < 0
        · have hR : Hid (R = .error 2) := by unfold Hid; rw [hER.out, if_pos hroom]
          clear HWK hER
          go_enter Try.func74, Try.ntmps74
          go_wp2_with fail
          rw [HW0.out]
          clear j0 j1 j2 j3 c0 c1 c2 c3
          obtain ⟨c0, c1, c2, c3, cX0⟩ := cells4 HX0.out
          go_quiet (fail)
          go_wp2_with fail
          obtain ⟨W1, hW1⟩ : ∃ W1, World.drewN W0 nq = W1 := ⟨_, rfl⟩
          have HG1 : Hid (Grew w W1) := by unfold Hid; rw [← hW1]; exact HG0.out.drewN _
          have HT1 : Hid (W1.heap[w.heap.size]? = some (.cells #[.int .i64 1, .int .i64 n, .bool hd, .string nm, .slice la l1 lc, .slice ka 0 kc] 25 (0, 0))) := by unfold Hid; rw [← hW1]; exact HT0.out
          have HP1 : Hid (W1.heap[w.heap.size + 1]? = some (.cells #[.int .i64 b, .int .i64 p] 58 (0, 0))) := by unfold Hid; rw [← hW1]; exact HP0.out
          have HX1 : Hid (W1.heap[X]? = some (.cells #[.int .i64 at_, .slice (some ⟨yb, yo, none⟩) L.length bc, .slice (some ⟨sb, so, none⟩) L.length sc, .int .i64 s] 98 (0, 0))) := by unfold Hid; rw [← hW1]; exact HX0.out
          have HZ1 : Hid (W1.heap[w.heap.size + 1 + 1]? = some (.cells #[.int .i64 0, .int .i64 0, .bool false, .string { data := #[] }, .slice none 0 0, .slice none 0 0] 25 (0, 0))) := by unfold Hid; rw [← hW1]; exact HZ0.out
          have HSZ1 : Hid (W1.heap.size = w.heap.size + 1 + 1 + 1) := by unfold Hid; rw [← hW1]; exact HSZ.out
          rw [hW1]
          clear hW1 c0 c1 c2 c3 cX0
          obtain ⟨c0, c1, c2, c3, cX0⟩ := cells4 HX1.out
          have fX1 := frz HX1.out
          have e2 := (HG1.out.below.cell (p := ⟨sb, so + i, none⟩) hsbl).trans e1
          have hsb1 : sb < W1.heap.size := Nat.lt_of_lt_of_le hsbl HG1.out.below.size
          go_wp2_with fail
          go_region
          rename_i K hK
          refine hK _ _ ?_
          clear c0 c1 c2 c3 cX0 fX1 e2
          obtain ⟨W2, hW2⟩ : ∃ W2, (W1.setCell ⟨X, 3, none⟩ (.int .i64 (s - z))).drew = W2 := ⟨_, rfl⟩
          have HX2 : Hid (W2.heap[X]? = some (.cells #[.int .i64 at_, .slice (some ⟨yb, yo, none⟩) L.length bc, .slice (some ⟨sb, so, none⟩) L.length sc, .int .i64 (s - z)] 98 (0, 0))) := by unfold Hid; rw [← hW2]; exact set43 HX1.out
          have HK2 : Hid (Kept (· = X) w W2) := by unfold Hid; rw [← hW2]; exact ((Kept.of_grew (P := fun k => k = X) HG1.out).setCell (p := ⟨X, 3, none⟩) rfl _).drew
          have HSZ2 : Hid (W2.heap.size = w.heap.size + 1 + 1 + 1) := by unfold Hid; rw [← hW2, ← HSZ1.out]; simp [World.setCell, World.drew]
          have HP2 : Hid (W2.heap[w.heap.size + 1]? = some (.cells #[.int .i64 b, .int .i64 p] 58 (0, 0))) := by unfold Hid; rw [← hW2]; exact (Below.heap_setCell W1 ⟨X, 3, none⟩ _ _ (show w.heap.size + 1 ≠ X by omega)).trans HP1.out
          have HZ2 : Hid (W2.heap[w.heap.size + 1 + 1]? = some (.cells #[.int .i64 0, .int .i64 0, .bool false, .string { data := #[] }, .slice none 0 0, .slice none 0 0] 25 (0, 0))) := by unfold Hid; rw [← hW2]; exact (Below.heap_setCell W1 ⟨X, 3, none⟩ _ _ (show w.heap.size + 1 + 1 ≠ X by omega)).trans HZ1.out
          rw [hW2]
          clear hW2
          obtain ⟨c0, c1, c2, c3, cX0⟩ := cells4 HX2.out
          obtain ⟨y0, y1, y2, y3, y4, y5, y6⟩ := cells6 HZ2.out
          have fr := frz HZ2.out
          go_wp2
          refine bodyPost_ret (v := .tuple #[zeroV, .int .i64 2]) (by simp [results, Try.results74, go_sem, zeroV, y0, y1, y2, y3, y4, y5]) rfl ⟨?_, ?_⟩
          · exact (HK2.out.imp (fun k _ h => Or.inl h)).old (Q := fun k => k = w.heap.size + 1 + 1) (keep6 rfl) (fun i h1 h2 => by omega)
          · rw [hR.out]
            exact ⟨by decide, _, ⟨_, _, _, _, _, _, _, _, _, _, rfl⟩, rfl⟩
        · have hR : Hid (R = .ok (s - z, LS)) := by unfold Hid; rw [hER.out, if_neg hroom]
          clear hER
          go_enter Try.func74, Try.ntmps74
          go_wp2_with fail
          rw [HW0.out]
          clear j0 j1 j2 j3 c0 c1 c2 c3
          obtain ⟨c0, c1, c2, c3, cX0⟩ := cells4 HX0.out
          go_quiet (fail)
          go_wp2_with fail
          obtain ⟨W1, hW1⟩ : ∃ W1, World.drewN W0 nq = W1 := ⟨_, rfl⟩
          have HG1 : Hid (Grew w W1) := by unfold Hid; rw [← hW1]; exact HG0.out.drewN _
          have HT1 : Hid (W1.heap[w.heap.size]? = some (.cells #[.int .i64 1, .int .i64 n, .bool hd, .string nm, .slice la l1 lc, .slice ka 0 kc] 25 (0, 0))) := by unfold Hid; rw [← hW1]; exact HT0.out
          have HP1 : Hid (W1.heap[w.heap.size + 1]? = some (.cells #[.int .i64 b, .int .i64 p] 58 (0, 0))) := by unfold Hid; rw [← hW1]; exact HP0.out
          have HX1 : Hid (W1.heap[X]? = some (.cells #[.int .i64 at_, .slice (some ⟨yb, yo, none⟩) L.length bc, .slice (some ⟨sb, so, none⟩) L.length sc, .int .i64 s] 98 (0, 0))) := by unfold Hid; rw [← hW1]; exact HX0.out
          have HZ1 : Hid (W1.heap[w.heap.size + 1 + 1]? = some (.cells #[.int .i64 0, .int .i64 0, .bool false, .string { data := #[] }, .slice none 0 0, .slice none 0 0] 25 (0, 0))) := by unfold Hid; rw [← hW1]; exact HZ0.out
          have HSZ1 : Hid (W1.heap.size = w.heap.size + 1 + 1 + 1) := by unfold Hid; rw [← hW1]; exact HSZ.out
          rw [hW1]
          clear hW1 c0 c1 c2 c3 cX0
          obtain ⟨c0, c1, c2, c3, cX0⟩ := cells4 HX1.out
          have fX1 := frz HX1.out
          have e2 := (HG1.out.below.cell (p := ⟨sb, so + i, none⟩) hsbl).trans e1
          have hsb1 : sb < W1.heap.size := Nat.lt_of_lt_of_le hsbl HG1.out.below.size
          go_wp2_with fail
          go_region
          rename_i K hK
          refine hK _ _ ?_
          clear c0 c1 c2 c3 cX0 fX1 e2
          obtain ⟨W2, hW2⟩ : ∃ W2, (W1.setCell ⟨X, 3, none⟩ (.int .i64 (s - z))).drew = W2 := ⟨_, rfl⟩
          have HX2 : Hid (W2.heap[X]? = some (.cells #[.int .i64 at_, .slice (some ⟨yb, yo, none⟩) L.length bc, .slice (some ⟨sb, so, none⟩) L.length sc, .int .i64 (s - z)] 98 (0, 0))) := by unfold Hid; rw [← hW2]; exact set43 HX1.out
          have HK2 : Hid (Kept (· = X) w W2) := by unfold Hid; rw [← hW2]; exact ((Kept.of_grew (P := fun k => k = X) HG1.out).setCell (p := ⟨X, 3, none⟩) rfl _).drew
          have HSZ2 : Hid (W2.heap.size = w.heap.size + 1 + 1 + 1) := by unfold Hid; rw [← hW2, ← HSZ1.out]; simp [World.setCell, World.drew]
          have HP2 : Hid (W2.heap[w.heap.size + 1]? = some (.cells #[.int .i64 b, .int .i64 p] 58 (0, 0))) := by unfold Hid; rw [← hW2]; exact (Below.heap_setCell W1 ⟨X, 3, none⟩ _ _ (show w.heap.size + 1 ≠ X by omega)).trans HP1.out
          have HZ2 : Hid (W2.heap[w.heap.size + 1 + 1]? = some (.cells #[.int .i64 0, .int .i64 0, .bool false, .string { data := #[] }, .slice none 0 0, .slice none 0 0] 25 (0, 0))) := by unfold Hid; rw [← hW2]; exact (Below.heap_setCell W1 ⟨X, 3, none⟩ _ _ (show w.heap.size + 1 + 1 ≠ X by omega)).trans HZ1.out
          rw [hW2]
          clear hW2
          obtain ⟨c0, c1, c2, c3, cX0⟩ := cells4 HX2.out
          have HB2 : Hid (RowKit.Below w0.heap.size w0 W2) := HBW.out.trans (HK2.out.below HBW.out.size (fun k hk => by rw [hk]; exact hX))
          obtain ⟨b0, b1, -, -, b4⟩ := cells2 HP2.out
          obtain ⟨v0, v1, v2, v3, g1, g2, g3, h1, h2, h3, t0, t1, t2, t3, t4, t5, hv2⟩ := HTC.out.valE
          have hyb := HTC.out.lt
          have hyb2 : yb < W2.heap.size := Nat.lt_of_lt_of_le hyb HB2.out.size
          have t0 := (HB2.out.cell (p := ⟨yb, yo + i * 6, none⟩) hyb).trans t0
          have t1 := (HB2.out.cell (p := ⟨yb, yo + i * 6 + 1, none⟩) hyb).trans t1
          have t2 := (HB2.out.cell (p := ⟨yb, yo + i * 6 + 2, none⟩) hyb).trans t2
          have t3 := (HB2.out.cell (p := ⟨yb, yo + i * 6 + 3, none⟩) hyb).trans t3
          have t4 := (HB2.out.cell (p := ⟨yb, yo + i * 6 + 4, none⟩) hyb).trans t4
          have t5 := (HB2.out.cell (p := ⟨yb, yo + i * 6 + 5, none⟩) hyb).trans t5
          have HC := HWK _ hv2 W2.drew HB2.out.drew
          clear HWK hv2
          have mx := mixed
          have hrb : w.heap.size + 1 + 1 ≠ yb := by have := HBW.out.size; omega
          have HCEL : Hid (∀ W : World, RowKit.Below W2.heap.size W2 W → W.cell? ⟨X, 1, none⟩ = some (.slice (some ⟨yb, yo, none⟩) L.length bc) ∧ W.cell? ⟨yb, yo + i * 6, none⟩ = some (.int .i64 v0) ∧ W.cell? ⟨yb, yo + i * 6 + 1, none⟩ = some (.int .i64 v1) ∧ W.cell? ⟨yb, yo + i * 6 + 2, none⟩ = some (.bool v2) ∧ W.cell? ⟨yb, yo + i * 6 + 3, none⟩ = some (.string v3) ∧ W.cell? ⟨yb, yo + i * 6 + 4, none⟩ = some (.slice g1 g2 g3) ∧ W.cell? ⟨yb, yo + i * 6 + 5, none⟩ = some (.slice h1 h2 h3) ∧ W.cell? ⟨w.heap.size + 1, 0, none⟩ = some (.int .i64 b)) := fun W h => ⟨(h.cell (p := ⟨X, 1, none⟩) cX0).trans c1, (h.cell (p := ⟨yb, yo + i * 6, none⟩) hyb2).trans t0, (h.cell (p := ⟨yb, yo + i * 6 + 1, none⟩) hyb2).trans t1, (h.cell (p := ⟨yb, yo + i * 6 + 2, none⟩) hyb2).trans t2, (h.cell (p := ⟨yb, yo + i * 6 + 3, none⟩) hyb2).trans t3, (h.cell (p := ⟨yb, yo + i * 6 + 4, none⟩) hyb2).trans t4, (h.cell (p := ⟨yb, yo + i * 6 + 5, none⟩) hyb2).trans t5, (h.cell (p := ⟨w.heap.size + 1, 0, none⟩) b4).trans b0⟩
          have HCE6 : Hid (∀ (W : World) (_ : RowKit.Below W2.heap.size W2 W) (a0 a1 a2 a3 a4 a5 : Value), ((((((W.setCell ⟨w.heap.size + 1 + 1, 0, none⟩ a0).setCell ⟨w.heap.size + 1 + 1, 1, none⟩ a1).setCell ⟨w.heap.size + 1 + 1, 2, none⟩ a2).setCell ⟨w.heap.size + 1 + 1, 3, none⟩ a3).setCell ⟨w.heap.size + 1 + 1, 4, none⟩ a4).setCell ⟨w.heap.size + 1 + 1, 5, none⟩ a5).cell? ⟨X, 1, none⟩ = some (.slice (some ⟨yb, yo, none⟩) L.length bc) ∧ ((((((W.setCell ⟨w.heap.size + 1 + 1, 0, none⟩ a0).setCell ⟨w.heap.size + 1 + 1, 1, none⟩ a1).setCell ⟨w.heap.size + 1 + 1, 2, none⟩ a2).setCell ⟨w.heap.size + 1 + 1, 3, none⟩ a3).setCell ⟨w.heap.size + 1 + 1, 4, none⟩ a4).setCell ⟨w.heap.size + 1 + 1, 5, none⟩ a5).cell? ⟨yb, yo + i * 6, none⟩ = some (.int .i64 v0) ∧ ((((((W.setCell ⟨w.heap.size + 1 + 1, 0, none⟩ a0).setCell ⟨w.heap.size + 1 + 1, 1, none⟩ a1).setCell ⟨w.heap.size + 1 + 1, 2, none⟩ a2).setCell ⟨w.heap.size + 1 + 1, 3, none⟩ a3).setCell ⟨w.heap.size + 1 + 1, 4, none⟩ a4).setCell ⟨w.heap.size + 1 + 1, 5, none⟩ a5).cell? ⟨yb, yo + i * 6 + 1, none⟩ = some (.int .i64 v1) ∧ ((((((W.setCell ⟨w.heap.size + 1 + 1, 0, none⟩ a0).setCell ⟨w.heap.size + 1 + 1, 1, none⟩ a1).setCell ⟨w.heap.size + 1 + 1, 2, none⟩ a2).setCell ⟨w.heap.size + 1 + 1, 3, none⟩ a3).setCell ⟨w.heap.size + 1 + 1, 4, none⟩ a4).setCell ⟨w.heap.size + 1 + 1, 5, none⟩ a5).cell? ⟨yb, yo + i * 6 + 2, none⟩ = some (.bool v2) ∧ ((((((W.setCell ⟨w.heap.size + 1 + 1, 0, none⟩ a0).setCell ⟨w.heap.size + 1 + 1, 1, none⟩ a1).setCell ⟨w.heap.size + 1 + 1, 2, none⟩ a2).setCell ⟨w.heap.size + 1 + 1, 3, none⟩ a3).setCell ⟨w.heap.size + 1 + 1, 4, none⟩ a4).setCell ⟨w.heap.size + 1 + 1, 5, none⟩ a5).cell? ⟨yb, yo + i * 6 + 3, none⟩ = some (.string v3) ∧ ((((((W.setCell ⟨w.heap.size + 1 + 1, 0, none⟩ a0).setCell ⟨w.heap.size + 1 + 1, 1, none⟩ a1).setCell ⟨w.heap.size + 1 + 1, 2, none⟩ a2).setCell ⟨w.heap.size + 1 + 1, 3, none⟩ a3).setCell ⟨w.heap.size + 1 + 1, 4, none⟩ a4).setCell ⟨w.heap.size + 1 + 1, 5, none⟩ a5).cell? ⟨yb, yo + i * 6 + 4, none⟩ = some (.slice g1 g2 g3) ∧ ((((((W.setCell ⟨w.heap.size + 1 + 1, 0, none⟩ a0).setCell ⟨w.heap.size + 1 + 1, 1, none⟩ a1).setCell ⟨w.heap.size + 1 + 1, 2, none⟩ a2).setCell ⟨w.heap.size + 1 + 1, 3, none⟩ a3).setCell ⟨w.heap.size + 1 + 1, 4, none⟩ a4).setCell ⟨w.heap.size + 1 + 1, 5, none⟩ a5).cell? ⟨yb, yo + i * 6 + 5, none⟩ = some (.slice h1 h2 h3) ∧ ((((((W.setCell ⟨w.heap.size + 1 + 1, 0, none⟩ a0).setCell ⟨w.heap.size + 1 + 1, 1, none⟩ a1).setCell ⟨w.heap.size + 1 + 1, 2, none⟩ a2).setCell ⟨w.heap.size + 1 + 1, 3, none⟩ a3).setCell ⟨w.heap.size + 1 + 1, 4, none⟩ a4).setCell ⟨w.heap.size + 1 + 1, 5, none⟩ a5).cell? ⟨w.heap.size + 1, 0, none⟩ = some (.int .i64 b)) := fun W h a0 a1 a2 a3 a4 a5 => by
            obtain ⟨e1, e2, e3, e4, e5, e6, e7, e8⟩ := HCEL.out W h
            have hXl : X < W.heap.size := Nat.lt_of_lt_of_le cX0 h.size
            have hPl : w.heap.size + 1 < W.heap.size := Nat.lt_of_lt_of_le b4 h.size
            have hYl : yb < W.heap.size := Nat.lt_of_lt_of_le hyb2 h.size
            have K6 := keep6 (P := fun k => k = w.heap.size + 1 + 1) (w := W) (b := w.heap.size + 1 + 1) (a0 := a0) (a1 := a1) (a2 := a2) (a3 := a3) (a4 := a4) (a5 := a5) rfl
            exact ⟨(K6.cell (p := ⟨X, 1, none⟩) hXl (fun (h : X = w.heap.size + 1 + 1) => by omega)).trans e1, (K6.cell (p := ⟨yb, yo + i * 6, none⟩) hYl (fun (h : yb = w.heap.size + 1 + 1) => by omega)).trans e2, (K6.cell (p := ⟨yb, yo + i * 6 + 1, none⟩) hYl (fun (h : yb = w.heap.size + 1 + 1) => by omega)).trans e3, (K6.cell (p := ⟨yb, yo + i * 6 + 2, none⟩) hYl (fun (h : yb = w.heap.size + 1 + 1) => by omega)).trans e4, (K6.cell (p := ⟨yb, yo + i * 6 + 3, none⟩) hYl (fun (h : yb = w.heap.size + 1 + 1) => by omega)).trans e5, (K6.cell (p := ⟨yb, yo + i * 6 + 4, none⟩) hYl (fun (h : yb = w.heap.size + 1 + 1) => by omega)).trans e6, (K6.cell (p := ⟨yb, yo + i * 6 + 5, none⟩) hYl (fun (h : yb = w.heap.size + 1 + 1) => by omega)).trans e7, (K6.cell (p := ⟨w.heap.size + 1, 0, none⟩) hPl (fun (h : w.heap.size + 1 = w.heap.size + 1 + 1) => by omega)).trans e8⟩
          go_wp2_with fail
          go_region_held3 (fun w' => w'.cell? ⟨X, 1, none⟩ = some (.slice (some ⟨yb, yo, none⟩) L.length bc) ∧ w'.cell? ⟨yb, yo + i * 6, none⟩ = some (.int .i64 v0) ∧ w'.cell? ⟨yb, yo + i * 6 + 1, none⟩ = some (.int .i64 v1) ∧ w'.cell? ⟨yb, yo + i * 6 + 2, none⟩ = some (.bool v2) ∧ w'.cell? ⟨yb, yo + i * 6 + 3, none⟩ = some (.string v3) ∧ w'.cell? ⟨yb, yo + i * 6 + 4, none⟩ = some (.slice g1 g2 g3) ∧ w'.cell? ⟨yb, yo + i * 6 + 5, none⟩ = some (.slice h1 h2 h3) ∧ w'.cell? ⟨w.heap.size + 1, 0, none⟩ = some (.int .i64 b)) (first | with_reducible exact HCEL.out _ hb5 | with_reducible exact HCE6.out _ hb5 _ _ _ _ _ _ | exact HCEL.out _ (Below.refl _ _).drew)
            (first | (go_at_call 49; refine HC.mono ?_; rintro e w5 ⟨hk5, ⟨v5, rfl, hto5⟩, -⟩; have hb5 : RowKit.Below W2.heap.size W2 w5 := (Below.refl _ _).drew.trans (hk5.below (Nat.le_refl _) (fun k hk => hk.elim)); obtain ⟨f0, f1, f2, f3, u1, u2, u3, p1, p2, p3, rfl⟩ := hto5.shapeE; have hr5 := (hb5.block (w.heap.size + 1 + 1) (heap_lt HZ2.out)).trans HZ2.out; obtain ⟨y0, y1, y2, y3, y4, y5, -⟩ := cells6 hr5; have fr := frz hr5; have HB5 := Hid.mk hb5; have HTO5 := Hid.mk hto5; clear hk5 hr5 hto5))
          go_wp2
          refine bodyPost_ret (v := .tuple #[.agg #[.int .i64 f0, .int .i64 f1, .bool f2, .string f3, .slice u1 u2 u3, .slice p1 p2 p3], .int .i64 0]) (by simp [results, Try.results74, go_sem, y0, y1, y2, y3, y4, y5]) rfl ⟨?_, ?_⟩
          · exact ((HK2.out.trans (Kept.of_below HB5.out)).imp (fun k _ h => Or.inl h)).old (Q := fun k => k = w.heap.size + 1 + 1) (keep6 rfl) (fun i h1 h2 => by omega)
          · rw [hR.out]
            have hsz2 := HSZ2.out
            have hsz5 := HB5.out.size
            have HKF := (HK2.out.trans (Kept.of_below HB5.out)).old (Q := fun k => k = w.heap.size + 1 + 1) (keep6 (a0 := .int .i64 f0) (a1 := .int .i64 f1) (a2 := .bool f2) (a3 := .string f3) (a4 := .slice u1 u2 u3) (a5 := .slice p1 p2 p3) rfl) (fun i h1 h2 => by omega)
            have hT : TO w5 W2.heap.size w5.heap.size (.agg #[.int .i64 f0, .int .i64 f1, .bool f2, .string f3, .slice u1 u2 u3, .slice p1 p2 p3]) LS := HTO5.out
            refine ⟨⟨_, rfl, Or.inl ⟨rfl, ?_⟩, fun h => by omega⟩, ?_, ?_, Nat.lt_of_lt_of_le hsbl HKF.size, hsbX, by omega, by omega⟩
            · rw [size6]
              exact (hT.on (fun k h1 h2 => (keep6 (P := fun k => k = w.heap.size + 1 + 1) rfl).block k h2 (by omega))).mono (by omega) (Nat.le_refl _)
            · exact ((keep6 (P := fun k => k = w.heap.size + 1 + 1) rfl).block X (by omega) (by omega)).trans ((HB5.out.block X cX0).trans HX2.out)
            · exact fun i x hx => (HKF.cell (p := ⟨sb, so + i, none⟩) hsbl hsbX).trans (HSIZ.out i x hx)
  · have hfb : (f == 1) = false := by simpa using hf
    have hfn : (f != 1) = true := by simpa using hf
    have HMISS : Hid (f ≠ 1) := hf
    clear hf HVAR HLF HBN
    obtain ⟨W0, hW0⟩ : ∃ W0, ((w.alloc (.cells #[.int .i64 f, .int .i64 n, .bool hd, .string nm, .slice la l1 lc, .slice ka k1 kc] 25)).alloc (.cells #[.int .i64 b, .int .i64 p] 58)).alloc (.cells #[.int .i64 0, .int .i64 0, .bool false, .string { data := #[] }, .slice none 0 0, .slice none 0 0] 25) = W0 := ⟨_, rfl⟩
    have HG0 : Hid (Grew w W0) := by unfold Hid; rw [← hW0]; exact (((Grew.refl w).alloc _).alloc _).alloc _
    have HT0 : Hid (W0.heap[w.heap.size]? = some (.cells #[.int .i64 f, .int .i64 n, .bool hd, .string nm, .slice la l1 lc, .slice ka k1 kc] 25 (0, 0))) := by unfold Hid; rw [← hW0]; exact alloc_old box_at _
    have HP0 : Hid (W0.heap[w.heap.size + 1]? = some (.cells #[.int .i64 b, .int .i64 p] 58 (0, 0))) := by unfold Hid; rw [← hW0]; exact on1
    have HZ0 : Hid (W0.heap[w.heap.size + 1 + 1]? = some (.cells #[.int .i64 0, .int .i64 0, .bool false, .string { data := #[] }, .slice none 0 0, .slice none 0 0] 25 (0, 0))) := by unfold Hid; rw [← hW0]; exact on2
    have HSZ : Hid (W0.heap.size = w.heap.size + 1 + 1 + 1) := by unfold Hid; rw [← hW0]; exact sz3
    have HX0 : Hid (W0.heap[X]? = some (.cells #[.int .i64 at_, .slice ba L.length bc, .slice sa L.length sc, .int .i64 s] 98 (0, 0))) := (HG0.out.below.block X cX).trans HXC.out
    have HW0 := Hid.mk hW0
    clear hW0
    by_cases hroom : s - 1 < 0
    · have hR : Hid (R = .error 2) := by unfold Hid; rw [HE.out, if_neg (fun h => HMISS.out h.1), if_pos hroom]
      have HC := HKB 0 W0 (Kept.of_grew HG0.out) hroom
      clear HE HKB HKO
      go_enter Try.func74, Try.ntmps74
      go_wp2_with fail
      rw [HW0.out]
      refine HC.mono ?_
      rintro e w5 ⟨hk5, ⟨v', ⟨a0, a1, a2, a3, b1, b2, b3, d1, d2, d3, rfl⟩, rfl⟩, -⟩
      have hr5 := (hk5.block (w.heap.size + 1 + 1) (heap_lt HZ0.out) (by omega)).trans HZ0.out
      obtain ⟨y0, y1, y2, y3, y4, y5, y6⟩ := cells6 hr5
      have fr := frz hr5
      have HK5 : Hid (Kept (· = X) w w5) := (Kept.of_grew HG0.out).trans hk5
      clear hr5 hk5 HC
      go_wp2
      refine bodyPost_ret (v := .tuple #[.agg #[.int .i64 a0, .int .i64 a1, .bool a2, .string a3, .slice b1 b2 b3, .slice d1 d2 d3], .int .i64 2]) (by simp [results, Try.results74, go_sem, y0, y1, y2, y3, y4, y5]) rfl ⟨?_, ?_⟩
      · exact (HK5.out.imp (fun k _ h => Or.inl h)).old (Q := fun k => k = w.heap.size + 1 + 1) (keep6 rfl) (fun i h1 h2 => by omega)
      · rw [hR.out]
        exact ⟨by decide, _, ⟨_, _, _, _, _, _, _, _, _, _, rfl⟩, rfl⟩
    · have hR : Hid (R = .ok (s - 1, r.setN (r.n - 0))) := by unfold Hid; rw [HE.out, if_neg (fun h => HMISS.out h.1), if_neg hroom]
      have HC := HKO 0 (by have := HBB.out; omega) (by have := HBB.out; omega) W0 (Kept.of_grew HG0.out) hroom
      clear HE HKB HKO
      go_enter Try.func74, Try.ntmps74
      go_wp2_with fail
      rw [HW0.out]
      refine HC.mono ?_
      rintro e w5 ⟨hk5, ⟨v', rfl, hfr⟩, hX5⟩
      have hr5 := (hk5.block (w.heap.size + 1 + 1) (heap_lt HZ0.out) (by omega)).trans HZ0.out
      obtain ⟨y0, y1, y2, y3, y4, y5, y6⟩ := cells6 hr5
      have fr := frz hr5
      have HK5 : Hid (Kept (· = X) w w5) := (Kept.of_grew HG0.out).trans hk5
      have HX5 := Hid.mk hX5
      have HFR := Hid.mk hfr
      obtain ⟨q1, q2, q3, p1, p2, p3, rfl⟩ := hfr.shapeF
      have HZK : Hid ((r.setN (r.n - 0)).kids = []) := by unfold Hid; rw [setN_kids]; exact HBK.out
      generalize r.setN (r.n - 0) = r1 at *
      generalize r1.form = rf at *
      generalize r1.n = rN at *
      generalize r1.hid = rh at *
      generalize r1.name = rn at *
      clear hr5 hk5 HC hfr hX5
      go_wp2
      refine bodyPost_ret (v := .tuple #[.agg #[.int .i64 rf, .int .i64 rN, .bool rh, .string rn, .slice q1 q2 q3, .slice p1 p2 p3], .int .i64 0]) (by simp [results, Try.results74, go_sem, y0, y1, y2, y3, y4, y5]) rfl ⟨?_, ?_⟩
      · exact (HK5.out.imp (fun k _ h => Or.inl h)).old (Q := fun k => k = w.heap.size + 1 + 1) (keep6 rfl) (fun i h1 h2 => by omega)
      · rw [hR.out]
        have HKF := HK5.out.old (Q := fun k => k = w.heap.size + 1 + 1) (keep6 (a0 := .int .i64 rf) (a1 := .int .i64 rN) (a2 := .bool rh) (a3 := .string rn) (a4 := .slice q1 q2 q3) (a5 := .slice p1 p2 p3) rfl) (fun i h1 h2 => by omega)
        refine ⟨⟨_, rfl, HFR.out.fin0 (fun _ => HZK.out) (by have := HSZ.out; omega) (by have := HSZ.out; omega), fun _ => HZK.out⟩, ?_, ?_, Nat.lt_of_lt_of_le hsbl HKF.size, hsbX, by omega, by omega⟩
        · exact ((keep6 (P := fun k => k = w.heap.size + 1 + 1) rfl).block X (heap_lt HX5.out) (by omega)).trans HX5.out
        · exact fun i x hx => (HKF.cell (p := ⟨sb, so + i, none⟩) hsbl hsbX).trans (HSIZ.out i x hx)
end Go.Proofs.Ytbgkeomlfdmkeaa
