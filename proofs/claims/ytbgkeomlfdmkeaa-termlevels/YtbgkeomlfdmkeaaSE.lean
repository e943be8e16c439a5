/- The contracts of term's judged, Check, Size, Free, Has. -/
import Derived.Test.YtbgkeomlfdmkeaaWE
import Derived.Test.YtbgkeomlfdmkeaaTB
namespace Go.Proofs.Ytbgkeomlfdmkeaa
open Go.RowKit Go.Sort

mutual
/-- nothing in a term is longer than m -/
def smT (m : Nat) : Tm → Prop
  | .mk _ _ _ nm ls ks => nm.size ≤ m ∧ ls.length ≤ m ∧ (∀ l ∈ ls, l.2.length ≤ m) ∧ ks.length ≤ m ∧ smTs m ks
def smTs (m : Nat) : List Tm → Prop
  | [] => True
  | k :: ks => smT m k ∧ smTs m ks
end

theorem smTs_iff (m : Nat) : ∀ ks : List Tm, smTs m ks ↔ ∀ k ∈ ks, smT m k
  | [] => by simp [smTs]
  | k :: ks => by simp [smTs, smTs_iff m ks]

theorem smT_mk (m : Nat) (f n : Int) (hd : Bool) (nm : ByteArray) (ls : List LvT) (ks : List Tm) : smT m (.mk f n hd nm ls ks) ↔ nm.size ≤ m ∧ ls.length ≤ m ∧ (∀ l ∈ ls, l.2.length ≤ m) ∧ ks.length ≤ m ∧ ∀ k ∈ ks, smT m k := by
  rw [smT, smTs_iff]

theorem smT_kid (m : Nat) (f n : Int) (hd : Bool) (nm : ByteArray) (ls : List LvT) (ks : List Tm) (h : smT m (.mk f n hd nm ls ks)) : ∀ k ∈ ks, smT m k := ((smT_mk m f n hd nm ls ks).1 h).2.2.2.2

theorem smT_lv (m : Nat) (t : Tm) : smT m t → lvB m t = true := by
  refine Tm.ind (P := fun t => smT m t → lvB m t = true) ?_ t
  intro f n hd nm ls ks ih h
  rw [smT_mk] at h
  rw [lvB_mk, Bool.and_eq_true, List.all_eq_true, List.all_eq_true]
  exact ⟨fun l hl => by simpa using h.2.2.1 l hl, fun k hk => ih k hk (h.2.2.2.2 k hk)⟩

/-- is a part right by itself and its kids' forms? -/
def judB (t : Tm) : Bool := decide ((t.kids.length : Int) = kidsR t.form) && fieldsB t

def judV (_ : Unit) (t : Tm) (_ _ : Int) : Except Int (Unit × Int) := if judB t then .ok ((), 1) else .error 10

theorem TV.boxed {w : World} {v : Value} {t : Tm} (h : TV w v t) (w' : World) (hb : RowKit.Below w.heap.size w w') : TV w' v t := h.on hb

set_option maxRecDepth 100000 in
set_option maxHeartbeats 2000000 in
theorem judged_visits (w0 : World) : VisitsI (smT 1000000) (fun _ => False) (fun _ _ => True) w0 39 #[] judV := by
  intro s t v b p w hsm _ hv _ hb0 hbp hp
  have hlv : ∀ l ∈ t.levels, l.2.length ≤ 1000000 := by cases t; exact ((smT_mk _ _ _ _ _ _ _).1 hsm).2.2.1
  have hll : t.levels.length ≤ 1000000 := by cases t; exact ((smT_mk _ _ _ _ _ _ _).1 hsm).2.1
  have hkl : t.kids.length ≤ 1000000 := by cases t; exact ((smT_mk _ _ _ _ _ _ _).1 hsm).2.2.2.1
  clear hsm
  have HFR := fun (W : World) (h : RowKit.Below w.heap.size w W) (h7 : t.form = 7 → t.kids ≠ []) => fieldsRight_any t v W (hv.on h) h7 hlv (by omega)
  obtain ⟨la, lc, ka, kc, rfl⟩ := hv.shape
  clear hv hlv
  have HE : Hid (judV s t b p = if judB t then .ok ((), 1) else .error 10) := rfl
  have HJ : Hid (judB t = (decide ((t.kids.length : Int) = kidsR t.form) && fieldsB t)) := rfl
  have H7 : Hid ((t.kids.length : Int) = kidsR t.form → t.form = 7 → t.kids ≠ []) := fun h h7 e => by rw [h7, e] at h; simp [kidsR] at h
  generalize judV s t b p = R at HE ⊢
  generalize judB t = J at HE HJ
  generalize fieldsB t = F at *
  generalize t.form = f at *
  generalize t.n = n at *
  generalize t.hid = hd at *
  generalize t.name = nm at *
  generalize t.levels.length = l1 at *
  generalize hks : t.kids = ks at *
  clear hks
  show Calls Try.prog 39 #[.agg #[.int .i64 f, .int .i64 n, .bool hd, .string nm, .slice la l1 lc, .slice ka ks.length kc], .agg #[.int .i64 b, .int .i64 p]] w _
  obtain ⟨W0, hW0⟩ : ∃ W0, (w.alloc (.cells #[.int .i64 f, .int .i64 n, .bool hd, .string nm, .slice la l1 lc, .slice ka ks.length kc] 25)).alloc (.cells #[.int .i64 b, .int .i64 p] 58) = W0 := ⟨_, rfl⟩
  have HG0 : Hid (Grew w W0) := by unfold Hid; rw [← hW0]; exact ((Grew.refl w).alloc _).alloc _
  have HX0 : Hid (W0.heap[w.heap.size]? = some (.cells #[.int .i64 f, .int .i64 n, .bool hd, .string nm, .slice la l1 lc, .slice ka ks.length kc] 25 (0, 0))) := by unfold Hid; rw [← hW0]; exact box_at
  obtain ⟨x0, x1, x2, x3, x4, x5, x6⟩ := cells6 HX0.out
  have HW0 := Hid.mk hW0
  clear hW0
  have mx := mixed
  by_cases hq : (ks.length : Int) = kidsR f
  · have hqb : ((ks.length : Int) != kidsR f) = false := by simpa using hq
    have HJ2 : Hid (J = F) := by unfold Hid; rw [HJ.out]; simp [hq]
    clear HJ
    have HF := HFR W0.drew (HG0.out.below.drew) (H7.out hq)
    clear hq HFR
    have HCEL : Hid (∀ W : World, RowKit.Below W0.heap.size W0 W → W.cell? ⟨w.heap.size, 0, none⟩ = some (.int .i64 f) ∧ W.cell? ⟨w.heap.size, 1, none⟩ = some (.int .i64 n) ∧ W.cell? ⟨w.heap.size, 2, none⟩ = some (.bool hd) ∧ W.cell? ⟨w.heap.size, 3, none⟩ = some (.string nm) ∧ W.cell? ⟨w.heap.size, 4, none⟩ = some (.slice la l1 lc) ∧ W.cell? ⟨w.heap.size, 5, none⟩ = some (.slice ka ks.length kc)) := fun W h => ⟨(h.cell (p := ⟨w.heap.size, 0, none⟩) x6).trans x0, (h.cell (p := ⟨w.heap.size, 1, none⟩) x6).trans x1, (h.cell (p := ⟨w.heap.size, 2, none⟩) x6).trans x2, (h.cell (p := ⟨w.heap.size, 3, none⟩) x6).trans x3, (h.cell (p := ⟨w.heap.size, 4, none⟩) x6).trans x4, (h.cell (p := ⟨w.heap.size, 5, none⟩) x6).trans x5⟩
    have HA := arity_any f
    generalize kidsR f = K at *
    cases F
    · go_enter Try.func39, Try.ntmps39
      go_wp2_with fail
      rw [HW0.out]
      go_region_held3 (fun w' => w'.cell? ⟨w.heap.size, 0, none⟩ = some (.int .i64 f) ∧ w'.cell? ⟨w.heap.size, 1, none⟩ = some (.int .i64 n) ∧ w'.cell? ⟨w.heap.size, 2, none⟩ = some (.bool hd) ∧ w'.cell? ⟨w.heap.size, 3, none⟩ = some (.string nm) ∧ w'.cell? ⟨w.heap.size, 4, none⟩ = some (.slice la l1 lc) ∧ w'.cell? ⟨w.heap.size, 5, none⟩ = some (.slice ka ks.length kc)) (first | exact HCEL.out _ (Below.refl _ _).drew | exact HCEL.out _ hb5)
        (first | (go_at_call 62; refine (HA _).mono ?_; rintro e w' ⟨rfl, rfl⟩) | (go_at_call 63; refine HF.mono ?_; rintro e w5 ⟨rfl, hg5⟩; have hb5 : RowKit.Below W0.heap.size W0 w5 := (Below.refl _ _).drew.trans hg5; have HG5 := Hid.mk hb5; clear hg5))
      go_wp2
      go_ret2
      have hR : R = .error 10 := by rw [HE.out, HJ2.out]; rfl
      rw [hR]
      exact ⟨Kept.of_below (HG0.out.below.trans (HG5.out.mono HG0.out.below.size)), by decide, _, rfl⟩
    · go_enter Try.func39, Try.ntmps39
      go_wp2_with fail
      rw [HW0.out]
      go_region_held3 (fun w' => w'.cell? ⟨w.heap.size, 0, none⟩ = some (.int .i64 f) ∧ w'.cell? ⟨w.heap.size, 1, none⟩ = some (.int .i64 n) ∧ w'.cell? ⟨w.heap.size, 2, none⟩ = some (.bool hd) ∧ w'.cell? ⟨w.heap.size, 3, none⟩ = some (.string nm) ∧ w'.cell? ⟨w.heap.size, 4, none⟩ = some (.slice la l1 lc) ∧ w'.cell? ⟨w.heap.size, 5, none⟩ = some (.slice ka ks.length kc)) (first | exact HCEL.out _ (Below.refl _ _).drew | exact HCEL.out _ hb5)
        (first | (go_at_call 62; refine (HA _).mono ?_; rintro e w' ⟨rfl, rfl⟩) | (go_at_call 63; refine HF.mono ?_; rintro e w5 ⟨rfl, hg5⟩; have hb5 : RowKit.Below W0.heap.size W0 w5 := (Below.refl _ _).drew.trans hg5; have HG5 := Hid.mk hb5; clear hg5))
      go_wp2
      go_ret2
      have hR : R = .ok ((), 1) := by rw [HE.out, HJ2.out]; rfl
      rw [hR]
      exact ⟨Kept.of_below (HG0.out.below.trans (HG5.out.mono HG0.out.below.size)), rfl, trivial⟩
  · have hqb : ((ks.length : Int) != kidsR f) = true := by simpa using hq
    have HJ2 : Hid (J = false) := by unfold Hid; rw [HJ.out]; simp [hq]
    clear hq HFR H7
    have HA := arity_any f
    generalize kidsR f = K at *
    go_enter Try.func39, Try.ntmps39
    go_wp2_with fail
    rw [HW0.out]
    go_quiet ((go_at_call 62; exact Calls.quiet_of_same (HA _)))
    go_wp2
    go_ret2
    have hR : R = .error 10 := by rw [HE.out, HJ2.out]; rfl
    rw [hR]
    exact ⟨Kept.of_grew (HG0.out.drewN _), by decide, _, rfl⟩
end Go.Proofs.Ytbgkeomlfdmkeaa

/- The contracts of telamonlaw2.count and Big: what is not too much is short everywhere. -/
namespace Go.Proofs.Ytbgkeomlfdmkeaa
open Go.RowKit Go.Sort

theorem okT_mk (f n : Int) (hd : Bool) (nm : ByteArray) (ls : List LvT) (ks : List Tm) : okT (.mk f n hd nm ls ks) ↔ nm.size ≤ 140737488351232 ∧ ls.length ≤ 8796093022208 ∧ (∀ l ∈ ls, l.2.length ≤ 8796093022208) ∧ ks.length ≤ 8796093022208 ∧ ∀ k ∈ ks, okT k := by
  rw [okT, okTs_iff]

theorem heap_lt' {w : World} {b : Nat} {o : Obj} (h : w.heap[b]? = some o) : b < w.heap.size := (Array.getElem?_eq_some_iff.1 h).1

theorem mem_take_succ {α : Type} {ks : List α} {j : Nat} {k x : α} (h : ks[j]? = some k) (hx : x ∈ ks.take (j + 1)) : x ∈ ks.take j ∨ x = k := by
  obtain ⟨hj, rfl⟩ := List.getElem?_eq_some_iff.1 h
  rw [List.take_succ_eq_append_getElem hj, List.mem_append] at hx
  rcases hx with hx | hx
  · exact Or.inl hx
  · exact Or.inr (by simpa using hx)

set_option maxRecDepth 100000 in
set_option maxHeartbeats 4000000 in
theorem lcount_any (t : Tm) : ∀ (high : Int) (v : Value) (w : World), 0 ≤ high → high ≤ 701 → okT t → TV w v t → Calls Try.prog 36 #[v, .int .i64 3000, .int .i64 high] w fun e w' => (∃ r : Int, e = .returned (.int .i64 r) ∧ 1 ≤ r ∧ r ≤ 9000000000000 + 4000 * (702 - high) ∧ (r ≤ 3000 → smT 1000000 t)) ∧ Grew w w' := by
  refine Tm.ind (P := fun t => ∀ (high : Int) (v : Value) (w : World), 0 ≤ high → high ≤ 701 → okT t → TV w v t → Calls Try.prog 36 #[v, .int .i64 3000, .int .i64 high] w fun e w' => (∃ r : Int, e = .returned (.int .i64 r) ∧ 1 ≤ r ∧ r ≤ 9000000000000 + 4000 * (702 - high) ∧ (r ≤ 3000 → smT 1000000 t)) ∧ Grew w w') ?_ t
  intro f n hd nm ls ks ih high v w hh0 hh1 hok hv
  obtain ⟨o1, o2, o3, o4, o5⟩ := (okT_mk _ _ _ _ _ _).1 hok
  clear hok
  cases hv with
  | @mk _ _ _ _ _ _ la lc ka kc kb ko hl hln hlc hlm hkn hkc hkm hk kids =>
    have HSM := Hid.mk (smT_mk 1000000 f n hd nm ls ks)
    generalize smT 1000000 (.mk f n hd nm ls ks) = S at HSM ⊢
    have HL := Hid.mk hl
    have HO3 := Hid.mk o3
    have HO5 := Hid.mk o5
    have HK := Hid.mk hk
    have HKIDS := Hid.mk kids
    have HIH := Hid.mk ih
    clear hk kids ih hl o3 o5
    obtain ⟨W0, hW0⟩ : ∃ W0, w.alloc (.cells #[.int .i64 f, .int .i64 n, .bool hd, .string nm, .slice la ls.length lc, .slice ka ks.length kc] 25) = W0 := ⟨_, rfl⟩
    have HG0 : Hid (Grew w W0) := by unfold Hid; rw [← hW0]; exact (Grew.refl w).alloc _
    have HX0 : Hid (W0.heap[w.heap.size]? = some (.cells #[.int .i64 f, .int .i64 n, .bool hd, .string nm, .slice la ls.length lc, .slice ka ks.length kc] 25 (0, 0))) := by unfold Hid; rw [← hW0]; exact alloc_new _ _
    have HW0 := Hid.mk hW0
    clear hW0
    by_cases h7 : 700 < high
    · go_enter Try.func36, Try.ntmps36
      go_wp2
      go_ret
      exact ⟨⟨3001, rfl, by omega, by omega, fun h => by omega⟩, by have := HG0.out; rwa [← HW0.out] at this⟩
    · go_enter Try.func36, Try.ntmps36
      go_wp2
      rw [HW0.out]
      go_loopw [7, 8] (fun vn i wr => ∃ (j : Nat) (m : Int), j ≤ ls.length ∧ i = .int .i64 j ∧ vn = .int .i64 m ∧ (j : Int) + 1 ≤ m ∧ (nm.size / 16 : Nat) + 1 ≤ m ∧ m ≤ 8900000000000 ∧ (∀ l ∈ ls.take j, (l.2.length : Int) ≤ m) ∧ Grew W0 wr) (fun _ i _ => ls.length - (intOf i).toNat)
      case atStart => exact ⟨0, 1 + (nm.size : Int) / 16, Nat.zero_le _, rfl, rfl, by omega, by omega, by omega, by simp, Grew.refl _⟩
      case round =>
        obtain ⟨j, m, hj, rfl, rfl, hm1, hm2, hm3, hall, hg⟩ := hrel
        have HG := Hid.mk hg
        have HALL := Hid.mk hall
        clear hg hall
        obtain ⟨x0, x1, x2, x3, x4, x5, x6⟩ := cells6 ((HG.out.below.block w.heap.size (heap_lt' HX0.out)).trans HX0.out)
        by_cases hlt : j < ls.length
        · by_cases hmm : m ≤ 3000
          · obtain ⟨b, off, a1, cap1, rfl, hbl, c0, c1, hs1⟩ := (HL.out.below (HG0.out.trans HG.out).below).at hlt
            have hlen := HO3.out ls[j] (List.getElem_mem hlt)
            have HTK := Hid.mk (fun x => mem_take_succ (x := x) (List.getElem?_eq_getElem hlt))
            have zj : (j : Int) < (ls.length : Int) := by omega
            clear hs1
            generalize ls[j] = l at *
            go_wp2
            refine ⟨⟨j + 1, m + 1 + l.2.length, hlt, by go_num, rfl, by omega, by omega, by omega, fun x hx => ?_, HG.out⟩, by simp [intOf]; omega⟩
            rcases HTK.out x hx with h1 | h1
            · have := HALL.out x h1; omega
            · rw [h1]; omega
          · have HDONE : Hid (m ≤ 3000 → j = ls.length) := fun h => absurd h hmm
            obtain ⟨W1, rfl⟩ : ∃ W, W = wr := ⟨_, rfl⟩
            have HG1 : Hid (Grew w W1) := HG0.out.trans HG.out
            have HX1 : Hid (W1.heap[w.heap.size]? = some (.cells #[.int .i64 f, .int .i64 n, .bool hd, .string nm, .slice la ls.length lc, .slice ka ks.length kc] 25 (0, 0))) := (HG.out.below.block w.heap.size (heap_lt' HX0.out)).trans HX0.out
            go_wp2
            clear x0 x1 x2 x3 x4 x5 x6
            go_loopw [7, 9] (fun vn i wr => ∃ (j : Nat) (m' : Int), j ≤ ks.length ∧ i = .int .i64 j ∧ vn = .int .i64 m' ∧ m ≤ m' ∧ (j : Int) ≤ m' ∧ m' ≤ 9000000000000 + 4000 * (702 - high) ∧ (m' ≤ 3000 → ∀ k ∈ ks.take j, smT 1000000 k) ∧ Grew W1 wr) (fun _ i _ => ks.length - (intOf i).toNat)
            case atStart => exact ⟨0, m, Nat.zero_le _, rfl, rfl, by omega, by omega, by omega, by simp, Grew.refl _⟩
            case round =>
              obtain ⟨i, m', hi, rfl, rfl, hn1, hn2, hn3, hkall, hg⟩ := hrel
              have HG2 := Hid.mk hg
              have HKA := Hid.mk hkall
              clear hg hkall
              obtain ⟨x0, x1, x2, x3, x4, x5, x6⟩ := cells6 ((HG2.out.below.block w.heap.size (heap_lt' HX1.out)).trans HX1.out)
              by_cases hik : i < ks.length
              · by_cases hmm : m' ≤ 3000
                · exfalso; omega
                · go_wp2
                  go_ret
                  exact ⟨⟨m', rfl, by omega, by omega, fun h => by omega⟩, HG1.out.trans HG2.out⟩
              · go_wp2
                go_ret
                refine ⟨⟨m', rfl, by omega, by omega, fun h => HSM.out.2 ⟨?_, ?_, ?_, ?_, ?_⟩⟩, HG1.out.trans HG2.out⟩
                · omega
                · have := HDONE.out (by omega); omega
                · intro l hl
                  have h1 := HDONE.out (by omega)
                  have h2 := HALL.out l (by rw [List.take_of_length_le (by omega)]; exact hl)
                  omega
                · omega
                · have := HKA.out h
                  rwa [List.take_of_length_le (by omega)] at this
        · have HDONE : Hid (m ≤ 3000 → j = ls.length) := fun _ => by omega
          obtain ⟨W1, rfl⟩ : ∃ W, W = wr := ⟨_, rfl⟩
          have HG1 : Hid (Grew w W1) := HG0.out.trans HG.out
          have HX1 : Hid (W1.heap[w.heap.size]? = some (.cells #[.int .i64 f, .int .i64 n, .bool hd, .string nm, .slice la ls.length lc, .slice ka ks.length kc] 25 (0, 0))) := (HG.out.below.block w.heap.size (heap_lt' HX0.out)).trans HX0.out
          go_wp2
          clear x0 x1 x2 x3 x4 x5 x6
          go_loopw [7, 9] (fun vn i wr => ∃ (j : Nat) (m' : Int), j ≤ ks.length ∧ i = .int .i64 j ∧ vn = .int .i64 m' ∧ m ≤ m' ∧ (j : Int) ≤ m' ∧ m' ≤ 9000000000000 + 4000 * (702 - high) ∧ (m' ≤ 3000 → ∀ k ∈ ks.take j, smT 1000000 k) ∧ Grew W1 wr) (fun _ i _ => ks.length - (intOf i).toNat)
          case atStart => exact ⟨0, m, Nat.zero_le _, rfl, rfl, by omega, by omega, by omega, by simp, Grew.refl _⟩
          case round =>
            obtain ⟨i, m', hi, rfl, rfl, hn1, hn2, hn3, hkall, hg⟩ := hrel
            have HG2 := Hid.mk hg
            have HKA := Hid.mk hkall
            clear hg hkall
            obtain ⟨x0, x1, x2, x3, x4, x5, x6⟩ := cells6 ((HG2.out.below.block w.heap.size (heap_lt' HX1.out)).trans HX1.out)
            by_cases hik : i < ks.length
            · by_cases hmm : m' ≤ 3000
              · obtain ⟨rfl, hkb⟩ := HK.out (by intro e; rw [e] at hik; simp at hik)
                have hkt : ks[i]? = some ks[i] := List.getElem?_eq_getElem hik
                have htc := ((HKIDS.out i _ hkt).on (HG1.out.trans HG2.out).below)
                obtain ⟨v0, v1, v2, v3, v4, v5, c0, c1, c2, c3, c4, c5, hv⟩ := htc.val
                have HCALL := HIH.out ks[i] (List.getElem_mem hik) (high + 1) _ wr (by omega) (by omega) (HO5.out _ (List.getElem_mem hik)) hv
                have HTK := Hid.mk (fun x => mem_take_succ (x := x) hkt)
                have zj : (i : Int) < (ks.length : Int) := by omega
                clear hv htc hkt
                generalize ks[i] = k at *
                go_wp2_with fail
                refine HCALL.mono ?_
                rintro e w5 ⟨⟨r, rfl, hr1, hr2, hr3⟩, hg5⟩
                have HR3 := Hid.mk hr3
                clear hr3 HCALL
                go_wp2
                refine ⟨⟨i + 1, m' + r, hik, by go_num, rfl, by omega, by omega, by omega, fun h x hx => ?_, HG2.out.trans hg5⟩, by simp [intOf]; omega⟩
                rcases HTK.out x hx with h1 | h1
                · exact HKA.out (by omega) x h1
                · rw [h1]; exact HR3.out (by omega)
              · go_wp2
                go_ret
                exact ⟨⟨m', rfl, by omega, by omega, fun h => by omega⟩, HG1.out.trans HG2.out⟩
            · go_wp2
              go_ret
              refine ⟨⟨m', rfl, by omega, by omega, fun h => HSM.out.2 ⟨?_, ?_, ?_, ?_, ?_⟩⟩, HG1.out.trans HG2.out⟩
              · omega
              · have := HDONE.out (by omega); omega
              · intro l hl
                have h1 := HDONE.out (by omega)
                have h2 := HALL.out l (by rw [List.take_of_length_le (by omega)]; exact hl)
                omega
              · omega
              · have := HKA.out h
                rwa [List.take_of_length_le (by omega)] at this

theorem Big_any (t : Tm) (v : Value) (w : World) (hok : okT t) (hv : TV w v t) : Calls Try.prog 10 #[v] w fun e w' => (∃ r : Bool, e = .returned (.bool r) ∧ (r = false → smT 1000000 t)) ∧ Grew w w' := by
  have HC := lcount_any t 0 v (w.alloc (.cells v.cells 25)) (by omega) (by omega) hok (hv.on ((Below.refl _ _).alloc (Nat.le_refl _) _))
  obtain ⟨la, lc, ka, kc, rfl⟩ := hv.shape
  simp only [Value.cells] at HC
  clear hv hok
  generalize smT 1000000 t = S at *
  generalize t.form = f at *
  generalize t.n = n at *
  generalize t.hid = hd at *
  generalize t.name = nm at *
  generalize t.levels.length = l1 at *
  generalize t.kids.length = k1 at *
  go_enter Try.func10, Try.ntmps10
  go_wp2_with fail
  refine HC.mono ?_
  rintro e w1 ⟨⟨r, rfl, h1, h2, h3⟩, hg⟩
  have H3 := Hid.mk h3
  clear h3 HC
  go_wp2
  go_ret
  exact ⟨⟨decide (3000 < r), rfl, fun h => H3.out (by have := of_decide_eq_false h; omega)⟩, ((Grew.refl w).alloc _).trans hg⟩
end Go.Proofs.Ytbgkeomlfdmkeaa
