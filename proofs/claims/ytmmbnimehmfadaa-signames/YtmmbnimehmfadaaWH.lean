/- What the walks that count come to, as plain data. -/
import Derived.Test.YtmmbnimehmfadaaWF
namespace Go.Proofs.Ytmmbnimehmfadaa
open Go.RowKit Go.Sort

theorem wplus_eq {a b : Int} (h0 : 0 ≤ a + b) (h1 : a + b ≤ 1000000000000) : wplus a b = a + b := by
  unfold wplus wrap64; omega

theorem sizeT_pos (t : Tm) : 1 ≤ sizeT t := by cases t; rw [sizeT_mk]; omega

theorem cnt_list (H : Int) (f : Int) : ∀ (ks : List Tm) (i : Nat) (s r b p : Int), (∀ k ∈ ks, ∀ (s b p : Int), 0 ≤ s → s ≤ 16777216 → walkF (cntV H) wplus k s b p = if (sizeT k : Int) ≤ s ∧ p + heightT k ≤ H then .ok (s - sizeT k, (sizeT k : Int)) else .error 2) → 0 ≤ r → r + s ≤ 16777216 → 0 ≤ s →
    walkL (cntV H) wplus f ks i s r b p = if (((ks.map sizeT).sum : Nat) : Int) ≤ s ∧ (ks = [] ∨ p + 1 + ((ks.map heightT).foldl max 0 : Nat) ≤ H) then .ok (s - ((ks.map sizeT).sum : Nat), r + ((ks.map sizeT).sum : Nat)) else .error 2
  | [], i, s, r, b, p, _, h0, h1, h2 => by
    rw [walkL]; simp [h2]
  | k :: ks, i, s, r, b, p, ih, h0, h1, h2 => by
    rw [walkL, ih k (by simp) s _ _ (by omega) (by omega)]
    have hm : ((k :: ks).map heightT).foldl max 0 = max (heightT k) ((ks.map heightT).foldl max 0) := by
      simp only [List.map_cons, List.foldl_cons]
      have : ∀ (l : List Nat) (a c : Nat), l.foldl max (max a c) = max a (l.foldl max c) := by
        intro l
        induction l with
        | nil => intro a c; rfl
        | cons x l ihl => intro a c; simp only [List.foldl_cons]; rw [Nat.max_assoc, ihl]
      rw [Nat.max_comm 0, this]
    have hs : ((k :: ks).map sizeT).sum = sizeT k + (ks.map sizeT).sum := by simp
    rw [hm, hs]
    have hk := sizeT_pos k
    by_cases hc : (sizeT k : Int) ≤ s ∧ p + 1 + heightT k ≤ H
    · rw [if_pos hc]
      simp only []
      rw [cnt_list H f ks (i + 1) (s - sizeT k) (wplus r (sizeT k)) b p (fun k' hk' => ih k' (by simp [hk'])) (by rw [wplus_eq] <;> omega) (by rw [wplus_eq] <;> omega) (by omega)]
      rw [wplus_eq (by omega) (by omega)]
      by_cases hd : (((ks.map sizeT).sum : Nat) : Int) ≤ s - sizeT k ∧ (ks = [] ∨ p + 1 + ((ks.map heightT).foldl max 0 : Nat) ≤ H)
      · rw [if_pos hd, if_pos]
        · congr 1
          simp only [Prod.mk.injEq]; omega
        · refine ⟨by omega, Or.inr ?_⟩
          rcases hd.2 with rfl | h
          · simp at *; omega
          · omega
      · rw [if_neg hd, if_neg]
        intro hn
        apply hd
        refine ⟨by omega, ?_⟩
        rcases hn.2 with h | h
        · cases h
        · right; omega
    · rw [if_neg hc, if_neg]
      intro hn
      apply hc
      rcases hn.2 with h | h
      · cases h
      · omega

theorem cnt_walk (H : Int) (t : Tm) : ∀ (s b p : Int), 0 ≤ s → s ≤ 16777216 → walkF (cntV H) wplus t s b p = if (sizeT t : Int) ≤ s ∧ p + heightT t ≤ H then .ok (s - sizeT t, (sizeT t : Int)) else .error 2 := by
  refine Tm.ind (P := fun t => ∀ (s b p : Int), 0 ≤ s → s ≤ 16777216 → walkF (cntV H) wplus t s b p = if (sizeT t : Int) ≤ s ∧ p + heightT t ≤ H then .ok (s - sizeT t, (sizeT t : Int)) else .error 2) ?_ t
  intro f n hd nm ls ks ih s b p h0 h1
  rw [walkF_mk, sizeT_mk, heightT_mk]
  unfold cntV
  by_cases hc : s ≤ 0 ∨ H ≤ p
  · rw [if_pos hc, if_neg (by omega)]
  · rw [if_neg hc]
    show walkL (cntV H) wplus f ks 0 (s - 1) 1 b p = _
    rw [cnt_list H f ks 0 (s - 1) 1 b p ih (by omega) (by omega) (by omega)]
    by_cases hd : (((ks.map sizeT).sum : Nat) : Int) ≤ s - 1 ∧ (ks = [] ∨ p + 1 + ((ks.map heightT).foldl max 0 : Nat) ≤ H)
    · rw [if_pos hd, if_pos]
      · congr 1
        simp only [Prod.mk.injEq]; omega
      · refine ⟨by omega, ?_⟩
        rcases hd.2 with rfl | h
        · simp; omega
        · omega
    · rw [if_neg hd, if_neg]
      intro hn
      exact hd ⟨by omega, Or.inr (by omega)⟩

set_option maxRecDepth 100000 in
set_option maxHeartbeats 2000000 in
/-- term.count, of a term whatever it is -/
theorem count_any (M H : Int) (hM0 : 0 ≤ M) (hM : M ≤ 16777216) (hH : H ≤ 100000) (t : Tm) (v : Value) (w : World) (hv : TV w v t) : Calls Try.prog 40 #[v, .int .i64 M, .int .i64 H] w fun e w' => (∃ r c : Int, e = .returned (.tuple #[.int .i64 r, .int .i64 c]) ∧ (((sizeT t : Int) ≤ M ∧ (heightT t : Int) ≤ H) → r = sizeT t ∧ c = 0) ∧ (¬ ((sizeT t : Int) ≤ M ∧ (heightT t : Int) ≤ H) → c = 2)) ∧ RowKit.Below w.heap.size w w' := by
  have HW1 := fun W hI hB => walkI_any (w0 := w) (bs := #[.pointer (some ⟨w.heap.size + 1, 0, none⟩)]) (fun _ _ _ _ _ _ _ _ _ => trivial) (fun k hk => by omega) (fun s w' k hI hk => by subst hk; exact (Array.getElem?_eq_some_iff.1 hI.1).1) (fun s a b h => cntI_grow H _ s a b h) cf_count cf_plus (count_visits H (w.heap.size + 1) w) plus_any t M v 0 0 W trivial hI hv hB (by omega) (by omega) (by omega) (Or.inl fun s t b p h => ⟨2, by unfold cntV; rw [if_pos (by omega)]⟩)
  rw [cnt_walk H t M 0 0 hM0 hM] at HW1
  obtain ⟨la, lc, ka, kc, rfl⟩ := hv.shape
  clear hv
  generalize sizeT t = S at *
  generalize heightT t = Ht at *
  generalize t.form = f at *
  generalize t.n = n at *
  generalize t.hid = hd at *
  generalize t.name = nm at *
  generalize t.levels.length = l1 at *
  generalize t.kids.length = k1 at *
  have HG1 : Hid (Grew w ((w.alloc (.cells #[.int .i64 f, .int .i64 n, .bool hd, .string nm, .slice la l1 lc, .slice ka k1 kc] 26)).alloc (.cells #[.int .i64 M, .int .i64 H] 108))) := ((Grew.refl w).alloc _).alloc _
  have HI1 : Hid (cntI H (w.heap.size + 1) M ((w.alloc (.cells #[.int .i64 f, .int .i64 n, .bool hd, .string nm, .slice la l1 lc, .slice ka k1 kc] 26)).alloc (.cells #[.int .i64 M, .int .i64 H] 108))) := ⟨box_at1, by omega, by omega⟩
  by_cases hc : (S : Int) ≤ M ∧ (0 : Int) + Ht ≤ H
  · rw [if_pos hc] at HW1
    have HC : Hid ((S : Int) ≤ M ∧ (Ht : Int) ≤ H) := ⟨hc.1, by omega⟩
    clear hc
    go_enter Try.func40, Try.ntmps40
    go_wp2_with fail
    refine (HW1 _ HI1.out HG1.out.below).mono ?_
    rintro e w1 ⟨hk1, rfl, hI1⟩
    go_wp2
    go_ret2
    exact ⟨⟨_, _, rfl, fun _ => ⟨rfl, rfl⟩, fun h => absurd HC.out h⟩, HG1.out.below.trans (hk1.below HG1.out.below.size (fun k hk => by omega))⟩
  · rw [if_neg hc] at HW1
    have HC : Hid (¬ ((S : Int) ≤ M ∧ (Ht : Int) ≤ H)) := fun h => hc ⟨h.1, by omega⟩
    clear hc
    go_enter Try.func40, Try.ntmps40
    go_wp2_with fail
    refine (HW1 _ HI1.out HG1.out.below).mono ?_
    rintro e w1 ⟨hk1, -, r, rfl⟩
    go_wp2
    go_ret2
    exact ⟨⟨_, _, rfl, fun h => absurd h HC.out, fun _ => rfl⟩, HG1.out.below.trans (hk1.below HG1.out.below.size (fun k hk => by omega))⟩

mutual
/-- is each part right by itself and its kids' forms? -/
def formedB : Tm → Bool
  | .mk f n hd nm ls ks => judB (.mk f n hd nm ls ks) && formedBs ks
def formedBs : List Tm → Bool
  | [] => true
  | k :: ks => formedB k && formedBs ks
end
theorem formedBs_all : ∀ ks : List Tm, formedBs ks = ks.all formedB
  | [] => rfl
  | k :: ks => by rw [formedBs, formedBs_all ks, List.all_cons]

theorem formedB_mk (f n : Int) (hd : Bool) (nm : ByteArray) (ls : List LvT) (ks : List Tm) : formedB (.mk f n hd nm ls ks) = (judB (.mk f n hd nm ls ks) && ks.all formedB) := by rw [formedB, formedBs_all]

theorem jud_list (f : Int) : ∀ (ks : List Tm) (i : Nat) (r b p : Int), (∀ k ∈ ks, ∀ (b p : Int), (formedB k = true → ∃ r, walkF judV wplus k () b p = .ok ((), r)) ∧ (formedB k = false → walkF judV wplus k () b p = .error 10)) →
    (ks.all formedB = true → ∃ r', walkL judV wplus f ks i () r b p = .ok ((), r')) ∧ (ks.all formedB = false → walkL judV wplus f ks i () r b p = .error 10)
  | [], i, r, b, p, _ => ⟨fun _ => ⟨r, by rw [walkL]⟩, fun h => by simp at h⟩
  | k :: ks, i, r, b, p, ih => by
    rw [List.all_cons, walkL]
    obtain ⟨h1, h2⟩ := ih k (by simp) (deepC f b i) (p + 1)
    cases hk : formedB k
    · rw [h2 hk]; simp
    · obtain ⟨r1, e1⟩ := h1 hk
      rw [e1]
      simpa using jud_list f ks (i + 1) (wplus r r1) b p (fun k' hk' => ih k' (by simp [hk']))

theorem jud_walk (t : Tm) : ∀ (b p : Int), (formedB t = true → ∃ r, walkF judV wplus t () b p = .ok ((), r)) ∧ (formedB t = false → walkF judV wplus t () b p = .error 10) := by
  refine Tm.ind (P := fun t => ∀ (b p : Int), (formedB t = true → ∃ r, walkF judV wplus t () b p = .ok ((), r)) ∧ (formedB t = false → walkF judV wplus t () b p = .error 10)) ?_ t
  intro f n hd nm ls ks ih b p
  rw [walkF_mk, formedB_mk]
  have hV : judV () (.mk f n hd nm ls ks) b p = if judB (.mk f n hd nm ls ks) then .ok ((), 1) else .error 10 := rfl
  rw [hV]
  cases hj : judB (.mk f n hd nm ls ks)
  · simp
  · simpa using jud_list f ks 0 1 b p ih

/-- what Check answers -/
def checkT (t : Tm) : Int := if sizeT t ≤ 20000 ∧ heightT t ≤ 500 then (if formedB t then 0 else 10) else 2

set_option maxRecDepth 100000 in
set_option maxHeartbeats 2000000 in
theorem Check_any (t : Tm) (v : Value) (w : World) (hv : TV w v t) (hsm : smT 1000000 t) : Calls Try.prog 35 #[v] w fun e w' => e = .returned (.int .i64 (checkT t)) ∧ RowKit.Below w.heap.size w w' := by
  have HC : Hid (checkT t = if sizeT t ≤ 20000 ∧ heightT t ≤ 500 then (if formedB t then 0 else 10) else 2) := rfl
  have HW1 := count_any 20000 500 (by omega) (by omega) (by omega) t v (w.alloc (.cells v.cells 26)) (hv.on ((Below.refl _ _).alloc (Nat.le_refl _) _))
  have HW2 := fun W hB hh => walkI_any (w0 := w) (bs := #[]) (G := smT 1000000) (smT_kid 1000000) (fun k hk => hk.elim) (fun s w' k hI hk => hk.elim) (fun s a b h _ => trivial) cf_judged cf_plus (judged_visits w) plus_any t () v 0 0 W hsm trivial hv hB (by omega) (by omega) (by omega) (Or.inr hh)
  have HJ := Hid.mk (jud_walk t 0 0)
  generalize walkF judV wplus t () 0 0 = J at HW2 HJ
  generalize checkT t = R at HC ⊢
  obtain ⟨la, lc, ka, kc, rfl⟩ := hv.shape
  clear hv hsm
  simp only [Value.cells] at HW1
  generalize formedB t = F at *
  generalize sizeT t = S at *
  generalize heightT t = H at *
  generalize t.form = f at *
  generalize t.n = n at *
  generalize t.hid = hd at *
  generalize t.name = nm at *
  generalize t.levels.length = l1 at *
  generalize t.kids.length = k1 at *
  by_cases hc : (S : Int) ≤ 20000 ∧ (H : Int) ≤ 500
  · have HC2 : Hid (R = if F then 0 else 10) := by unfold Hid; rw [HC.out, if_pos (by omega)]
    have hh : (0 : Int) + H ≤ 100000 := by omega
    have HCC := Hid.mk hc
    clear HC hc
    go_enter Try.func35, Try.ntmps35
    go_wp2_with fail
    refine HW1.mono ?_
    rintro e w1 ⟨⟨r1, c1, rfl, hq, -⟩, hb1⟩
    obtain ⟨-, rfl⟩ := hq HCC.out
    have HB1 : Hid (RowKit.Below w.heap.size w w1) := ((Below.refl w.heap.size w).alloc (Nat.le_refl _) _).trans (hb1.mono (by simp))
    obtain ⟨x0, x1, x2, x3, x4, x5, x6⟩ := cells6 ((hb1.block w.heap.size (by simp)).trans (alloc_new _ _))
    clear hb1 HW1 hq
    go_wp2_with fail
    have HW3 := HW2 w1 HB1.out hh
    cases F
    · have hJ : J = .error 10 := HJ.out.2 rfl
      rw [hJ] at HW3
      refine HW3.mono ?_
      rintro e w2 ⟨hk2, hc2, r, rfl⟩
      go_wp2
      go_ret
      exact ⟨by rw [HC2.out]; rfl, HB1.out.trans (hk2.below HB1.out.size (fun k hk => hk.elim))⟩
    · obtain ⟨r, hJ⟩ := HJ.out.1 rfl
      rw [hJ] at HW3
      refine HW3.mono ?_
      rintro e w2 ⟨hk2, rfl, -⟩
      go_wp2
      go_ret
      exact ⟨by rw [HC2.out]; rfl, HB1.out.trans (hk2.below HB1.out.size (fun k hk => hk.elim))⟩
  · have HC2 : Hid (R = 2) := by unfold Hid; rw [HC.out, if_neg (by omega)]
    have HCC := Hid.mk hc
    clear HC hc
    go_enter Try.func35, Try.ntmps35
    go_wp2_with fail
    refine HW1.mono ?_
    rintro e w1 ⟨⟨r1, c1, rfl, -, hq⟩, hb1⟩
    obtain rfl := hq HCC.out
    clear hq
    go_wp2
    go_ret
    exact ⟨by rw [HC2.out]; rfl, ((Below.refl w.heap.size w).alloc (Nat.le_refl _) _).trans (hb1.mono (by simp))⟩
end Go.Proofs.Ytmmbnimehmfadaa

/- The contracts of term.Size, Free, Has. -/
namespace Go.Proofs.Ytmmbnimehmfadaa
open Go.RowKit Go.Sort

theorem check_ok {t : Tm} (h : checkT t = 0) : sizeT t ≤ 20000 ∧ heightT t ≤ 500 ∧ formedB t = true := by
  unfold checkT at h
  split at h
  · rename_i hc
    split at h
    · rename_i hf; exact ⟨hc.1, hc.2, hf⟩
    · cases h
  · cases h

end Go.Proofs.Ytmmbnimehmfadaa
