/- The contracts of the reference's Check, Size, Free, Has. -/
import Derived.Test.YthdcpodheimhaaaRT
import Derived.Test.YthdcpodheimhaaaCC
namespace Go.Proofs.Ythdcpodheimhaaa
open Go.RowKit Go.Sort

set_option maxRecDepth 100000 in
set_option maxHeartbeats 2000000 in
theorem rCheck_any (t : Tm) (v : Value) (w : World) (hv : TV w v t) (hsm : smT 1000000 t) : Calls Try.prog 9 #[v] w fun e w' => e = .returned (.int .i64 (checkT t)) ∧ RowKit.Below w.heap.size w w' := by
  have HC : Hid (checkT t = if sizeT t ≤ 20000 ∧ heightT t ≤ 500 then (if formedB t then 0 else 10) else 2) := rfl
  have HP := fun (W : World) (h : RowKit.Below w.heap.size w W) => parts_any t 20000 500 v W (by decide) (by decide) (hv.on h)
  have HF := fun (W : World) (h : RowKit.Below w.heap.size w W) => formed_any t v W hsm (hv.on h)
  have HPR : Hid (partsR t 20000 500 = if (sizeT t : Int) ≤ 20000 ∧ (heightT t : Int) ≤ 500 then ((sizeT t : Int), (heightT t : Int)) else (1073741824, 1073741824)) := rfl
  generalize partsR t 20000 500 = P at HP HPR
  generalize checkT t = R at HC ⊢
  obtain ⟨la, lc, ka, kc, rfl⟩ := hv.shape
  clear hv hsm
  generalize formedB t = F at *
  generalize sizeT t = S at *
  generalize heightT t = H at *
  generalize t.form = f at *
  generalize t.n = n at *
  generalize t.hid = hd at *
  generalize t.name = nm at *
  generalize t.levels.length = l1 at *
  generalize t.kids.length = k1 at *
  have HG := fun (a : Obj) => (Below.refl w.heap.size w).alloc (Nat.le_refl _) a
  by_cases hc : S ≤ 20000 ∧ H ≤ 500
  · have hP : P = ((S : Int), (H : Int)) := by rw [HPR.out, if_pos (by omega)]
    subst hP
    have HC2 : Hid (R = if F then 0 else 10) := by unfold Hid; rw [HC.out, if_pos hc]
    obtain ⟨hc1, hc2⟩ := hc
    have g1 : ¬ (S : Int) > 20000 := by omega
    have g2 : ¬ (H : Int) > 500 := by omega
    clear HC HPR
    go_enter Try.func9, Try.ntmps9
    go_wp2_with fail
    refine (HP _ (HG _)).mono ?_
    rintro e w1 ⟨rfl, hg1⟩
    have hb1 := hg1.below
    obtain ⟨x0, x1, x2, x3, x4, x5, x6⟩ := cells6 ((hb1.block w.heap.size (by simp)).trans (alloc_new _ _))
    have HB1 : Hid (RowKit.Below w.heap.size w w1) := (HG _).trans (hb1.mono (by simp))
    clear hg1 hb1
    go_wp2_with fail
    refine (HF _ HB1.out).mono ?_
    rintro e w2 ⟨rfl, hb2⟩
    cases F
    all_goals
      go_wp2
      go_ret
      exact ⟨by rw [HC2.out]; rfl, HB1.out.trans (hb2.mono HB1.out.size)⟩
  · have hP : P = (1073741824, 1073741824) := by rw [HPR.out, if_neg (by omega)]
    subst hP
    have HC2 : Hid (R = 2) := by unfold Hid; rw [HC.out, if_neg hc]
    clear HC HPR hc
    go_enter Try.func9, Try.ntmps9
    go_wp2_with fail
    refine (HP _ (HG _)).mono ?_
    rintro e w1 ⟨rfl, hg1⟩
    go_wp2
    go_ret
    exact ⟨by rw [HC2.out]; rfl, (HG _).trans (hg1.below.mono (by simp))⟩

end Go.Proofs.Ythdcpodheimhaaa

/- The contracts of term.Free and Has, and of the reference's. -/
namespace Go.Proofs.Ythdcpodheimhaaa
open Go.RowKit Go.Sort

theorem formed_vars (t : Tm) : formedB t = true → varsB t = true := by
  refine Tm.ind (P := fun t => formedB t = true → varsB t = true) ?_ t
  intro f n hd nm ls ks ih h
  have h2 := (formed_len h).2
  rw [varsB_mk, Bool.and_eq_true, List.all_eq_true]
  refine ⟨?_, fun k hk => ih k hk (h2 k hk)⟩
  by_cases hf : f = 1
  · subst hf
    rw [formedB_mk, Bool.and_eq_true] at h
    have h1 := h.1
    unfold judB at h1
    rw [Bool.and_eq_true] at h1
    have h3 := h1.2
    simp [fieldsB] at h3
    simp; omega
  · simp [hf]

theorem freeK_snoc (f deep : Int) (pre : List Tm) (k : Tm) : freeK f deep (pre ++ [k]) = max (freeK f deep pre) (freeR k (deepR f deep pre.length)) := by
  have := freeK_take (f := f) (deep := deep) (ks := pre ++ [k]) (j := pre.length) (k := k) (by simp)
  rw [List.take_of_length_le (by simp), List.take_left'  (by simp)] at this
  exact this

theorem deep_same {f : Int} {ks : List Tm} (hl : (ks.length : Int) = kidsR f) (b : Int) {i : Nat} (hi : i < ks.length) : deepC f b i = deepR f b i := by
  unfold deepC deepR
  by_cases hb : bindsB f = true
  · have h2 : i = 0 ∨ i = 1 := by
      unfold bindsB at hb
      simp at hb
      unfold kidsR at hl
      rw [if_neg (by omega), if_neg (by omega), if_pos (by omega)] at hl
      omega
    rcases h2 with rfl | rfl
    · simp
    · simp
  · simp [hb]

theorem abo_list (f b p : Int) : ∀ (ks pre : List Tm), (∀ (i : Nat) (k : Tm), ks[i]? = some k → deepC f b (pre.length + i) = deepR f b (pre.length + i)) → (∀ k ∈ ks, ∀ (c q : Int), 0 ≤ c → c + heightT k ≤ b + 1 + (ks.map heightT).foldl max 0 → walkF aboV max k () c q = .ok ((), freeR k c)) → 0 ≤ b → walkL aboV max f ks pre.length () (freeK f b pre) b p = .ok ((), freeK f b (pre ++ ks))
  | [], pre, _, _, _ => by rw [walkL]; simp
  | k :: ks, pre, hd, ih, hb => by
    have hm : ((k :: ks).map heightT).foldl max 0 = max (heightT k) ((ks.map heightT).foldl max 0) := by
      simp only [List.map_cons, List.foldl_cons]
      have : ∀ (l : List Nat) (a c : Nat), l.foldl max (max a c) = max a (l.foldl max c) := by
        intro l
        induction l with
        | nil => intro a c; rfl
        | cons x l ihl => intro a c; simp only [List.foldl_cons]; rw [Nat.max_assoc, ihl]
      rw [Nat.max_comm 0, this]
    rw [hm] at ih
    have e0 := hd 0 k (by simp)
    rw [Nat.add_zero] at e0
    have hdc : 0 ≤ deepR f b pre.length ∧ deepR f b pre.length ≤ b + 1 := by unfold deepR; split <;> omega
    rw [walkL, e0, ih k (by simp) _ _ hdc.1 (by omega)]
    simp only []
    rw [← freeK_snoc]
    have := abo_list f b p ks (pre ++ [k]) (fun i k' hk' => by
      have := hd (i + 1) k' (by simpa using hk')
      rw [List.length_append, List.length_singleton, show pre.length + 1 + i = pre.length + (i + 1) by omega]; exact this) (fun k' hk' c q h1 h2 => ih k' (by simp [hk']) c q h1 (by omega)) hb
    rw [List.length_append, List.length_singleton] at this
    rw [this, List.append_assoc]; rfl

theorem abo_walk (t : Tm) : formedB t = true → ∀ (b p : Int), 0 ≤ b → b + heightT t ≤ 1000000 → walkF aboV max t () b p = .ok ((), freeR t b) := by
  refine Tm.ind (P := fun t => formedB t = true → ∀ (b p : Int), 0 ≤ b → b + heightT t ≤ 1000000 → walkF aboV max t () b p = .ok ((), freeR t b)) ?_ t
  intro f n hd nm ls ks ih hf b p hb hh
  obtain ⟨h1, h2⟩ := formed_len hf
  have hv := formed_vars _ hf
  rw [walkF_mk, freeR_mk]
  rw [heightT_mk] at hh
  by_cases h0 : f = 1
  · subst h0
    have hk : ks = [] := List.length_eq_zero_iff.1 (by unfold kidsR at h1; rw [if_pos (by omega)] at h1; omega)
    subst hk
    rw [varsB_mk] at hv
    simp at hv
    have hV : aboV () (.mk 1 n hd nm ls []) b p = .ok ((), if n < b then 0 else n - b + 1) := by
      unfold aboV
      simp only [Tm.form, Tm.n, if_true]
      congr 2
      unfold wrap64
      split <;> omega
    rw [hV, if_pos rfl]
    simp only [walkL]
  · have hV : aboV () (.mk f n hd nm ls ks) b p = .ok ((), 0) := by
      unfold aboV; simp [Tm.form, h0]
    rw [hV, if_neg h0]
    have := abo_list f b p ks [] (fun i k hk => deep_same h1 b (by have := (List.getElem?_eq_some_iff.1 hk).1; simpa using this)) (fun k hk c q hc hl => ih k hk (h2 k hk) c q hc (by omega)) hb
    have e0 : freeK f b [] = 0 := by simp [freeK]
    rw [e0] at this
    simpa using this

mutual
/-- how many constants of that name -/
def hasN (name : ByteArray) : Tm → Nat
  | .mk f _ _ nm _ ks => (if f = 10 ∧ nm.toList = name.toList then 1 else 0) + hasNs name ks
def hasNs (name : ByteArray) : List Tm → Nat
  | [] => 0
  | k :: ks => hasN name k + hasNs name ks
end

theorem hasNs_any (name : ByteArray) : ∀ ks : List Tm, (∀ k ∈ ks, (hasB name k = true ↔ 0 < hasN name k)) → (ks.any (hasB name) = true ↔ 0 < hasNs name ks)
  | [], _ => by simp [hasNs]
  | k :: ks, h => by
    rw [hasNs, List.any_cons, Bool.or_eq_true, h k (by simp), hasNs_any name ks (fun k' hk' => h k' (by simp [hk']))]
    omega

theorem hasN_iff (name : ByteArray) (t : Tm) : hasB name t = true ↔ 0 < hasN name t := by
  refine Tm.ind (P := fun t => hasB name t = true ↔ 0 < hasN name t) ?_ t
  intro f n hd nm ls ks ih
  rw [hasB_mk, hasN, Bool.or_eq_true, hasNs_any name ks ih, Bool.and_eq_true]
  by_cases h : f = 10 ∧ nm.toList = name.toList
  · rw [if_pos h]; simp [h.1, h.2]; omega
  · rw [if_neg h]
    constructor
    · rintro (⟨h1, h2⟩ | h3)
      · exact absurd ⟨by simpa using h1, by simpa using h2⟩ h
      · omega
    · intro h3; exact Or.inr (by omega)

theorem sea_list (name : ByteArray) (f b p : Int) : ∀ (ks : List Tm) (i : Nat) (r : Int), (∀ k ∈ ks, ∀ (b p : Int), hasN name k ≤ sizeT k ∧ (sizeT k ≤ 1000000 → walkF (seaV name) wplus k () b p = .ok ((), (hasN name k : Int)))) → 0 ≤ r → r + (ks.map sizeT).sum ≤ 1000000 → walkL (seaV name) wplus f ks i () r b p = .ok ((), r + hasNs name ks) ∧ hasNs name ks ≤ (ks.map sizeT).sum
  | [], i, r, _, _, _ => by rw [walkL, hasNs]; simp
  | k :: ks, i, r, ih, h0, h1 => by
    have hs : ((k :: ks).map sizeT).sum = sizeT k + (ks.map sizeT).sum := by simp
    rw [hs] at h1 ⊢
    obtain ⟨e1, e2⟩ := ih k (by simp) (deepC f b i) (p + 1)
    rw [walkL, e2 (by omega), hasNs]
    simp only []
    obtain ⟨e3, e4⟩ := sea_list name f b p ks (i + 1) (wplus r (hasN name k)) (fun k' hk' => ih k' (by simp [hk'])) (by rw [wplus_eq] <;> omega) (by rw [wplus_eq] <;> omega)
    rw [e3, wplus_eq (by omega) (by omega)]
    refine ⟨?_, by omega⟩
    congr 2
    omega

theorem sea_walk (name : ByteArray) (t : Tm) : ∀ (b p : Int), hasN name t ≤ sizeT t ∧ (sizeT t ≤ 1000000 → walkF (seaV name) wplus t () b p = .ok ((), (hasN name t : Int))) := by
  refine Tm.ind (P := fun t => ∀ (b p : Int), hasN name t ≤ sizeT t ∧ (sizeT t ≤ 1000000 → walkF (seaV name) wplus t () b p = .ok ((), (hasN name t : Int)))) ?_ t
  intro f n hd nm ls ks ih b p
  rw [walkF_mk, sizeT_mk, hasN]
  have hle : hasNs name ks ≤ (ks.map sizeT).sum := by
    clear hd n ls nm
    induction ks with
    | nil => simp [hasNs]
    | cons k ks ihk =>
      rw [hasNs]
      have h1 := (ih k (by simp) 0 0).1
      have h2 := ihk (fun k' hk' => ih k' (by simp [hk']))
      simp only [List.map_cons, List.sum_cons]
      omega
  refine ⟨by split <;> omega, fun hz => ?_⟩
  have hV : seaV name () (.mk f n hd nm ls ks) b p = .ok ((), if f = 10 ∧ nm.toList = name.toList then 1 else 0) := rfl
  rw [hV]
  simp only []
  rw [(sea_list name f b p ks 0 _ ih (by split <;> omega) (by split <;> omega)).1]
  congr 2
  split <;> omega

/-- what Free answers -/
def tfreeR (t : Tm) : Int := if checkT t = 0 then freeR t 0 else 0
/-- what Has answers -/
def thasB (t : Tm) (name : ByteArray) : Bool := decide (checkT t = 0) && hasB name t

end Go.Proofs.Ythdcpodheimhaaa
